import Derived.Test.YtnakkmmmkbjfbaaMg01
import Derived.Test.YtnakkmmmkbjfbaaMg03
import Derived.Test.YtnakkmmmkbjfbaaMg32
import Derived.Test.YtnakkmmmkbjfbaaMg14
import Derived.Test.YtnakkmmmkbjfbaaMg10

/-
  THE WALKS OF EXACT LAWS, the given frame left out: for all numbers the law returns true and writes nothing that was there. (Printed by lawgen.py.)
-/
namespace Go.Proofs.Ytnakkmmmkbjfbaa
open Go.RowKit Go.Deep

set_option maxRecDepth 100000 in
set_option maxHeartbeats 2000000 in
theorem lawFewestToBecome (A_xs : Option Addr) (n_xs c_xs : Nat) (xs : List Int) (A_ys : Option Addr) (n_ys c_ys : Nat) (ys : List Int) (w : World) (hr_xs : Ints w w.heap.size A_xs n_xs xs) (hr_ys : Ints w w.heap.size A_ys n_ys ys) :
    Calls Try.prog 6 #[.slice A_xs n_xs c_xs, .slice A_ys n_ys c_ys] w fun e w' => e = .returned (.bool true) ∧ Below w.heap.size w w' := by
  obtain rfl := hr_xs.len
  obtain rfl := hr_ys.len
  by_cases hbig_xs : 1048576 < xs.length
  · go_enter Try.func6, Try.ntmps6
    go_wp2_with fail
    go_ret
    exact ⟨rfl, Below.refl _ _⟩
  by_cases hbig_ys : 1048576 < ys.length
  · go_enter Try.func6, Try.ntmps6
    go_wp2_with fail
    go_ret
    exact ⟨rfl, Below.refl _ _⟩
  have hcap_xs : xs.length ≤ 17592186044416 := by omega
  have hlow_xs : xs.length ≤ 1048576 := by omega
  have hcap_ys : ys.length ≤ 17592186044416 := by omega
  have hlow_ys : ys.length ≤ 1048576 := by omega
  have HS := hide (fun A_xs c_xs A_ys c_ys w (h_xs : Ints w w.heap.size A_xs xs.length xs) (h_ys : Ints w w.heap.size A_ys ys.length ys) => specFewestToBecome_any A_xs xs.length c_xs xs A_ys ys.length c_ys ys w h_xs h_ys hcap_xs hcap_ys)
  have HI := hide (fun A_xs c_xs A_ys c_ys w (h_xs : Ints w w.heap.size A_xs xs.length xs) (h_ys : Ints w w.heap.size A_ys ys.length ys) => FewestToBecome_any A_xs xs.length c_xs xs A_ys ys.length c_ys ys w h_xs h_ys hcap_xs hcap_ys)
  go_enter Try.func6, Try.ntmps6
  go_wp2_with fail
  refine (toIntS_any _ _ _ _ _ (hr_xs.more (by omega)) hcap_xs).mono ?_
  rintro e w1 ⟨ga_xs, ha1, hz1, rfl, hrow1, hb1⟩
  have q1 := hb1
  have s1 := hb1.size
  have t1 := q1.size
  have r_xs_1 := hr_xs.below hb1 (by omega)
  have r_ys_1 := hr_ys.below hb1 (by omega)
  have Xa_xs_1 := Own.of_row hrow1 ha1 (by unfold maxLen; omega)
  go_wp2_with fail
  refine (toIntS_any _ _ _ _ _ (r_ys_1.more (by omega)) hcap_ys).mono ?_
  rintro e w2 ⟨ga_ys, ha2, hz2, rfl, hrow2, hb2⟩
  have q2 := below_next q1 hb2
  have s2 := hb2.size
  have t2 := q2.size
  have r_xs_2 := r_xs_1.below hb2 (by omega)
  have r_ys_2 := r_ys_1.below hb2 (by omega)
  have Xa_xs_2 := Xa_xs_1.below hb2
  clear q1 r_xs_1 r_ys_1 Xa_xs_1
  have Xa_ys_2 := Own.of_row hrow2 ha2 (by unfold maxLen; omega)
  go_wp2_with fail
  refine (HS.out _ _ _ _ _ Xa_xs_2.ints Xa_ys_2.ints).mono ?_
  rintro e w3 ⟨rfl, hb3⟩
  have q3 := below_next q2 hb3
  have s3 := hb3.size
  have t3 := q3.size
  have r_xs_3 := r_xs_2.below hb3 (by omega)
  have r_ys_3 := r_ys_2.below hb3 (by omega)
  have Xa_xs_3 := Xa_xs_2.below hb3
  have Xa_ys_3 := Xa_ys_2.below hb3
  clear q2 r_xs_2 r_ys_2 Xa_xs_2 Xa_ys_2
  clear Xa_xs_3 Xa_ys_3
  go_wp2_with fail
  refine (toIntS_any _ _ _ _ _ (r_xs_3.more (by omega)) hcap_xs).mono ?_
  rintro e w4 ⟨gb_xs, ha4, hz4, rfl, hrow4, hb4⟩
  have q4 := below_next q3 hb4
  have s4 := hb4.size
  have t4 := q4.size
  have r_xs_4 := r_xs_3.below hb4 (by omega)
  have r_ys_4 := r_ys_3.below hb4 (by omega)
  clear q3 r_xs_3 r_ys_3
  have Xb_xs_4 := Own.of_row hrow4 ha4 (by unfold maxLen; omega)
  go_wp2_with fail
  refine (toIntS_any _ _ _ _ _ (r_ys_4.more (by omega)) hcap_ys).mono ?_
  rintro e w5 ⟨gb_ys, ha5, hz5, rfl, hrow5, hb5⟩
  have q5 := below_next q4 hb5
  have s5 := hb5.size
  have t5 := q5.size
  have r_xs_5 := r_xs_4.below hb5 (by omega)
  have r_ys_5 := r_ys_4.below hb5 (by omega)
  have Xb_xs_5 := Xb_xs_4.below hb5
  clear q4 r_xs_4 r_ys_4 Xb_xs_4
  have Xb_ys_5 := Own.of_row hrow5 ha5 (by unfold maxLen; omega)
  go_wp2_with fail
  refine (HI.out _ _ _ _ _ Xb_xs_5.ints Xb_ys_5.ints).mono ?_
  rintro e w6 ⟨rfl, hb6⟩
  have q6 := below_next q5 hb6
  have s6 := hb6.size
  have t6 := q6.size
  have r_xs_6 := r_xs_5.below hb6 (by omega)
  have r_ys_6 := r_ys_5.below hb6 (by omega)
  have Xb_xs_6 := Xb_xs_5.below hb6
  have Xb_ys_6 := Xb_ys_5.below hb6
  clear q5 r_xs_5 r_ys_5 Xb_xs_5 Xb_ys_5
  go_wp2_with fail
  refine (toIntS_any _ _ _ _ _ (r_xs_6.more (by omega)) hcap_xs).mono ?_
  rintro e w7 ⟨gc_xs, _, hz7, rfl, hrow7, hb7⟩
  have q7 := below_next q6 hb7
  have s7 := hb7.size
  have t7 := q7.size
  have r_xs_7 := r_xs_6.below hb7 (by omega)
  have r_ys_7 := r_ys_6.below hb7 (by omega)
  have Xb_xs_7 := Xb_xs_6.below hb7
  have Xb_ys_7 := Xb_ys_6.below hb7
  clear q6 r_xs_6 r_ys_6 Xb_xs_6 Xb_ys_6
  go_wp2_with fail
  refine (eqIntS_same _ _ _ _ _ _ _ _ _ Xb_xs_7.ints (hrow7.ints hz7) (Nat.le_refl _) (Nat.le_refl _) hcap_xs).mono ?_
  rintro e w8 ⟨rfl, hb8⟩
  have q8 := below_next q7 hb8
  have s8 := hb8.size
  have t8 := q8.size
  have r_xs_8 := r_xs_7.below hb8 (by omega)
  have r_ys_8 := r_ys_7.below hb8 (by omega)
  have Xb_xs_8 := Xb_xs_7.below hb8
  have Xb_ys_8 := Xb_ys_7.below hb8
  clear q7 r_xs_7 r_ys_7 Xb_xs_7 Xb_ys_7
  go_wp2_with fail
  refine (toIntS_any _ _ _ _ _ (r_ys_8.more (by omega)) hcap_ys).mono ?_
  rintro e w9 ⟨gc_ys, _, hz9, rfl, hrow9, hb9⟩
  have q9 := below_next q8 hb9
  have s9 := hb9.size
  have t9 := q9.size
  have r_xs_9 := r_xs_8.below hb9 (by omega)
  have r_ys_9 := r_ys_8.below hb9 (by omega)
  have Xb_xs_9 := Xb_xs_8.below hb9
  have Xb_ys_9 := Xb_ys_8.below hb9
  clear q8 r_xs_8 r_ys_8 Xb_xs_8 Xb_ys_8
  go_wp2_with fail
  refine (eqIntS_same _ _ _ _ _ _ _ _ _ Xb_ys_9.ints (hrow9.ints hz9) (Nat.le_refl _) (Nat.le_refl _) hcap_ys).mono ?_
  rintro e w10 ⟨rfl, hb10⟩
  have q10 := below_next q9 hb10
  have s10 := hb10.size
  have t10 := q10.size
  have r_xs_10 := r_xs_9.below hb10 (by omega)
  have r_ys_10 := r_ys_9.below hb10 (by omega)
  have Xb_xs_10 := Xb_xs_9.below hb10
  have Xb_ys_10 := Xb_ys_9.below hb10
  clear q9 r_xs_9 r_ys_9 Xb_xs_9 Xb_ys_9
  go_wp2_with fail
  go_ret
  exact ⟨rfl, q10⟩
end Go.Proofs.Ytnakkmmmkbjfbaa

/-
  THE WALKS OF EXACT LAWS OVER ONE LIST WHOSE RESULT IS A LIST OF STRUCTS, the given frame left out: for all numbers the law returns true and writes nothing that was there.
-/
namespace Go.Proofs.Ytnakkmmmkbjfbaa
open Go.RowKit Go.Deep
set_option linter.unusedVariables false

set_option maxRecDepth 100000 in
theorem lawFirstToEmpty (A : Option Addr) (n c : Nat) (zs : List Int) (w : World) (hr : Ints w w.heap.size A n zs) :
    Calls Try.prog 4 #[.slice A n c] w fun e w' => e = .returned (.bool true) ∧ Below w.heap.size w w' := by
  obtain rfl := hr.len
  by_cases hbig : 1048576 < zs.length
  · go_enter Try.func4, Try.ntmps4
    go_wp2_with fail
    go_ret
    exact ⟨rfl, Below.refl _ _⟩
  · have hcap : zs.length ≤ 17592186044416 := by omega
    have hF : (ftL zs).length ≤ 100000 := ftL_len zs
    generalize hfs : ftL zs = fs at *
    have Hfs := hide hfs
    clear hfs
    generalize hbs : fteOk zs = bs at *
    have Hbs := hide hbs
    clear hbs
    go_enter Try.func4, Try.ntmps4
    -- the model's answer
    go_wp2_with fail
    refine (toIntS_any _ _ _ _ _ hr hcap).mono ?_
    rintro e w1 ⟨g1, _, hz1, rfl, hrow1, hb1⟩
    have hr1 := hr.below hb1 (Nat.le_refl _)
    have s1 := hb1.size
    go_wp2_with fail
    refine (specFirstToEmpty_any _ _ _ _ _ (hrow1.ints hz1) (by omega)).mono ?_
    rw [Hfs.out, Hbs.out]
    rintro e w2 ⟨Aw, cw, rfl, hownw, hb2⟩
    have hr2 := hr1.below hb2 s1
    have hW2 := hownw.list
    have s2 := hb2.size
    -- the program's
    go_wp2_with fail
    refine (toIntS_any _ _ _ _ _ (hr2.more (by omega)) hcap).mono ?_
    rintro e w3 ⟨g2, ha2, hz2, rfl, hrow2, hb3⟩
    have hr3 := hr2.below hb3 (by omega)
    have hW3 := hW2.below hb3 (Nat.le_refl _)
    have hX3 := Own.of_row hrow2 ha2 (by unfold maxLen; omega)
    have s3 := hb3.size
    go_wp2_with fail
    refine (FirstToEmpty_any _ _ _ _ _ (hrow2.ints hz2) (by omega)).mono ?_
    rw [Hfs.out, Hbs.out]
    rintro e w4 ⟨Ag, cg, rfl, hG4, hb4⟩
    have hr4 := hr3.below hb4 (by omega)
    have hW4 := hW3.below hb4 s3
    have hX4 := hX3.below hb4
    have s4 := hb4.size
    -- they are the same, and the argument's copy is as it was
    go_wp2_with fail
    refine (eqDoublingS_same _ _ _ _ _ _ _ _ _ hG4.list hW4 (Nat.le_refl _) (by omega) (by omega)).mono ?_
    rintro e w5 ⟨rfl, hb5⟩
    have hr5 := hr4.below hb5 (by omega)
    have hW5 := hW4.below hb5 (by omega)
    have hX5 := hX4.below hb5
    have hG5 := hG4.below hb5
    have s5 := hb5.size
    go_wp2_with fail
    refine (toIntS_any _ _ _ _ _ (hr5.more (by omega)) hcap).mono ?_
    rintro e w6 ⟨g3, _, hz3, rfl, hrow3, hb6⟩
    have hr6 := hr5.below hb6 (by omega)
    have hW6 := hW5.below hb6 (by omega)
    have hX6 := hX5.below hb6
    have hG6 := hG5.below hb6
    have s6 := hb6.size
    go_wp2_with fail
    refine (eqIntS_same _ _ _ _ _ _ _ _ _ hX6.ints (hrow3.ints hz3) (Nat.le_refl _) (Nat.le_refl _) (by omega)).mono ?_
    rintro e w7 ⟨rfl, hb7⟩
    have hr7 := hr6.below hb7 (by omega)
    have hW7 := hW6.below hb7 (by omega)
    have hX7 := hX6.below hb7
    have hG7 := hG6.below hb7
    have s7 := hb7.size
    -- the argument's copy is marked: the answer stays
    go_wp2_with fail
    refine (markIntS_any _ _ _ _ _ _ _ hX7 rfl (by omega) (by omega) (by omega)).mono ?_
    rintro e w8 ⟨rfl, _, hb8, hoth8⟩
    have hr8 := hr7.below hb8 (by omega)
    have hW8 := hW7.below hb8 (Nat.le_refl _)
    have hG8 : OwnIDb w8 w3.heap.size (.slice Ag fs.length cg) fs.length (numsDb fs) := hG7.keep fun h hh hl => hoth8 h hl (fun ad hA e => by injection hA with hA; subst hA; simp at e; omega)
    have s8 := hb8.size
    clear hoth8 hX3 hX4 hX5 hX6 hX7
    go_wp2_with fail
    refine (eqDoublingS_same _ _ _ _ _ _ _ _ _ hG8.list hW8 (Nat.le_refl _) (by omega) (by omega)).mono ?_
    rintro e w9 ⟨rfl, hb9⟩
    have hr9 := hr8.below hb9 (by omega)
    have hW9 := hW8.below hb9 (by omega)
    have hG9 := hG8.below hb9
    have s9 := hb9.size
    -- the answer is marked, and bears its marks
    go_wp2_with fail
    refine (markDoublingS_any _ _ _ _ _ _ _ hG9 (by omega) (by omega) (by omega)).mono ?_
    rintro e w10 ⟨rfl, hG10, hb10, _⟩
    have hr10 := hr9.below hb10 (by omega)
    have hW10 := hW9.below hb10 (by omega)
    have s10 := hb10.size
    go_wp2_with fail
    refine (heldDoublingS_any _ _ _ _ _ _ hG10 (by omega) (by omega) (by omega)).mono ?_
    rintro e wh ⟨rfl, hbh⟩
    have hr10 := hr10.below hbh (by omega)
    have hW10 := hW10.below hbh (by omega)
    have hG10 := hG10.below hbh
    have sh := hbh.size
    -- another call answers the same and leaves the marks alone
    go_wp2_with fail
    refine (toIntS_any _ _ _ _ _ (hr10.more (by omega)) hcap).mono ?_
    rintro e w11 ⟨g4, ha4, hz4, rfl, hrow4, hb11⟩
    have hW11 := hW10.below hb11 (by omega)
    have hG11 := hG10.below hb11
    have s11 := hb11.size
    go_wp2_with fail
    refine (FirstToEmpty_any _ _ _ _ _ (hrow4.ints hz4) (by omega)).mono ?_
    rw [Hfs.out, Hbs.out]
    rintro e w12 ⟨Ah, ch, rfl, hH12, hb12⟩
    have hW12 := hW11.below hb12 (by omega)
    have hG12 := hG11.below hb12
    have s12 := hb12.size
    go_wp2_with fail
    refine (eqDoublingS_same _ _ _ _ _ _ _ _ _ hH12.list hW12 (Nat.le_refl _) (by omega) (by omega)).mono ?_
    rintro e w13 ⟨rfl, hb13⟩
    have hG13 := hG12.below hb13
    go_wp2_with fail
    refine (heldDoublingS_any _ _ _ _ _ _ hG13 (by omega) (by omega) (by omega)).mono ?_
    rintro e wi ⟨rfl, hbi⟩
    go_wp2_with fail
    go_ret
    refine ⟨rfl, ?_⟩
    have q4 := below_next (below_next (below_next hb1 hb2) hb3) hb4
    have q7 := below_next (below_next (below_next q4 hb5) hb6) hb7
    have q9 := below_next (q7.trans (hb8.mono (by omega))) hb9
    exact below_next (below_next (below_next (below_next (below_next (q9.trans (hb10.mono (by omega))) hbh) hb11) hb12) hb13) hbi
end Go.Proofs.Ytnakkmmmkbjfbaa
