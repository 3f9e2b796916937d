
/-
  THE WALKS OF EXACT LAWS, the given frame left out: for all numbers the law returns true and writes nothing that was there. (Printed by lawgen.py.)
-/
import Derived.Test.YtlaapnfinbancaaLaws0
import Derived.Test.YtlaapnfinbancaaMark
import Derived.Test.YtlaapnfinbancaaSlL
namespace Go.Proofs.Ytlaapnfinbancaa
open Go.RowKit Go.Deep

set_option maxRecDepth 100000 in
set_option maxHeartbeats 2000000 in
theorem lawValueOfHeaps (r : Int) (A_zs : Option Addr) (n_zs c_zs : Nat) (zs : List Int) (w : World) (hr_zs : Ints w w.heap.size A_zs n_zs zs) :
    Calls Try.prog 4 #[.int .i64 r, .slice A_zs n_zs c_zs] w fun e w' => e = .returned (.bool true) ∧ Below w.heap.size w w' := by
  obtain rfl := hr_zs.len
  by_cases hbig_zs : 1048576 < zs.length
  · go_enter Try.func4, Try.ntmps4
    go_wp2_with fail
    go_ret
    exact ⟨rfl, Below.refl _ _⟩
  have hcap_zs : zs.length ≤ 17592186044416 := by omega
  have hlow_zs : zs.length ≤ 1048576 := by omega
  have HS := hide (fun A_zs c_zs w (h_zs : Ints w w.heap.size A_zs zs.length zs) => specValueOfHeaps_any r A_zs zs.length c_zs zs w h_zs hcap_zs)
  have HI := hide (fun A_zs c_zs w (h_zs : Ints w w.heap.size A_zs zs.length zs) => ValueOfHeaps_any r A_zs zs.length c_zs zs w h_zs hcap_zs)
  go_enter Try.func4, Try.ntmps4
  go_wp2_with fail
  refine (toIntS_any _ _ _ _ _ (hr_zs.more (by omega)) hcap_zs).mono ?_
  rintro e w1 ⟨ga_zs, ha1, hz1, rfl, hrow1, hb1⟩
  have q1 := hb1
  have s1 := hb1.size
  have t1 := q1.size
  have r_zs_1 := hr_zs.below hb1 (by omega)
  have Xa_zs_1 := Own.of_row hrow1 ha1 (by unfold maxLen; omega)
  go_wp2_with fail
  refine (HS.out _ _ _ Xa_zs_1.ints).mono ?_
  rintro e w2 ⟨rfl, hb2⟩
  have q2 := below_next q1 hb2
  have s2 := hb2.size
  have t2 := q2.size
  have r_zs_2 := r_zs_1.below hb2 (by omega)
  have Xa_zs_2 := Xa_zs_1.below hb2
  clear q1 r_zs_1 Xa_zs_1
  clear Xa_zs_2
  go_wp2_with fail
  refine (toIntS_any _ _ _ _ _ (r_zs_2.more (by omega)) hcap_zs).mono ?_
  rintro e w3 ⟨gb_zs, ha3, hz3, rfl, hrow3, hb3⟩
  have q3 := below_next q2 hb3
  have s3 := hb3.size
  have t3 := q3.size
  have r_zs_3 := r_zs_2.below hb3 (by omega)
  clear q2 r_zs_2
  have Xb_zs_3 := Own.of_row hrow3 ha3 (by unfold maxLen; omega)
  go_wp2_with fail
  refine (HI.out _ _ _ Xb_zs_3.ints).mono ?_
  rintro e w4 ⟨rfl, hb4⟩
  have q4 := below_next q3 hb4
  have s4 := hb4.size
  have t4 := q4.size
  have r_zs_4 := r_zs_3.below hb4 (by omega)
  have Xb_zs_4 := Xb_zs_3.below hb4
  clear q3 r_zs_3 Xb_zs_3
  go_wp2_with fail
  refine (toIntS_any _ _ _ _ _ (r_zs_4.more (by omega)) hcap_zs).mono ?_
  rintro e w5 ⟨gc_zs, _, hz5, rfl, hrow5, hb5⟩
  have q5 := below_next q4 hb5
  have s5 := hb5.size
  have t5 := q5.size
  have r_zs_5 := r_zs_4.below hb5 (by omega)
  have Xb_zs_5 := Xb_zs_4.below hb5
  clear q4 r_zs_4 Xb_zs_4
  go_wp2_with fail
  refine (eqIntS_same _ _ _ _ _ _ _ _ _ Xb_zs_5.ints (hrow5.ints hz5) (Nat.le_refl _) (Nat.le_refl _) hcap_zs).mono ?_
  rintro e w6 ⟨rfl, hb6⟩
  have q6 := below_next q5 hb6
  have s6 := hb6.size
  have t6 := q6.size
  have r_zs_6 := r_zs_5.below hb6 (by omega)
  have Xb_zs_6 := Xb_zs_5.below hb6
  clear q5 r_zs_5 Xb_zs_5
  go_wp2_with fail
  go_ret
  exact ⟨rfl, q6⟩

set_option maxRecDepth 100000 in
set_option maxHeartbeats 2000000 in
theorem lawDoesFirstWin (r : Int) (A_zs : Option Addr) (n_zs c_zs : Nat) (zs : List Int) (w : World) (hr_zs : Ints w w.heap.size A_zs n_zs zs) :
    Calls Try.prog 5 #[.int .i64 r, .slice A_zs n_zs c_zs] w fun e w' => e = .returned (.bool true) ∧ Below w.heap.size w w' := by
  obtain rfl := hr_zs.len
  by_cases hbig_zs : 1048576 < zs.length
  · go_enter Try.func5, Try.ntmps5
    go_wp2_with fail
    go_ret
    exact ⟨rfl, Below.refl _ _⟩
  have hcap_zs : zs.length ≤ 17592186044416 := by omega
  have hlow_zs : zs.length ≤ 1048576 := by omega
  have HS := hide (fun A_zs c_zs w (h_zs : Ints w w.heap.size A_zs zs.length zs) => specDoesFirstWin_any r A_zs zs.length c_zs zs w h_zs hcap_zs)
  have HI := hide (fun A_zs c_zs w (h_zs : Ints w w.heap.size A_zs zs.length zs) => DoesFirstWin_any r A_zs zs.length c_zs zs w h_zs hcap_zs)
  go_enter Try.func5, Try.ntmps5
  go_wp2_with fail
  refine (toIntS_any _ _ _ _ _ (hr_zs.more (by omega)) hcap_zs).mono ?_
  rintro e w1 ⟨ga_zs, ha1, hz1, rfl, hrow1, hb1⟩
  have q1 := hb1
  have s1 := hb1.size
  have t1 := q1.size
  have r_zs_1 := hr_zs.below hb1 (by omega)
  have Xa_zs_1 := Own.of_row hrow1 ha1 (by unfold maxLen; omega)
  go_wp2_with fail
  refine (HS.out _ _ _ Xa_zs_1.ints).mono ?_
  rintro e w2 ⟨rfl, hb2⟩
  have q2 := below_next q1 hb2
  have s2 := hb2.size
  have t2 := q2.size
  have r_zs_2 := r_zs_1.below hb2 (by omega)
  have Xa_zs_2 := Xa_zs_1.below hb2
  clear q1 r_zs_1 Xa_zs_1
  clear Xa_zs_2
  go_wp2_with fail
  refine (toIntS_any _ _ _ _ _ (r_zs_2.more (by omega)) hcap_zs).mono ?_
  rintro e w3 ⟨gb_zs, ha3, hz3, rfl, hrow3, hb3⟩
  have q3 := below_next q2 hb3
  have s3 := hb3.size
  have t3 := q3.size
  have r_zs_3 := r_zs_2.below hb3 (by omega)
  clear q2 r_zs_2
  have Xb_zs_3 := Own.of_row hrow3 ha3 (by unfold maxLen; omega)
  go_wp2_with fail
  refine (HI.out _ _ _ Xb_zs_3.ints).mono ?_
  rintro e w4 ⟨rfl, hb4⟩
  have q4 := below_next q3 hb4
  have s4 := hb4.size
  have t4 := q4.size
  have r_zs_4 := r_zs_3.below hb4 (by omega)
  have Xb_zs_4 := Xb_zs_3.below hb4
  clear q3 r_zs_3 Xb_zs_3
  go_wp2_with fail
  refine (toIntS_any _ _ _ _ _ (r_zs_4.more (by omega)) hcap_zs).mono ?_
  rintro e w5 ⟨gc_zs, _, hz5, rfl, hrow5, hb5⟩
  have q5 := below_next q4 hb5
  have s5 := hb5.size
  have t5 := q5.size
  have r_zs_5 := r_zs_4.below hb5 (by omega)
  have Xb_zs_5 := Xb_zs_4.below hb5
  clear q4 r_zs_4 Xb_zs_4
  go_wp2_with fail
  refine (eqIntS_same _ _ _ _ _ _ _ _ _ Xb_zs_5.ints (hrow5.ints hz5) (Nat.le_refl _) (Nat.le_refl _) hcap_zs).mono ?_
  rintro e w6 ⟨rfl, hb6⟩
  have q6 := below_next q5 hb6
  have s6 := hb6.size
  have t6 := q6.size
  have r_zs_6 := r_zs_5.below hb6 (by omega)
  have Xb_zs_6 := Xb_zs_5.below hb6
  clear q5 r_zs_5 Xb_zs_5
  go_wp2_with fail
  go_ret
  exact ⟨rfl, q6⟩

set_option maxRecDepth 100000 in
set_option maxHeartbeats 2000000 in
theorem lawValueOfSplit (r : Int) (h : Int) (w : World) :
    Calls Try.prog 3 #[.int .i64 r, .int .i64 h] w fun e w' => e = .returned (.bool true) ∧ Below w.heap.size w w' := by
  have HS := hide (fun  w  => specValueOfSplit_any r h w  )
  have HI := hide (fun  w  => ValueOfSplit_any r h w  )
  go_enter Try.func3, Try.ntmps3
  go_wp2_with fail
  refine (HS.out  _ ).mono ?_
  rintro e w1 ⟨rfl, hb1⟩
  have q1 := hb1
  have s1 := hb1.size
  have t1 := q1.size
  go_wp2_with fail
  refine (HI.out  _ ).mono ?_
  rintro e w2 ⟨rfl, hb2⟩
  have q2 := below_next q1 hb2
  have s2 := hb2.size
  have t2 := q2.size
  clear q1
  go_wp2_with fail
  go_ret
  exact ⟨rfl, q2⟩

set_option maxRecDepth 100000 in
set_option maxHeartbeats 2000000 in
theorem lawLosingHeaps (r : Int) (m : Int) (w : World) :
    Calls Try.prog 6 #[.int .i64 r, .int .i64 m] w fun e w' => e = .returned (.bool true) ∧ Below w.heap.size w w' := by
  have HS := hide (fun  w  => specLosingHeaps_any r m w  )
  have HI := hide (fun  w  => LosingHeaps_any r m w  )
  have hF : (losR r m).length ≤ 1048576 := losR_short r m
  generalize losR r m = fs at *
  generalize lask r m = v0 at *
  go_enter Try.func6, Try.ntmps6
  go_wp2_with fail
  refine (HS.out  _ ).mono ?_
  rintro e w1 ⟨Aw, cw, rfl, hw1, hw2, hownw, hb1⟩
  have q1 := hb1
  have s1 := hb1.size
  have t1 := q1.size
  have W_1 := hownw.ints
  clear hownw
  go_wp2_with fail
  refine (HI.out  _ ).mono ?_
  rintro e w2 ⟨Ag, cg, rfl, hg1, hg2, hG2, hb2⟩
  have q2 := below_next q1 hb2
  have s2 := hb2.size
  have t2 := q2.size
  have W_2 := W_1.below hb2 (by omega)
  clear q1 W_1
  go_wp2_with fail
  refine (eqIntS_same _ _ _ _ _ _ _ _ _ hG2.ints W_2 (Nat.le_refl _) (by omega) (by omega)).mono ?_
  rintro e w3 ⟨rfl, hb3⟩
  have q3 := below_next q2 hb3
  have s3 := hb3.size
  have t3 := q3.size
  have W_3 := W_2.below hb3 (by omega)
  have G_3 := hG2.below hb3
  clear q2 W_2 hG2
  go_wp2_with fail
  refine (markIntS_any _ _ _ _ _ _ _ G_3 rfl (by omega) (by omega) (by omega)).mono ?_
  rintro e w4 ⟨rfl, hG4, hb4, _⟩
  have q4 := q3.trans (hb4.mono (by omega))
  have s4 := hb4.size
  have t4 := q4.size
  have W_4 := W_3.below hb4 (by omega)
  clear q3 W_3
  go_wp2_with fail
  refine (heldIntS_any _ _ _ _ _ _ (by simpa [marks_length] using hG4.ints) (by omega) (by omega) (by omega)).mono ?_
  rintro e w' ⟨rfl, rfl⟩
  go_wp2_with fail
  refine (HI.out  _ ).mono ?_
  rintro e w5 ⟨Ah, ch, rfl, hh1, hh2, hH5, hb5⟩
  have q5 := below_next q4 hb5
  have s5 := hb5.size
  have t5 := q5.size
  have W_5 := W_4.below hb5 (by omega)
  have G_5 := hG4.below hb5
  clear q4 W_4 hG4
  go_wp2_with fail
  refine (eqIntS_same _ _ _ _ _ _ _ _ _ hH5.ints W_5 (Nat.le_refl _) (by omega) (by omega)).mono ?_
  rintro e w6 ⟨rfl, hb6⟩
  have q6 := below_next q5 hb6
  have s6 := hb6.size
  have t6 := q6.size
  have W_6 := W_5.below hb6 (by omega)
  have G_6 := G_5.below hb6
  have H_6 := hH5.below hb6
  clear q5 W_5 G_5 hH5
  go_wp2_with fail
  refine (heldIntS_any _ _ _ _ _ _ (by simpa [marks_length] using G_6.ints) (by omega) (by omega) (by omega)).mono ?_
  rintro e w' ⟨rfl, rfl⟩
  go_wp2_with fail
  go_ret
  exact ⟨rfl, q6⟩
end Go.Proofs.Ytlaapnfinbancaa
