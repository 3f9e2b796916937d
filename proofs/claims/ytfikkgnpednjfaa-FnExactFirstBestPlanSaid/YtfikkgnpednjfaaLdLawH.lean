
/-
  THE WALKS OF EXACT LAWS, the given frame left out: for all numbers the law returns true and writes nothing that was there. (Printed by lawgen.py.)
-/
import Derived.Test.YtfikkgnpednjfaaLaws0
import Derived.Test.YtfikkgnpednjfaaMark
import Derived.Test.YtfikkgnpednjfaaGx
namespace Go.Proofs.Ytfikkgnpednjfaa
open Go.RowKit Go.Deep

set_option maxRecDepth 100000 in
set_option maxHeartbeats 2000000 in
theorem lawLeastEnd (A_zs : Option Addr) (n_zs c_zs : Nat) (zs : List Int) (m : Int) (w : World) (hr_zs : Ints w w.heap.size A_zs n_zs zs) :
    Calls Try.prog 3 #[.slice A_zs n_zs c_zs, .int .i64 m] w fun e w' => e = .returned (.bool true) ∧ Below w.heap.size w w' := by
  obtain rfl := hr_zs.len
  by_cases hbig_zs : 1048576 < zs.length
  · go_enter Try.func3, Try.ntmps3
    go_wp2_with fail
    go_ret
    exact ⟨rfl, Below.refl _ _⟩
  have hcap_zs : zs.length ≤ 17592186044416 := by omega
  have hlow_zs : zs.length ≤ 1048576 := by omega
  have HS := hide (fun A_zs c_zs w (h_zs : Ints w w.heap.size A_zs zs.length zs) => specLeastEnd_any A_zs zs.length c_zs zs m w h_zs hcap_zs)
  have HI := hide (fun A_zs c_zs w (h_zs : Ints w w.heap.size A_zs zs.length zs) => LeastEnd_any A_zs zs.length c_zs zs m w h_zs hcap_zs)
  go_enter Try.func3, Try.ntmps3
  go_wp2_with fail
  refine (toIntS_any _ _ _ _ _ (hr_zs.more (by omega)) hcap_zs).mono ?_
  rintro e w1 ⟨ga_zs, ha1, hz1, rfl, hrow1, hb1⟩
  have q1 := hb1
  have s1 := hb1.size
  have t1 := q1.size
  have r_zs_1 := hr_zs.below hb1 (by omega)
  have Xa_zs_1 := Own.of_row hrow1 ha1 (by unfold maxLen; omega)
  go_wp2_with fail
  refine (HS.out _ _ _ Xa_zs_1.ints).mono ?_
  rintro e w2 ⟨rfl, hb2⟩
  have q2 := below_next q1 hb2
  have s2 := hb2.size
  have t2 := q2.size
  have r_zs_2 := r_zs_1.below hb2 (by omega)
  have Xa_zs_2 := Xa_zs_1.below hb2
  clear q1 r_zs_1 Xa_zs_1
  clear Xa_zs_2
  go_wp2_with fail
  refine (toIntS_any _ _ _ _ _ (r_zs_2.more (by omega)) hcap_zs).mono ?_
  rintro e w3 ⟨gb_zs, ha3, hz3, rfl, hrow3, hb3⟩
  have q3 := below_next q2 hb3
  have s3 := hb3.size
  have t3 := q3.size
  have r_zs_3 := r_zs_2.below hb3 (by omega)
  clear q2 r_zs_2
  have Xb_zs_3 := Own.of_row hrow3 ha3 (by unfold maxLen; omega)
  go_wp2_with fail
  refine (HI.out _ _ _ Xb_zs_3.ints).mono ?_
  rintro e w4 ⟨rfl, hb4⟩
  have q4 := below_next q3 hb4
  have s4 := hb4.size
  have t4 := q4.size
  have r_zs_4 := r_zs_3.below hb4 (by omega)
  have Xb_zs_4 := Xb_zs_3.below hb4
  clear q3 r_zs_3 Xb_zs_3
  go_wp2_with fail
  refine (toIntS_any _ _ _ _ _ (r_zs_4.more (by omega)) hcap_zs).mono ?_
  rintro e w5 ⟨gc_zs, _, hz5, rfl, hrow5, hb5⟩
  have q5 := below_next q4 hb5
  have s5 := hb5.size
  have t5 := q5.size
  have r_zs_5 := r_zs_4.below hb5 (by omega)
  have Xb_zs_5 := Xb_zs_4.below hb5
  clear q4 r_zs_4 Xb_zs_4
  go_wp2_with fail
  refine (eqIntS_same _ _ _ _ _ _ _ _ _ Xb_zs_5.ints (hrow5.ints hz5) (Nat.le_refl _) (Nat.le_refl _) hcap_zs).mono ?_
  rintro e w6 ⟨rfl, hb6⟩
  have q6 := below_next q5 hb6
  have s6 := hb6.size
  have t6 := q6.size
  have r_zs_6 := r_zs_5.below hb6 (by omega)
  have Xb_zs_6 := Xb_zs_5.below hb6
  clear q5 r_zs_5 Xb_zs_5
  go_wp2_with fail
  go_ret
  exact ⟨rfl, q6⟩

set_option maxRecDepth 100000 in
set_option maxHeartbeats 2000000 in
theorem lawCountBestPlans (A_zs : Option Addr) (n_zs c_zs : Nat) (zs : List Int) (m : Int) (w : World) (hr_zs : Ints w w.heap.size A_zs n_zs zs) :
    Calls Try.prog 5 #[.slice A_zs n_zs c_zs, .int .i64 m] w fun e w' => e = .returned (.bool true) ∧ Below w.heap.size w w' := by
  obtain rfl := hr_zs.len
  by_cases hbig_zs : 1048576 < zs.length
  · go_enter Try.func5, Try.ntmps5
    go_wp2_with fail
    go_ret
    exact ⟨rfl, Below.refl _ _⟩
  have hcap_zs : zs.length ≤ 17592186044416 := by omega
  have hlow_zs : zs.length ≤ 1048576 := by omega
  have HS := hide (fun A_zs c_zs w (h_zs : Ints w w.heap.size A_zs zs.length zs) => specCountBestPlans_any A_zs zs.length c_zs zs m w h_zs hcap_zs)
  have HI := hide (fun A_zs c_zs w (h_zs : Ints w w.heap.size A_zs zs.length zs) => CountBestPlans_any A_zs zs.length c_zs zs m w h_zs hcap_zs)
  go_enter Try.func5, Try.ntmps5
  go_wp2_with fail
  refine (toIntS_any _ _ _ _ _ (hr_zs.more (by omega)) hcap_zs).mono ?_
  rintro e w1 ⟨ga_zs, ha1, hz1, rfl, hrow1, hb1⟩
  have q1 := hb1
  have s1 := hb1.size
  have t1 := q1.size
  have r_zs_1 := hr_zs.below hb1 (by omega)
  have Xa_zs_1 := Own.of_row hrow1 ha1 (by unfold maxLen; omega)
  go_wp2_with fail
  refine (HS.out _ _ _ Xa_zs_1.ints).mono ?_
  rintro e w2 ⟨rfl, hb2⟩
  have q2 := below_next q1 hb2
  have s2 := hb2.size
  have t2 := q2.size
  have r_zs_2 := r_zs_1.below hb2 (by omega)
  have Xa_zs_2 := Xa_zs_1.below hb2
  clear q1 r_zs_1 Xa_zs_1
  clear Xa_zs_2
  go_wp2_with fail
  refine (toIntS_any _ _ _ _ _ (r_zs_2.more (by omega)) hcap_zs).mono ?_
  rintro e w3 ⟨gb_zs, ha3, hz3, rfl, hrow3, hb3⟩
  have q3 := below_next q2 hb3
  have s3 := hb3.size
  have t3 := q3.size
  have r_zs_3 := r_zs_2.below hb3 (by omega)
  clear q2 r_zs_2
  have Xb_zs_3 := Own.of_row hrow3 ha3 (by unfold maxLen; omega)
  go_wp2_with fail
  refine (HI.out _ _ _ Xb_zs_3.ints).mono ?_
  rintro e w4 ⟨rfl, hb4⟩
  have q4 := below_next q3 hb4
  have s4 := hb4.size
  have t4 := q4.size
  have r_zs_4 := r_zs_3.below hb4 (by omega)
  have Xb_zs_4 := Xb_zs_3.below hb4
  clear q3 r_zs_3 Xb_zs_3
  go_wp2_with fail
  refine (toIntS_any _ _ _ _ _ (r_zs_4.more (by omega)) hcap_zs).mono ?_
  rintro e w5 ⟨gc_zs, _, hz5, rfl, hrow5, hb5⟩
  have q5 := below_next q4 hb5
  have s5 := hb5.size
  have t5 := q5.size
  have r_zs_5 := r_zs_4.below hb5 (by omega)
  have Xb_zs_5 := Xb_zs_4.below hb5
  clear q4 r_zs_4 Xb_zs_4
  go_wp2_with fail
  refine (eqIntS_same _ _ _ _ _ _ _ _ _ Xb_zs_5.ints (hrow5.ints hz5) (Nat.le_refl _) (Nat.le_refl _) hcap_zs).mono ?_
  rintro e w6 ⟨rfl, hb6⟩
  have q6 := below_next q5 hb6
  have s6 := hb6.size
  have t6 := q6.size
  have r_zs_6 := r_zs_5.below hb6 (by omega)
  have Xb_zs_6 := Xb_zs_5.below hb6
  clear q5 r_zs_5 Xb_zs_5
  go_wp2_with fail
  go_ret
  exact ⟨rfl, q6⟩

set_option maxRecDepth 100000 in
set_option maxHeartbeats 2000000 in
theorem lawFirstBestPlan (A_zs : Option Addr) (n_zs c_zs : Nat) (zs : List Int) (m : Int) (w : World) (hr_zs : Ints w w.heap.size A_zs n_zs zs) :
    Calls Try.prog 4 #[.slice A_zs n_zs c_zs, .int .i64 m] w fun e w' => e = .returned (.bool true) ∧ Below w.heap.size w w' := by
  obtain rfl := hr_zs.len
  by_cases hbig_zs : 1048576 < zs.length
  · go_enter Try.func4, Try.ntmps4
    go_wp2_with fail
    go_ret
    exact ⟨rfl, Below.refl _ _⟩
  have hcap_zs : zs.length ≤ 17592186044416 := by omega
  have hlow_zs : zs.length ≤ 1048576 := by omega
  have HS := hide (fun A_zs c_zs w (h_zs : Ints w w.heap.size A_zs zs.length zs) => specFirstBestPlan_any A_zs zs.length c_zs zs m w h_zs hcap_zs)
  have HI := hide (fun A_zs c_zs w (h_zs : Ints w w.heap.size A_zs zs.length zs) => FirstBestPlan_any A_zs zs.length c_zs zs m w h_zs hcap_zs)
  have hF : (fbR zs m).length ≤ 1048576 := fbR_short zs m hlow_zs
  generalize fbR zs m = fs at *
  generalize jask zs m = v0 at *
  go_enter Try.func4, Try.ntmps4
  go_wp2_with fail
  refine (toIntS_any _ _ _ _ _ (hr_zs.more (by omega)) hcap_zs).mono ?_
  rintro e w1 ⟨ga_zs, ha1, hz1, rfl, hrow1, hb1⟩
  have q1 := hb1
  have s1 := hb1.size
  have t1 := q1.size
  have r_zs_1 := hr_zs.below hb1 (by omega)
  have Xa_zs_1 := Own.of_row hrow1 ha1 (by unfold maxLen; omega)
  go_wp2_with fail
  refine (HS.out _ _ _ Xa_zs_1.ints).mono ?_
  rintro e w2 ⟨Aw, cw, rfl, hw1, hw2, hownw, hb2⟩
  have q2 := below_next q1 hb2
  have s2 := hb2.size
  have t2 := q2.size
  have r_zs_2 := r_zs_1.below hb2 (by omega)
  have Xa_zs_2 := Xa_zs_1.below hb2
  clear q1 r_zs_1 Xa_zs_1
  clear Xa_zs_2
  have W_2 := hownw.ints
  clear hownw
  go_wp2_with fail
  refine (toIntS_any _ _ _ _ _ (r_zs_2.more (by omega)) hcap_zs).mono ?_
  rintro e w3 ⟨gb_zs, ha3, hz3, rfl, hrow3, hb3⟩
  have q3 := below_next q2 hb3
  have s3 := hb3.size
  have t3 := q3.size
  have r_zs_3 := r_zs_2.below hb3 (by omega)
  have W_3 := W_2.below hb3 (by omega)
  clear q2 r_zs_2 W_2
  have Xb_zs_3 := Own.of_row hrow3 ha3 (by unfold maxLen; omega)
  go_wp2_with fail
  refine (HI.out _ _ _ Xb_zs_3.ints).mono ?_
  rintro e w4 ⟨Ag, cg, rfl, hg1, hg2, hG4, hb4⟩
  have q4 := below_next q3 hb4
  have s4 := hb4.size
  have t4 := q4.size
  have r_zs_4 := r_zs_3.below hb4 (by omega)
  have W_4 := W_3.below hb4 (by omega)
  have Xb_zs_4 := Xb_zs_3.below hb4
  clear q3 r_zs_3 W_3 Xb_zs_3
  go_wp2_with fail
  refine (eqIntS_same _ _ _ _ _ _ _ _ _ hG4.ints W_4 (Nat.le_refl _) (by omega) (by omega)).mono ?_
  rintro e w5 ⟨rfl, hb5⟩
  have q5 := below_next q4 hb5
  have s5 := hb5.size
  have t5 := q5.size
  have r_zs_5 := r_zs_4.below hb5 (by omega)
  have W_5 := W_4.below hb5 (by omega)
  have Xb_zs_5 := Xb_zs_4.below hb5
  have G_5 := hG4.below hb5
  clear q4 r_zs_4 W_4 Xb_zs_4 hG4
  go_wp2_with fail
  refine (toIntS_any _ _ _ _ _ (r_zs_5.more (by omega)) hcap_zs).mono ?_
  rintro e w6 ⟨gc_zs, _, hz6, rfl, hrow6, hb6⟩
  have q6 := below_next q5 hb6
  have s6 := hb6.size
  have t6 := q6.size
  have r_zs_6 := r_zs_5.below hb6 (by omega)
  have W_6 := W_5.below hb6 (by omega)
  have Xb_zs_6 := Xb_zs_5.below hb6
  have G_6 := G_5.below hb6
  clear q5 r_zs_5 W_5 Xb_zs_5 G_5
  go_wp2_with fail
  refine (eqIntS_same _ _ _ _ _ _ _ _ _ Xb_zs_6.ints (hrow6.ints hz6) (Nat.le_refl _) (Nat.le_refl _) hcap_zs).mono ?_
  rintro e w7 ⟨rfl, hb7⟩
  have q7 := below_next q6 hb7
  have s7 := hb7.size
  have t7 := q7.size
  have r_zs_7 := r_zs_6.below hb7 (by omega)
  have W_7 := W_6.below hb7 (by omega)
  have Xb_zs_7 := Xb_zs_6.below hb7
  have G_7 := G_6.below hb7
  clear q6 r_zs_6 W_6 Xb_zs_6 G_6
  go_wp2_with fail
  refine (markIntS_any _ _ _ _ _ _ _ Xb_zs_7 rfl (by omega) (by omega) (by omega)).mono ?_
  rintro e w8 ⟨rfl, _, hb8, hoth8⟩
  have q8 := q7.trans (hb8.mono (by omega))
  have s8 := hb8.size
  have t8 := q8.size
  have r_zs_8 := r_zs_7.below hb8 (by omega)
  have W_8 := W_7.below hb8 (by omega)
  have G_8 : Own w8 w3.heap.size 3 (.slice Ag fs.length cg) fs := G_7.keep fun h hh hl => hoth8 h hl (fun ad hA e => by injection hA with hA; subst hA; simp at e; omega)
  clear q7 r_zs_7 W_7 Xb_zs_7 G_7
  go_wp2_with fail
  refine (eqIntS_same _ _ _ _ _ _ _ _ _ G_8.ints W_8 (Nat.le_refl _) (by omega) (by omega)).mono ?_
  rintro e w9 ⟨rfl, hb9⟩
  have q9 := below_next q8 hb9
  have s9 := hb9.size
  have t9 := q9.size
  have r_zs_9 := r_zs_8.below hb9 (by omega)
  have W_9 := W_8.below hb9 (by omega)
  have G_9 := G_8.below hb9
  clear q8 r_zs_8 W_8 G_8
  go_wp2_with fail
  refine (markIntS_any _ _ _ _ _ _ _ G_9 rfl (by omega) (by omega) (by omega)).mono ?_
  rintro e w10 ⟨rfl, hG10, hb10, _⟩
  have q10 := q9.trans (hb10.mono (by omega))
  have s10 := hb10.size
  have t10 := q10.size
  have r_zs_10 := r_zs_9.below hb10 (by omega)
  have W_10 := W_9.below hb10 (by omega)
  clear q9 r_zs_9 W_9
  go_wp2_with fail
  refine (heldIntS_any _ _ _ _ _ _ (by simpa [marks_length] using hG10.ints) (by omega) (by omega) (by omega)).mono ?_
  rintro e w' ⟨rfl, rfl⟩
  go_wp2_with fail
  refine (toIntS_any _ _ _ _ _ (r_zs_10.more (by omega)) hcap_zs).mono ?_
  rintro e w11 ⟨gd_zs, ha11, hz11, rfl, hrow11, hb11⟩
  have q11 := below_next q10 hb11
  have s11 := hb11.size
  have t11 := q11.size
  have r_zs_11 := r_zs_10.below hb11 (by omega)
  have W_11 := W_10.below hb11 (by omega)
  have G_11 := hG10.below hb11
  clear q10 r_zs_10 W_10 hG10
  have Xd_zs_11 := Own.of_row hrow11 ha11 (by unfold maxLen; omega)
  go_wp2_with fail
  refine (HI.out _ _ _ Xd_zs_11.ints).mono ?_
  rintro e w12 ⟨Ah, ch, rfl, hh1, hh2, hH12, hb12⟩
  have q12 := below_next q11 hb12
  have s12 := hb12.size
  have t12 := q12.size
  have r_zs_12 := r_zs_11.below hb12 (by omega)
  have W_12 := W_11.below hb12 (by omega)
  have G_12 := G_11.below hb12
  have Xd_zs_12 := Xd_zs_11.below hb12
  clear q11 r_zs_11 W_11 G_11 Xd_zs_11
  clear Xd_zs_12
  clear r_zs_12
  go_wp2_with fail
  refine (eqIntS_same _ _ _ _ _ _ _ _ _ hH12.ints W_12 (Nat.le_refl _) (by omega) (by omega)).mono ?_
  rintro e w13 ⟨rfl, hb13⟩
  have q13 := below_next q12 hb13
  have s13 := hb13.size
  have t13 := q13.size
  have W_13 := W_12.below hb13 (by omega)
  have G_13 := G_12.below hb13
  have H_13 := hH12.below hb13
  clear q12 W_12 G_12 hH12
  go_wp2_with fail
  refine (heldIntS_any _ _ _ _ _ _ (by simpa [marks_length] using G_13.ints) (by omega) (by omega) (by omega)).mono ?_
  rintro e w' ⟨rfl, rfl⟩
  go_wp2_with fail
  go_ret
  exact ⟨rfl, q13⟩
end Go.Proofs.Ytfikkgnpednjfaa
