
/-
  THE WALKS OF EXACT LAWS, the given frame left out: for all numbers the law returns true and writes nothing that was there. (Printed by lawgen.py.)
-/
import Derived.Test.YtloiaininfhfiaaLaws0
import Derived.Test.YtloiaininfhfiaaMark
import Derived.Test.YtloiaininfhfiaaBmL
namespace Go.Proofs.Ytloiaininfhfiaa
open Go.RowKit Go.Deep

set_option maxRecDepth 100000 in
set_option maxHeartbeats 2000000 in
theorem lawBestMove (A_zs : Option Addr) (n_zs c_zs : Nat) (zs : List Int) (m : Int) (A_ps : Option Addr) (n_ps c_ps : Nat) (ps : List Int) (w : World) (hr_zs : Ints w w.heap.size A_zs n_zs zs) (hr_ps : Ints w w.heap.size A_ps n_ps ps) :
    Calls Try.prog 3 #[.slice A_zs n_zs c_zs, .int .i64 m, .slice A_ps n_ps c_ps] w fun e w' => e = .returned (.bool true) ∧ Below w.heap.size w w' := by
  obtain rfl := hr_zs.len
  obtain rfl := hr_ps.len
  by_cases hbig_zs : 1048576 < zs.length
  · go_enter Try.func3, Try.ntmps3
    go_wp2_with fail
    go_ret
    exact ⟨rfl, Below.refl _ _⟩
  by_cases hbig_ps : 1048576 < ps.length
  · go_enter Try.func3, Try.ntmps3
    go_wp2_with fail
    go_ret
    exact ⟨rfl, Below.refl _ _⟩
  have hcap_zs : zs.length ≤ 17592186044416 := by omega
  have hlow_zs : zs.length ≤ 1048576 := by omega
  have hcap_ps : ps.length ≤ 17592186044416 := by omega
  have hlow_ps : ps.length ≤ 1048576 := by omega
  have HS := hide (fun A_zs c_zs A_ps c_ps w (h_zs : Ints w w.heap.size A_zs zs.length zs) (h_ps : Ints w w.heap.size A_ps ps.length ps) => specBestMove_any A_zs zs.length c_zs zs m A_ps ps.length c_ps ps w h_zs h_ps hcap_zs hcap_ps)
  have HI := hide (fun A_zs c_zs A_ps c_ps w (h_zs : Ints w w.heap.size A_zs zs.length zs) (h_ps : Ints w w.heap.size A_ps ps.length ps) => BestMove_any A_zs zs.length c_zs zs m A_ps ps.length c_ps ps w h_zs h_ps hcap_zs hcap_ps)
  go_enter Try.func3, Try.ntmps3
  go_wp2_with fail
  refine (toIntS_any _ _ _ _ _ (hr_zs.more (by omega)) hcap_zs).mono ?_
  rintro e w1 ⟨ga_zs, ha1, hz1, rfl, hrow1, hb1⟩
  have q1 := hb1
  have s1 := hb1.size
  have t1 := q1.size
  have r_zs_1 := hr_zs.below hb1 (by omega)
  have r_ps_1 := hr_ps.below hb1 (by omega)
  have Xa_zs_1 := Own.of_row hrow1 ha1 (by unfold maxLen; omega)
  go_wp2_with fail
  refine (toIntS_any _ _ _ _ _ (r_ps_1.more (by omega)) hcap_ps).mono ?_
  rintro e w2 ⟨ga_ps, ha2, hz2, rfl, hrow2, hb2⟩
  have q2 := below_next q1 hb2
  have s2 := hb2.size
  have t2 := q2.size
  have r_zs_2 := r_zs_1.below hb2 (by omega)
  have r_ps_2 := r_ps_1.below hb2 (by omega)
  have Xa_zs_2 := Xa_zs_1.below hb2
  clear q1 r_zs_1 r_ps_1 Xa_zs_1
  have Xa_ps_2 := Own.of_row hrow2 ha2 (by unfold maxLen; omega)
  go_wp2_with fail
  refine (HS.out _ _ _ _ _ Xa_zs_2.ints Xa_ps_2.ints).mono ?_
  rintro e w3 ⟨rfl, hb3⟩
  have q3 := below_next q2 hb3
  have s3 := hb3.size
  have t3 := q3.size
  have r_zs_3 := r_zs_2.below hb3 (by omega)
  have r_ps_3 := r_ps_2.below hb3 (by omega)
  have Xa_zs_3 := Xa_zs_2.below hb3
  have Xa_ps_3 := Xa_ps_2.below hb3
  clear q2 r_zs_2 r_ps_2 Xa_zs_2 Xa_ps_2
  clear Xa_zs_3 Xa_ps_3
  go_wp2_with fail
  refine (toIntS_any _ _ _ _ _ (r_zs_3.more (by omega)) hcap_zs).mono ?_
  rintro e w4 ⟨gb_zs, ha4, hz4, rfl, hrow4, hb4⟩
  have q4 := below_next q3 hb4
  have s4 := hb4.size
  have t4 := q4.size
  have r_zs_4 := r_zs_3.below hb4 (by omega)
  have r_ps_4 := r_ps_3.below hb4 (by omega)
  clear q3 r_zs_3 r_ps_3
  have Xb_zs_4 := Own.of_row hrow4 ha4 (by unfold maxLen; omega)
  go_wp2_with fail
  refine (toIntS_any _ _ _ _ _ (r_ps_4.more (by omega)) hcap_ps).mono ?_
  rintro e w5 ⟨gb_ps, ha5, hz5, rfl, hrow5, hb5⟩
  have q5 := below_next q4 hb5
  have s5 := hb5.size
  have t5 := q5.size
  have r_zs_5 := r_zs_4.below hb5 (by omega)
  have r_ps_5 := r_ps_4.below hb5 (by omega)
  have Xb_zs_5 := Xb_zs_4.below hb5
  clear q4 r_zs_4 r_ps_4 Xb_zs_4
  have Xb_ps_5 := Own.of_row hrow5 ha5 (by unfold maxLen; omega)
  go_wp2_with fail
  refine (HI.out _ _ _ _ _ Xb_zs_5.ints Xb_ps_5.ints).mono ?_
  rintro e w6 ⟨rfl, hb6⟩
  have q6 := below_next q5 hb6
  have s6 := hb6.size
  have t6 := q6.size
  have r_zs_6 := r_zs_5.below hb6 (by omega)
  have r_ps_6 := r_ps_5.below hb6 (by omega)
  have Xb_zs_6 := Xb_zs_5.below hb6
  have Xb_ps_6 := Xb_ps_5.below hb6
  clear q5 r_zs_5 r_ps_5 Xb_zs_5 Xb_ps_5
  go_wp2_with fail
  refine (toIntS_any _ _ _ _ _ (r_zs_6.more (by omega)) hcap_zs).mono ?_
  rintro e w7 ⟨gc_zs, _, hz7, rfl, hrow7, hb7⟩
  have q7 := below_next q6 hb7
  have s7 := hb7.size
  have t7 := q7.size
  have r_zs_7 := r_zs_6.below hb7 (by omega)
  have r_ps_7 := r_ps_6.below hb7 (by omega)
  have Xb_zs_7 := Xb_zs_6.below hb7
  have Xb_ps_7 := Xb_ps_6.below hb7
  clear q6 r_zs_6 r_ps_6 Xb_zs_6 Xb_ps_6
  go_wp2_with fail
  refine (eqIntS_same _ _ _ _ _ _ _ _ _ Xb_zs_7.ints (hrow7.ints hz7) (Nat.le_refl _) (Nat.le_refl _) hcap_zs).mono ?_
  rintro e w8 ⟨rfl, hb8⟩
  have q8 := below_next q7 hb8
  have s8 := hb8.size
  have t8 := q8.size
  have r_zs_8 := r_zs_7.below hb8 (by omega)
  have r_ps_8 := r_ps_7.below hb8 (by omega)
  have Xb_zs_8 := Xb_zs_7.below hb8
  have Xb_ps_8 := Xb_ps_7.below hb8
  clear q7 r_zs_7 r_ps_7 Xb_zs_7 Xb_ps_7
  go_wp2_with fail
  refine (toIntS_any _ _ _ _ _ (r_ps_8.more (by omega)) hcap_ps).mono ?_
  rintro e w9 ⟨gc_ps, _, hz9, rfl, hrow9, hb9⟩
  have q9 := below_next q8 hb9
  have s9 := hb9.size
  have t9 := q9.size
  have r_zs_9 := r_zs_8.below hb9 (by omega)
  have r_ps_9 := r_ps_8.below hb9 (by omega)
  have Xb_zs_9 := Xb_zs_8.below hb9
  have Xb_ps_9 := Xb_ps_8.below hb9
  clear q8 r_zs_8 r_ps_8 Xb_zs_8 Xb_ps_8
  go_wp2_with fail
  refine (eqIntS_same _ _ _ _ _ _ _ _ _ Xb_ps_9.ints (hrow9.ints hz9) (Nat.le_refl _) (Nat.le_refl _) hcap_ps).mono ?_
  rintro e w10 ⟨rfl, hb10⟩
  have q10 := below_next q9 hb10
  have s10 := hb10.size
  have t10 := q10.size
  have r_zs_10 := r_zs_9.below hb10 (by omega)
  have r_ps_10 := r_ps_9.below hb10 (by omega)
  have Xb_zs_10 := Xb_zs_9.below hb10
  have Xb_ps_10 := Xb_ps_9.below hb10
  clear q9 r_zs_9 r_ps_9 Xb_zs_9 Xb_ps_9
  go_wp2_with fail
  go_ret
  exact ⟨rfl, q10⟩

set_option maxRecDepth 100000 in
set_option maxHeartbeats 2000000 in
theorem lawIsSettledPlan (A_zs : Option Addr) (n_zs c_zs : Nat) (zs : List Int) (m : Int) (A_ps : Option Addr) (n_ps c_ps : Nat) (ps : List Int) (w : World) (hr_zs : Ints w w.heap.size A_zs n_zs zs) (hr_ps : Ints w w.heap.size A_ps n_ps ps) :
    Calls Try.prog 4 #[.slice A_zs n_zs c_zs, .int .i64 m, .slice A_ps n_ps c_ps] w fun e w' => e = .returned (.bool true) ∧ Below w.heap.size w w' := by
  obtain rfl := hr_zs.len
  obtain rfl := hr_ps.len
  by_cases hbig_zs : 1048576 < zs.length
  · go_enter Try.func4, Try.ntmps4
    go_wp2_with fail
    go_ret
    exact ⟨rfl, Below.refl _ _⟩
  by_cases hbig_ps : 1048576 < ps.length
  · go_enter Try.func4, Try.ntmps4
    go_wp2_with fail
    go_ret
    exact ⟨rfl, Below.refl _ _⟩
  have hcap_zs : zs.length ≤ 17592186044416 := by omega
  have hlow_zs : zs.length ≤ 1048576 := by omega
  have hcap_ps : ps.length ≤ 17592186044416 := by omega
  have hlow_ps : ps.length ≤ 1048576 := by omega
  have HS := hide (fun A_zs c_zs A_ps c_ps w (h_zs : Ints w w.heap.size A_zs zs.length zs) (h_ps : Ints w w.heap.size A_ps ps.length ps) => specIsSettledPlan_any A_zs zs.length c_zs zs m A_ps ps.length c_ps ps w h_zs h_ps hcap_zs hcap_ps)
  have HI := hide (fun A_zs c_zs A_ps c_ps w (h_zs : Ints w w.heap.size A_zs zs.length zs) (h_ps : Ints w w.heap.size A_ps ps.length ps) => IsSettledPlan_any A_zs zs.length c_zs zs m A_ps ps.length c_ps ps w h_zs h_ps hcap_zs hcap_ps)
  go_enter Try.func4, Try.ntmps4
  go_wp2_with fail
  refine (toIntS_any _ _ _ _ _ (hr_zs.more (by omega)) hcap_zs).mono ?_
  rintro e w1 ⟨ga_zs, ha1, hz1, rfl, hrow1, hb1⟩
  have q1 := hb1
  have s1 := hb1.size
  have t1 := q1.size
  have r_zs_1 := hr_zs.below hb1 (by omega)
  have r_ps_1 := hr_ps.below hb1 (by omega)
  have Xa_zs_1 := Own.of_row hrow1 ha1 (by unfold maxLen; omega)
  go_wp2_with fail
  refine (toIntS_any _ _ _ _ _ (r_ps_1.more (by omega)) hcap_ps).mono ?_
  rintro e w2 ⟨ga_ps, ha2, hz2, rfl, hrow2, hb2⟩
  have q2 := below_next q1 hb2
  have s2 := hb2.size
  have t2 := q2.size
  have r_zs_2 := r_zs_1.below hb2 (by omega)
  have r_ps_2 := r_ps_1.below hb2 (by omega)
  have Xa_zs_2 := Xa_zs_1.below hb2
  clear q1 r_zs_1 r_ps_1 Xa_zs_1
  have Xa_ps_2 := Own.of_row hrow2 ha2 (by unfold maxLen; omega)
  go_wp2_with fail
  refine (HS.out _ _ _ _ _ Xa_zs_2.ints Xa_ps_2.ints).mono ?_
  rintro e w3 ⟨rfl, hb3⟩
  have q3 := below_next q2 hb3
  have s3 := hb3.size
  have t3 := q3.size
  have r_zs_3 := r_zs_2.below hb3 (by omega)
  have r_ps_3 := r_ps_2.below hb3 (by omega)
  have Xa_zs_3 := Xa_zs_2.below hb3
  have Xa_ps_3 := Xa_ps_2.below hb3
  clear q2 r_zs_2 r_ps_2 Xa_zs_2 Xa_ps_2
  clear Xa_zs_3 Xa_ps_3
  go_wp2_with fail
  refine (toIntS_any _ _ _ _ _ (r_zs_3.more (by omega)) hcap_zs).mono ?_
  rintro e w4 ⟨gb_zs, ha4, hz4, rfl, hrow4, hb4⟩
  have q4 := below_next q3 hb4
  have s4 := hb4.size
  have t4 := q4.size
  have r_zs_4 := r_zs_3.below hb4 (by omega)
  have r_ps_4 := r_ps_3.below hb4 (by omega)
  clear q3 r_zs_3 r_ps_3
  have Xb_zs_4 := Own.of_row hrow4 ha4 (by unfold maxLen; omega)
  go_wp2_with fail
  refine (toIntS_any _ _ _ _ _ (r_ps_4.more (by omega)) hcap_ps).mono ?_
  rintro e w5 ⟨gb_ps, ha5, hz5, rfl, hrow5, hb5⟩
  have q5 := below_next q4 hb5
  have s5 := hb5.size
  have t5 := q5.size
  have r_zs_5 := r_zs_4.below hb5 (by omega)
  have r_ps_5 := r_ps_4.below hb5 (by omega)
  have Xb_zs_5 := Xb_zs_4.below hb5
  clear q4 r_zs_4 r_ps_4 Xb_zs_4
  have Xb_ps_5 := Own.of_row hrow5 ha5 (by unfold maxLen; omega)
  go_wp2_with fail
  refine (HI.out _ _ _ _ _ Xb_zs_5.ints Xb_ps_5.ints).mono ?_
  rintro e w6 ⟨rfl, hb6⟩
  have q6 := below_next q5 hb6
  have s6 := hb6.size
  have t6 := q6.size
  have r_zs_6 := r_zs_5.below hb6 (by omega)
  have r_ps_6 := r_ps_5.below hb6 (by omega)
  have Xb_zs_6 := Xb_zs_5.below hb6
  have Xb_ps_6 := Xb_ps_5.below hb6
  clear q5 r_zs_5 r_ps_5 Xb_zs_5 Xb_ps_5
  go_wp2_with fail
  refine (toIntS_any _ _ _ _ _ (r_zs_6.more (by omega)) hcap_zs).mono ?_
  rintro e w7 ⟨gc_zs, _, hz7, rfl, hrow7, hb7⟩
  have q7 := below_next q6 hb7
  have s7 := hb7.size
  have t7 := q7.size
  have r_zs_7 := r_zs_6.below hb7 (by omega)
  have r_ps_7 := r_ps_6.below hb7 (by omega)
  have Xb_zs_7 := Xb_zs_6.below hb7
  have Xb_ps_7 := Xb_ps_6.below hb7
  clear q6 r_zs_6 r_ps_6 Xb_zs_6 Xb_ps_6
  go_wp2_with fail
  refine (eqIntS_same _ _ _ _ _ _ _ _ _ Xb_zs_7.ints (hrow7.ints hz7) (Nat.le_refl _) (Nat.le_refl _) hcap_zs).mono ?_
  rintro e w8 ⟨rfl, hb8⟩
  have q8 := below_next q7 hb8
  have s8 := hb8.size
  have t8 := q8.size
  have r_zs_8 := r_zs_7.below hb8 (by omega)
  have r_ps_8 := r_ps_7.below hb8 (by omega)
  have Xb_zs_8 := Xb_zs_7.below hb8
  have Xb_ps_8 := Xb_ps_7.below hb8
  clear q7 r_zs_7 r_ps_7 Xb_zs_7 Xb_ps_7
  go_wp2_with fail
  refine (toIntS_any _ _ _ _ _ (r_ps_8.more (by omega)) hcap_ps).mono ?_
  rintro e w9 ⟨gc_ps, _, hz9, rfl, hrow9, hb9⟩
  have q9 := below_next q8 hb9
  have s9 := hb9.size
  have t9 := q9.size
  have r_zs_9 := r_zs_8.below hb9 (by omega)
  have r_ps_9 := r_ps_8.below hb9 (by omega)
  have Xb_zs_9 := Xb_zs_8.below hb9
  have Xb_ps_9 := Xb_ps_8.below hb9
  clear q8 r_zs_8 r_ps_8 Xb_zs_8 Xb_ps_8
  go_wp2_with fail
  refine (eqIntS_same _ _ _ _ _ _ _ _ _ Xb_ps_9.ints (hrow9.ints hz9) (Nat.le_refl _) (Nat.le_refl _) hcap_ps).mono ?_
  rintro e w10 ⟨rfl, hb10⟩
  have q10 := below_next q9 hb10
  have s10 := hb10.size
  have t10 := q10.size
  have r_zs_10 := r_zs_9.below hb10 (by omega)
  have r_ps_10 := r_ps_9.below hb10 (by omega)
  have Xb_zs_10 := Xb_zs_9.below hb10
  have Xb_ps_10 := Xb_ps_9.below hb10
  clear q9 r_zs_9 r_ps_9 Xb_zs_9 Xb_ps_9
  go_wp2_with fail
  go_ret
  exact ⟨rfl, q10⟩
end Go.Proofs.Ytloiaininfhfiaa
