
/-
  THE WALKS OF EXACT LAWS, the given frame left out: for all numbers the law returns true and writes nothing that was there. (Printed by lawgen.py.)
-/
import Derived.Test.YtloiaininfhfiaaLaws0
import Derived.Test.YtloiaininfhfiaaMark
import Derived.Test.YtloiaininfhfiaaBmT
namespace Go.Proofs.Ytloiaininfhfiaa
open Go.RowKit Go.Deep

set_option maxRecDepth 100000 in
set_option maxHeartbeats 2000000 in
theorem lawSettlePlan (A_zs : Option Addr) (n_zs c_zs : Nat) (zs : List Int) (m : Int) (A_ps : Option Addr) (n_ps c_ps : Nat) (ps : List Int) (w : World) (hr_zs : Ints w w.heap.size A_zs n_zs zs) (hr_ps : Ints w w.heap.size A_ps n_ps ps) :
    Calls Try.prog 5 #[.slice A_zs n_zs c_zs, .int .i64 m, .slice A_ps n_ps c_ps] w fun e w' => e = .returned (.bool true) ∧ Below w.heap.size w w' := by
  obtain rfl := hr_zs.len
  obtain rfl := hr_ps.len
  by_cases hbig_zs : 1048576 < zs.length
  · go_enter Try.func5, Try.ntmps5
    go_wp2_with fail
    go_ret
    exact ⟨rfl, Below.refl _ _⟩
  by_cases hbig_ps : 1048576 < ps.length
  · go_enter Try.func5, Try.ntmps5
    go_wp2_with fail
    go_ret
    exact ⟨rfl, Below.refl _ _⟩
  have hcap_zs : zs.length ≤ 17592186044416 := by omega
  have hlow_zs : zs.length ≤ 1048576 := by omega
  have hcap_ps : ps.length ≤ 17592186044416 := by omega
  have hlow_ps : ps.length ≤ 1048576 := by omega
  have HS := hide (fun A_zs c_zs A_ps c_ps w (h_zs : Ints w w.heap.size A_zs zs.length zs) (h_ps : Ints w w.heap.size A_ps ps.length ps) => specSettlePlan_any A_zs zs.length c_zs zs m A_ps ps.length c_ps ps w h_zs h_ps hcap_zs hcap_ps)
  have HI := hide (fun A_zs c_zs A_ps c_ps w (h_zs : Ints w w.heap.size A_zs zs.length zs) (h_ps : Ints w w.heap.size A_ps ps.length ps) => SettlePlan_any A_zs zs.length c_zs zs m A_ps ps.length c_ps ps w h_zs h_ps hcap_zs hcap_ps)
  have hF : (setlR zs m ps).length ≤ 1048576 := setlR_short zs m ps
  generalize setlR zs m ps = fs at *
  generalize setlN zs m ps = v0 at *
  generalize jboth zs m ps = v1 at *
  go_enter Try.func5, Try.ntmps5
  go_wp2_with fail
  refine (toIntS_any _ _ _ _ _ (hr_zs.more (by omega)) hcap_zs).mono ?_
  rintro e w1 ⟨ga_zs, ha1, hz1, rfl, hrow1, hb1⟩
  have q1 := hb1
  have s1 := hb1.size
  have t1 := q1.size
  have r_zs_1 := hr_zs.below hb1 (by omega)
  have r_ps_1 := hr_ps.below hb1 (by omega)
  have Xa_zs_1 := Own.of_row hrow1 ha1 (by unfold maxLen; omega)
  go_wp2_with fail
  refine (toIntS_any _ _ _ _ _ (r_ps_1.more (by omega)) hcap_ps).mono ?_
  rintro e w2 ⟨ga_ps, ha2, hz2, rfl, hrow2, hb2⟩
  have q2 := below_next q1 hb2
  have s2 := hb2.size
  have t2 := q2.size
  have r_zs_2 := r_zs_1.below hb2 (by omega)
  have r_ps_2 := r_ps_1.below hb2 (by omega)
  have Xa_zs_2 := Xa_zs_1.below hb2
  clear q1 r_zs_1 r_ps_1 Xa_zs_1
  have Xa_ps_2 := Own.of_row hrow2 ha2 (by unfold maxLen; omega)
  go_wp2_with fail
  refine (HS.out _ _ _ _ _ Xa_zs_2.ints Xa_ps_2.ints).mono ?_
  rintro e w3 ⟨Aw, cw, rfl, hw1, hw2, hownw, hb3⟩
  have q3 := below_next q2 hb3
  have s3 := hb3.size
  have t3 := q3.size
  have r_zs_3 := r_zs_2.below hb3 (by omega)
  have r_ps_3 := r_ps_2.below hb3 (by omega)
  have Xa_zs_3 := Xa_zs_2.below hb3
  have Xa_ps_3 := Xa_ps_2.below hb3
  clear q2 r_zs_2 r_ps_2 Xa_zs_2 Xa_ps_2
  clear Xa_zs_3 Xa_ps_3
  have W_3 := hownw.ints
  clear hownw
  go_wp2_with fail
  refine (toIntS_any _ _ _ _ _ (r_zs_3.more (by omega)) hcap_zs).mono ?_
  rintro e w4 ⟨gb_zs, ha4, hz4, rfl, hrow4, hb4⟩
  have q4 := below_next q3 hb4
  have s4 := hb4.size
  have t4 := q4.size
  have r_zs_4 := r_zs_3.below hb4 (by omega)
  have r_ps_4 := r_ps_3.below hb4 (by omega)
  have W_4 := W_3.below hb4 (by omega)
  clear q3 r_zs_3 r_ps_3 W_3
  have Xb_zs_4 := Own.of_row hrow4 ha4 (by unfold maxLen; omega)
  go_wp2_with fail
  refine (toIntS_any _ _ _ _ _ (r_ps_4.more (by omega)) hcap_ps).mono ?_
  rintro e w5 ⟨gb_ps, ha5, hz5, rfl, hrow5, hb5⟩
  have q5 := below_next q4 hb5
  have s5 := hb5.size
  have t5 := q5.size
  have r_zs_5 := r_zs_4.below hb5 (by omega)
  have r_ps_5 := r_ps_4.below hb5 (by omega)
  have W_5 := W_4.below hb5 (by omega)
  have Xb_zs_5 := Xb_zs_4.below hb5
  clear q4 r_zs_4 r_ps_4 W_4 Xb_zs_4
  have Xb_ps_5 := Own.of_row hrow5 ha5 (by unfold maxLen; omega)
  go_wp2_with fail
  refine (HI.out _ _ _ _ _ Xb_zs_5.ints Xb_ps_5.ints).mono ?_
  rintro e w6 ⟨Ag, cg, rfl, hg1, hg2, hG6, hb6⟩
  have q6 := below_next q5 hb6
  have s6 := hb6.size
  have t6 := q6.size
  have r_zs_6 := r_zs_5.below hb6 (by omega)
  have r_ps_6 := r_ps_5.below hb6 (by omega)
  have W_6 := W_5.below hb6 (by omega)
  have Xb_zs_6 := Xb_zs_5.below hb6
  have Xb_ps_6 := Xb_ps_5.below hb6
  clear q5 r_zs_5 r_ps_5 W_5 Xb_zs_5 Xb_ps_5
  go_wp2_with fail
  refine (eqIntS_same _ _ _ _ _ _ _ _ _ hG6.ints W_6 (Nat.le_refl _) (by omega) (by omega)).mono ?_
  rintro e w7 ⟨rfl, hb7⟩
  have q7 := below_next q6 hb7
  have s7 := hb7.size
  have t7 := q7.size
  have r_zs_7 := r_zs_6.below hb7 (by omega)
  have r_ps_7 := r_ps_6.below hb7 (by omega)
  have W_7 := W_6.below hb7 (by omega)
  have Xb_zs_7 := Xb_zs_6.below hb7
  have Xb_ps_7 := Xb_ps_6.below hb7
  have G_7 := hG6.below hb7
  clear q6 r_zs_6 r_ps_6 W_6 Xb_zs_6 Xb_ps_6 hG6
  go_wp2_with fail
  refine (toIntS_any _ _ _ _ _ (r_zs_7.more (by omega)) hcap_zs).mono ?_
  rintro e w8 ⟨gc_zs, _, hz8, rfl, hrow8, hb8⟩
  have q8 := below_next q7 hb8
  have s8 := hb8.size
  have t8 := q8.size
  have r_zs_8 := r_zs_7.below hb8 (by omega)
  have r_ps_8 := r_ps_7.below hb8 (by omega)
  have W_8 := W_7.below hb8 (by omega)
  have Xb_zs_8 := Xb_zs_7.below hb8
  have Xb_ps_8 := Xb_ps_7.below hb8
  have G_8 := G_7.below hb8
  clear q7 r_zs_7 r_ps_7 W_7 Xb_zs_7 Xb_ps_7 G_7
  go_wp2_with fail
  refine (eqIntS_same _ _ _ _ _ _ _ _ _ Xb_zs_8.ints (hrow8.ints hz8) (Nat.le_refl _) (Nat.le_refl _) hcap_zs).mono ?_
  rintro e w9 ⟨rfl, hb9⟩
  have q9 := below_next q8 hb9
  have s9 := hb9.size
  have t9 := q9.size
  have r_zs_9 := r_zs_8.below hb9 (by omega)
  have r_ps_9 := r_ps_8.below hb9 (by omega)
  have W_9 := W_8.below hb9 (by omega)
  have Xb_zs_9 := Xb_zs_8.below hb9
  have Xb_ps_9 := Xb_ps_8.below hb9
  have G_9 := G_8.below hb9
  clear q8 r_zs_8 r_ps_8 W_8 Xb_zs_8 Xb_ps_8 G_8
  go_wp2_with fail
  refine (toIntS_any _ _ _ _ _ (r_ps_9.more (by omega)) hcap_ps).mono ?_
  rintro e w10 ⟨gc_ps, _, hz10, rfl, hrow10, hb10⟩
  have q10 := below_next q9 hb10
  have s10 := hb10.size
  have t10 := q10.size
  have r_zs_10 := r_zs_9.below hb10 (by omega)
  have r_ps_10 := r_ps_9.below hb10 (by omega)
  have W_10 := W_9.below hb10 (by omega)
  have Xb_zs_10 := Xb_zs_9.below hb10
  have Xb_ps_10 := Xb_ps_9.below hb10
  have G_10 := G_9.below hb10
  clear q9 r_zs_9 r_ps_9 W_9 Xb_zs_9 Xb_ps_9 G_9
  go_wp2_with fail
  refine (eqIntS_same _ _ _ _ _ _ _ _ _ Xb_ps_10.ints (hrow10.ints hz10) (Nat.le_refl _) (Nat.le_refl _) hcap_ps).mono ?_
  rintro e w11 ⟨rfl, hb11⟩
  have q11 := below_next q10 hb11
  have s11 := hb11.size
  have t11 := q11.size
  have r_zs_11 := r_zs_10.below hb11 (by omega)
  have r_ps_11 := r_ps_10.below hb11 (by omega)
  have W_11 := W_10.below hb11 (by omega)
  have Xb_zs_11 := Xb_zs_10.below hb11
  have Xb_ps_11 := Xb_ps_10.below hb11
  have G_11 := G_10.below hb11
  clear q10 r_zs_10 r_ps_10 W_10 Xb_zs_10 Xb_ps_10 G_10
  go_wp2_with fail
  refine (markIntS_any _ _ _ _ _ _ _ Xb_zs_11 rfl (by omega) (by omega) (by omega)).mono ?_
  rintro e w12 ⟨rfl, _, hb12, hoth12⟩
  have q12 := q11.trans (hb12.mono (by omega))
  have s12 := hb12.size
  have t12 := q12.size
  have r_zs_12 := r_zs_11.below hb12 (by omega)
  have r_ps_12 := r_ps_11.below hb12 (by omega)
  have W_12 := W_11.below hb12 (by omega)
  have Xb_ps_12 : Own w12 w4.heap.size 3 (.slice (some ⟨gb_ps, 0, none⟩) ps.length ps.length) ps := Xb_ps_11.keep fun h hh hl => hoth12 h hl (fun ad hA e => by injection hA with hA; subst hA; simp at e; omega)
  have G_12 : Own w12 w5.heap.size 3 (.slice Ag fs.length cg) fs := G_11.keep fun h hh hl => hoth12 h hl (fun ad hA e => by injection hA with hA; subst hA; simp at e; omega)
  clear q11 r_zs_11 r_ps_11 W_11 Xb_zs_11 Xb_ps_11 G_11
  go_wp2_with fail
  refine (markIntS_any _ _ _ _ _ _ _ Xb_ps_12 rfl (by omega) (by omega) (by omega)).mono ?_
  rintro e w13 ⟨rfl, _, hb13, hoth13⟩
  have q13 := q12.trans (hb13.mono (by omega))
  have s13 := hb13.size
  have t13 := q13.size
  have r_zs_13 := r_zs_12.below hb13 (by omega)
  have r_ps_13 := r_ps_12.below hb13 (by omega)
  have W_13 := W_12.below hb13 (by omega)
  have G_13 : Own w13 w5.heap.size 3 (.slice Ag fs.length cg) fs := G_12.keep fun h hh hl => hoth13 h hl (fun ad hA e => by injection hA with hA; subst hA; simp at e; omega)
  clear q12 r_zs_12 r_ps_12 W_12 Xb_ps_12 G_12
  go_wp2_with fail
  refine (eqIntS_same _ _ _ _ _ _ _ _ _ G_13.ints W_13 (Nat.le_refl _) (by omega) (by omega)).mono ?_
  rintro e w14 ⟨rfl, hb14⟩
  have q14 := below_next q13 hb14
  have s14 := hb14.size
  have t14 := q14.size
  have r_zs_14 := r_zs_13.below hb14 (by omega)
  have r_ps_14 := r_ps_13.below hb14 (by omega)
  have W_14 := W_13.below hb14 (by omega)
  have G_14 := G_13.below hb14
  clear q13 r_zs_13 r_ps_13 W_13 G_13
  go_wp2_with fail
  refine (markIntS_any _ _ _ _ _ _ _ G_14 rfl (by omega) (by omega) (by omega)).mono ?_
  rintro e w15 ⟨rfl, hG15, hb15, _⟩
  have q15 := q14.trans (hb15.mono (by omega))
  have s15 := hb15.size
  have t15 := q15.size
  have r_zs_15 := r_zs_14.below hb15 (by omega)
  have r_ps_15 := r_ps_14.below hb15 (by omega)
  have W_15 := W_14.below hb15 (by omega)
  clear q14 r_zs_14 r_ps_14 W_14
  go_wp2_with fail
  refine (heldIntS_any _ _ _ _ _ _ (by simpa [marks_length] using hG15.ints) (by omega) (by omega) (by omega)).mono ?_
  rintro e w' ⟨rfl, rfl⟩
  go_wp2_with fail
  refine (toIntS_any _ _ _ _ _ (r_zs_15.more (by omega)) hcap_zs).mono ?_
  rintro e w16 ⟨gd_zs, ha16, hz16, rfl, hrow16, hb16⟩
  have q16 := below_next q15 hb16
  have s16 := hb16.size
  have t16 := q16.size
  have r_zs_16 := r_zs_15.below hb16 (by omega)
  have r_ps_16 := r_ps_15.below hb16 (by omega)
  have W_16 := W_15.below hb16 (by omega)
  have G_16 := hG15.below hb16
  clear q15 r_zs_15 r_ps_15 W_15 hG15
  have Xd_zs_16 := Own.of_row hrow16 ha16 (by unfold maxLen; omega)
  go_wp2_with fail
  refine (toIntS_any _ _ _ _ _ (r_ps_16.more (by omega)) hcap_ps).mono ?_
  rintro e w17 ⟨gd_ps, ha17, hz17, rfl, hrow17, hb17⟩
  have q17 := below_next q16 hb17
  have s17 := hb17.size
  have t17 := q17.size
  have r_zs_17 := r_zs_16.below hb17 (by omega)
  have r_ps_17 := r_ps_16.below hb17 (by omega)
  have W_17 := W_16.below hb17 (by omega)
  have G_17 := G_16.below hb17
  have Xd_zs_17 := Xd_zs_16.below hb17
  clear q16 r_zs_16 r_ps_16 W_16 G_16 Xd_zs_16
  have Xd_ps_17 := Own.of_row hrow17 ha17 (by unfold maxLen; omega)
  go_wp2_with fail
  refine (HI.out _ _ _ _ _ Xd_zs_17.ints Xd_ps_17.ints).mono ?_
  rintro e w18 ⟨Ah, ch, rfl, hh1, hh2, hH18, hb18⟩
  have q18 := below_next q17 hb18
  have s18 := hb18.size
  have t18 := q18.size
  have r_zs_18 := r_zs_17.below hb18 (by omega)
  have r_ps_18 := r_ps_17.below hb18 (by omega)
  have W_18 := W_17.below hb18 (by omega)
  have G_18 := G_17.below hb18
  have Xd_zs_18 := Xd_zs_17.below hb18
  have Xd_ps_18 := Xd_ps_17.below hb18
  clear q17 r_zs_17 r_ps_17 W_17 G_17 Xd_zs_17 Xd_ps_17
  clear Xd_zs_18 Xd_ps_18
  clear r_zs_18 r_ps_18
  go_wp2_with fail
  refine (eqIntS_same _ _ _ _ _ _ _ _ _ hH18.ints W_18 (Nat.le_refl _) (by omega) (by omega)).mono ?_
  rintro e w19 ⟨rfl, hb19⟩
  have q19 := below_next q18 hb19
  have s19 := hb19.size
  have t19 := q19.size
  have W_19 := W_18.below hb19 (by omega)
  have G_19 := G_18.below hb19
  have H_19 := hH18.below hb19
  clear q18 W_18 G_18 hH18
  go_wp2_with fail
  refine (heldIntS_any _ _ _ _ _ _ (by simpa [marks_length] using G_19.ints) (by omega) (by omega) (by omega)).mono ?_
  rintro e w' ⟨rfl, rfl⟩
  go_wp2_with fail
  go_ret
  exact ⟨rfl, q19⟩
end Go.Proofs.Ytloiaininfhfiaa
