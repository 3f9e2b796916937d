
/-
  SETTLED PLANS, THE PROGRAM's WAY: SettlePlan, a label and jumps. (Printed by bmset.py.)
-/
import Derived.Test.YtloiaininfhfiaaBmL
import Derived.ScopeJumps
import Derived.WalkMore
namespace Go.Proofs.Ytloiaininfhfiaa
open Go.RowKit Go.Deep
set_option linter.unusedVariables false

set_option maxRecDepth 100000 in
set_option maxHeartbeats 2000000 in
/-- The program's SettlePlan. -/
theorem SettlePlan_any (A : Option Addr) (n c : Nat) (zs : List Int) (m : Int) (A' : Option Addr) (n' c' : Nat) (ps : List Int) (w : World) (hr : Ints w w.heap.size A n zs) (hs : Ints w w.heap.size A' n' ps)
    (hn : n ≤ 17592186044416) (hn' : n' ≤ 17592186044416) :
    Calls Try.prog 13 #[.slice A n c, .int .i64 m, .slice A' n' c'] w (MadeI (setlR zs m ps) (setlN zs m ps) (jboth zs m ps) w) := by
  obtain rfl := hr.len
  obtain rfl := hs.len
  cases hg : jboth zs m ps
  · have H1 := hide (setl_no hg)
    go_enter Try.func13, Try.ntmps13
    go_wp2_with fail
    refine wp_scope_jumps 0 (fun _ _ => False) (fun _ _ => 0) rfl ?_ ?_
    · go_wp2_with fail
      refine (IsLoadPlan_any _ _ _ _ _ _ _ _ _ _ _ _ hr hs hn hn').mono ?_; rintro e w' ⟨rfl, rfl⟩; rw [hg]
      go_wp2_with fail
      simp only [Exit.jump]
      go_ret3
      rw [H1.out.1, H1.out.2]
      exact madeI_none (Below.refl _ _)
    · intro a w h
      exact h.elim
  · obtain ⟨hm1, hm2⟩ := jboth_m hg
    obtain ⟨M, rfl⟩ := Int.eq_ofNat_of_zero_le (show 0 ≤ m by omega)
    have H1 := hide (setl_yes hg)
    rw [show ((M : Int).toNat) = M from rfl] at H1
    have hl := (jfit_of (jboth_of hg).2).1
    have hgd := jgood_of (jask_of (jboth_of hg).1).1
    have hp1 : 1 ≤ ps.length := by omega
    have hp9 : ps.length ≤ 9 := by omega
    have HW0 := hide (Way.start hg)
    have HR := hide hr
    -- a pass from the label on
    have hpass : ∀ (p : List Int) (k g cg : Nat) (wr : World), Way zs ps M p k → Own wr w.heap.size 3 (.slice (some ⟨g, 0, none⟩) ps.length cg) p → Below w.heap.size w wr → w.heap.size ≤ g →
        Calls Try.prog 8 #[.slice A zs.length c, .int .i64 (M : Int), .slice (some ⟨g, 0, none⟩) ps.length cg] wr fun e w' => e = .returned (.tuple #[.int .i64 (bestJ zs M p), .int .i64 (bestM zs M p), .bool (bestOk zs M p)]) ∧ Below wr.heap.size wr w' := by
      intro p k g cg wr hway hown hb hgg
      have hI := hown.ints
      rw [hway.2.1] at hI
      exact BestMove_any A zs.length c zs M (some ⟨g, 0, none⟩) ps.length cg p wr (HR.out.next hb) hI hn (by omega)
    have HP := hide hpass
    clear hl hgd hpass
    go_enter Try.func13, Try.ntmps13
    go_wp2_with fail
    refine wp_scope_jumps 0 (fun a' w' => ∃ (p : List Int) (k g cg : Nat), (∃ u3 u4 u5 u6 u7 u8 u9 u10 u13 u14 u15 u16 u17 u18 u19 u20 u21 u22 u23 u24 u25 u26 u27 u28 u29 u30 u31 u32 u33 u34 u35 u36 u37 u38 u39 u40 u41 u42 u43 u44 : Value, a' = { tmps := #[.slice A zs.length c, .int .i64 (M : Int), .slice A' ps.length c', u3, u4, u5, u6, u7, u8, u9, u10, .slice (some ⟨g, 0, none⟩) ps.length cg, .int .i64 (k : Int), u13, u14, u15, u16, u17, u18, u19, u20, u21, u22, u23, u24, u25, u26, u27, u28, u29, u30, u31, u32, u33, u34, u35, u36, u37, u38, u39, u40, u41, u42, u43, u44], defers := [] }) ∧ Way zs ps M p k ∧ Own w' w.heap.size 3 (.slice (some ⟨g, 0, none⟩) ps.length cg) p ∧ Below w.heap.size w w' ∧ w.heap.size ≤ g ∧ ps.length ≤ cg ∧ cg ≤ maxLen)
      (fun a' _ => 9002 - (intOf (a'.tmps.getD 12 undef)).toNat) rfl ?_ ?_
    · go_wp2_with fail
      refine (IsLoadPlan_any _ _ _ _ _ _ _ _ _ _ _ _ hr hs hn hn').mono ?_; rintro e w' ⟨rfl, rfl⟩; rw [hg]
      clear hr
      go_wp2_with fail
      refine (Clone_any _ _ _ _ _ _ hs (Nat.le_refl _) (by omega) (by omega)).mono ?_
      rintro e w1 ⟨g, cg, rfl, hg1, hg2, hcg1, hcg2, hown, hb1⟩
      clear hs
      have HO1 := hide hown
      have HB1 := hide hb1
      have HPP := hide (HP.out ps 0 g cg w1 HW0.out hown hb1 hg1)
      clear hown hb1
      rcases bmA_cases HW0.out.1 with hq | ⟨q, hq, _, hq1, hq2, hq3, hq4, hq5⟩
      · have HST := hide (HW0.out.stop hq)
        have H0 := hide (show bestOk zs (M : Int) ps = false from by rw [bestOk_yes HW0.out.1, show ((M : Int).toNat) = M from rfl, hq]; rfl)
        rw [H0.out] at HPP
        clear hq
        go_wp2_with fail
        try go_step3
        go_wp2_with fail
        refine HPP.out.mono ?_; rintro e w2 ⟨rfl, hb2⟩
        go_wp2_with fail
        simp only [Exit.jump]
        go_ret3
        have hO := HO1.out.below hb2
        have hB := HB1.out.trans (hb2.mono HB1.out.size)
        rw [H1.out.1, H1.out.2, HST.out]
        exact ⟨some ⟨g, 0, none⟩, cg, rfl, hcg1, hcg2, hO, hB⟩
      · have HST := hide (HW0.out.step hq hq5)
        have H0 := hide (show bestOk zs (M : Int) ps = true from by rw [bestOk_yes HW0.out.1, show ((M : Int).toNat) = M from rfl, hq]; simp)
        have H2 := hide (bestJ_yes H0.out)
        rw [show ((M : Int).toNat) = M from rfl, hq3, hq4] at H2
        rw [H0.out, H2.out.1, H2.out.2] at HPP
        clear hq hq3 hq4 hq5
        have HV := hide (show mvd ps M q = ps.set (q / M) ((q % M : Nat) : Int) from rfl)
        generalize hi : q / M = i at *
        generalize hj : q % M = j at *
        clear hi hj
        go_wp2_with fail
        try go_step3
        go_wp2_with fail
        refine HPP.out.mono ?_; rintro e w2 ⟨rfl, hb2⟩
        have hO := HO1.out.below hb2
        have hB := HB1.out.trans (hb2.mono HB1.out.size)
        have hO' := hO
        unfold Own at hO'
        have hold := World.ownsRow.cellAt hO' i (by omega)
        rw [List.getElem?_map, List.getElem?_eq_getElem hq1, Option.map_some] at hold
        have hfz := World.ownsRow.frozenAt hO' i
        have HS := hide (Own.stored hO rfl i (j : Int))
        have HBB := hide hB
        clear hO' hO hb2 hB
        go_wp2_with fail
        try go_step3
        refine ⟨rfl, mvd ps M q, 1, g, cg, ⟨_, _, _, _, _, _, _, _, _, _, _, _, _, _, _, _, _, _, _, _, _, _, _, _, _, _, _, _, _, _, _, _, _, _, _, _, _, _, _, _, rfl⟩, HST.out, by rw [HV.out]; exact HS.out, HBB.out.setCell hg1 _, hg1, hcg1, hcg2⟩
    · rintro a' wr ⟨p, k, g, cg, ⟨u3, u4, u5, u6, u7, u8, u9, u10, u13, u14, u15, u16, u17, u18, u19, u20, u21, u22, u23, u24, u25, u26, u27, u28, u29, u30, u31, u32, u33, u34, u35, u36, u37, u38, u39, u40, u41, u42, u43, u44, rfl⟩, hway, hown, hb, hg1, hcg1, hcg2⟩
      have hfew := hway.few
      have hpl := hway.2.1
      have HWY := hide hway
      have HPL := hide hpl
      have HPP := hide (HP.out p k g cg wr hway hown hb hg1)
      have HOW := hide hown
      have HB := hide hb
      rcases bmA_cases hway.1 with hq | ⟨q, hq, _, hq1, hq2, hq3, hq4, hq5⟩
      · have HST := hide (hway.stop hq)
        have H0 := hide (show bestOk zs (M : Int) p = false from by rw [bestOk_yes hway.1, show ((M : Int).toNat) = M from rfl, hq]; rfl)
        rw [H0.out] at HPP
        clear hq hway hpl hown hb
        go_wp2_with fail
        refine HPP.out.mono ?_; rintro e w2 ⟨rfl, hb2⟩
        go_wp2_with fail
        simp only [Exit.jump]
        go_ret3
        have hO := HOW.out.below hb2
        have hB := HB.out.trans (hb2.mono HB.out.size)
        rw [H1.out.1, H1.out.2, HST.out]
        exact ⟨some ⟨g, 0, none⟩, cg, by rw [HPL.out]; rfl, by rw [HPL.out]; exact hcg1, hcg2, by rw [HPL.out]; exact hO, hB⟩
      · have HST := hide (hway.step hq hq5)
        have H0 := hide (show bestOk zs (M : Int) p = true from by rw [bestOk_yes hway.1, show ((M : Int).toNat) = M from rfl, hq]; simp)
        have H2 := hide (bestJ_yes H0.out)
        rw [show ((M : Int).toNat) = M from rfl, hq3, hq4] at H2
        rw [H0.out, H2.out.1, H2.out.2] at HPP
        have hq1' : q / M < ps.length := by omega
        clear hq hway hq3 hq4 hq5 hpl hown hb
        have HV := hide (show mvd p M q = p.set (q / M) ((q % M : Nat) : Int) from rfl)
        generalize hi : q / M = i at *
        generalize hj : q % M = j at *
        clear hi hj
        go_wp2_with fail
        refine HPP.out.mono ?_; rintro e w2 ⟨rfl, hb2⟩
        have hO := HOW.out.below hb2
        have hB := HB.out.trans (hb2.mono HB.out.size)
        have hO' := hO
        unfold Own at hO'
        rw [HPL.out] at hO'
        have hold := World.ownsRow.cellAt hO' i (by omega)
        rw [List.getElem?_map, List.getElem?_eq_getElem hq1, Option.map_some] at hold
        have hfz := World.ownsRow.frozenAt hO' i
        have HS := hide (Own.stored hO HPL.out i (j : Int))
        have HBB := hide hB
        clear hO' hO hb2 hB
        go_wp2_with fail
        try go_step3
        refine ⟨rfl, ⟨mvd p M q, k + 1, g, cg, ⟨_, _, _, _, _, _, _, _, _, _, _, _, _, _, _, _, _, _, _, _, _, _, _, _, _, _, _, _, _, _, _, _, _, _, _, _, _, _, _, _, rfl⟩, HST.out, by rw [HV.out]; exact HS.out, HBB.out.setCell hg1 _, hg1, hcg1, hcg2⟩, ?_⟩
        simp [intOf]
        omega
end Go.Proofs.Ytloiaininfhfiaa
