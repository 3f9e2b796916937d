
/-
  BEST MOVES AND SETTLED PLANS, THE MODEL's WAY: BestMove, IsSettledPlan, SettlePlan.
-/
import Derived.Test.YtloiaininfhfiaaBmQ
import Derived.Test.YtloiaininfhfiaaBm
namespace Go.Proofs.Ytloiaininfhfiaa
open Go.RowKit Go.Deep
set_option linter.unusedVariables false

/-- A list beside a number and a bool. -/
def MadeI (zs : List Int) (k : Int) (b : Bool) (w : World) (e : Ending) (w' : World) : Prop :=
  ∃ A c, e = .returned (.tuple #[.slice A zs.length c, .int .i64 k, .bool b]) ∧ zs.length ≤ c ∧ c ≤ maxLen ∧ Own w' w.heap.size 3 (.slice A zs.length c) zs ∧ Below w.heap.size w w'
theorem madeI_none {w w' : World} (h : Below w.heap.size w w') : MadeI [] 0 false w (.returned (.tuple #[.slice none 0 0, .int .i64 0, .bool false])) w' :=
  ⟨none, 0, rfl, Nat.le_refl _, Nat.zero_le _, Own.nil _ _ _, h⟩

/-- The model's BestMove. -/
theorem specBestMove_any (A : Option Addr) (n c : Nat) (zs : List Int) (m : Int) (A' : Option Addr) (n' c' : Nat) (ps : List Int) (w : World) (hr : Ints w w.heap.size A n zs) (hs : Ints w w.heap.size A' n' ps)
    (hn : n ≤ 17592186044416) (hn' : n' ≤ 17592186044416) :
    Calls Try.prog 6 #[.slice A n c, .int .i64 m, .slice A' n' c'] w fun e w' => e = .returned (.tuple #[.int .i64 (bestJ zs m ps), .int .i64 (bestM zs m ps), .bool (bestOk zs m ps)]) ∧ Below w.heap.size w w' := by
  cases hg : jboth zs m ps
  · have H0 := hide (bestOk_no hg)
    have H1 := hide (bestJ_no H0.out)
    go_enter Try.func6, Try.ntmps6
    go_wp2_with fail
    refine (ldBoth_any _ _ _ _ _ _ _ _ _ _ _ _ hr hs hn hn').mono ?_; rintro e w' ⟨rfl, rfl⟩; rw [hg]
    go_wp2_with fail
    go_ret3
    exact ⟨by rw [H1.out.1, H1.out.2, H0.out]; rfl, Below.refl _ _⟩
  · obtain ⟨hm1, hm2⟩ := jboth_m hg
    obtain ⟨M, rfl⟩ := Int.eq_ofNat_of_zero_le (show 0 ≤ m by omega)
    have HM := hide (ldMove_any A n c w.heap.size zs M A' n' c' w.heap.size ps w hr hs (Nat.le_refl _) (Nat.le_refl _) hg)
    have HO := hide (bestOk_yes hg)
    rw [show ((M : Int).toNat) = M from rfl] at HO
    rcases bmA_cases hg with hq | ⟨q, hq, _, hq1, hq2, hq3, hq4, _⟩
    · have H0 := hide (show bestOk zs M ps = false from by rw [HO.out, hq]; rfl)
      have H1 := hide (bestJ_no H0.out)
      rw [hq, jobQ_no, macQ_no] at HM
      clear hq
      go_enter Try.func6, Try.ntmps6
      go_wp2_with fail
      refine (ldBoth_any _ _ _ _ _ _ _ _ _ _ _ _ hr hs hn hn').mono ?_; rintro e w' ⟨rfl, rfl⟩; rw [hg]
      go_wp2_with fail
      refine HM.out.mono ?_; rintro e w1 ⟨rfl, hb1⟩
      go_wp2_with fail
      go_ret3
      exact ⟨by rw [H1.out.1, H1.out.2, H0.out]; rfl, hb1⟩
    · have H0 := hide (show bestOk zs M ps = true from by rw [HO.out, hq]; simp)
      have H1 := hide (bestJ_yes H0.out)
      rw [show ((M : Int).toNat) = M from rfl, hq3, hq4] at H1
      rw [hq3, hq4] at HM
      clear hq hq3 hq4
      go_enter Try.func6, Try.ntmps6
      go_wp2_with fail
      refine (ldBoth_any _ _ _ _ _ _ _ _ _ _ _ _ hr hs hn hn').mono ?_; rintro e w' ⟨rfl, rfl⟩; rw [hg]
      go_wp2_with fail
      refine HM.out.mono ?_; rintro e w1 ⟨rfl, hb1⟩
      go_wp2_with fail
      go_ret3
      exact ⟨by rw [H1.out.1, H1.out.2, H0.out]; rfl, hb1⟩

/-- Is a plan settled? -/
def setlB (zs : List Int) (m : Int) (ps : List Int) : Bool := jboth zs m ps && !bestOk zs m ps

/-- The model's IsSettledPlan. -/
theorem specIsSettledPlan_any (A : Option Addr) (n c : Nat) (zs : List Int) (m : Int) (A' : Option Addr) (n' c' : Nat) (ps : List Int) (w : World) (hr : Ints w w.heap.size A n zs) (hs : Ints w w.heap.size A' n' ps)
    (hn : n ≤ 17592186044416) (hn' : n' ≤ 17592186044416) :
    Calls Try.prog 10 #[.slice A n c, .int .i64 m, .slice A' n' c'] w fun e w' => e = .returned (.tuple #[.bool (setlB zs m ps), .bool (jboth zs m ps)]) ∧ Below w.heap.size w w' := by
  cases hg : jboth zs m ps
  · have H1 := hide (show setlB zs m ps = false from by simp [setlB, hg])
    go_enter Try.func10, Try.ntmps10
    go_wp2_with fail
    refine (ldBoth_any _ _ _ _ _ _ _ _ _ _ _ _ hr hs hn hn').mono ?_; rintro e w' ⟨rfl, rfl⟩; rw [hg]
    go_wp2_with fail
    go_ret2
    exact ⟨by rw [H1.out]; rfl, Below.refl _ _⟩
  · obtain ⟨hm1, hm2⟩ := jboth_m hg
    obtain ⟨M, rfl⟩ := Int.eq_ofNat_of_zero_le (show 0 ≤ m by omega)
    have HM := hide (ldMove_any A n c w.heap.size zs M A' n' c' w.heap.size ps w hr hs (Nat.le_refl _) (Nat.le_refl _) hg)
    have HO := hide (bestOk_yes hg)
    rw [show ((M : Int).toNat) = M from rfl] at HO
    rcases bmA_cases hg with hq | ⟨q, hq, _, hq1, hq2, hq3, hq4, _⟩
    · have H1 := hide (show setlB zs M ps = true from by unfold setlB; rw [hg, HO.out, hq]; rfl)
      rw [hq, jobQ_no, macQ_no] at HM
      clear hq
      go_enter Try.func10, Try.ntmps10
      go_wp2_with fail
      refine (ldBoth_any _ _ _ _ _ _ _ _ _ _ _ _ hr hs hn hn').mono ?_; rintro e w' ⟨rfl, rfl⟩; rw [hg]
      go_wp2_with fail
      refine HM.out.mono ?_; rintro e w1 ⟨rfl, hb1⟩
      go_wp2_with fail
      go_ret2
      exact ⟨by rw [H1.out]; rfl, hb1⟩
    · have H1 := hide (show setlB zs M ps = false from by unfold setlB; rw [hg, HO.out, hq]; simp)
      rw [hq3, hq4] at HM
      clear hq hq3 hq4
      go_enter Try.func10, Try.ntmps10
      go_wp2_with fail
      refine (ldBoth_any _ _ _ _ _ _ _ _ _ _ _ _ hr hs hn hn').mono ?_; rintro e w' ⟨rfl, rfl⟩; rw [hg]
      go_wp2_with fail
      refine HM.out.mono ?_; rintro e w1 ⟨rfl, hb1⟩
      go_wp2_with fail
      go_ret2
      exact ⟨by rw [H1.out]; rfl, hb1⟩

set_option maxRecDepth 100000 in
/-- The model's SettlePlan. -/
theorem specSettlePlan_any (A : Option Addr) (n c : Nat) (zs : List Int) (m : Int) (A' : Option Addr) (n' c' : Nat) (ps : List Int) (w : World) (hr : Ints w w.heap.size A n zs) (hs : Ints w w.heap.size A' n' ps)
    (hn : n ≤ 17592186044416) (hn' : n' ≤ 17592186044416) :
    Calls Try.prog 12 #[.slice A n c, .int .i64 m, .slice A' n' c'] w (MadeI (setlR zs m ps) (setlN zs m ps) (jboth zs m ps) w) := by
  obtain rfl := hr.len
  obtain rfl := hs.len
  cases hg : jboth zs m ps
  · have H1 := hide (setl_no hg)
    go_enter Try.func12, Try.ntmps12
    go_wp2_with fail
    refine (ldBoth_any _ _ _ _ _ _ _ _ _ _ _ _ hr hs hn hn').mono ?_; rintro e w' ⟨rfl, rfl⟩; rw [hg]
    go_wp2_with fail
    go_ret3
    rw [H1.out.1, H1.out.2]
    exact madeI_none (Below.refl _ _)
  · obtain ⟨hm1, hm2⟩ := jboth_m hg
    obtain ⟨M, rfl⟩ := Int.eq_ofNat_of_zero_le (show 0 ≤ m by omega)
    have H1 := hide (setl_yes hg)
    rw [show ((M : Int).toNat) = M from rfl] at H1
    have hl := (jfit_of (jboth_of hg).2).1
    have hgd := jgood_of (jask_of (jboth_of hg).1).1
    have hp1 : 1 ≤ ps.length := by omega
    have hp9 : ps.length ≤ 9 := by omega
    have HW0 := hide (Way.start hg)
    have HR := hide hr
    clear hl hgd
    go_enter Try.func12, Try.ntmps12
    go_wp2_with fail
    refine (ldBoth_any _ _ _ _ _ _ _ _ _ _ _ _ hr hs hn hn').mono ?_; rintro e w' ⟨rfl, rfl⟩; rw [hg]
    clear hr
    go_wp2_with fail
    refine (l1Own_any _ _ _ _ _ _ hs (Nat.le_refl _) (by omega) (by omega)).mono ?_
    rintro e w1 ⟨g, cg, rfl, hg1, hg2, hcg1, hcg2, hown, hb1⟩
    have HO1 := hide hown
    have HB1 := hide hb1
    clear hown hb1 hs
    go_wp2_with fail
    go_loopw [10] (fun kv wr => ∃ (p : List Int) (k : Nat), kv = .int .i64 k ∧ Way zs ps M p k ∧ Own wr w.heap.size 3 (.slice (some ⟨g, 0, none⟩) ps.length cg) p ∧ Below w.heap.size w wr)
      (fun kv _ => 9002 - (intOf kv).toNat)
    case atStart => exact ⟨ps, 0, rfl, HW0.out, HO1.out, HB1.out⟩
    case round =>
      obtain ⟨p, k, rfl, hway, hown, hb⟩ := hrel
      have hfew := hway.few
      have hpl := hway.2.1
      have HWY := hide hway
      have HPL := hide hpl
      have hown2 := hown
      have hints := hown.ints
      rw [hpl] at hints
      have HM := hide (ldMove_any A zs.length c wr.heap.size zs M (some ⟨g, 0, none⟩) ps.length cg wr.heap.size p wr (HR.out.next hb) hints (Nat.le_refl _) (Nat.le_refl _) hway.1)
      have HOW := hide hown
      have HB := hide hb
      rcases bmA_cases hway.1 with hq | ⟨q, hq, _, hq1, hq2, hq3, hq4, hq5⟩
      · have HST := hide (hway.stop hq)
        rw [hq, jobQ_no, macQ_no] at HM
        clear hq hway hpl hown2 hints hown hb
        go_wp2_with fail
        refine HM.out.mono ?_; rintro e w2 ⟨rfl, hb2⟩
        go_wp2_with fail
        go_ret3
        have hO := HOW.out.below hb2
        have hB := HB.out.trans (hb2.mono HB.out.size)
        rw [H1.out.1, H1.out.2, HST.out]
        exact ⟨some ⟨g, 0, none⟩, cg, by rw [HPL.out]; rfl, by rw [HPL.out]; exact hcg1, hcg2, by rw [HPL.out]; exact hO, hB⟩
      · have HST := hide (hway.step hq hq5)
        have hq1' : q / M < ps.length := by omega
        have hq1 : q / M < p.length := hq1
        rw [hq3, hq4] at HM
        clear hq hway hq3 hq4 hq5 hpl hown2 hints hown hb
        have HV := hide (show mvd p M q = p.set (q / M) ((q % M : Nat) : Int) from rfl)
        generalize hi : q / M = i at *
        generalize hj : q % M = j at *
        clear hi hj
        go_wp2_with fail
        refine HM.out.mono ?_; rintro e w2 ⟨rfl, hb2⟩
        have hO := HOW.out.below hb2
        have hB := HB.out.trans (hb2.mono HB.out.size)
        have hO' := hO
        unfold Own at hO'
        rw [HPL.out] at hO'
        have hold := World.ownsRow.cellAt hO' i (by omega)
        rw [List.getElem?_map, List.getElem?_eq_getElem hq1, Option.map_some] at hold
        have hfz := World.ownsRow.frozenAt hO' i
        have HS := hide (Own.stored hO HPL.out i (j : Int))
        have HBB := hide hB
        clear hO' hO hb2 hB
        go_wp2_with fail
        go_roundw
        case rel => exact ⟨mvd p M q, k + 1, by go_num, HST.out, by rw [HV.out]; exact HS.out, HBB.out.setCell hg1 _⟩
        case measure => simp [intOf]; omega
end Go.Proofs.Ytloiaininfhfiaa
