
/-
  BEST PLANS, THE PROGRAM's WAY: LeastEnd, CountBestPlans, FirstBestPlan. (Printed by gx.py.)
-/
import Derived.Test.YtfikkgnpednjfaaGw
namespace Go.Proofs.Ytfikkgnpednjfaa
open Go.RowKit Go.Deep
set_option linter.unusedVariables false

/-- The program's LeastEnd. -/
theorem LeastEnd_any (A : Option Addr) (n c : Nat) (zs : List Int) (m : Int) (w : World) (hr : Ints w w.heap.size A n zs) (hn : n ≤ 17592186044416) :
    Calls Try.prog 8 #[.slice A n c, .int .i64 m] w fun e w' => e = .returned (.tuple #[.int .i64 (leN zs m), .bool (jask zs m)]) ∧ Below w.heap.size w w' := by
  cases hg : jask zs m
  · have H1 := hide (best_no hg)
    have HK := hide (bestPlansOf_no A n c zs m w hr hn hg)
    go_enter Try.func8, Try.ntmps8
    go_wp2_with fail
    refine HK.out.mono ?_; rintro e w1 ⟨rfl, hb⟩
    go_wp2_with fail
    go_ret2
    exact ⟨by rw [H1.out.1]; rfl, hb.alloc hb.size _⟩
  · obtain ⟨hj, hm1, hm2⟩ := jask_of hg
    obtain ⟨M, rfl⟩ := Int.eq_ofNat_of_zero_le (show 0 ≤ m by omega)
    have H1 := hide (best_yes hg)
    rw [show ((M : Int).toNat) = M from rfl] at H1
    have HK := hide (bestPlansOf_yes A n c zs M w hr hn hg)
    go_enter Try.func8, Try.ntmps8
    go_wp2_with fail
    refine HK.out.mono ?_
    rintro e w1 ⟨A1, c1, rfl, how, hb⟩
    obtain ⟨A2, c2, he, h1, h2⟩ := how.shape
    injection he with e1 e2 e3
    subst e1; subst e3
    clear e2
    go_wp2_with fail
    go_ret2
    exact ⟨by rw [H1.out.1]; rfl, hb.alloc hb.size _⟩

/-- The program's CountBestPlans. -/
theorem CountBestPlans_any (A : Option Addr) (n c : Nat) (zs : List Int) (m : Int) (w : World) (hr : Ints w w.heap.size A n zs) (hn : n ≤ 17592186044416) :
    Calls Try.prog 15 #[.slice A n c, .int .i64 m] w fun e w' => e = .returned (.tuple #[.int .i64 (cbN zs m), .bool (jask zs m)]) ∧ Below w.heap.size w w' := by
  cases hg : jask zs m
  · have H1 := hide (best_no hg)
    have HK := hide (bestPlansOf_no A n c zs m w hr hn hg)
    go_enter Try.func15, Try.ntmps15
    go_wp2_with fail
    refine HK.out.mono ?_; rintro e w1 ⟨rfl, hb⟩
    go_wp2_with fail
    go_ret2
    exact ⟨by rw [H1.out.2.2]; rfl, hb.alloc hb.size _⟩
  · obtain ⟨hj, hm1, hm2⟩ := jask_of hg
    obtain ⟨M, rfl⟩ := Int.eq_ofNat_of_zero_le (show 0 ≤ m by omega)
    have H1 := hide (best_yes hg)
    rw [show ((M : Int).toNat) = M from rfl] at H1
    have HK := hide (bestPlansOf_yes A n c zs M w hr hn hg)
    go_enter Try.func15, Try.ntmps15
    go_wp2_with fail
    refine HK.out.mono ?_
    rintro e w1 ⟨A1, c1, rfl, how, hb⟩
    obtain ⟨A2, c2, he, h1, h2⟩ := how.shape
    injection he with e1 e2 e3
    subst e1; subst e3
    clear e2
    go_wp2_with fail
    go_ret2
    exact ⟨by rw [H1.out.2.2]; rfl, hb.alloc hb.size _⟩

/-- The program's FirstBestPlan. -/
theorem FirstBestPlan_any (A : Option Addr) (n c : Nat) (zs : List Int) (m : Int) (w : World) (hr : Ints w w.heap.size A n zs) (hn : n ≤ 17592186044416) :
    Calls Try.prog 11 #[.slice A n c, .int .i64 m] w (MadeR (fbR zs m) (jask zs m) w) := by
  cases hg : jask zs m
  · have H1 := hide (best_no hg)
    have HK := hide (bestPlansOf_no A n c zs m w hr hn hg)
    go_enter Try.func11, Try.ntmps11
    go_wp2_with fail
    refine HK.out.mono ?_; rintro e w1 ⟨rfl, hb⟩
    go_wp2_with fail
    go_ret2
    rw [H1.out.2.1]
    exact madeR_none (hb.alloc hb.size _)
  · obtain ⟨hj, hm1, hm2⟩ := jask_of hg
    obtain ⟨M, rfl⟩ := Int.eq_ofNat_of_zero_le (show 0 ≤ m by omega)
    have H1 := hide (best_yes hg)
    rw [show ((M : Int).toNat) = M from rfl] at H1
    have HK := hide (bestPlansOf_yes A n c zs M w hr hn hg)
    go_enter Try.func11, Try.ntmps11
    go_wp2_with fail
    refine HK.out.mono ?_
    rintro e w1 ⟨A1, c1, rfl, how, hb⟩
    obtain ⟨A2, c2, he, h1, h2⟩ := how.shape
    injection he with e1 e2 e3
    subst e1; subst e3
    clear e2
    go_wp2_with fail
    go_ret2
    rw [H1.out.2.1]
    exact ⟨_, _, rfl, h1, h2, how.alloc _, hb.alloc hb.size _⟩
end Go.Proofs.Ytfikkgnpednjfaa
