
/-
  JOBS, MACHINES, PLANS AND LOADS, BOTH WAYS: AreJobs, areJobsOn, IsLoadPlan, LoadsOf, loadsOf; ldGood, ldAsked, ldPlan, ldBoth, ldLoads.
-/
import Derived.Test.YtaplnbjljgeakaaGood
import Derived.Test.YtaplnbjljgeakaaLaws0
import Derived.Test.YtaplnbjljgeakaaFlows
import Derived.Test.YtaplnbjljgeakaaLdP
namespace Go.Proofs.Ytaplnbjljgeakaa
open Go.RowKit Go.Deep

/-- The program's AreJobs. -/
theorem AreJobs_any (A : Option Addr) (n c B : Nat) (zs : List Int) (w : World) (hr : Ints w B A n zs) (hn : n ≤ 17592186044416) :
    Calls Try.prog 13 #[.slice A n c] w fun e w' => e = .returned (.bool (jgood zs)) ∧ w = w' := by
  have hlen := hr.len
  by_cases h1 : 1 ≤ n
  · by_cases h2 : n ≤ 9
    · have Hg := hide (jgood_in (zs := zs) (by omega))
      have Hw := hide (areWithin_any A n c B zs 1 1000)
      go_enter Try.func13, Try.ntmps13
      go_wp2_with (go_at_call 18; refine (Hw.out _ hr hn).mono ?_; rintro e w' ⟨rfl, rfl⟩)
      go_ret
      exact ⟨by rw [Hg.out]; rfl, rfl⟩
    · have Hg := hide (jgood_out (zs := zs) (by omega))
      go_enter Try.func13, Try.ntmps13
      go_wp2_with fail
      go_ret
      exact ⟨by rw [Hg.out]; rfl, rfl⟩
  · have Hg := hide (jgood_out (zs := zs) (by omega))
    go_enter Try.func13, Try.ntmps13
    go_wp2_with fail
    go_ret
    exact ⟨by rw [Hg.out]; rfl, rfl⟩

/-- The model's ldGood. -/
theorem ldGood_any (A : Option Addr) (n c B : Nat) (zs : List Int) (w : World) (hr : Ints w B A n zs) (hn : n ≤ 17592186044416) :
    Calls Try.prog 8 #[.slice A n c] w fun e w' => e = .returned (.bool (jgood zs)) ∧ w = w' := by
  have hlen := hr.len
  by_cases h1 : 1 ≤ n ∧ n ≤ 9
  · have Hg := hide (jgood_in (zs := zs) (by omega))
    have hd : decide ((1 : Int) ≤ (n : Int) ∧ (n : Int) ≤ 9) = true := by simp; omega
    go_enter Try.func8, Try.ntmps8
    go_wp2_with fail
    refine (l1In_any _ _ _ _).mono ?_; rintro e w' ⟨rfl, rfl⟩; rw [hd]
    go_wp2_with fail
    refine (l1All_any _ _ _ _ _ _ _ _ hr hn).mono ?_; rintro e w' ⟨rfl, rfl⟩
    go_wp2_with fail
    go_ret
    exact ⟨by rw [Hg.out]; rfl, rfl⟩
  · have Hg := hide (jgood_out (zs := zs) (by omega))
    have hd : decide ((1 : Int) ≤ (n : Int) ∧ (n : Int) ≤ 9) = false := by simp; omega
    go_enter Try.func8, Try.ntmps8
    go_wp2_with fail
    refine (l1In_any _ _ _ _).mono ?_; rintro e w' ⟨rfl, rfl⟩; rw [hd]
    go_wp2_with fail
    go_ret
    exact ⟨by rw [Hg.out]; rfl, rfl⟩

end Go.Proofs.Ytaplnbjljgeakaa
