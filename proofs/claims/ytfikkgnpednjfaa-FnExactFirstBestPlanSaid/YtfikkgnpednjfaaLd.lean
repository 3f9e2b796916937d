
/-
  JOBS, MACHINES, PLANS AND LOADS, BOTH WAYS: AreJobs, areJobsOn, IsLoadPlan, LoadsOf, loadsOf; ldGood, ldAsked, ldPlan, ldBoth, ldLoads.
-/
import Derived.Test.YtfikkgnpednjfaaGood
import Derived.Test.YtfikkgnpednjfaaLaws0
import Derived.Test.YtfikkgnpednjfaaFlows
import Derived.Test.YtfikkgnpednjfaaLdP
namespace Go.Proofs.Ytfikkgnpednjfaa
open Go.RowKit Go.Deep

/-- The program's AreJobs. -/
theorem AreJobs_any (A : Option Addr) (n c B : Nat) (zs : List Int) (w : World) (hr : Ints w B A n zs) (hn : n ≤ 17592186044416) :
    Calls Try.prog 31 #[.slice A n c] w fun e w' => e = .returned (.bool (jgood zs)) ∧ w = w' := by
  have hlen := hr.len
  by_cases h1 : 1 ≤ n
  · by_cases h2 : n ≤ 9
    · have Hg := hide (jgood_in (zs := zs) (by omega))
      have Hw := hide (areWithin_any A n c B zs 1 1000)
      go_enter Try.func31, Try.ntmps31
      go_wp2_with (go_at_call 33; refine (Hw.out _ hr hn).mono ?_; rintro e w' ⟨rfl, rfl⟩)
      go_ret
      exact ⟨by rw [Hg.out]; rfl, rfl⟩
    · have Hg := hide (jgood_out (zs := zs) (by omega))
      go_enter Try.func31, Try.ntmps31
      go_wp2_with fail
      go_ret
      exact ⟨by rw [Hg.out]; rfl, rfl⟩
  · have Hg := hide (jgood_out (zs := zs) (by omega))
    go_enter Try.func31, Try.ntmps31
    go_wp2_with fail
    go_ret
    exact ⟨by rw [Hg.out]; rfl, rfl⟩

/-- The model's ldGood. -/
theorem ldGood_any (A : Option Addr) (n c B : Nat) (zs : List Int) (w : World) (hr : Ints w B A n zs) (hn : n ≤ 17592186044416) :
    Calls Try.prog 19 #[.slice A n c] w fun e w' => e = .returned (.bool (jgood zs)) ∧ w = w' := by
  have hlen := hr.len
  by_cases h1 : 1 ≤ n ∧ n ≤ 9
  · have Hg := hide (jgood_in (zs := zs) (by omega))
    have hd : decide ((1 : Int) ≤ (n : Int) ∧ (n : Int) ≤ 9) = true := by simp; omega
    go_enter Try.func19, Try.ntmps19
    go_wp2_with fail
    refine (l1In_any _ _ _ _).mono ?_; rintro e w' ⟨rfl, rfl⟩; rw [hd]
    go_wp2_with fail
    refine (l1All_any _ _ _ _ _ _ _ _ hr hn).mono ?_; rintro e w' ⟨rfl, rfl⟩
    go_wp2_with fail
    go_ret
    exact ⟨by rw [Hg.out]; rfl, rfl⟩
  · have Hg := hide (jgood_out (zs := zs) (by omega))
    have hd : decide ((1 : Int) ≤ (n : Int) ∧ (n : Int) ≤ 9) = false := by simp; omega
    go_enter Try.func19, Try.ntmps19
    go_wp2_with fail
    refine (l1In_any _ _ _ _).mono ?_; rintro e w' ⟨rfl, rfl⟩; rw [hd]
    go_wp2_with fail
    go_ret
    exact ⟨by rw [Hg.out]; rfl, rfl⟩

/-- The model's ldAsked. -/
theorem ldAsked_any (A : Option Addr) (n c B : Nat) (zs : List Int) (m : Int) (w : World) (hr : Ints w B A n zs) (hn : n ≤ 17592186044416) :
    Calls Try.prog 16 #[.slice A n c, .int .i64 m] w fun e w' => e = .returned (.bool (jask zs m)) ∧ w = w' := by
  cases hg : jgood zs
  · have H1 := hide (jask_no (m := m) hg)
    go_enter Try.func16, Try.ntmps16
    go_wp2_with fail
    refine (ldGood_any _ _ _ _ _ _ hr hn).mono ?_; rintro e w' ⟨rfl, rfl⟩; rw [hg]
    go_wp2_with fail
    go_ret
    exact ⟨by rw [H1.out]; rfl, rfl⟩
  · have H1 := hide (jask_yes (m := m) hg)
    go_enter Try.func16, Try.ntmps16
    go_wp2_with fail
    refine (ldGood_any _ _ _ _ _ _ hr hn).mono ?_; rintro e w' ⟨rfl, rfl⟩; rw [hg]
    go_wp2_with fail
    refine (l1In_any _ _ _ _).mono ?_; rintro e w' ⟨rfl, rfl⟩; rw [← H1.out]
    go_wp2_with fail
    go_ret
    exact ⟨rfl, rfl⟩

/-- The program's areJobsOn. -/
theorem areJobsOn_any (A : Option Addr) (n c B : Nat) (zs : List Int) (m : Int) (w : World) (hr : Ints w B A n zs) (hn : n ≤ 17592186044416) :
    Calls Try.prog 23 #[.slice A n c, .int .i64 m] w fun e w' => e = .returned (.bool (jask zs m)) ∧ w = w' := by
  cases hg : jgood zs
  · have H1 := hide (jask_no (m := m) hg)
    go_enter Try.func23, Try.ntmps23
    go_wp2_with fail
    refine (AreJobs_any _ _ _ _ _ _ hr hn).mono ?_; rintro e w' ⟨rfl, rfl⟩; rw [hg]
    go_wp2_with fail
    go_ret
    exact ⟨by rw [H1.out]; rfl, rfl⟩
  · have H1 := hide (jask_yes (m := m) hg)
    by_cases h1 : 1 ≤ m
    · by_cases h2 : m ≤ 4
      all_goals
        go_enter Try.func23, Try.ntmps23
        go_wp2_with fail
        refine (AreJobs_any _ _ _ _ _ _ hr hn).mono ?_; rintro e w' ⟨rfl, rfl⟩; rw [hg]
        go_wp2_with fail
        go_ret
        exact ⟨by rw [H1.out]; exact ret_bool (by simp; omega), rfl⟩
    · go_enter Try.func23, Try.ntmps23
      go_wp2_with fail
      refine (AreJobs_any _ _ _ _ _ _ hr hn).mono ?_; rintro e w' ⟨rfl, rfl⟩; rw [hg]
      go_wp2_with fail
      go_ret
      exact ⟨by rw [H1.out]; exact ret_bool (by simp; omega), rfl⟩

end Go.Proofs.Ytfikkgnpednjfaa
