
/-
  JOBS, MACHINES, PLANS AND LOADS, BOTH WAYS: AreJobs, areJobsOn, IsLoadPlan, LoadsOf, loadsOf; ldGood, ldAsked, ldPlan, ldBoth, ldLoads.
-/
import Derived.Test.YtloiaininfhfiaaGood
import Derived.Test.YtloiaininfhfiaaLaws0
import Derived.Test.YtloiaininfhfiaaFlows
import Derived.Test.YtloiaininfhfiaaLdP
namespace Go.Proofs.Ytloiaininfhfiaa
open Go.RowKit Go.Deep

/-- The program's AreJobs. -/
theorem AreJobs_any (A : Option Addr) (n c B : Nat) (zs : List Int) (w : World) (hr : Ints w B A n zs) (hn : n ≤ 17592186044416) :
    Calls Try.prog 38 #[.slice A n c] w fun e w' => e = .returned (.bool (jgood zs)) ∧ w = w' := by
  have hlen := hr.len
  by_cases h1 : 1 ≤ n
  · by_cases h2 : n ≤ 9
    · have Hg := hide (jgood_in (zs := zs) (by omega))
      have Hw := hide (areWithin_any A n c B zs 1 1000)
      go_enter Try.func38, Try.ntmps38
      go_wp2_with (go_at_call 32; refine (Hw.out _ hr hn).mono ?_; rintro e w' ⟨rfl, rfl⟩)
      go_ret
      exact ⟨by rw [Hg.out]; rfl, rfl⟩
    · have Hg := hide (jgood_out (zs := zs) (by omega))
      go_enter Try.func38, Try.ntmps38
      go_wp2_with fail
      go_ret
      exact ⟨by rw [Hg.out]; rfl, rfl⟩
  · have Hg := hide (jgood_out (zs := zs) (by omega))
    go_enter Try.func38, Try.ntmps38
    go_wp2_with fail
    go_ret
    exact ⟨by rw [Hg.out]; rfl, rfl⟩

/-- The model's ldGood. -/
theorem ldGood_any (A : Option Addr) (n c B : Nat) (zs : List Int) (w : World) (hr : Ints w B A n zs) (hn : n ≤ 17592186044416) :
    Calls Try.prog 33 #[.slice A n c] w fun e w' => e = .returned (.bool (jgood zs)) ∧ w = w' := by
  have hlen := hr.len
  by_cases h1 : 1 ≤ n ∧ n ≤ 9
  · have Hg := hide (jgood_in (zs := zs) (by omega))
    have hd : decide ((1 : Int) ≤ (n : Int) ∧ (n : Int) ≤ 9) = true := by simp; omega
    go_enter Try.func33, Try.ntmps33
    go_wp2_with fail
    refine (l1In_any _ _ _ _).mono ?_; rintro e w' ⟨rfl, rfl⟩; rw [hd]
    go_wp2_with fail
    refine (l1All_any _ _ _ _ _ _ _ _ hr hn).mono ?_; rintro e w' ⟨rfl, rfl⟩
    go_wp2_with fail
    go_ret
    exact ⟨by rw [Hg.out]; rfl, rfl⟩
  · have Hg := hide (jgood_out (zs := zs) (by omega))
    have hd : decide ((1 : Int) ≤ (n : Int) ∧ (n : Int) ≤ 9) = false := by simp; omega
    go_enter Try.func33, Try.ntmps33
    go_wp2_with fail
    refine (l1In_any _ _ _ _).mono ?_; rintro e w' ⟨rfl, rfl⟩; rw [hd]
    go_wp2_with fail
    go_ret
    exact ⟨by rw [Hg.out]; rfl, rfl⟩

/-- The model's ldAsked. -/
theorem ldAsked_any (A : Option Addr) (n c B : Nat) (zs : List Int) (m : Int) (w : World) (hr : Ints w B A n zs) (hn : n ≤ 17592186044416) :
    Calls Try.prog 27 #[.slice A n c, .int .i64 m] w fun e w' => e = .returned (.bool (jask zs m)) ∧ w = w' := by
  cases hg : jgood zs
  · have H1 := hide (jask_no (m := m) hg)
    go_enter Try.func27, Try.ntmps27
    go_wp2_with fail
    refine (ldGood_any _ _ _ _ _ _ hr hn).mono ?_; rintro e w' ⟨rfl, rfl⟩; rw [hg]
    go_wp2_with fail
    go_ret
    exact ⟨by rw [H1.out]; rfl, rfl⟩
  · have H1 := hide (jask_yes (m := m) hg)
    go_enter Try.func27, Try.ntmps27
    go_wp2_with fail
    refine (ldGood_any _ _ _ _ _ _ hr hn).mono ?_; rintro e w' ⟨rfl, rfl⟩; rw [hg]
    go_wp2_with fail
    refine (l1In_any _ _ _ _).mono ?_; rintro e w' ⟨rfl, rfl⟩; rw [← H1.out]
    go_wp2_with fail
    go_ret
    exact ⟨rfl, rfl⟩

/-- The program's areJobsOn. -/
theorem areJobsOn_any (A : Option Addr) (n c B : Nat) (zs : List Int) (m : Int) (w : World) (hr : Ints w B A n zs) (hn : n ≤ 17592186044416) :
    Calls Try.prog 31 #[.slice A n c, .int .i64 m] w fun e w' => e = .returned (.bool (jask zs m)) ∧ w = w' := by
  cases hg : jgood zs
  · have H1 := hide (jask_no (m := m) hg)
    go_enter Try.func31, Try.ntmps31
    go_wp2_with fail
    refine (AreJobs_any _ _ _ _ _ _ hr hn).mono ?_; rintro e w' ⟨rfl, rfl⟩; rw [hg]
    go_wp2_with fail
    go_ret
    exact ⟨by rw [H1.out]; rfl, rfl⟩
  · have H1 := hide (jask_yes (m := m) hg)
    by_cases h1 : 1 ≤ m
    · by_cases h2 : m ≤ 4
      all_goals
        go_enter Try.func31, Try.ntmps31
        go_wp2_with fail
        refine (AreJobs_any _ _ _ _ _ _ hr hn).mono ?_; rintro e w' ⟨rfl, rfl⟩; rw [hg]
        go_wp2_with fail
        go_ret
        exact ⟨by rw [H1.out]; exact ret_bool (by simp; omega), rfl⟩
    · go_enter Try.func31, Try.ntmps31
      go_wp2_with fail
      refine (AreJobs_any _ _ _ _ _ _ hr hn).mono ?_; rintro e w' ⟨rfl, rfl⟩; rw [hg]
      go_wp2_with fail
      go_ret
      exact ⟨by rw [H1.out]; exact ret_bool (by simp; omega), rfl⟩

/-- The model's ldPlan, of machines that there are. -/
theorem ldPlan_any (A : Option Addr) (n c B : Nat) (zs : List Int) (m : Int) (A' : Option Addr) (n' c' B' : Nat) (ps : List Int) (w : World) (hr : Ints w B A n zs) (hs : Ints w B' A' n' ps)
    (hn : n ≤ 17592186044416) (hn' : n' ≤ 17592186044416) (hm : 1 ≤ m ∧ m ≤ 4) :
    Calls Try.prog 28 #[.slice A n c, .int .i64 m, .slice A' n' c'] w fun e w' => e = .returned (.bool (jfit zs m ps)) ∧ w = w' := by
  obtain rfl := hr.len
  obtain rfl := hs.len
  obtain ⟨hm1, hm2⟩ := hm
  by_cases hl : ps.length = zs.length
  · have H1 := hide (show jfit zs m ps = within 0 (m - 1) ps from by simp [jfit, hl])
    have hd : ((ps.length : Int) == (zs.length : Int)) = true := by simp [hl]
    have HL := hide hl
    clear hl
    go_enter Try.func28, Try.ntmps28
    go_wp2_with fail
    refine (l1All_any _ _ _ _ _ _ _ _ hs hn').mono ?_; rintro e w' ⟨rfl, rfl⟩
    go_wp2_with fail
    go_ret
    exact ⟨by rw [H1.out]; rfl, rfl⟩
  · have H1 := hide (show jfit zs m ps = false from by simp [jfit, hl])
    have hd : ((ps.length : Int) == (zs.length : Int)) = false := by simp; omega
    go_enter Try.func28, Try.ntmps28
    go_wp2_with fail
    go_ret
    exact ⟨by rw [H1.out]; rfl, rfl⟩

/-- The model's ldBoth. -/
theorem ldBoth_any (A : Option Addr) (n c B : Nat) (zs : List Int) (m : Int) (A' : Option Addr) (n' c' B' : Nat) (ps : List Int) (w : World) (hr : Ints w B A n zs) (hs : Ints w B' A' n' ps)
    (hn : n ≤ 17592186044416) (hn' : n' ≤ 17592186044416) :
    Calls Try.prog 16 #[.slice A n c, .int .i64 m, .slice A' n' c'] w fun e w' => e = .returned (.bool (jboth zs m ps)) ∧ w = w' := by
  cases hg : jask zs m
  · have H1 := hide (jboth_no (ps := ps) hg)
    go_enter Try.func16, Try.ntmps16
    go_wp2_with fail
    refine (ldAsked_any _ _ _ _ _ _ _ hr hn).mono ?_; rintro e w' ⟨rfl, rfl⟩; rw [hg]
    go_wp2_with fail
    go_ret
    exact ⟨by rw [H1.out]; rfl, rfl⟩
  · have H1 := hide (jboth_yes (ps := ps) hg)
    have HM := hide (jask_of hg).2
    go_enter Try.func16, Try.ntmps16
    go_wp2_with fail
    refine (ldAsked_any _ _ _ _ _ _ _ hr hn).mono ?_; rintro e w' ⟨rfl, rfl⟩; rw [hg]
    go_wp2_with fail
    refine (ldPlan_any _ _ _ _ _ _ _ _ _ _ _ _ hr hs hn hn' HM.out).mono ?_; rintro e w' ⟨rfl, rfl⟩
    go_wp2_with fail
    go_ret
    exact ⟨by rw [H1.out]; rfl, rfl⟩

/-- The program's IsLoadPlan. -/
theorem IsLoadPlan_any (A : Option Addr) (n c B : Nat) (zs : List Int) (m : Int) (A' : Option Addr) (n' c' B' : Nat) (ps : List Int) (w : World) (hr : Ints w B A n zs) (hs : Ints w B' A' n' ps)
    (hn : n ≤ 17592186044416) (hn' : n' ≤ 17592186044416) :
    Calls Try.prog 25 #[.slice A n c, .int .i64 m, .slice A' n' c'] w fun e w' => e = .returned (.tuple #[.bool (jboth zs m ps), .bool (jask zs m)]) ∧ w = w' := by
  obtain rfl := hr.len
  obtain rfl := hs.len
  cases hg : jask zs m
  · have H1 := hide (jboth_no (ps := ps) hg)
    go_enter Try.func25, Try.ntmps25
    go_wp2_with fail
    refine (areJobsOn_any _ _ _ _ _ _ _ hr hn).mono ?_; rintro e w' ⟨rfl, rfl⟩; rw [hg]
    go_wp2_with fail
    go_ret2
    exact ⟨by rw [H1.out]; rfl, rfl⟩
  · have H2 := hide (jboth_yes (ps := ps) hg)
    obtain ⟨hm1, hm2⟩ := (jask_of hg).2
    by_cases hl : ps.length = zs.length
    · have H1 := hide (show jfit zs m ps = within 0 (m - 1) ps from by simp [jfit, hl])
      have hd : ((ps.length : Int) == (zs.length : Int)) = true := by simp [hl]
      clear hl
      go_enter Try.func25, Try.ntmps25
      go_wp2_with fail
      refine (areJobsOn_any _ _ _ _ _ _ _ hr hn).mono ?_; rintro e w' ⟨rfl, rfl⟩; rw [hg]
      go_wp2_with fail
      refine (areWithin_any _ _ _ _ _ _ _ _ hs hn').mono ?_; rintro e w' ⟨rfl, rfl⟩
      go_wp2_with fail
      go_ret2
      exact ⟨by rw [H2.out, H1.out]; rfl, rfl⟩
    · have H1 := hide (show jfit zs m ps = false from by simp [jfit, hl])
      have hd : ((ps.length : Int) == (zs.length : Int)) = false := by simp; omega
      go_enter Try.func25, Try.ntmps25
      go_wp2_with fail
      refine (areJobsOn_any _ _ _ _ _ _ _ hr hn).mono ?_; rintro e w' ⟨rfl, rfl⟩; rw [hg]
      go_wp2_with fail
      go_ret2
      exact ⟨by rw [H2.out, H1.out]; rfl, rfl⟩
end Go.Proofs.Ytloiaininfhfiaa
