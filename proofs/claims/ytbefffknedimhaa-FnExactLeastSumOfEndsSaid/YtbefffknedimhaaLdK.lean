
/-
  PLANS WITH THE LONGEST FIRST, BOTH WAYS: PlanLongestFirst.
-/
import Derived.Test.YtbefffknedimhaaLdJ
import Derived.Test.YtbefffknedimhaaSrt
namespace Go.Proofs.Ytbefffknedimhaa
open Go.RowKit Go.Deep
set_option linter.unusedVariables false

/-- The model's PlanLongestFirst. -/
theorem specPlanLongestFirst_any (A : Option Addr) (n c : Nat) (zs : List Int) (m : Int) (w : World) (hr : Ints w w.heap.size A n zs) (hn : n ≤ 17592186044416) :
    Calls Try.prog 6 #[.slice A n c, .int .i64 m] w (MadeR (planR true zs m) (jask zs m) w) := by
  obtain rfl := hr.len
  cases hg : jask zs m
  · have H1 := hide (planR_no true hg)
    go_enter Try.func6, Try.ntmps6
    go_wp2_with fail
    refine (ldAsked_any _ _ _ _ _ _ _ hr hn).mono ?_; rintro e w' ⟨rfl, rfl⟩; rw [hg]
    go_wp2_with fail
    go_ret2
    rw [H1.out]
    exact madeR_none (Below.refl _ _)
  · have H1 := hide (planR_yes true hg)
    obtain ⟨hj, hm1, hm2⟩ := jask_of hg
    obtain ⟨M, rfl⟩ := Int.eq_ofNat_of_zero_le (show 0 ≤ m by omega)
    have hle := (jgood_of hj).2.1
    have HJ := hide hj
    have HOF := hide (ord_of true zs)
    have HOR := hide (ldOrder_any true A zs.length c w.heap.size zs w hr (Nat.le_refl _) (by omega))
    clear hj
    go_enter Try.func6, Try.ntmps6
    go_wp2_with fail
    refine (ldAsked_any _ _ _ _ _ _ _ hr hn).mono ?_; rintro e w' ⟨rfl, rfl⟩; rw [hg]
    go_wp2_with fail
    refine HOR.out.mono ?_
    rintro e w1 ⟨v, rfl, hown, hb1⟩
    obtain ⟨A', c', rfl, _, _⟩ := hown.shape
    have hr1 := hr.next hb1
    have HI := hide hown.ints
    have HB1 := hide hb1
    clear hown hb1
    go_wp2_with fail
    refine (ldGive_any _ _ _ _ _ _ _ _ _ _ _ _ hr1 HI.out (Nat.le_refl _) (Nat.le_refl _) HJ.out (by omega) (by omega) HOF.out).mono ?_
    rintro e w2 hM
    obtain ⟨g, cg, he, _⟩ := id hM
    subst he
    have HM := hide hM
    clear hM
    go_wp2_with fail
    go_ret2
    rw [H1.out]
    exact madeR_of_own HB1.out HM.out

/-- The program's PlanLongestFirst. -/
theorem PlanLongestFirst_any (A : Option Addr) (n c : Nat) (zs : List Int) (m : Int) (w : World) (hr : Ints w w.heap.size A n zs) (hn : n ≤ 17592186044416) :
    Calls Try.prog 8 #[.slice A n c, .int .i64 m] w (MadeR (planR true zs m) (jask zs m) w) := by
  obtain rfl := hr.len
  cases hg : jask zs m
  · have H1 := hide (planR_no true hg)
    go_enter Try.func8, Try.ntmps8
    go_wp2_with fail
    refine (areJobsOn_any _ _ _ _ _ _ _ hr hn).mono ?_; rintro e w' ⟨rfl, rfl⟩; rw [hg]
    go_wp2_with fail
    go_ret2
    rw [H1.out]
    exact madeR_none (Below.refl _ _)
  · have H1 := hide (planR_yes true hg)
    obtain ⟨hj, hm1, hm2⟩ := jask_of hg
    obtain ⟨M, rfl⟩ := Int.eq_ofNat_of_zero_le (show 0 ≤ m by omega)
    have hle := (jgood_of hj).2.1
    have HJ := hide hj
    have HOF := hide (ord_of true zs)
    clear hj
    go_enter Try.func8, Try.ntmps8
    go_wp2_with fail
    refine (areJobsOn_any _ _ _ _ _ _ _ hr hn).mono ?_; rintro e w' ⟨rfl, rfl⟩; rw [hg]
    go_wp2_with fail
    refine (longestFirst_any _ _ _ _ _ _ hr (Nat.le_refl _) HJ.out).mono ?_
    rintro e w1 ⟨gi, ci, rfl, _, _, hI, hb1⟩
    have hr1 := hr.next hb1
    have HI := hide hI
    have HB1 := hide hb1
    clear hI hb1
    go_wp2_with fail
    refine (givenOut_any _ _ _ _ _ _ _ _ _ _ _ _ hr1 HI.out (Nat.le_refl _) (Nat.le_refl _) HJ.out (by omega) (by omega) HOF.out).mono ?_
    rintro e w2 hM
    obtain ⟨g, cg, he, _⟩ := id hM
    subst he
    have HM := hide hM
    clear hM
    go_wp2_with fail
    go_ret2
    rw [H1.out]
    exact madeR_of_own HB1.out HM.out
end Go.Proofs.Ytbefffknedimhaa
