
/-
  PLANS IN ORDER, BOTH WAYS: PlanInOrder.
-/
import Derived.Test.YtfnkgjbljkhlgaaOrd
import Derived.Test.YtfnkgjbljkhlgaaLdI
import Derived.Test.YtfnkgjbljkhlgaaFlows
namespace Go.Proofs.Ytfnkgjbljkhlgaa
open Go.RowKit Go.Deep
set_option linter.unusedVariables false

/-- The plan in some order; none where it is not asked. -/
def planR (b : Bool) (zs : List Int) (m : Int) : List Int := if jask zs m then giveP zs (ordA b zs) m.toNat else []
theorem planR_yes (b : Bool) {zs : List Int} {m : Int} (h : jask zs m = true) : planR b zs m = giveP zs (ordA b zs) m.toNat := by simp [planR, h]
theorem planR_no (b : Bool) {zs : List Int} {m : Int} (h : jask zs m = false) : planR b zs m = [] := by simp [planR, h]
theorem planR_short (b : Bool) (zs : List Int) (m : Int) (h : zs.length ≤ 1048576) : (planR b zs m).length ≤ 1048576 := by
  unfold planR; split
  · rw [giveP_length]; exact h
  · simp
theorem ord_of (b : Bool) (zs : List Int) : OrdOf zs.length (ordA b zs) := by
  refine ⟨by rw [ordA_length]; exact Nat.le_refl _, fun k h => ?_⟩
  rw [ordA_length] at h
  have := ordS_get b zs zs.length k h
  rw [← getD_at]
  exact this
theorem madeR_of_own {zs : List Int} {w w1 w' : World} {v : Value} (hb1 : Below w.heap.size w w1) (h : Made1 zs w1 (.returned v) w') : MadeR zs true w (.returned (.tuple #[v, .bool true])) w' := by
  obtain ⟨g, c, he, h1, h2, h3, h4, h5, h6⟩ := h
  injection he with he
  subst he
  exact ⟨_, c, rfl, h3, h4, h5.less hb1.size, below_next hb1 h6⟩

/-- The model's PlanInOrder. -/
theorem specPlanInOrder_any (A : Option Addr) (n c : Nat) (zs : List Int) (m : Int) (w : World) (hr : Ints w w.heap.size A n zs) (hn : n ≤ 17592186044416) :
    Calls Try.prog 4 #[.slice A n c, .int .i64 m] w (MadeR (planR false zs m) (jask zs m) w) := by
  obtain rfl := hr.len
  cases hg : jask zs m
  · have H1 := hide (planR_no false hg)
    go_enter Try.func4, Try.ntmps4
    go_wp2_with fail
    refine (ldAsked_any _ _ _ _ _ _ _ hr hn).mono ?_; rintro e w' ⟨rfl, rfl⟩; rw [hg]
    go_wp2_with fail
    go_ret2
    rw [H1.out]
    exact madeR_none (Below.refl _ _)
  · have H1 := hide (planR_yes false hg)
    obtain ⟨hj, hm1, hm2⟩ := jask_of hg
    obtain ⟨M, rfl⟩ := Int.eq_ofNat_of_zero_le (show 0 ≤ m by omega)
    have hle := (jgood_of hj).2.1
    have HJ := hide hj
    have HOF := hide (ord_of false zs)
    have HOR := hide (ldOrder_any false A zs.length c w.heap.size zs w hr (Nat.le_refl _) (by omega))
    clear hj
    go_enter Try.func4, Try.ntmps4
    go_wp2_with fail
    refine (ldAsked_any _ _ _ _ _ _ _ hr hn).mono ?_; rintro e w' ⟨rfl, rfl⟩; rw [hg]
    go_wp2_with fail
    refine HOR.out.mono ?_
    rintro e w1 ⟨v, rfl, hown, hb1⟩
    obtain ⟨A', c', rfl, _, _⟩ := hown.shape
    have hr1 := hr.next hb1
    have HI := hide hown.ints
    have HB1 := hide hb1
    clear hown hb1
    go_wp2_with fail
    refine (ldGive_any _ _ _ _ _ _ _ _ _ _ _ _ hr1 HI.out (Nat.le_refl _) (Nat.le_refl _) HJ.out (by omega) (by omega) HOF.out).mono ?_
    rintro e w2 hM
    obtain ⟨g, cg, he, _⟩ := id hM
    subst he
    have HM := hide hM
    clear hM
    go_wp2_with fail
    go_ret2
    rw [H1.out]
    exact madeR_of_own HB1.out HM.out

/-- The program's PlanInOrder. -/
theorem PlanInOrder_any (A : Option Addr) (n c : Nat) (zs : List Int) (m : Int) (w : World) (hr : Ints w w.heap.size A n zs) (hn : n ≤ 17592186044416) :
    Calls Try.prog 6 #[.slice A n c, .int .i64 m] w (MadeR (planR false zs m) (jask zs m) w) := by
  obtain rfl := hr.len
  cases hg : jask zs m
  · have H1 := hide (planR_no false hg)
    go_enter Try.func6, Try.ntmps6
    go_wp2_with fail
    refine (areJobsOn_any _ _ _ _ _ _ _ hr hn).mono ?_; rintro e w' ⟨rfl, rfl⟩; rw [hg]
    go_wp2_with fail
    go_ret2
    rw [H1.out]
    exact madeR_none (Below.refl _ _)
  · have H1 := hide (planR_yes false hg)
    obtain ⟨hj, hm1, hm2⟩ := jask_of hg
    obtain ⟨M, rfl⟩ := Int.eq_ofNat_of_zero_le (show 0 ≤ m by omega)
    have hle := (jgood_of hj).2.1
    have HJ := hide hj
    have HOF := hide (show OrdOf zs.length (rng zs.length) from ordS_false zs zs.length ▸ ord_of false zs)
    have HE := hide (show ordA false zs = rng zs.length from ordS_false zs _)
    clear hj
    go_enter Try.func6, Try.ntmps6
    go_wp2_with fail
    refine (areJobsOn_any _ _ _ _ _ _ _ hr hn).mono ?_; rintro e w' ⟨rfl, rfl⟩; rw [hg]
    go_wp2_with fail
    refine (indicesOf_m _ _ _ _ (by omega)).mono ?_
    rintro e w1 ⟨gi, ci, rfl, _, _, _, _, hI, hb1⟩
    have hr1 := hr.next hb1
    have HI := hide hI
    have HB1 := hide hb1
    clear hI hb1
    go_wp2_with fail
    refine (givenOut_any _ _ _ _ _ _ _ _ _ _ _ _ hr1 HI.out (Nat.le_refl _) (Nat.le_refl _) HJ.out (by omega) (by omega) HOF.out).mono ?_
    rintro e w2 hM
    obtain ⟨g, cg, he, _⟩ := id hM
    subst he
    have HM := hide hM
    clear hM
    go_wp2_with fail
    go_ret2
    rw [H1.out, HE.out]
    exact madeR_of_own HB1.out HM.out
end Go.Proofs.Ytfnkgjbljkhlgaa
