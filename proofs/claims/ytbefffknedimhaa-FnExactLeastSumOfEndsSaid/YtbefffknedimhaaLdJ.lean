
/-
  PLANS IN ORDER, BOTH WAYS: PlanInOrder.
-/
import Derived.Test.YtbefffknedimhaaOrd
import Derived.Test.YtbefffknedimhaaLdI
import Derived.Test.YtbefffknedimhaaFlows
namespace Go.Proofs.Ytbefffknedimhaa
open Go.RowKit Go.Deep
set_option linter.unusedVariables false

/-- The plan in some order; none where it is not asked. -/
def planR (b : Bool) (zs : List Int) (m : Int) : List Int := if jask zs m then giveP zs (ordA b zs) m.toNat else []
theorem planR_yes (b : Bool) {zs : List Int} {m : Int} (h : jask zs m = true) : planR b zs m = giveP zs (ordA b zs) m.toNat := by simp [planR, h]
theorem planR_no (b : Bool) {zs : List Int} {m : Int} (h : jask zs m = false) : planR b zs m = [] := by simp [planR, h]
theorem planR_short (b : Bool) (zs : List Int) (m : Int) (h : zs.length ≤ 1048576) : (planR b zs m).length ≤ 1048576 := by
  unfold planR; split
  · rw [giveP_length]; exact h
  · simp
theorem ord_of (b : Bool) (zs : List Int) : OrdOf zs.length (ordA b zs) := by
  refine ⟨by rw [ordA_length]; exact Nat.le_refl _, fun k h => ?_⟩
  rw [ordA_length] at h
  have := ordS_get b zs zs.length k h
  rw [← getD_at]
  exact this
theorem madeR_of_own {zs : List Int} {w w1 w' : World} {v : Value} (hb1 : Below w.heap.size w w1) (h : Made1 zs w1 (.returned v) w') : MadeR zs true w (.returned (.tuple #[v, .bool true])) w' := by
  obtain ⟨g, c, he, h1, h2, h3, h4, h5, h6⟩ := h
  injection he with he
  subst he
  exact ⟨_, c, rfl, h3, h4, h5.less hb1.size, below_next hb1 h6⟩

end Go.Proofs.Ytbefffknedimhaa
