
/-
  TWO AMONG SO MANY: the program's areTwoAmong.
-/
import Derived.Test.YtkpcncgmljapeaaOne
namespace Go.Proofs.Ytkpcncgmljapeaa
open Go.RowKit Go.Deep

/-- Two different ones among n. -/
def two (n f t : Int) : Bool := decide (0 ≤ f ∧ f < n ∧ 0 ≤ t ∧ t < n ∧ f ≠ t)
theorem two_yes {n f t : Int} (h : 0 ≤ f ∧ f < n ∧ 0 ≤ t ∧ t < n ∧ f ≠ t) : two n f t = true := decide_eq_true h
theorem two_no {n f t : Int} (h : ¬ (0 ≤ f ∧ f < n ∧ 0 ≤ t ∧ t < n ∧ f ≠ t)) : two n f t = false := decide_eq_false h
theorem two_bd {n f t : Int} (h : two n f t = true) : 0 ≤ f ∧ f < n ∧ 0 ≤ t ∧ t < n ∧ f ≠ t := of_decide_eq_true h

end Go.Proofs.Ytkpcncgmljapeaa
