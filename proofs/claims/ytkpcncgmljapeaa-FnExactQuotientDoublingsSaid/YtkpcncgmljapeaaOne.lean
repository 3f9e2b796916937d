
/-
  ONE AMONG SO MANY: the program's isOneAmong.
-/
import Derived.Test.YtkpcncgmljapeaaBase
namespace Go.Proofs.Ytkpcncgmljapeaa
open Go.RowKit Go.Deep

/-- One among n. -/
def isOne (n p : Int) : Bool := decide (0 ≤ p ∧ p < n)
theorem isOne_yes {n p : Int} (h : 0 ≤ p ∧ p < n) : isOne n p = true := decide_eq_true h
theorem isOne_no {n p : Int} (h : ¬ (0 ≤ p ∧ p < n)) : isOne n p = false := decide_eq_false h

end Go.Proofs.Ytkpcncgmljapeaa
