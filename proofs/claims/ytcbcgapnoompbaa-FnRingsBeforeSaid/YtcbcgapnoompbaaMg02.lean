import Derived.Test.YtcbcgapnoompbaaMg01

/-
  FnRingsBefore: the code's tails.
-/
namespace Go.Proofs.Ytcbcgapnoompbaa
open Go.RowKit Go.Deep
set_option linter.unusedVariables false

/-- The code behind the first k statements. -/
def tailN : Nat → Code → Code
  | 0, c => c
  | k + 1, .seq _ y => tailN k y
  | _ + 1, c => c
noncomputable def bodyRB : Code := (Try.f3.body).getD .skip
end Go.Proofs.Ytcbcgapnoompbaa
