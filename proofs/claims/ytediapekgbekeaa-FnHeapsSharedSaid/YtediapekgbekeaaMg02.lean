import Derived.Test.YtediapekgbekeaaMg01

/-
  FnHeapsShared: the code's tails.
-/
namespace Go.Proofs.Ytediapekgbekeaa
open Go.RowKit Go.Deep
set_option linter.unusedVariables false

/-- The code behind the first k statements. -/
def tailN : Nat → Code → Code
  | 0, c => c
  | k + 1, .seq _ y => tailN k y
  | _ + 1, c => c
noncomputable def bodyHS : Code := (Try.f3.body).getD .skip
end Go.Proofs.Ytediapekgbekeaa

/-
  FnHeapsShared: the code within 'if ok'.
-/
namespace Go.Proofs.Ytediapekgbekeaa
open Go.RowKit Go.Deep
set_option linter.unusedVariables false

/-- What an 'if' does where its test is true. -/
def thenOf : Code → Code
  | .seq _ (.cond _ x _) => x
  | c => c
noncomputable def innerHS : Code := thenOf (match tailN 22 bodyHS with | .seq x _ => x | c => c)
end Go.Proofs.Ytediapekgbekeaa
