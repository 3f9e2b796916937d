
/-
  A NUMBER IN A LIST, BOTH WAYS: the model's l1Has, slices.Index, slices.Contains.
-/
import Derived.Test.YtkipalcmeemjbaaBase
namespace Go.Proofs.Ytkipalcmeemjbaa
open Go.RowKit Go.Deep
set_option linter.unusedVariables false

def inL (zs : List Int) (x : Int) : Bool := decide (x ∈ zs)
theorem inL_yes {zs : List Int} {x : Int} (h : x ∈ zs) : inL zs x = true := decide_eq_true h
theorem inL_no {zs : List Int} {x : Int} (h : x ∉ zs) : inL zs x = false := decide_eq_false h
theorem not_in {zs : List Int} {x : Int} (h : ∀ (j : Nat) (_ : j < zs.length), zs[j] ≠ x) : x ∉ zs := fun hx => by
  obtain ⟨j, hj, e⟩ := List.getElem_of_mem hx
  exact h j hj e

end Go.Proofs.Ytkipalcmeemjbaa
