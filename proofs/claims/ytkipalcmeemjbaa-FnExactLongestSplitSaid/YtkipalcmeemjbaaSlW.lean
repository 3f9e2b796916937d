
/-
  VALUES OF HEAPS, the program's way: leastNotIn, the closure of splitValues, toldOf, splitValues.
-/
import Derived.Test.YtkipalcmeemjbaaSlV
import Derived.Test.YtkipalcmeemjbaaBpA
namespace Go.Proofs.Ytkipalcmeemjbaa
open Go.RowKit Go.Deep
set_option linter.unusedVariables false

/-- What is told of both parts, as numbers to be added digit by digit. -/
def xrs (ps : List Bp) : List Int := ps.map fun d => xr d.x0 d.x1
theorem xrs_get (ps : List Bp) (k : Nat) (h : k < ps.length) : (xrs ps).getD k 0 = xr ps[k].x0 ps[k].x1 := by simp [xrs, List.getD, h]
theorem xrs_length (ps : List Bp) : (xrs ps).length = ps.length := by simp [xrs]

end Go.Proofs.Ytkipalcmeemjbaa
