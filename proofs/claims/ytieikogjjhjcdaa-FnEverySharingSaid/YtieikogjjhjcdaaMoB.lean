
/-
  LISTS OF STRUCTS OF 3 NUMBERS (impl.Move), THE SECOND PART: szMoveS, eqMoveS. Printed by structs.py.
-/
import Derived.Test.YtieikogjjhjcdaaMo
import Derived.StillTailTactics
namespace Go.Proofs.Ytieikogjjhjcdaa
open Go.RowKit Go.Deep
set_option linter.unusedVariables false

end Go.Proofs.Ytieikogjjhjcdaa
