
/-
  MOVES, THE SECOND PART: eqMoveS, szMoveS.
-/
import Derived.Test.YtieikogjjhjcdaaMove
import Derived.StillTailTactics
namespace Go.Proofs.Ytieikogjjhjcdaa
open Go.RowKit Go.Deep

end Go.Proofs.Ytieikogjjhjcdaa
