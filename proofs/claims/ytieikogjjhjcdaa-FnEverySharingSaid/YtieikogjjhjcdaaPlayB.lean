
/-
  PLAYS OF MOVES, THE MODEL's.
-/
import Derived.Test.YtieikogjjhjcdaaPlay
import Derived.Test.YtieikogjjhjcdaaLaws0
namespace Go.Proofs.Ytieikogjjhjcdaa
open Go.RowKit Go.Deep

end Go.Proofs.Ytieikogjjhjcdaa
