
/-
  MOVES AMONG HEAPS: the program's carry, the model's hpMove.
-/
import Derived.Test.YtieikogjjhjcdaaCost
import Derived.Test.YtieikogjjhjcdaaCarry
import Derived.Test.YtieikogjjhjcdaaPlayP
import Derived.Test.YtieikogjjhjcdaaCopy
import Derived.Test.YtieikogjjhjcdaaMark
import Derived.RegionTactic
namespace Go.Proofs.Ytieikogjjhjcdaa
open Go.RowKit Go.Deep
set_option linter.unusedVariables false

end Go.Proofs.Ytieikogjjhjcdaa
