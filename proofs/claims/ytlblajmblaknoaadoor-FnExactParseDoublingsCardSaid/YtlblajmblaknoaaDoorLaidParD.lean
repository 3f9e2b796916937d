
/-
  WHAT THE READING OF DOUBLINGS TAKES OUT OF THE ROW's CONDITION: the world's shape alone.
-/
import Derived.Test.YtlblajmblaknoaaDoorRows
import Derived.Test.YtlblajmblaknoaaDoorShaped
import Derived.MakeChecks
import Derived.LaidLaws
import Derived.Lay
import Derived.Below
namespace Go.Proofs.YtlblajmblaknoaaDoor.Dp
open Go

/-- What the row lists. -/
def laidL : List (String × DataW Unit) := [("unicode/utf8.acceptRanges", Rows.laid_unicode_utf8_acceptRanges), ("unicode/utf8.first", Rows.laid_unicode_utf8_first)]
theorem fact_of_laid {W : World} (h : laidMetH Tryd.prog laidL W) (hs : W.ShapedOpen Tryd.prog) : W.ShapedOpen Tryd.prog := hs
end Go.Proofs.YtlblajmblaknoaaDoor.Dp
