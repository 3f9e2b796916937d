
/-
  THE TABLE OF TrailingZeros, out of the rows' condition.
-/
import Derived.Test.YtmknencbjhcehaaDoorRows
import Derived.Test.YtmknencbjhcehaaDoorTz
import Derived.MakeChecks
import Derived.LaidLaws
import Derived.Lib.LaidTab
import Derived.Stop.LaidErr
namespace Go.Proofs.YtmknencbjhcehaaDoor
open Go.RowKit Go.Deep

/-- What the rows list. -/
def laidL : List (String × DataW Unit) := [("math/bits.deBruijn32tab", Rows.laid_math_bits_deBruijn32tab), ("math/bits.deBruijn64tab", Rows.laid_math_bits_deBruijn64tab)]
theorem fact_of_laid {W : World} (h : laidMetH Tryd.prog laidL W) : Tab W := by
  rw [MakeChecks.laidMetH_plain _ _ _ (by kernel_rfl)] at h
  have h2 : laidMet Tryd.prog [("math/bits.deBruijn64tab", Lib.tabData .u8 (Lib.deBruijn64tab.map (fun (n : Nat) => (n : Int))))] W := h.tail
  have hT := Lib.tabIs_of_head (by kernel_rfl : Tryd.prog.globalNamed "math/bits.deBruijn64tab" = some 1) (by kernel_rfl) Tryd.underlying55 Tryd.underlying5 (by kernel_rfl) (by kernel_rfl) h2
  intro j hj
  rw [hT.cell (by kernel_rfl) j (by simpa using hj)]
  simp [List.getD, hj]
end Go.Proofs.YtmknencbjhcehaaDoor
