
/-
  THE TABLES OF strconv AND OF TrailingZeros, out of the rows' condition.
-/
import Derived.Test.YtedjcdjeejbipaaDoorRows
import Derived.Test.YtedjcdjeejbipaaDoordTextH
import Derived.Test.YtedjcdjeejbipaaDoorTz
import Derived.MakeChecks
import Derived.LaidLaws
import Derived.Lib.LaidTab
import Derived.Stop.LaidErr
namespace Go.Proofs.YtedjcdjeejbipaaDoor
open Go.RowKit Go.Deep

/-- What the rows of texts list. -/
def laidL : List (String × DataW Unit) := [("math/bits.deBruijn32tab", Rows.laid_math_bits_deBruijn32tab), ("math/bits.deBruijn64tab", Rows.laid_math_bits_deBruijn64tab), ("internal/strconv.uint64pow10", Rows.laid_internal_strconv_uint64pow10)]
theorem fact_of_laid {W : World} (h : laidMetH Tryd.prog laidL W) : TabP W ∧ Tab W := by
  rw [MakeChecks.laidMetH_plain _ _ _ (by kernel_rfl)] at h
  have h2 : laidMet Tryd.prog [("internal/strconv.uint64pow10", Lib.tabData .u64 Lib.pow10Tab)] W := h.tail.tail
  refine ⟨Lib.tabIs_of_head pow10_g (by kernel_rfl) Tryd.underlying99 Tryd.underlying78 (by kernel_rfl) (by kernel_rfl) h2, ?_⟩
  have h3 : laidMet Tryd.prog [("math/bits.deBruijn64tab", Lib.tabData .u8 (Lib.deBruijn64tab.map (fun (n : Nat) => (n : Int)))), ("internal/strconv.uint64pow10", Lib.tabData .u64 Lib.pow10Tab)] W := h.tail
  have hT := Lib.tabIs_of_head (by kernel_rfl : Tryd.prog.globalNamed "math/bits.deBruijn64tab" = some 2) (by kernel_rfl) Tryd.underlying94 Tryd.underlying5 (by kernel_rfl) (by kernel_rfl) h3
  intro j hj
  rw [hT.cell (by kernel_rfl) j (by simpa using hj)]
  simp [List.getD, hj]
end Go.Proofs.YtedjcdjeejbipaaDoor
