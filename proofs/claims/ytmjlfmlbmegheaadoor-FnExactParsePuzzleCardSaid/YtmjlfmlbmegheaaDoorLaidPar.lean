
/-
  WHAT THE READING OF HEAPS TAKES OUT OF THE ROW's CONDITION: the table of strconv, the two errors.
-/
import Derived.Test.YtmjlfmlbmegheaaDoorRows
import Derived.Test.YtmjlfmlbmegheaaDoorParI
import Derived.Test.YtmjlfmlbmegheaaDoorShaped
import Derived.MakeChecks
import Derived.LaidLaws
import Derived.Lib.LaidTab
import Derived.Stop.LaidErr
import Derived.Lay
namespace Go.Proofs.YtmjlfmlbmegheaaDoor
open Go.RowKit Go.Deep

/-- What the row lists. -/
def laidL : List (String × DataW Unit) := [("math/bits.deBruijn32tab", Rows.laid_math_bits_deBruijn32tab), ("math/bits.deBruijn64tab", Rows.laid_math_bits_deBruijn64tab), ("internal/strconv.uint64pow10", Rows.laid_internal_strconv_uint64pow10), ("unicode/utf8.acceptRanges", Rows.laid_unicode_utf8_acceptRanges), ("strconv.ErrRange", Rows.laid_strconv_ErrRange), ("strconv.ErrSyntax", Rows.laid_strconv_ErrSyntax), ("unicode/utf8.first", Rows.laid_unicode_utf8_first)]
theorem tErr : Tryd.prog.cellsOf 124 = 1 := by kernel_rfl
theorem tStr : Tryd.prog.cellsOf 9 = 1 := by kernel_rfl
theorem starE : "*" ++ "errors.errorString" = "*errors.errorString" := by decide
theorem rowErr (u : TypeId) (h : Tryd.prog.typeName? 3 u = some "*errors.errorString") : u = 122 :=
  typeName_ptr_named (nm := "errors.errorString") (by rw [starE]; kernel_rfl) (by kernel_rfl) (by decide) u (by rw [starE]; exact h)
theorem synT : (Tryd.prog.globals[2]?).map (·.type) = some 68 := by kernel_rfl
theorem ranT : (Tryd.prog.globals[3]?).map (·.type) = some 68 := by kernel_rfl
theorem fact_of_laid {W : World} (h : laidMetH Tryd.prog laidL W) (hs : W.ShapedOpen Tryd.prog) : LaidP W := by
  rw [MakeChecks.laidMetH_plain _ _ _ (by kernel_rfl)] at h
  have h2 : laidMet Tryd.prog (("internal/strconv.uint64pow10", Lib.tabData .u64 Lib.pow10Tab) :: _) W := h.tail.tail
  have h4 := h.tail.tail.tail.tail
  obtain ⟨_, _, h5, _⟩ := laid_sentinel h4 errRan_g ranT Tryd.underlying68 rowErr Tryd.underlying122 Tryd.underlying124 rfl rfl Tryd.underlying9 tErr tStr
  obtain ⟨_, _, h6, _⟩ := laid_sentinel h4.tail errSyn_g synT Tryd.underlying68 rowErr Tryd.underlying122 Tryd.underlying124 rfl rfl Tryd.underlying9 tErr tStr
  exact ⟨Lib.tabIs_of_head pow10_g (by kernel_rfl) Tryd.underlying106 Tryd.underlying88 (by kernel_rfl) (by kernel_rfl) h2, ⟨⟨_, _, h6⟩, _, _, h5⟩, hs⟩
end Go.Proofs.YtmjlfmlbmegheaaDoor
