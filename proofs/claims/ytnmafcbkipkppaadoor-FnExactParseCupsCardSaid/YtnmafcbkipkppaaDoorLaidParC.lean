
/-
  WHAT THE READING OF CUPS TAKES OUT OF THE ROW's CONDITION: the tables of strconv and of TrailingZeros, the two errors.
-/
import Derived.Test.YtnmafcbkipkppaaDoorRows
import Derived.Test.YtnmafcbkipkppaaDoorParI
import Derived.Test.YtnmafcbkipkppaaDoorTz
import Derived.Test.YtnmafcbkipkppaaDoorShaped
import Derived.MakeChecks
import Derived.LaidLaws
import Derived.Lib.LaidTab
import Derived.Stop.LaidErr
import Derived.Lay
namespace Go.Proofs.YtnmafcbkipkppaaDoor
open Go.RowKit Go.Deep

/-- What the row lists. -/
def laidL : List (String × DataW Unit) := [("math/bits.deBruijn32tab", Rows.laid_math_bits_deBruijn32tab), ("math/bits.deBruijn64tab", Rows.laid_math_bits_deBruijn64tab), ("internal/strconv.uint64pow10", Rows.laid_internal_strconv_uint64pow10), ("unicode/utf8.acceptRanges", Rows.laid_unicode_utf8_acceptRanges), ("strconv.ErrRange", Rows.laid_strconv_ErrRange), ("strconv.ErrSyntax", Rows.laid_strconv_ErrSyntax), ("unicode/utf8.first", Rows.laid_unicode_utf8_first)]
theorem tErr : Tryd.prog.cellsOf 92 = 1 := by kernel_rfl
theorem tStr : Tryd.prog.cellsOf 9 = 1 := by kernel_rfl
theorem starE : "*" ++ "errors.errorString" = "*errors.errorString" := by decide
theorem rowErr (u : TypeId) (h : Tryd.prog.typeName? 3 u = some "*errors.errorString") : u = 90 :=
  typeName_ptr_named (nm := "errors.errorString") (by rw [starE]; kernel_rfl) (by kernel_rfl) (by decide) u (by rw [starE]; exact h)
theorem synT : (Tryd.prog.globals[1]?).map (·.type) = some 44 := by kernel_rfl
theorem ranT : (Tryd.prog.globals[2]?).map (·.type) = some 44 := by kernel_rfl
theorem fact_of_laid {W : World} (h : laidMetH Tryd.prog laidL W) (hs : W.ShapedOpen Tryd.prog) : LaidP W ∧ Tab W := by
  rw [MakeChecks.laidMetH_plain _ _ _ (by kernel_rfl)] at h
  have h2 : laidMet Tryd.prog (("internal/strconv.uint64pow10", Lib.tabData .u64 Lib.pow10Tab) :: _) W := h.tail.tail
  have h4 := h.tail.tail.tail.tail
  obtain ⟨_, _, h5, _⟩ := laid_sentinel h4 errRan_g ranT Tryd.underlying44 rowErr Tryd.underlying90 Tryd.underlying92 rfl rfl Tryd.underlying9 tErr tStr
  obtain ⟨_, _, h6, _⟩ := laid_sentinel h4.tail errSyn_g synT Tryd.underlying44 rowErr Tryd.underlying90 Tryd.underlying92 rfl rfl Tryd.underlying9 tErr tStr
  refine ⟨⟨Lib.tabIs_of_head pow10_g (by kernel_rfl) Tryd.underlying94 Tryd.underlying71 (by kernel_rfl) (by kernel_rfl) h2, ⟨⟨_, _, h6⟩, _, _, h5⟩, hs⟩, ?_⟩
  have h3 : laidMet Tryd.prog (("math/bits.deBruijn64tab", Lib.tabData .u8 (Lib.deBruijn64tab.map (fun (n : Nat) => (n : Int)))) :: _) W := h.tail
  have hT := Lib.tabIs_of_head (by kernel_rfl : Tryd.prog.globalNamed "math/bits.deBruijn64tab" = some 4) (by kernel_rfl) Tryd.underlying87 Tryd.underlying5 (by kernel_rfl) (by kernel_rfl) h3
  intro j hj
  rw [hT.cell (by kernel_rfl) j (by simpa using hj)]
  simp [List.getD, hj]
end Go.Proofs.YtnmafcbkipkppaaDoor
