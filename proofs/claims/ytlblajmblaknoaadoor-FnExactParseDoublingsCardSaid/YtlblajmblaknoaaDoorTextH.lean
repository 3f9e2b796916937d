
/-
  TEXTS OF LISTS OF NUMBERS, BOTH WAYS: hpText, joinNumbers.
-/
import Derived.Test.YtlblajmblaknoaaDoorTextP
import Derived.Test.YtlblajmblaknoaaDoorShelfT
import Derived.Lib.AppendIntMem
namespace Go.Proofs.YtlblajmblaknoaaDoor
open Go.RowKit Go.Deep
set_option linter.unusedVariables false

theorem bs_size (l : List UInt8) : (bs l).size = l.length := by simp [bs, ByteArray.size]

/-- The table of strconv lies in its variable. -/
def TabP (w : World) : Prop := Lib.TabIs Tryd.prog w "internal/strconv.uint64pow10" .u64 Lib.pow10Tab
theorem infoStr : (Tryd.prog.info? 9).map (fun i => (i.zero, i.size, i.bytes)) = some (some (.string ⟨#[]⟩), 1, 16) := by kernel_rfl

end Go.Proofs.YtlblajmblaknoaaDoor
