
/-
  TEXTS OF LISTS OF NUMBERS, BOTH WAYS: hpText, joinNumbers.
-/
import Derived.Test.YtnmafcbkipkppaaDoorTextP
import Derived.Test.YtnmafcbkipkppaaDoorShelfT
import Derived.Lib.AppendIntMem
namespace Go.Proofs.YtnmafcbkipkppaaDoor
open Go.RowKit Go.Deep
set_option linter.unusedVariables false

theorem bs_size (l : List UInt8) : (bs l).size = l.length := by simp [bs, ByteArray.size]

theorem pow10_g : Tryd.prog.globalNamed "internal/strconv.uint64pow10" = some 5 := by kernel_rfl
/-- The table of strconv lies in its variable. -/
def TabP (w : World) : Prop := Lib.TabIs Tryd.prog w "internal/strconv.uint64pow10" .u64 Lib.pow10Tab
theorem TabP.next {w w' : World} (h : TabP w) (hb : Below w.heap.size w w') : TabP w' := var_below h pow10_g hb (var_lt h pow10_g)

theorem Itoa_any (x : Int) (h0 : 0 ≤ x) (h1 : x < 1000000) (w : World) (hT : TabP w) :
    Calls Tryd.prog 23 #[.int .i64 x] w fun e w' => e = .returned (.string (bs (dtxt x))) ∧ Below w.heap.size w w' := by
  refine (Tryd.strconv_Itoa x (by omega) (by omega) w hT).mono ?_
  rintro e w' ⟨rfl, k, os, rfl⟩
  refine ⟨?_, Lib.below_grow _ _ (Nat.le_refl _) _ _⟩
  unfold Lib.itoa
  rw [if_neg (by omega)]
  rfl

theorem infoStr : (Tryd.prog.info? 9).map (fun i => (i.zero, i.size, i.bytes)) = some (some (.string ⟨#[]⟩), 1, 16) := by kernel_rfl

end Go.Proofs.YtnmafcbkipkppaaDoor
