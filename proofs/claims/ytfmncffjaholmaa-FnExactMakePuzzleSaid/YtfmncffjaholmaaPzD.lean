
/-
  THE DOOR: areClues recovers what is raised by a clue that is none. IsPuzzle, the program's way.
-/
import Derived.Test.YtfmncffjaholmaaPzR
import Derived.Test.YtfmncffjaholmaaBox
import Derived.Defers
import Derived.Recover
import Derived.Laws.Pointers
namespace Go.Proofs.Ytfmncffjaholmaa
open Go.RowKit Go.Deep
set_option linter.unusedVariables false

theorem assert_clue (v : Value) (w : World) : (Instr.typeAssert (.iface 38 v) 20 38 true).run Try.prog w = .ok (.tuple #[v, .bool true]) w := by kernel_rfl
theorem assert_none (w : World) : (Instr.typeAssert .nilIface 20 38 true).run Try.prog w = .ok (.tuple #[.agg #[.int .i64 0, .int .i64 0, .int .i64 0, .int .i64 0], .bool false]) w := by kernel_rfl

theorem run_one_clue (w : World) (x0 x1 x2 x3 : Int) : (Instr.buildSlice 23 1 #[(0, .agg #[.int .i64 x0, .int .i64 x1, .int .i64 x2, .int .i64 x3])]).run Try.prog w = .ok (.slice (some ⟨w.heap.size, 0, none⟩) 1 1) (w.alloc (.cells #[.int .i64 x0, .int .i64 x1, .int .i64 x2, .int .i64 x3] 38)) := by kernel_rfl
theorem one_clue (w : World) (c : Cl) : Cls (w.alloc (.cells #[.int .i64 c.x0, .int .i64 c.x1, .int .i64 c.x2, .int .i64 c.x3] 38)) (w.heap.size + 1) (some ⟨w.heap.size, 0, none⟩) 1 [c] := by
  have hX := CBox.new w 38 c
  refine ⟨rfl, fun _ => ⟨_, 0, rfl, Nat.lt_succ_self _, fun i hi => ?_⟩⟩
  match i, hi with
  | 0, _ => exact hX.c0
  | 1, _ => exact hX.c1
  | 2, _ => exact hX.c2
  | 3, _ => exact hX.c3
end Go.Proofs.Ytfmncffjaholmaa
