
/-
  FEW HEAPS AS AN ARRAY OF FOUR: list.
-/
import Derived.Test.YtdaghclnggbmoaaRow
import Derived.Test.YtdaghclnggbmoaaFlows
namespace Go.Proofs.Ytdaghclnggbmoaa
open Go.RowKit Go.Deep
set_option linter.unusedVariables false

theorem idx4_0 (a b c d : Value) (w : World) : (Instr.index 54 (.agg #[a, b, c, d]) (.int .i64 0)).run Try.prog w = .ok a w := by kernel_rfl
theorem idx4_1 (a b c d : Value) (w : World) : (Instr.index 54 (.agg #[a, b, c, d]) (.int .i64 1)).run Try.prog w = .ok b w := by kernel_rfl
theorem idx4_2 (a b c d : Value) (w : World) : (Instr.index 54 (.agg #[a, b, c, d]) (.int .i64 2)).run Try.prog w = .ok c w := by kernel_rfl
theorem idx4_3 (a b c d : Value) (w : World) : (Instr.index 54 (.agg #[a, b, c, d]) (.int .i64 3)).run Try.prog w = .ok d w := by kernel_rfl

end Go.Proofs.Ytdaghclnggbmoaa
