
/-
  CLUES AND PUZZLES, THE MODEL's WAY: pzHeaps, pzClue, pzGood, IsPuzzle.
-/
import Derived.Test.YtfmncffjaholmaaPzP
import Derived.Test.YtfmncffjaholmaaGood
import Derived.Deep.Cut
import Derived.Test.YtfmncffjaholmaaBox
namespace Go.Proofs.Ytfmncffjaholmaa
open Go.RowKit Go.Deep
set_option linter.unusedVariables false

theorem pzHeaps_any (h : Int) (w : World) :
    Calls Try.prog 22 #[.int .i64 h] w fun e w' => e = .returned (.bool (decide (2 ≤ h ∧ h ≤ 4))) ∧ w = w' := by
  go_enter Try.func22, Try.ntmps22
  go_wp2_with fail
  refine (l1In_any _ _ _ _).mono ?_; rintro e w' ⟨rfl, rfl⟩
  go_wp2_with fail
  go_ret
  exact ⟨ret_bool (by simp), rfl⟩

end Go.Proofs.Ytfmncffjaholmaa
