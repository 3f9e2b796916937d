
/-
  THE FIRST DESK, both ways; what is a desk, both ways; the walks of the laws of FirstDesk and IsDesk, the given frame left out.
-/
import Derived.Test.YtgandgbajikacaaDe
import Derived.Test.YtgandgbajikacaaLawA
namespace Go.Proofs.Ytgandgbajikacaa
open Go.RowKit Go.Deep
set_option linter.unusedVariables false

theorem first_left (w : World) : Own ((w.alloc (.cells #[.slice (some ⟨w.heap.size + 1, 0, none⟩) 3 3] 24)).alloc (.cells #[.int .i64 5, .int .i64 1, .int .i64 0] 3)) w.heap.size 3 (.slice (some ⟨w.heap.size + 1, 0, none⟩) 3 3) [5, 1, 0] ∧
    Below w.heap.size w ((w.alloc (.cells #[.slice (some ⟨w.heap.size + 1, 0, none⟩) 3 3] 24)).alloc (.cells #[.int .i64 5, .int .i64 1, .int .i64 0] 3)) ∧
    World.cell? ((w.alloc (.cells #[.slice (some ⟨w.heap.size + 1, 0, none⟩) 3 3] 24)).alloc (.cells #[.int .i64 5, .int .i64 1, .int .i64 0] 3)) ⟨w.heap.size, 0, none⟩ = some (.slice (some ⟨w.heap.size + 1, 0, none⟩) 3 3) := by
  refine ⟨Own.of_row (zs := [5, 1, 0]) ⟨#[.int .i64 5, .int .i64 1, .int .i64 0], ?_, rfl, fun i hi => ?_⟩ (by omega) (by decide), ((Below.refl _ _).alloc (Nat.le_refl _) _).alloc (by simp) _, ((One.made _ _ _).new _).cell⟩
  · show ((w.heap.push _).push _)[w.heap.size + 1]? = _
    rw [Array.getElem?_push, if_pos (by rw [Array.size_push])]
  · match i, hi with
    | 0, _ => rfl
    | 1, _ => rfl
    | 2, _ => rfl
    | j + 3, h => exact absurd h (by simp)

set_option maxRecDepth 100000 in
theorem specFirstDesk_any (w : World) : Calls Try.prog 5 #[] w (MadeD [5, 1, 0] w) := by
  have H := hide (first_left w)
  go_enter Try.func5, Try.ntmps5
  go_wp2_with fail
  exact bodyPost_ret (v := .agg #[.slice (some ⟨w.heap.size + 1, 0, none⟩) 3 3]) (by simp [results, Try.results5, go_sem, H.out.2.2]) rfl ⟨w.heap.size + 1, by omega, by simp, rfl, H.out.1, H.out.2.1⟩

set_option maxRecDepth 100000 in
theorem FirstDesk_any (w : World) : Calls Try.prog 6 #[] w (MadeD [5, 1, 0] w) := by
  have H := hide (first_left w)
  go_enter Try.func6, Try.ntmps6
  go_wp2_with fail
  exact bodyPost_ret (v := .agg #[.slice (some ⟨w.heap.size + 1, 0, none⟩) 3 3]) (by simp [results, Try.results6, go_sem, H.out.2.2]) rfl ⟨w.heap.size + 1, by omega, by simp, rfl, H.out.1, H.out.2.1⟩
end Go.Proofs.Ytgandgbajikacaa
