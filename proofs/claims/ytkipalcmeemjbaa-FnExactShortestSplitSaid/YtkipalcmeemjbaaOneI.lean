
/-
  A LIST OF ONE NUMBER THAT IS LAID, and a number put behind a list of the call's own as one step of a region that draws. No program is named here.
-/
import Derived.Test.YtkipalcmeemjbaaApp
namespace Go.Proofs.Ytkipalcmeemjbaa
open Go.RowKit Go.Deep
set_option linter.unusedVariables false

theorem ints_one (w : World) (p : Int) (t : TypeId) : Ints (w.alloc (.cells #[.int .i64 p] t)) (w.heap.size + 1) (some ⟨w.heap.size, 0, none⟩) 1 [p] :=
  ⟨rfl, fun _ => ⟨_, rfl, Nat.lt_succ_self _, fun k hk => by
    obtain rfl : k = 0 := by omega
    simp [Addr.add]⟩⟩
theorem own_one (w : World) (p : Int) (t : TypeId) : Own (w.alloc (.cells #[.int .i64 p] t)) w.heap.size t (.slice (some ⟨w.heap.size, 0, none⟩) 1 1) [p] := by
  have h := World.rowIs_alloc w #[.int .i64 p] t (fun _ => .int .i64 p) (fun i hi => by
    obtain rfl : i = 0 := by simpa using hi
    rfl)
  exact Own.of_row (zs := [p]) (h.congr fun i hi => by
    obtain rfl : i = 0 := by simpa using hi
    rfl) (Nat.le_refl _) (by simp [maxLen])
end Go.Proofs.Ytkipalcmeemjbaa
