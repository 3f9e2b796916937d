
/-
  CLUES CUT AND JOINED, THE PROGRAM's WAY: cut, slices.Grow and Concat of lists of clues, without.
-/
import Derived.Test.YtmhnihdgggblmaaPzW
import Derived.Test.YtmhnihdgggblmaaBox
import Derived.Laws.ResultCell
import Derived.Lib.AppendZeros
namespace Go.Proofs.Ytmhnihdgggblmaa
open Go.RowKit Go.Deep
set_option linter.unusedVariables false

theorem pair_boxes (w : World) (v0 v1 : Value) (z0 z1 : Value) (T U : TypeId) :
    Bx ((w.alloc (.cells #[v0, v1] T)).alloc (.cells #[z0, z1] U)) w.heap.size T v0 v1 ∧ Bx ((w.alloc (.cells #[v0, v1] T)).alloc (.cells #[z0, z1] U)) (w.heap.size + 1) U z0 z1 ∧
    Below w.heap.size w ((w.alloc (.cells #[v0, v1] T)).alloc (.cells #[z0, z1] U)) ∧ ((w.alloc (.cells #[v0, v1] T)).alloc (.cells #[z0, z1] U)).heap.size = w.heap.size + 2 := by
  have l3 : ∀ (w : World) (o : Obj), (w.alloc o).heap.size = w.heap.size + 1 := fun w o => by simp
  have q1 := Bx.new (w.alloc (.cells #[v0, v1] T)) U z0 z1
  rw [l3] at q1
  exact ⟨(Bx.new _ _ _ _).alloc _, q1, ((Below.refl _ _).alloc (Nat.le_refl _) _).alloc (by simp) _, by rw [l3, l3]⟩

theorem alloc_at (w : World) (cs : Array Value) (T : TypeId) : (w.alloc (.cells cs T)).heap[w.heap.size]? = some (.cells cs T (0, 0)) := by
  show (w.heap.push _)[w.heap.size]? = _
  simp

def catK (xs ys : List Cl) (k : Nat) : List Cl := if k = 0 then [] else if k = 1 then xs else xs ++ ys
theorem catK0 (xs ys : List Cl) : catK xs ys 0 = [] := rfl
theorem catK1 (xs ys : List Cl) : catK xs ys 1 = xs := rfl
theorem catK2 (xs ys : List Cl) : catK xs ys 2 = xs ++ ys := rfl

/-- WHAT A PUZZLE WITHOUT A BOOL, MADE BY THE CALL, IS. -/
def MadePz (ds : List Cl) (h : Int) (w : World) (e : Ending) (w' : World) : Prop :=
  ∃ A c, e = .returned (.agg #[.int .i64 h, .slice A ds.length c]) ∧ ds.length ≤ c ∧ c ≤ maxLen ∧ OwnICl w' w.heap.size (.slice A ds.length c) ds.length (numsCl ds) ∧ Below w.heap.size w w'

end Go.Proofs.Ytmhnihdgggblmaa
