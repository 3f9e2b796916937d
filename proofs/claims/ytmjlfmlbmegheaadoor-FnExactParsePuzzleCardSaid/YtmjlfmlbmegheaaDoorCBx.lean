
/-
  A BLOCK OF FOUR NUMBERS: what it is behind a store.
-/
import Derived.Test.YtmjlfmlbmegheaaDoorPzR
namespace Go.Proofs.YtmjlfmlbmegheaaDoor
open Go.RowKit Go.Deep
set_option linter.unusedVariables false

section
variable {w w' : World} {b : Nat} {T : TypeId} {c : Cl}
theorem cbox_mod {cs : Array Value} {r : Nat × Nat} (h : w.heap[b]? = some (.cells cs T r)) (i : Nat) (v : Value) : (w.setCell ⟨b, i, none⟩ v).heap[b]? = some (.cells (cs.setIfInBounds i v) T r) := by
  obtain ⟨hlt, he⟩ := Array.getElem?_eq_some_iff.1 h
  show (w.heap.modify b _)[b]? = _
  rw [Array.getElem?_eq_getElem (by simpa using hlt), Array.getElem_modify_self, he]
  rfl
theorem CBox.drewN (h : CBox w b T c) (n : Nat) : CBox (w.drewN n) b T c := h
theorem CBox.drew (h : CBox w b T c) : CBox w.drew b T c := h
theorem CBox.f (h : CBox w b T c) (j : Nat) : w.frozen? ⟨b, j, none⟩ = false := by simp [World.frozen?, show w.heap[b]? = _ from h]
theorem CBox.set0 (h : CBox w b T c) (x : Int) : CBox (w.setCell ⟨b, 0, none⟩ (.int .i64 x)) b T ⟨x, c.x1, c.x2, c.x3⟩ := cbox_mod h 0 _
theorem CBox.set1 (h : CBox w b T c) (x : Int) : CBox (w.setCell ⟨b, 1, none⟩ (.int .i64 x)) b T ⟨c.x0, x, c.x2, c.x3⟩ := cbox_mod h 1 _
theorem CBox.set2 (h : CBox w b T c) (x : Int) : CBox (w.setCell ⟨b, 2, none⟩ (.int .i64 x)) b T ⟨c.x0, c.x1, x, c.x3⟩ := cbox_mod h 2 _
theorem CBox.set3 (h : CBox w b T c) (x : Int) : CBox (w.setCell ⟨b, 3, none⟩ (.int .i64 x)) b T ⟨c.x0, c.x1, c.x2, x⟩ := cbox_mod h 3 _
theorem CBox.setOther (h : CBox w b T c) {a : Addr} (ha : b ≠ a.block) (v : Value) : CBox (w.setCell a v) b T c := (Below.heap_setCell _ _ _ _ ha).trans h
end
theorem below_set4 {w w' : World} {B b : Nat} (h : Below B w w') (hb : B ≤ b) (x y z t : Value) : Below B w ((((w'.setCell ⟨b, 0, none⟩ x).setCell ⟨b, 1, none⟩ y).setCell ⟨b, 2, none⟩ z).setCell ⟨b, 3, none⟩ t) :=
  (((h.setCell hb x).setCell hb y).setCell hb z).setCell hb t
end Go.Proofs.YtmjlfmlbmegheaaDoor
