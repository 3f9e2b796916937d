
/-
  A BLOCK OF TWO CELLS: what it holds, that it may be written, what it is behind a store. No program is named here.
-/
import Derived.Test.YtmknencbjhcehaaDoorRws
import Derived.OneCell
namespace Go.Proofs.YtmknencbjhcehaaDoor
open Go.RowKit Go.Deep

/-- A block of two cells. -/
def Bx (w : World) (b : Nat) (T : TypeId) (x y : Value) : Prop := w.heap[b]? = some (.cells #[x, y] T (0, 0))
section
variable {w w' : World} {b : Nat} {T : TypeId} {x y : Value}
theorem Bx.lt (h : Bx w b T x y) : b < w.heap.size := lt_of_block h
theorem Bx.c0 (h : Bx w b T x y) : w.cell? ⟨b, 0, none⟩ = some x := by simp [World.cell?, show w.heap[b]? = _ from h]
theorem Bx.c1 (h : Bx w b T x y) : w.cell? ⟨b, 1, none⟩ = some y := by simp [World.cell?, show w.heap[b]? = _ from h]
theorem Bx.f (h : Bx w b T x y) (j : Nat) : w.frozen? ⟨b, j, none⟩ = false := by simp [World.frozen?, show w.heap[b]? = _ from h]
theorem Bx.below {B : Nat} (h : Bx w b T x y) (hb : Below B w w') (hB : b < B) : Bx w' b T x y := (hb.block b hB).trans h
theorem Bx.next (h : Bx w b T x y) (hb : Below w.heap.size w w') : Bx w' b T x y := h.below hb h.lt
theorem Bx.alloc (h : Bx w b T x y) (o : Obj) : Bx (w.alloc o) b T x y := (Below.heap_alloc _ _ _ h.lt).trans h
theorem Bx.new (w : World) (T : TypeId) (x y : Value) : Bx (w.alloc (.cells #[x, y] T)) w.heap.size T x y := by
  show (w.heap.push _)[w.heap.size]? = _
  simp
theorem Bx.drewN (h : Bx w b T x y) (n : Nat) : Bx (w.drewN n) b T x y := h
theorem Bx.set0 (h : Bx w b T x y) (v : Value) : Bx (w.setCell ⟨b, 0, none⟩ v) b T v y := by
  have hlt := h.lt
  have h' : w.heap[b] = .cells #[x, y] T (0, 0) := by simpa [Array.getElem?_eq_getElem hlt] using (show w.heap[b]? = _ from h)
  show (w.heap.modify b _)[b]? = _
  rw [Array.getElem?_eq_getElem (by simpa using hlt), Array.getElem_modify_self, h']
  rfl
theorem Bx.set1 (h : Bx w b T x y) (v : Value) : Bx (w.setCell ⟨b, 1, none⟩ v) b T x v := by
  have hlt := h.lt
  have h' : w.heap[b] = .cells #[x, y] T (0, 0) := by simpa [Array.getElem?_eq_getElem hlt] using (show w.heap[b]? = _ from h)
  show (w.heap.modify b _)[b]? = _
  rw [Array.getElem?_eq_getElem (by simpa using hlt), Array.getElem_modify_self, h']
  rfl
theorem Bx.setOther (h : Bx w b T x y) {a : Addr} (ha : b ≠ a.block) (v : Value) : Bx (w.setCell a v) b T x y := (Below.heap_setCell _ _ _ _ ha).trans h
theorem Row.setOther {g : Nat} {t : TypeId} {zs : List Int} (h : Row w g t zs) {a : Addr} (ha : g ≠ a.block) (v : Value) : Row (w.setCell a v) g t zs := by
  obtain ⟨c, h1, h2, h3⟩ := h
  exact ⟨c, (Below.heap_setCell _ _ _ _ ha).trans h1, h2, h3⟩
end
end Go.Proofs.YtmknencbjhcehaaDoor
