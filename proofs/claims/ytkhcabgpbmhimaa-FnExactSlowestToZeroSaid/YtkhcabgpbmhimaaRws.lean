
/-
  ROWS OF NUMBERS AT KNOWN BLOCKS: what they hold, stores into them and elsewhere. No program is named here.
-/
import Derived.Test.YtkhcabgpbmhimaaWords
import Derived.OneCell
namespace Go.Proofs.Ytkhcabgpbmhimaa
open Go.RowKit Go.Deep

section
variable {w w' : World} {g : Nat} {t : TypeId} {zs : List Int}
theorem Row.at_ (h : Row w g t zs) {k : Nat} (hk : k < zs.length) : w.cell? ⟨g, k, none⟩ = some (.int .i64 zs[k]) := by
  rw [World.rowIs.cell h hk]; simp [List.getD, hk]
theorem Row.atD (h : Row w g t zs) {k : Nat} (hk : k < zs.length) : w.cell? ⟨g, k, none⟩ = some (.int .i64 (zs.getD k 0)) := World.rowIs.cell h hk
theorem Row.free (h : Row w g t zs) (k : Nat) : w.frozen? ⟨g, k, none⟩ = false := World.rowIs.frozen h k
theorem Row.lt (h : Row w g t zs) : g < w.heap.size := World.rowIs.lt h
theorem Row.put (h : Row w g t zs) (k : Nat) (v : Int) : Row (w.setCell ⟨g, k, none⟩ (.int .i64 v)) g t (zs.set k v) := by
  unfold Row
  rw [List.length_set]
  refine (World.rowIs.set h k _).congr fun i hi => ?_
  by_cases e : i = k
  · subst e; simp [List.getD, hi]
  · simp [List.getD, e, List.getElem?_set_ne (Ne.symm e)]
theorem Row.past (h : Row w g t zs) {a : Addr} (ha : g ≠ a.block) (v : Value) : Row (w.setCell a v) g t zs := World.rowIs.setOther h ha v
theorem Row.new (h : Row w g t zs) (o : Obj) : Row (w.alloc o) g t zs := World.rowIs.alloc h o
theorem Row.below (h : Row w g t zs) {B : Nat} (hb : Below B w w') (hg : g < B) : Row w' g t zs := World.rowIs.of_block h (hb.block g hg)
theorem Row.same (h : Row w g t zs) (e : w'.heap[g]? = w.heap[g]?) : Row w' g t zs := World.rowIs.of_block h e
theorem Row.drewN (h : Row w g t zs) (n : Nat) : Row (w.drewN n) g t zs := h
theorem Row.zeros (w : World) (m : Nat) (t : TypeId) : Row (w.alloc (.cells (madeCells #[.int .i64 0] m) t)) w.heap.size t (List.replicate m 0) := by
  unfold Row
  rw [List.length_replicate]
  exact (World.rowIs_made w _ m _).congr (fun i hi => by simp [List.getD, hi])
theorem Row.is (h : Row w g t zs) {ys : List Int} (e : ys = zs) : Row w g t ys := e ▸ h
end
/-- A block of one cell: a captured variable. -/
def One (w : World) (b : Nat) (t : TypeId) (v : Value) : Prop := w.heap[b]? = some (.cells #[v] t (0, 0))
section
variable {w w' : World} {b : Nat} {t : TypeId} {v : Value}
theorem One.cell (h : One w b t v) : w.cell? ⟨b, 0, none⟩ = some v := cell_of_one h
theorem One.free (h : One w b t v) : w.frozen? ⟨b, 0, none⟩ = false := free_of_one h
theorem One.lt (h : One w b t v) : b < w.heap.size := lt_of_block h
theorem One.put (h : One w b t v) (u : Value) : One (w.setCell ⟨b, 0, none⟩ u) b t u := one_setCell h
theorem One.past (h : One w b t v) {a : Addr} (ha : b ≠ a.block) (u : Value) : One (w.setCell a u) b t v := (Below.heap_setCell _ _ _ _ ha).trans h
theorem One.new (h : One w b t v) (o : Obj) : One (w.alloc o) b t v := (Below.heap_alloc _ _ _ h.lt).trans h
theorem One.below (h : One w b t v) {B : Nat} (hb : Below B w w') (hg : b < B) : One w' b t v := (hb.block b hg).trans h
theorem One.same (h : One w b t v) (e : w'.heap[b]? = w.heap[b]?) : One w' b t v := e.trans h
theorem One.drewN (h : One w b t v) (n : Nat) : One (w.drewN n) b t v := h
theorem One.made (w : World) (t : TypeId) (v : Value) : One (w.alloc (.cells #[v] t)) w.heap.size t v := by
  unfold One
  show (w.heap.push _)[w.heap.size]? = _
  rw [Array.getElem?_push]; simp
end
/-- All blocks but one are as they were. -/
def Save (g : Nat) (w w' : World) : Prop := ∀ h, h < w.heap.size → h ≠ g → w'.heap[h]? = w.heap[h]?
theorem Save.refl (g : Nat) (w : World) : Save g w w := fun _ _ _ => rfl
theorem Save.put {g : Nat} {w w' : World} (h : Save g w w') (k : Nat) (v : Value) : Save g w (w'.setCell ⟨g, k, none⟩ v) := fun b hb hn => (Below.heap_setCell _ _ _ _ hn).trans (h b hb hn)
theorem Save.drewN {g : Nat} {w w' : World} (h : Save g w w') (n : Nat) : Save g w (w'.drewN n) := h
theorem cell_of_block {w w' : World} {p : Addr} (e : w'.heap[p.block]? = w.heap[p.block]?) : w'.cell? p = w.cell? p := by simp [World.cell?, e]
theorem Save.cell {g : Nat} {w w' : World} (h : Save g w w') {p : Addr} (hp : p.block < w.heap.size) (hn : p.block ≠ g) : w'.cell? p = w.cell? p := cell_of_block (h _ hp hn)
/-- 0, 1, .., m - 1. -/
def rng (m : Nat) : List Int := (List.range m).map fun (i : Nat) => (i : Int)
theorem rng_length (m : Nat) : (rng m).length = m := by simp [rng]
theorem rng_get {m k : Nat} (h : k < m) : (rng m)[k]'(by rw [rng_length]; exact h) = (k : Int) := by simp [rng]
theorem rng_getD {m k : Nat} (h : k < m) : (rng m).getD k 0 = (k : Int) := by simp [rng, List.getD, h]
theorem rng_succ (m : Nat) : rng (m + 1) = rng m ++ [(m : Int)] := by simp [rng, List.range_succ]
end Go.Proofs.Ytkhcabgpbmhimaa
