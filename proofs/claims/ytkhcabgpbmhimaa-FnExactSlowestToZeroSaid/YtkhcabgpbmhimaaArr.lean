
/-
  A ROW OF A RING AS ONE VALUE: made, boxed, stored, loaded, cut, handed out; no operation is told cell by cell.
-/
import Derived.Test.YtkhcabgpbmhimaaCopy
import Derived.Test.YtkhcabgpbmhimaaRws
import Derived.Laws.Tables
import Derived.Laws.Rows
import Derived.Laws.Slices
import Derived.Deep.WholeRow
import Derived.Deep.MidRow
import Derived.ChangeKeysEq
import Derived.Laws.CopyOwn
namespace Go.Proofs.Ytkhcabgpbmhimaa
open Go.RowKit Go.Deep
set_option linter.unusedVariables false

/-- A block of numbers. -/
def ArrAt (w : World) (b : Nat) (t : TypeId) (xs : List Int) : Prop := w.heap[b]? = some (.cells (xs.map (Value.int .i64)).toArray t (0, 0))
section
variable {w w' : World} {b : Nat} {t : TypeId} {xs : List Int}
theorem ArrAt.cell (h : ArrAt w b t xs) (j : Nat) (hj : j < xs.length) : w.cell? ⟨b, j, none⟩ = some (.int .i64 (xs.getD j 0)) := by
  rw [cell_of_row w b j _ t (0, 0) h, List.getElem?_toArray, List.getElem?_map, List.getElem?_eq_getElem hj]; simp [List.getD, List.getElem?_eq_getElem hj]
theorem ArrAt.frozen (h : ArrAt w b t xs) (j : Nat) : w.frozen? ⟨b, j, none⟩ = false := frozen_of_row w b j _ t h
theorem ArrAt.lt (h : ArrAt w b t xs) : b < w.heap.size := (Array.getElem?_eq_some_iff.1 h).1
theorem ArrAt.set (h : ArrAt w b t xs) (j : Nat) (v : Int) : ArrAt (w.setCell ⟨b, j, none⟩ (.int .i64 v)) b t (xs.set j v) := by
  unfold ArrAt
  rw [heap_setCell_same w b j _ t _ h, List.map_set]
  congr 2
  simp [List.setIfInBounds_toArray]
theorem ArrAt.same (h : ArrAt w b t xs) (e : w'.heap[b]? = w.heap[b]?) : ArrAt w' b t xs := e.trans h
theorem ArrAt.below (h : ArrAt w b t xs) {B : Nat} (hb : Below B w w') (hg : b < B) : ArrAt w' b t xs := h.same (hb.block b hg)
theorem ArrAt.next (h : ArrAt w b t xs) (hb : Below w.heap.size w w') : ArrAt w' b t xs := h.below hb h.lt
theorem ArrAt.new (h : ArrAt w b t xs) (o : Obj) : ArrAt (w.alloc o) b t xs := (Below.heap_alloc _ _ _ h.lt).trans h
theorem ArrAt.past (h : ArrAt w b t xs) {a : Addr} (ha : b ≠ a.block) (v : Value) : ArrAt (w.setCell a v) b t xs := (Below.heap_setCell _ _ _ _ ha).trans h
theorem ArrAt.made (w : World) (t : TypeId) (xs : List Int) : ArrAt (w.alloc (.cells (xs.map (Value.int .i64)).toArray t)) w.heap.size t xs := heap_alloc_new _ _
theorem ArrAt.ints (h : ArrAt w b t xs) (n : Nat) (hn : n ≤ xs.length) : Ints w w.heap.size (some ⟨b, 0, none⟩) n (xs.take n) :=
  ⟨by rw [List.length_take]; omega, fun _ => ⟨_, rfl, h.lt, fun k hk => by
    rw [add_head, h.cell k (by omega)]
    simp [List.getD, List.getElem?_take, hk]⟩⟩
end

/-- WHAT A STORE INTO ONE BLOCK LEAVES. -/
structure Lone (b : Nat) (w w' : World) : Prop where
  below : Below b w w'
  size : w'.heap.size = w.heap.size
  rest : ∀ h, h ≠ b → w'.heap[h]? = w.heap[h]?
theorem Lone.refl (b : Nat) (w : World) : Lone b w w := ⟨Below.refl _ _, rfl, fun _ _ => rfl⟩
theorem Lone.drew {b : Nat} {w w' : World} (h : Lone b w w') : Lone b w w'.drew := ⟨h.below.drew, h.size, h.rest⟩
theorem Lone.set {b : Nat} {w w' : World} (h : Lone b w w') (j : Nat) (v : Value) : Lone b w (w'.setCell ⟨b, j, none⟩ v) :=
  ⟨h.below.setCell (Nat.le_refl _) _, by rw [← h.size]; simp, fun k hk => (heap_setCell_other w' ⟨b, j, none⟩ k v hk).trans (h.rest k hk)⟩
theorem Lone.trans {b : Nat} {w w1 w2 : World} (h : Lone b w w1) (h2 : Lone b w1 w2) : Lone b w w2 := ⟨h.below.trans h2.below, h2.size.trans h.size, fun k hk => (h2.rest k hk).trans (h.rest k hk)⟩

/-- The value of a row. -/
def aggA (xs : List Int) : Value := .agg (xs.map (Value.int .i64)).toArray
theorem one_intsA (xs : List Int) : (xs.map (Value.int .i64)).toArray.all (·.oneCell') = true := by
  rw [Array.all_eq_true_iff_forall_mem]
  intro v hv
  simp at hv
  obtain ⟨z, _, rfl⟩ := hv
  rfl
def zero10 : List Int := List.replicate 10 0
theorem zero10_len : zero10.length = 10 := by simp [zero10]
theorem infoRow : (Try.prog.info? 43).map (fun i => (i.zero, i.size)) = some (some (aggA zero10), 10) := by kernel_rfl
theorem sizeRow : (Try.prog.info? 43).map (·.size) = some 10 := by kernel_rfl
theorem ringArr : Try.prog.underlying 43 = some (.array 10 3) := by kernel_rfl

section
variable {ops : Array Oper} {rest : List Oper} {o : Oper} {a : Act} {w : World} {Q : Exit → Act → World → Prop}

/-- A row of its own is made. -/
theorem wpList_arr_new (hgd : o.guard = none) (ho : o.op = .alloc 43)
    (h : ∀ w', ArrAt w' w.heap.size 43 zero10 → Below w.heap.size w w' → w'.heap.size = w.heap.size + 1 → wpList Try.prog ops Q rest (a.put o.dst (.pointer (some ⟨w.heap.size, 0, none⟩))) w') :
    wpList Try.prog ops Q (o :: rest) a w := by
  refine wpList_plain hgd fun K hK => ?_
  have hz := (zero_of_info (P := Try.prog) infoRow).1 w
  unfold Oper.wp
  simp only [execOp, ho, Sem.run_bind, hz, Result.andThen_ok]
  simp [aggA, Value.cells, newVar, newRow, Sem.run_bind]
  exact hK _ _ (h _ (by unfold ArrAt; exact heap_alloc_new _ _) ((Below.refl _ _).alloc (Nat.le_refl _) _) (by simp))

/-- A row is boxed. -/
theorem wpList_arr_box (hgd : o.guard = none) (T : TypeId) (x : Operand) (ho : o.op = .box T x) (xs : List Int) (hx : a.eval x = aggA xs)
    (h : ∀ w', ArrAt w' w.heap.size T xs → Below w.heap.size w w' → w'.heap.size = w.heap.size + 1 → wpList Try.prog ops Q rest (a.put o.dst (.pointer (some ⟨w.heap.size, 0, none⟩))) w') :
    wpList Try.prog ops Q (o :: rest) a w := by
  refine wpList_plain hgd fun K hK => ?_
  unfold Oper.wp execOp
  simp only [ho, hx, Sem.run_bind, Instr.box, newVar, newRow, run_newObj_alloc, Sem.run_pure, Result.andThen_ok]
  exact hK _ _ (h _ (by unfold ArrAt; exact heap_alloc_new _ _) ((Below.refl _ _).alloc (Nat.le_refl _) _) (by simp))

/-- A row is stored. -/
theorem wpList_arr_store (hgd : o.guard = none) (x y : Operand) (ho : o.op = .store 43 x y) (b : Nat) (t : TypeId) (xs ys : List Int)
    (hx : a.eval x = .pointer (some ⟨b, 0, none⟩)) (hy : a.eval y = aggA ys) (hl : ys.length = 10) (hl' : xs.length = 10) (hL : ArrAt w b t xs)
    (h : ∀ w', ArrAt w' b t ys → Lone b w w' → wpList Try.prog ops Q rest (a.put o.dst undef) w') :
    wpList Try.prog ops Q (o :: rest) a w := by
  refine wpList_store_row hgd 43 x y ho b _ hx hy t _ hL (by rw [sizeRow]; simp [hl]) (by simp [hl, hl']) (one_intsA ys) ?_
  refine h _ (setRow_heap w b _ _ _ _ hL) ⟨below_setRow (Below.refl _ _) (Nat.le_refl _) _, by simp, fun k hk => setRow_other w b k _ hk⟩

/-- A row is loaded. -/
theorem wpList_arr_load (hgd : o.guard = none) (x : Operand) (ho : o.op = .load 43 x) (b : Nat) (t : TypeId) (xs : List Int)
    (hx : a.eval x = .pointer (some ⟨b, 0, none⟩)) (hl : xs.length = 10) (hL : ArrAt w b t xs)
    (h : wpList Try.prog ops Q rest (a.put o.dst (aggA xs)) w) :
    wpList Try.prog ops Q (o :: rest) a w := by
  exact wpList_load_row hgd 43 x ho b hx t _ (0, 0) _ hL ringArr rfl (by rw [sizeRow]; simp [hl]) h
end

theorem results_arr1 {fn : Func} {p : Tmp} (h : fn.results = #[.cell p 43]) (tmps : Array Value) (w : World) (b : Nat) (t : TypeId) (xs : List Int)
    (hp : tmps.getD p undef = .pointer (some ⟨b, 0, none⟩)) (hl : xs.length = 10) (hL : ArrAt w b t xs) :
    (results fn tmps).run Try.prog w = .ok (aggA xs) w := by
  exact results_cell_row h tmps w b t _ (0, 0) _ hp hL ringArr rfl (by rw [sizeRow]; simp [hl])

theorem ring_under : Try.prog.underlying 43 = some (.array (Try.prog.arrayLen 43) (Try.prog.elem 43)) := by kernel_rfl
theorem ring_len : Try.prog.arrayLen 43 = 10 := by kernel_rfl
theorem ring_size (W : World) : (sizeOf (Try.prog.elem 43)).run Try.prog W = .ok 1 W := by
  rw [show Try.prog.elem 43 = 3 from by kernel_rfl]
  have h := infoInt
  cases hq : Try.prog.info? 3 with
  | none => rw [hq] at h; simp at h
  | some i =>
    rw [hq] at h
    simp at h
    simp [sizeOf, typeInfo, hq, Sem.run_bind, h]
/-- A cut out of the row. -/
theorem ring_cut (b o n : Nat) (h10 : n ≤ 10) (W : World) :
    (Instr.sliceAt 43 (.pointer (some ⟨b, o, none⟩)) none (some (.int .i64 (n : Int))) none).run Try.prog W = .ok (.slice (some ⟨b, o, none⟩) n 10) W := by
  rw [run_sliceAt_array_h W 43 ⟨b, o, none⟩ ring_under .i64 (n : Int) (by omega) (by rw [ring_len]; omega), ring_size]
  simp [slicedAt, ring_len, Addr.add]
theorem ring_cut_all (b o : Nat) (W : World) :
    (Instr.sliceAt 43 (.pointer (some ⟨b, o, none⟩)) none none none).run Try.prog W = .ok (.slice (some ⟨b, o, none⟩) 10 10) W := by
  rw [run_sliceAt_array_all W 43 ⟨b, o, none⟩ ring_under, ring_size]
  simp [slicedAt, ring_len, Addr.add]
end Go.Proofs.Ytkhcabgpbmhimaa
