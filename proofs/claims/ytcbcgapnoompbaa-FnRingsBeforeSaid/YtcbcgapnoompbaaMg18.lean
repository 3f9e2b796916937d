import Derived.Test.YtcbcgapnoompbaaMg15
import Derived.Deep.MidRow

/-
  WHERE THE STEPS FROM A RING LEAD: the struct as one block; its fields read and written; rows compared.
-/
namespace Go.Proofs.Ytcbcgapnoompbaa
open Go.RowKit Go.Deep
set_option linter.unusedVariables false

/-- The cells of such a struct. -/
def wkL (n : Int) (F : Value) (st ag : List Int) (l p : Int) : List Value := .int .i64 n :: F :: (st.map (Value.int .i64) ++ (ag.map (Value.int .i64) ++ [.int .i64 l, .int .i64 p]))
/-- The step of rings of a size. -/
def stepF (bd bs : Nat) : Value := .func (.func 72) #[] #[.pointer (some ⟨bd, 0, none⟩), .pointer (some ⟨bs, 0, none⟩)]
structure WkAt (w : World) (b : Nat) (n : Int) (F : Value) (st ag : List Int) (l p : Int) : Prop where
  hs : st.length = 10
  ha : ag.length = 10
  at_ : w.heap[b]? = some (.cells (wkL n F st ag l p).toArray 59 (0, 0))
theorem wkL_len {n : Int} {F : Value} {st ag : List Int} {l p : Int} (hs : st.length = 10) (ha : ag.length = 10) : (wkL n F st ag l p).length = 24 := by simp [wkL, hs, ha]

section
variable {w w' : World} {b : Nat} {n : Int} {F : Value} {st ag : List Int} {l p : Int}
theorem WkAt.lt (h : WkAt w b n F st ag l p) : b < w.heap.size := (Array.getElem?_eq_some_iff.1 h.at_).1
theorem WkAt.cellAt (h : WkAt w b n F st ag l p) (j : Nat) : w.cell? ⟨b, j, none⟩ = (wkL n F st ag l p)[j]? := by
  rw [cell_of_row w b j _ _ (0, 0) h.at_, List.getElem?_toArray]
theorem WkAt.frozen (h : WkAt w b n F st ag l p) (j : Nat) : w.frozen? ⟨b, j, none⟩ = false := frozen_of_row w b j _ _ h.at_
theorem WkAt.c0 (h : WkAt w b n F st ag l p) : w.cell? ⟨b, 0, none⟩ = some (.int .i64 n) := by rw [h.cellAt]; rfl
theorem WkAt.cF (h : WkAt w b n F st ag l p) : w.cell? ⟨b, 1, none⟩ = some F := by rw [h.cellAt]; rfl
theorem WkAt.cl (h : WkAt w b n F st ag l p) : w.cell? ⟨b, 22, none⟩ = some (.int .i64 l) := by
  rw [h.cellAt]; unfold wkL
  rw [List.getElem?_cons_succ, List.getElem?_cons_succ, List.getElem?_append_right (by rw [List.length_map, h.hs]; omega), List.length_map, h.hs, List.getElem?_append_right (by rw [List.length_map, h.ha]; omega), List.length_map, h.ha]; rfl
theorem WkAt.cp (h : WkAt w b n F st ag l p) : w.cell? ⟨b, 23, none⟩ = some (.int .i64 p) := by
  rw [h.cellAt]; unfold wkL
  rw [List.getElem?_cons_succ, List.getElem?_cons_succ, List.getElem?_append_right (by rw [List.length_map, h.hs]; omega), List.length_map, h.hs, List.getElem?_append_right (by rw [List.length_map, h.ha]; omega), List.length_map, h.ha]; rfl
theorem WkAt.start (h : WkAt w b n F st ag l p) : w.rangeAt b 2 (st.map (Value.int .i64)) := fun j v hv => by
  have hj : j < 10 := by have := (List.getElem?_eq_some_iff.1 hv).1; rw [List.length_map, h.hs] at this; exact this
  rw [h.cellAt]; unfold wkL
  rw [show 2 + j = j + 1 + 1 by omega, List.getElem?_cons_succ, List.getElem?_cons_succ, List.getElem?_append_left (by rw [List.length_map, h.hs]; omega)]
  exact hv
theorem WkAt.again (h : WkAt w b n F st ag l p) : w.rangeAt b 12 (ag.map (Value.int .i64)) := fun j v hv => by
  have hj : j < 10 := by have := (List.getElem?_eq_some_iff.1 hv).1; rw [List.length_map, h.ha] at this; exact this
  rw [h.cellAt]; unfold wkL
  rw [show 12 + j = j + 10 + 1 + 1 by omega, List.getElem?_cons_succ, List.getElem?_cons_succ, List.getElem?_append_right (by rw [List.length_map, h.hs]; omega), List.length_map, h.hs, show j + 10 - 10 = j by omega, List.getElem?_append_left (by rw [List.length_map, h.ha]; omega)]
  exact hv
theorem WkAt.same (h : WkAt w b n F st ag l p) (e : w'.heap[b]? = w.heap[b]?) : WkAt w' b n F st ag l p := ⟨h.hs, h.ha, e.trans h.at_⟩
theorem WkAt.below (h : WkAt w b n F st ag l p) {B : Nat} (hb : Below B w w') (hg : b < B) : WkAt w' b n F st ag l p := h.same (hb.block b hg)
theorem WkAt.next (h : WkAt w b n F st ag l p) (hb : Below w.heap.size w w') : WkAt w' b n F st ag l p := h.below hb h.lt
theorem WkAt.setL (h : WkAt w b n F st ag l p) (l' : Int) : WkAt (w.setCell ⟨b, 22, none⟩ (.int .i64 l')) b n F st ag l' p := by
  refine ⟨h.hs, h.ha, ?_⟩
  rw [heap_setCell_same w b 22 _ _ _ h.at_, List.setIfInBounds_toArray]
  congr 3
  unfold wkL
  rw [List.set_cons_succ, List.set_cons_succ, List.set_append_right _ _ (by rw [List.length_map, h.hs]; omega), List.length_map, h.hs, List.set_append_right _ _ (by rw [List.length_map, h.ha]; omega), List.length_map, h.ha]; rfl
theorem WkAt.setP (h : WkAt w b n F st ag l p) (p' : Int) : WkAt (w.setCell ⟨b, 23, none⟩ (.int .i64 p')) b n F st ag l p' := by
  refine ⟨h.hs, h.ha, ?_⟩
  rw [heap_setCell_same w b 23 _ _ _ h.at_, List.setIfInBounds_toArray]
  congr 3
  unfold wkL
  rw [List.set_cons_succ, List.set_cons_succ, List.set_append_right _ _ (by rw [List.length_map, h.hs]; omega), List.length_map, h.hs, List.set_append_right _ _ (by rw [List.length_map, h.ha]; omega), List.length_map, h.ha]; rfl
end

/-- ALL BLOCKS BUT ONE ARE AS THEY WERE; others may have been made. -/
structure But (b : Nat) (w w' : World) : Prop where
  below : Below b w w'
  rest : ∀ h, h < w.heap.size → h ≠ b → w'.heap[h]? = w.heap[h]?
section
variable {b : Nat} {w w1 w2 : World}
theorem But.refl (b : Nat) (w : World) : But b w w := ⟨Below.refl _ _, fun _ _ _ => rfl⟩
theorem But.size (h : But b w w1) : w.heap.size ≤ w1.heap.size := h.below.size
theorem But.trans (h : But b w w1) (h2 : But b w1 w2) : But b w w2 := ⟨h.below.trans h2.below, fun k hk hn => (h2.rest k (Nat.lt_of_lt_of_le hk h.size) hn).trans (h.rest k hk hn)⟩
theorem But.of_below (h : Below w.heap.size w w1) (hb : b ≤ w.heap.size) : But b w w1 := ⟨h.mono hb, fun k hk _ => h.block k hk⟩
theorem But.of_lone (h : Lone b w w1) : But b w w1 := ⟨h.below, fun k _ hn => h.rest k hn⟩
theorem But.next (h : But b w w1) (h2 : Below w1.heap.size w1 w2) (hb : b < w.heap.size) : But b w w2 := h.trans (But.of_below h2 (Nat.le_trans (Nat.le_of_lt hb) h.size))
theorem But.set (h : But b w w1) (j : Nat) (v : Value) : But b w (w1.setCell ⟨b, j, none⟩ v) := h.trans (But.of_lone ((Lone.refl b w1).set j v))
/-- A block that the call has made itself may change too. -/
theorem But.own {c : Nat} (h : But b w w1) (h2 : Lone c w1 w2) (hc : w.heap.size ≤ c) (hb : b < w.heap.size) : But b w w2 :=
  ⟨h.below.trans (h2.below.mono (by omega)), fun k hk hn => (h2.rest k (by omega)).trans (h.rest k hk hn)⟩
theorem But.arr {c : Nat} {t : TypeId} {xs : List Int} (h : But b w w1) (hA : ArrAt w c t xs) (hn : c ≠ b) : ArrAt w1 c t xs := hA.same (h.rest c hA.lt hn)
theorem But.step {bd bs n : Nat} (h : But b w w1) (hS : StepAt w bd bs n) (h1 : bd ≠ b) (h2 : bs ≠ b) : StepAt w1 bd bs n := hS.same (h.rest bd hS.2.2.1 h1) (h.rest bs hS.2.2.2 h2) h.size
end

theorem wkSize : (Try.prog.info? 59).map (·.size) = some 24 := by kernel_rfl
theorem wkInfo : (Try.prog.info? 59).map (fun i => (i.zero, i.size)) = some (some (.agg (wkL 0 .nilFunc zero10 zero10 0 0).toArray), 24) := by kernel_rfl
theorem rowGuardR : Try.prog.eqGuardType Try.prog.depth 55 = false := by kernel_rfl
theorem cellsIntR : Try.prog.cellsOf 3 = 1 := by kernel_rfl

/-- Numbers are compared one by one. -/
theorem eq_intsR (d : Nat) (xs ys : List Int) (w : World) : ∀ is : List Nat, (∀ i ∈ is, i < xs.length ∧ i < ys.length) →
    (Op.eqItems (d + 1) 3 1 (xs.map (Value.int .i64)).toArray (ys.map (Value.int .i64)).toArray is).run Try.prog w = .ok (is.all fun i => xs.getD i 0 == ys.getD i 0) w
  | [], _ => rfl
  | i :: is, h => by
    obtain ⟨hx, hy⟩ := h i List.mem_cons_self
    have ih := eq_intsR d xs ys w is (fun j hj => h j (List.mem_cons_of_mem _ hj))
    have part_at : ∀ (zs : List Int), i < zs.length → (part 3 (zs.map (Value.int .i64)).toArray (i * 1)).run Try.prog w = .ok (.int .i64 (zs.getD i 0)) w := fun zs hz => by
      simp [part, isAgg, Sem.run_bind, run_underlying Try.underlying3, List.getElem?_eq_getElem hz, List.getD]
    rw [Op.eqItems, Sem.run_bind, part_at xs hx, Result.andThen_ok, Sem.run_bind, part_at ys hy, Result.andThen_ok, Sem.run_bind, run_equalIn_int w d 3 .i64 .i64 _ _ Try.underlying3, Result.andThen_ok, List.all_cons]
    cases hb : (xs.getD i 0 == ys.getD i 0)
    · rfl
    · exact ih
theorem list_ext_getDR {xs ys : List Int} (hl : xs.length = ys.length) (h : ∀ j, j < xs.length → xs.getD j 0 = ys.getD j 0) : xs = ys := by
  apply List.ext_getElem hl
  intro j h1 h2
  have := h j h1
  rwa [rget h1, rget h2] at this
theorem all_eqR (xs ys : List Int) (h : xs.length = ys.length) : ((List.range xs.length).all fun i => xs.getD i 0 == ys.getD i 0) = (xs == ys) := by
  rw [Bool.eq_iff_iff, List.all_eq_true, beq_iff_eq]
  constructor
  · intro h1
    exact list_ext_getDR h fun j hj => by simpa using h1 j (List.mem_range.2 hj)
  · rintro rfl j _
    simp
theorem equal_rows (xs ys : List Int) (hx : xs.length = 10) (hy : ys.length = 10) (w : World) : (Op.equalIn 10000 55 (aggA xs) (aggA ys)).run Try.prog w = .ok (xs == ys) w := by
  unfold aggA
  cases hi : Try.prog.info? 3 with
  | none => have := infoInt; rw [hi] at this; simp at this
  | some i =>
    rw [run_equalIn_array w 9999 _ _ ringArr hi, cellsIntR, eq_intsR 9998 xs ys w _ (fun i hi => by have := List.mem_range.1 hi; omega), show 10 = xs.length from hx.symm, all_eqR xs ys (by omega)]
theorem neq_rowsR (xs ys : List Int) (hx : xs.length = 10) (hy : ys.length = 10) (w : World) : (binOp .neq 55 (aggA xs) (aggA ys)).run Try.prog w = .ok (.bool (!(xs == ys))) w := by
  have h := equal_rows xs ys hx hy w
  unfold aggA at *
  rw [run_neq_struct, h]
  rfl

/-- Cells set one by one. -/
def setL : List Value → Nat → List Value → List Value
  | cs, _, [] => cs
  | cs, o, v :: r => setL (cs.set o v) (o + 1) r
theorem heap_setCells {b : Nat} {t : TypeId} : ∀ (vs : List Value) (o : Nat) (cs : List Value) (w : World), w.heap[b]? = some (.cells cs.toArray t (0, 0)) → (w.setCells b o vs).heap[b]? = some (.cells (setL cs o vs).toArray t (0, 0))
  | [], _, _, _, h => h
  | v :: r, o, cs, w, h => heap_setCells r (o + 1) (cs.set o v) (w.setCell ⟨b, o, none⟩ v) (by rw [heap_setCell_same w b o _ t _ h, List.setIfInBounds_toArray])
theorem setL_mid : ∀ (xs ys A B : List Value), xs.length = ys.length → setL (A ++ (ys ++ B)) A.length xs = A ++ (xs ++ B)
  | [], [], A, B, _ => rfl
  | [], _ :: _, _, _, h => by simp at h
  | _ :: _, [], _, _, h => by simp at h
  | x :: xs, y :: ys, A, B, h => by
    rw [setL, List.set_append_right _ _ (Nat.le_refl _), Nat.sub_self, List.cons_append, List.set_cons_zero]
    have := setL_mid xs ys (A ++ [x]) B (by simpa using h)
    rw [List.append_assoc, List.length_append, List.append_assoc] at this
    exact this
theorem lone_setCells (b : Nat) : ∀ (vs : List Value) (o : Nat) (w0 w : World), Lone b w0 w → Lone b w0 (w.setCells b o vs)
  | [], _, _, _, h => h
  | v :: r, o, w0, w, h => lone_setCells b r (o + 1) w0 _ (h.set o v)

theorem wk_there {w : World} {b : Nat} {n : Int} {F : Value} {st ag xs : List Int} {l p : Int} (hL : WkAt w b n F st ag l p) (hl : xs.length = 10) : w.there b 12 ((xs.map (Value.int .i64)).toArray).size := fun j hj => ⟨by
    have hj' : j < 10 := by simpa [hl] using hj
    rw [hL.cellAt, List.getElem?_eq_getElem (by rw [wkL_len hL.hs hL.ha]; omega)]
    rfl, hL.frozen _⟩
theorem wk_stored {w : World} {b : Nat} {n : Int} {F : Value} {st ag xs : List Int} {l p : Int} (hL : WkAt w b n F st ag l p) (hl : xs.length = 10) :
    WkAt (w.setCells b 12 ((xs.map (Value.int .i64)).toArray).toList) b n F st xs l p ∧ Lone b w (w.setCells b 12 ((xs.map (Value.int .i64)).toArray).toList) := by
  refine ⟨⟨hL.hs, hl, ?_⟩, lone_setCells b _ _ w w (Lone.refl b w)⟩
  have h1 := heap_setCells (xs.map (Value.int .i64)) 12 _ w hL.at_
  have h2 := setL_mid (xs.map (Value.int .i64)) (ag.map (Value.int .i64)) (.int .i64 n :: F :: st.map (Value.int .i64)) [.int .i64 l, .int .i64 p] (by simp [hl, hL.ha])
  have h3 : (Value.int .i64 n :: F :: st.map (Value.int .i64)).length = 12 := by simp [hL.hs]
  rw [h3] at h2
  have h4 : wkL n F st ag l p = (Value.int .i64 n :: F :: st.map (Value.int .i64)) ++ (ag.map (Value.int .i64) ++ [.int .i64 l, .int .i64 p]) := rfl
  have h5 : wkL n F st xs l p = (Value.int .i64 n :: F :: st.map (Value.int .i64)) ++ (xs.map (Value.int .i64) ++ [.int .i64 l, .int .i64 p]) := rfl
  rw [h4, h2, ← h5] at h1
  simpa using h1

section
variable {ops : Array Oper} {rest : List Oper} {o : Oper} {a : Act} {w : World} {Q : Exit → Act → World → Prop}
theorem wpList_arr_neq (hgd : o.guard = none) (x y : Operand) (r : TypeId) (ho : o.op = .binOp .neq 55 x y r) (xs ys : List Int)
    (hx : a.eval x = aggA xs) (hy : a.eval y = aggA ys) (hlx : xs.length = 10) (hly : ys.length = 10) (e : Bool) (he : (xs == ys) = e)
    (h : wpList Try.prog ops Q rest (a.put o.dst (.bool (!e))) w) :
    wpList Try.prog ops Q (o :: rest) a w := by
  refine wpList_plain hgd fun K hK => ?_
  subst he
  unfold Oper.wp execOp
  have hgd2 : (eqGuard .neq 55 x y (aggA xs) (aggA ys)).run Try.prog w = .ok () w := run_eqGuard_agg w .neq 55 x y _ _ rowGuardR
  simp only [ho, hx, hy, Sem.run_bind, hgd2, Result.andThen_ok, neq_rowsR xs ys hlx hly w]
  exact hK _ _ h

/-- A row out of the struct. -/
theorem wpList_wk_load (hgd : o.guard = none) (x : Operand) (ho : o.op = .load 55 x) (b k : Nat) (xs : List Int)
    (hx : a.eval x = .pointer (some ⟨b, k, none⟩)) (hl : xs.length = 10) (hL : w.rangeAt b k (xs.map (Value.int .i64)))
    (h : wpList Try.prog ops Q rest (a.put o.dst (aggA xs)) w) :
    wpList Try.prog ops Q (o :: rest) a w :=
  wpList_load_mid hgd 55 x ho b k hx _ _ hL ringArr rfl (by rw [sizeRow, List.length_map, hl]) h
/-- The first that comes again, stored. -/
theorem wpList_wk_store (hgd : o.guard = none) (x y : Operand) (ho : o.op = .store 55 x y) (b : Nat) (n : Int) (F : Value) (st ag xs : List Int) (l p : Int)
    (hx : a.eval x = .pointer (some ⟨b, 12, none⟩)) (hy : a.eval y = aggA xs) (hl : xs.length = 10) (hL : WkAt w b n F st ag l p)
    (h : ∀ w', WkAt w' b n F st xs l p → Lone b w w' → wpList Try.prog ops Q rest (a.put o.dst undef) w') :
    wpList Try.prog ops Q (o :: rest) a w := by
  exact wpList_store_mid hgd 55 x y ho b 12 _ hx hy (wk_there hL hl) (by rw [sizeRow]; simp [hl]) (one_intsA xs) (h _ (wk_stored hL hl).1 (wk_stored hL hl).2)
end

section
variable {ops : Array Oper} {o : Oper} {a : Act} {w : World} {K : Act → World → Prop} {Q : Exit → Act → World → Prop} {E : Prop}
/-- A row stored, as one step of a region that draws. -/
theorem step_arr_store (hgd : o.guard = none) (x y : Operand) (ho : o.op = .store 55 x y) (b : Nat) (t : TypeId) (xs ys : List Int)
    (hx : a.eval x = .pointer (some ⟨b, 0, none⟩)) (hy : a.eval y = aggA ys) (hl : ys.length = 10) (hl' : xs.length = 10) (hL : ArrAt w b t xs)
    (h : ∀ w', ArrAt w' b t ys → Lone b w w' → K (a.put o.dst undef) w') :
    if Region.wanted o (yielded ops a.tmps) = true then Oper.wp Try.prog o a w K Q else E := by
  rw [if_pos (by simp [Region.wanted, hgd])]
  refine wp_store_row 55 x y ho b _ hx hy t _ hL (by rw [sizeRow]; simp [hl]) (by simp [hl, hl']) (one_intsA ys) ?_
  exact h _ (setRow_heap w b _ _ _ _ hL) ⟨below_setRow (Below.refl _ _) (Nat.le_refl _) _, by simp, fun k hk => setRow_other w b k _ hk⟩
/-- A row made, as one step of a region that draws. -/
theorem step_arr_new (hgd : o.guard = none) (ho : o.op = .alloc 55)
    (h : ∀ w', ArrAt w' w.heap.size 55 zero10 → Below w.heap.size w w' → w'.heap.size = w.heap.size + 1 → K (a.put o.dst (.pointer (some ⟨w.heap.size, 0, none⟩))) w') :
    if Region.wanted o (yielded ops a.tmps) = true then Oper.wp Try.prog o a w K Q else E := by
  rw [if_pos (by simp [Region.wanted, hgd])]
  have hz := (zero_of_info (P := Try.prog) infoRow).1 w
  unfold Oper.wp
  simp only [execOp, ho, Sem.run_bind, hz, Result.andThen_ok]
  simp [aggA, Value.cells, newVar, newRow, Sem.run_bind]
  exact h _ (by unfold ArrAt; exact heap_alloc_new _ _) ((Below.refl _ _).alloc (Nat.le_refl _) _) (by simp)
/-- The first that comes again, stored, as one step. -/
theorem step_wk_store (hgd : o.guard = none) (x y : Operand) (ho : o.op = .store 55 x y) (b : Nat) (n : Int) (F : Value) (st ag xs : List Int) (l p : Int)
    (hx : a.eval x = .pointer (some ⟨b, 12, none⟩)) (hy : a.eval y = aggA xs) (hl : xs.length = 10) (hL : WkAt w b n F st ag l p)
    (h : ∀ w', WkAt w' b n F st xs l p → Lone b w w' → K (a.put o.dst undef) w') :
    if Region.wanted o (yielded ops a.tmps) = true then Oper.wp Try.prog o a w K Q else E := by
  rw [if_pos (by simp [Region.wanted, hgd])]
  exact wp_store_mid 55 x y ho b 12 _ hx hy (wk_there hL hl) (by rw [sizeRow]; simp [hl]) (one_intsA xs) (h _ (wk_stored hL hl).1 (wk_stored hL hl).2)
/-- A row loaded, as one step. -/
theorem step_wk_load (hgd : o.guard = none) (x : Operand) (ho : o.op = .load 55 x) (b k : Nat) (xs : List Int)
    (hx : a.eval x = .pointer (some ⟨b, k, none⟩)) (hl : xs.length = 10) (hL : w.rangeAt b k (xs.map (Value.int .i64)))
    (h : K (a.put o.dst (aggA xs)) w) :
    if Region.wanted o (yielded ops a.tmps) = true then Oper.wp Try.prog o a w K Q else E := by
  rw [if_pos (by simp [Region.wanted, hgd])]
  exact wp_load_mid 55 x ho b k hx _ _ hL ringArr rfl (by rw [sizeRow, List.length_map, hl]) h
end
end Go.Proofs.Ytcbcgapnoompbaa

/-
  THE PERIOD, THE PROGRAM's WAY: one ring waits.
-/
namespace Go.Proofs.Ytcbcgapnoompbaa
open Go.RowKit Go.Deep
set_option linter.unusedVariables false

theorem pad_eq (zs : List Int) (h : zs.length ≤ 10) (i j : Nat) : (pad10 (rit zs i) == pad10 (rit zs j)) = (rit zs i == rit zs j) := by
  rw [Bool.eq_iff_iff, beq_iff_eq, beq_iff_eq]
  exact ⟨fun e => pad10_inj (by rw [rit_length, rit_length]) e, fun e => by rw [e]⟩
/-- A number that lies in memory, for a measure. -/
def numAt (w : World) (b j : Nat) : Nat := match w.cell? ⟨b, j, none⟩ with | some v => (intOf v).toNat | none => 0
theorem numAt_of {w : World} {b j : Nat} {k : Int} (h : w.cell? ⟨b, j, none⟩ = some (.int .i64 k)) : numAt w b j = k.toNat := by unfold numAt; rw [h]; rfl
/-- A step out of a row of its own. -/
theorem step_row (b : Nat) (bd bs : Nat) (zs : List Int) (t : Nat) (w : World) (hg : rgood zs = true) (hS : StepAt w bd bs zs.length) (hA : ArrAt w b 55 (pad10 (rit zs t))) :
    Calls Try.prog 72 #[.slice (some ⟨b, 0, none⟩) 10 10, .pointer (some ⟨bd, 0, none⟩), .pointer (some ⟨bs, 0, none⟩)] w fun e w' => e = .returned (aggA (pad10 (rit zs (t + 1)))) ∧ Below w.heap.size w w' := by
  obtain ⟨h1, h2, h3⟩ := rgood_of hg
  have hp : (pad10 (rit zs t)).length = 10 := pad10_len (by rw [rit_length]; exact h2)
  have hi := hA.ints 10 (by omega)
  rw [List.take_of_length_le (by omega)] at hi
  have ht : rit zs t = (pad10 (rit zs t)).take zs.length := by have := pad10_take (rit zs t); rw [rit_length] at this; exact this.symm
  exact stepFn_any (some ⟨b, 0, none⟩) 10 10 w.heap.size bd bs zs.length (pad10 (rit zs t)) (rit zs t) w hi (Nat.le_refl _) hS ht ⟨h1, h2⟩ h2 (Nat.le_refl _) (by unfold maxLen; omega) (rit_within h3 t)

/-- Where the search for the period stands. -/
def PerRel (b bd bs : Nat) (zs ag : List Int) (m p : Nat) (l : Int) (w : World) (pt rw : Value) (wr : World) : Prop :=
  ∃ P q b4 : Nat, pt = .int .i64 P ∧ rw = .pointer (some ⟨b4, 0, none⟩) ∧ 1 ≤ q ∧ q ≤ P ∧ P ≤ 2 * (m + p) ∧ w.heap.size < b4 ∧
    ArrAt wr w.heap.size 55 (pad10 (rit zs (P - 1))) ∧ ArrAt wr b4 55 (pad10 (rit zs (P - 1 + q))) ∧ WkAt wr b zs.length (stepF bd bs) (pad10 zs) ag l q ∧ But b w wr ∧ ∀ r, 1 ≤ r → r < q → rit zs (P - 1 + r) ≠ rit zs (P - 1)

set_option maxRecDepth 100000 in
set_option maxHeartbeats 4000000 in
theorem findPeriod_any (b bd bs : Nat) (zs ag : List Int) (m p : Nat) (l p0 : Int) (w : World) (hg : rgood zs = true) (hc : Cyc (rit zs) m p) (hmp : m + p ≤ 10024)
    (hW : WkAt w b zs.length (stepF bd bs) (pad10 zs) ag l p0) (hS : StepAt w bd bs zs.length) (h1 : bd ≠ b) (h2 : bs ≠ b) :
    Calls Try.prog 76 #[.pointer (some ⟨b, 0, none⟩)] w
      fun e w' => e = .returned (.tuple #[]) ∧ WkAt w' b zs.length (stepF bd bs) (pad10 zs) ag l p ∧ But b w w' := by
  have HW := hide hW
  have HS := hide hS
  have hbw := hW.lt
  have HG := hide hg
  have HP := hide (pad10_len (zs := zs) (rgood_of hg).2.1)
  have HPt := hide (fun t => pad10_len (zs := rit zs t) (by rw [rit_length]; exact (rgood_of hg).2.1))
  have hzl := hide zero10_len
  have HC := hide hc
  clear hW hS hg hc
  go_enter Try.func76, Try.ntmps76
  go_wp2_with (first
    | (with_reducible refine wpList_wk_load rfl (.tmp 7) rfl b 2 (pad10 zs) rfl HP.out HW.out.start ?_)
    | (with_reducible refine wpList_arr_new (o := ⟨some 2, _, _, _, _, _⟩) rfl rfl ?_; intro w1 hA1 hb1 hs1; have A1 := hide hA1; have B1 := hide (But.of_below hb1 (Nat.le_of_lt hbw)); have W1 := hide (HW.out.next hb1); clear hA1 hb1 hs1)
    | (with_reducible refine wpList_arr_store rfl (.tmp 2) (.tmp 8) rfl w.heap.size _ _ (pad10 zs) rfl rfl HP.out hzl.out A1.out ?_; intro w2 hA2 ho2; have A2 := hide hA2; have B2 := hide (B1.out.own ho2 (Nat.le_refl _) hbw); have W2 := hide (W1.out.same (ho2.rest b (Nat.ne_of_lt hbw))); have hcp2 := W2.out.cp; have hfz2 := W2.out.frozen 23; clear hA2 ho2))
  have A3 := hide (A2.out.past (a := ⟨b, 23, none⟩) (Nat.ne_of_gt hbw) (.int .i64 1))
  have B3 := hide (B2.out.set 23 (.int .i64 1))
  have W3 := hide (W2.out.setP 1)
  clear hcp2 hfz2
  clear A1 B1 W1 A2 B2 W2
  generalize w2.setCell ⟨b, 23, none⟩ (.int .i64 1) = w3 at *
  have S3 := hide (B3.out.step HS.out h1 h2)
  have hf3 : w3.cell? ⟨b, 1, none⟩ = some (.func (.func 72) #[] #[.pointer (some ⟨bd, 0, none⟩), .pointer (some ⟨bs, 0, none⟩)]) := W3.out.cF
  have hcut := ring_cut_all w.heap.size 0
  refine wp_region_any (by kernel_rfl) ?_
  change wpAny _ _ _ _ _ _ _ (World.drew _)
  refine wpAny_take (i := 0) (v := ?_) rfl (by kernel_rfl) (by kernel_rfl) (by kernel_rfl) (fun _ _ _ h => h) (Or.inl ⟨rfl, ?_⟩) ?_
  rotate_left
  · intro w; go_simp; first | done | (with_reducible rfl)
  refine wpAny_take (i := 1) (v := ?_) rfl (by kernel_rfl) (by kernel_rfl) (by kernel_rfl) (fun _ _ _ h => h) (Or.inl ⟨rfl, ?_⟩) ?_
  rotate_left
  · intro w; go_simp; first | done | (with_reducible rfl)
  refine wpAny_take (i := 2) (v := ?_) rfl (by kernel_rfl) (by kernel_rfl) (by kernel_rfl) (fun _ _ _ h => h) (Or.inl ⟨rfl, ?_⟩) ?_
  rotate_left
  · intro w; go_simp; first | done | (with_reducible rfl)
  refine wpAny_take (i := 4) (v := ?_) rfl (by kernel_rfl) (by kernel_rfl) (by kernel_rfl) (fun _ _ _ h => h) (Or.inl ⟨rfl, ?_⟩) ?_
  rotate_left
  · intro w; go_simp; first | done | (with_reducible rfl)
  have hb34 : Below w3.heap.size w3 w3.drew := (Below.refl _ _).drew
  have Ad := hide (A3.out.next hb34)
  have Bd := hide (B3.out.next hb34 hbw)
  have Wd := hide (W3.out.next hb34)
  have Sd := hide (S3.out.next hb34)
  have hfd : w3.drew.cell? ⟨b, 1, none⟩ = some (.func (.func 72) #[] #[.pointer (some ⟨bd, 0, none⟩), .pointer (some ⟨bs, 0, none⟩)]) := hf3
  generalize w3.drew = wd at *
  clear hb34 hf3
  have HLd := hide Ad.out.lt
  refine wpAny_ready (rs := [3, 6]) (by kernel_rfl) (by simp) ?_
  refine AllReady.cons rfl (fun K hK => ?_) (AllReady.cons rfl (fun K hK => ?_) AllReady.nil)
  focus
    go_simp
    refine hK _ _ ?_
    clear hK K
    refine wpAny_ready (rs := [5, 6]) (by kernel_rfl) (by simp) ?_
    refine AllReady.cons rfl (fun K hK => ?_) (AllReady.cons rfl (fun K hK => ?_) AllReady.nil)
    focus
      go_simp
      refine (step_row w.heap.size bd bs zs 0 _ HG.out Sd.out Ad.out).mono ?_
      rintro e w5 ⟨rfl, hb5⟩
      refine hK _ _ ?_
      clear hK K
      have Ac := hide (Ad.out.next hb5)
      have Bc := hide (Bd.out.next hb5 hbw)
      have Wc := hide (Wd.out.next hb5)
      have Sc := hide (Sd.out.next hb5)
      refine wpAny_ready (rs := [6]) (by kernel_rfl) (by simp) ?_
      refine AllReady.cons rfl (fun K hK => ?_) AllReady.nil
      refine step_arr_new rfl rfl ?_
      intro wn hA' hb' hs'
      have Nwn := hide hA'
      have Xwn := hide hb'
      have Awn := hide (Ac.out.next hb')
      have Bwn := hide (Bc.out.next hb' hbw)
      have Wwn := hide (Wc.out.next hb')
      have Swn := hide (Sc.out.next hb')
      clear hA' hb' hs'
      refine hK _ _ ?_
      clear hK K
      refine wpAny_ready (rs := [7]) (by kernel_rfl) (by simp) ?_
      refine AllReady.cons rfl (fun K hK => ?_) AllReady.nil
      refine step_arr_store rfl (.tmp 4) (.tmp 17) rfl w5.heap.size _ _ (pad10 (rit zs (0 + 1))) rfl rfl (HPt.out _) hzl.out Nwn.out ?_
      intro w6 hN6 ho6
      have N6 := hide hN6
      have A6 := hide (Awn.out.same (ho6.rest w.heap.size (Nat.ne_of_lt Ac.out.lt)))
      have B6 := hide (Bwn.out.own ho6 (Nat.le_of_lt Ac.out.lt) hbw)
      have W6 := hide (Wwn.out.same (ho6.rest b (Nat.ne_of_lt (Nat.lt_trans hbw Ac.out.lt))))
      have hL4 : w.heap.size < w5.heap.size := Ac.out.lt
      clear hN6 ho6
      refine hK _ _ ?_
      clear hK K
      refine wpAny_done (by kernel_rfl) ?_ _
    rotate_left
    focus
      refine step_arr_new rfl rfl ?_
      intro wn hA' hb' hs'
      have Nwn := hide hA'
      have Xwn := hide hb'
      have Awn := hide (Ad.out.next hb')
      have Bwn := hide (Bd.out.next hb' hbw)
      have Wwn := hide (Wd.out.next hb')
      have Swn := hide (Sd.out.next hb')
      clear hA' hb' hs'
      refine hK _ _ ?_
      clear hK K
      refine wpAny_ready (rs := [5]) (by kernel_rfl) (by simp) ?_
      refine AllReady.cons rfl (fun K hK => ?_) AllReady.nil
      go_simp
      refine (step_row w.heap.size bd bs zs 0 _ HG.out Swn.out Awn.out).mono ?_
      rintro e w5 ⟨rfl, hb5⟩
      refine hK _ _ ?_
      clear hK K
      have Ac := hide (Awn.out.next hb5)
      have Bc := hide (Bwn.out.next hb5 hbw)
      have Wc := hide (Wwn.out.next hb5)
      have Sc := hide (Swn.out.next hb5)
      have Nc := hide (Nwn.out.next hb5)
      refine wpAny_ready (rs := [7]) (by kernel_rfl) (by simp) ?_
      refine AllReady.cons rfl (fun K hK => ?_) AllReady.nil
      refine step_arr_store rfl (.tmp 4) (.tmp 17) rfl wd.heap.size _ _ (pad10 (rit zs (0 + 1))) rfl rfl (HPt.out _) hzl.out Nc.out ?_
      intro w6 hN6 ho6
      have N6 := hide hN6
      have A6 := hide (Ac.out.same (ho6.rest w.heap.size (Nat.ne_of_lt HLd.out)))
      have B6 := hide (Bc.out.own ho6 (Nat.le_of_lt HLd.out) hbw)
      have W6 := hide (Wc.out.same (ho6.rest b (Nat.ne_of_lt (Nat.lt_trans hbw HLd.out))))
      have hL4 : w.heap.size < wd.heap.size := HLd.out
      clear hN6 ho6
      refine hK _ _ ?_
      clear hK K
      refine wpAny_done (by kernel_rfl) ?_ _
  rotate_left 2
  focus
    refine step_arr_new rfl rfl ?_
    intro wn hA' hb' hs'
    have Nwn := hide hA'
    have Xwn := hide hb'
    have Awn := hide (Ad.out.next hb')
    have Bwn := hide (Bd.out.next hb' hbw)
    have Wwn := hide (Wd.out.next hb')
    have Swn := hide (Sd.out.next hb')
    clear hA' hb' hs'
    refine hK _ _ ?_
    clear hK K
    have hfn := (Xwn.out.cell (p := ⟨b, 1, none⟩) (Wd.out.lt)).trans hfd
    refine wpAny_ready (rs := [3]) (by kernel_rfl) (by simp) ?_
    refine AllReady.cons rfl (fun K hK => ?_) AllReady.nil
    go_simp
    refine hK _ _ ?_
    clear hK K
    refine wpAny_ready (rs := [5]) (by kernel_rfl) (by simp) ?_
    refine AllReady.cons rfl (fun K hK => ?_) AllReady.nil
    go_simp
    refine (step_row w.heap.size bd bs zs 0 _ HG.out Swn.out Awn.out).mono ?_
    rintro e w5 ⟨rfl, hb5⟩
    refine hK _ _ ?_
    clear hK K
    have Ac := hide (Awn.out.next hb5)
    have Bc := hide (Bwn.out.next hb5 hbw)
    have Wc := hide (Wwn.out.next hb5)
    have Sc := hide (Swn.out.next hb5)
    have Nc := hide (Nwn.out.next hb5)
    refine wpAny_ready (rs := [7]) (by kernel_rfl) (by simp) ?_
    refine AllReady.cons rfl (fun K hK => ?_) AllReady.nil
    refine step_arr_store rfl (.tmp 4) (.tmp 17) rfl wd.heap.size _ _ (pad10 (rit zs (0 + 1))) rfl rfl (HPt.out _) hzl.out Nc.out ?_
    intro w6 hN6 ho6
    have N6 := hide hN6
    have A6 := hide (Ac.out.same (ho6.rest w.heap.size (Nat.ne_of_lt HLd.out)))
    have B6 := hide (Bc.out.own ho6 (Nat.le_of_lt HLd.out) hbw)
    have W6 := hide (Wc.out.same (ho6.rest b (Nat.ne_of_lt (Nat.lt_trans hbw HLd.out))))
    have hL4 : w.heap.size < wd.heap.size := HLd.out
    clear hN6 ho6
    refine hK _ _ ?_
    clear hK K
    refine wpAny_done (by kernel_rfl) ?_ _
  all_goals
    clear A3 B3 W3 S3
    try clear Nc
    clear Nwn Xwn Awn Bwn Wwn Swn Ac Bc Wc Sc Ad Bd Wd Sd hfd HLd hb5
    try clear hfn
    try clear hcut
  all_goals
    have hp1 := HC.out.pos
    go_wp2_with fail
    go_simp
    go_loopw [3, 4] (PerRel b bd bs zs ag m p l w)
      (fun pt _ wr => 4 * (m + p) + 8 - ((intOf pt).toNat + numAt wr b 23))
    case atStart => exact ⟨1, 1, _, rfl, rfl, Nat.le_refl _, Nat.le_refl _, by omega, hL4, A6.out, N6.out, W6.out, B6.out, fun r h1 h2 => absurd h2 (by omega)⟩
    case round =>
      clear A6 B6 W6 N6 hL4
      obtain ⟨P, q, b4, rfl, rfl, hq1, hqP, hPm, hb4, hA, hN, hW, hB, hne⟩ := hrel
      have AA := hide hA
      have NN := hide hN
      have WW := hide hW
      have BB := hide hB
      have NE := hide hne
      have SS := hide (hB.step HS.out h1 h2)
      have hb4b : b4 ≠ b := by omega
      have hlt4 := hN.lt
      have NM := hide (numAt_of hW.cp)
      clear hA hN hB hne
      by_cases he : rit zs (P - 1 + q) = rit zs (P - 1)
      · have HE := hide (show (pad10 (rit zs (P - 1 + q)) == pad10 (rit zs (P - 1))) = true by rw [he]; simp)
        have hqp := hide (HC.out.waited (rit_told zs) (P - 1) q hq1 he NE.out)
        clear he hW
        go_wp2_with (first
          | (with_reducible refine wpList_arr_load (o := ⟨some 18, _, _, _, _, _⟩) rfl (.tmp 4) rfl b4 _ _ rfl (HPt.out _) NN.out ?_)
          | (with_reducible refine wpList_arr_load (o := ⟨some 19, _, _, _, _, _⟩) rfl (.tmp 2) rfl w.heap.size _ _ rfl (HPt.out _) AA.out ?_)
          | (with_reducible refine wpList_arr_neq (o := ⟨some 20, _, _, _, _, _⟩) rfl (.tmp 18) (.tmp 19) _ rfl _ _ rfl rfl (HPt.out _) (HPt.out _) true HE.out ?_))
        go_end0
        exact ⟨rfl, by have := WW.out; rw [hqp.out] at this; exact this, BB.out⟩
      · have HE := hide (show (pad10 (rit zs (P - 1 + q)) == pad10 (rit zs (P - 1))) = false by rw [pad_eq zs (rgood_of HG.out).2.1, beq_eq_false_iff_ne]; exact he)
        have hcp := hW.cp
        have hfz := hW.frozen 23
        have HNE := hide (show ∀ r, 1 ≤ r → r < q + 1 → rit zs (P - 1 + r) ≠ rit zs (P - 1) from fun r a c => if e : r = q then by subst e; exact he else NE.out r a (by omega))
        clear he hW
        by_cases hqq : q = P
        · subst hqq
          have hPv := HC.out.in_vain (rit_told zs) (q - 1) q (by omega) (fun r a c => HNE.out r a (by omega))
          have HT1 := hide (show q - 1 + q = 2 * q - 1 by omega)
          have HT3 := hide (show 2 * (q : Int) = ((2 * q : Nat) : Int) by omega)
          clear hqP
          go_wp2_with (first
            | (with_reducible refine wpList_arr_load (o := ⟨some 18, _, _, _, _, _⟩) rfl (.tmp 4) rfl b4 _ _ rfl (HPt.out _) NN.out ?_)
            | (with_reducible refine wpList_arr_load (o := ⟨some 19, _, _, _, _, _⟩) rfl (.tmp 2) rfl w.heap.size _ _ rfl (HPt.out _) AA.out ?_)
            | (with_reducible refine wpList_arr_neq (o := ⟨some 20, _, _, _, _, _⟩) rfl (.tmp 18) (.tmp 19) _ rfl _ _ rfl rfl (HPt.out _) (HPt.out _) false HE.out ?_)
            | (with_reducible refine wpList_arr_load (o := ⟨some 33, _, _, _, _, _⟩) rfl (.tmp 4) rfl b4 _ _ rfl (HPt.out _) NN.out ?_)
            | (with_reducible refine wpList_arr_store rfl (.tmp 2) (.tmp 33) rfl w.heap.size _ _ (pad10 (rit zs (q - 1 + q))) rfl rfl (HPt.out _) (HPt.out _) AA.out ?_; intro wa hAa hoa; have Ba := hide (BB.out.own hoa (Nat.le_refl _) hbw); have Wa := hide (WW.out.same (hoa.rest b (Nat.ne_of_lt hbw))); have Na := hide (NN.out.same (hoa.rest b4 (Nat.ne_of_gt hb4))); have hcpa := Wa.out.cp; have hfza := Wa.out.frozen 23; have A7 := hide ((hAa.past (a := ⟨b, 23, none⟩) (Nat.ne_of_gt hbw) (.int .i64 0)).past (a := ⟨b, 23, none⟩) (Nat.ne_of_gt hbw) (.int .i64 1)); have N7 := hide ((Na.out.past (a := ⟨b, 23, none⟩) hb4b (.int .i64 0)).past (a := ⟨b, 23, none⟩) hb4b (.int .i64 1)); have W7 := hide ((Wa.out.setP 0).setP 1); have B7 := hide ((Ba.out.set 23 (.int .i64 0)).set 23 (.int .i64 1)); have hlta : w.heap.size < wa.heap.size := hAa.lt; have HZ7 := hide (show ((wa.setCell ⟨b, 23, none⟩ (.int .i64 0)).setCell ⟨b, 23, none⟩ (.int .i64 1)).heap.size = wa.heap.size by simp); clear hAa hoa)
            | (with_reducible refine wpList_arr_load (o := ⟨some 46, _, _, _, _, _⟩) rfl (.tmp 4) rfl b4 _ _ rfl (HPt.out _) N7.out ?_)
            | (with_reducible refine wpList_arr_new (o := ⟨some 4, _, _, _, _, _⟩) rfl rfl ?_; intro wn hA' hb' hs'; have Nn := hide hA'; have Bn := hide (B7.out.next hb' hbw); have An := hide (A7.out.next hb'); have Wn := hide (W7.out.next hb'); clear hA' hb' hs')
            | (with_reducible refine wpList_arr_store rfl (.tmp 4) (.tmp 46) rfl _ _ _ (pad10 (rit zs (q - 1 + q))) rfl rfl (HPt.out _) hzl.out Nn.out ?_; intro w8 hN8 ho8; rw [HZ7.out] at hN8 ho8; have N8 := hide hN8; have A8 := hide (An.out.same (ho8.rest w.heap.size (Nat.ne_of_lt hlta))); have W8 := hide (Wn.out.same (ho8.rest b (Nat.ne_of_lt (Nat.lt_trans hbw hlta)))); have B8 := hide (Bn.out.own ho8 (Nat.le_of_lt hlta) hbw);  clear hN8 ho8))
          have S8 := hide (B8.out.step HS.out h1 h2)
          have hf8 : w8.cell? ⟨b, 1, none⟩ = some (.func (.func 72) #[] #[.pointer (some ⟨bd, 0, none⟩), .pointer (some ⟨bs, 0, none⟩)]) := W8.out.cF
          have hcut := ring_cut_all wa.heap.size 0
          have HD := hide (step_row wa.heap.size bd bs zs (q - 1 + q) w8.drew HG.out S8.out N8.out)
          go_still_tail 5, (by kernel_rfl)
          change wpList _ _ _ _ _ w8.drew
          go_wp2_with fail
          refine HD.out.mono ?_; rintro e w9 ⟨rfl, hb9⟩
          have hb9' : Below w8.heap.size w8 w9 := (Below.refl _ _).drew.trans hb9
          have A9 := hide (A8.out.next hb9')
          have N9 := hide (N8.out.next hb9')
          have B9 := hide (B8.out.next hb9' hbw)
          have W9 := hide (W8.out.next hb9')
          clear hb9 hb9' hf8 hcut
          go_wp2_with (with_reducible refine wpList_arr_store rfl (.tmp 4) (.tmp 26) rfl wa.heap.size _ _ (pad10 (rit zs ((q - 1 + q) + 1))) rfl rfl (HPt.out _) (HPt.out _) N9.out ?_; intro w10 hN10 ho10; have N10 := hide hN10; have A10 := hide (A9.out.same (ho10.rest w.heap.size (Nat.ne_of_lt hlta))); have W10 := hide (W9.out.same (ho10.rest b (Nat.ne_of_lt (Nat.lt_trans hbw hlta)))); have B10 := hide (B9.out.own ho10 (Nat.le_of_lt hlta) hbw); clear hN10 ho10)
          have NM10 := hide (numAt_of W10.out.cp)
          go_simp
          go_roundw
          case rel => exact ⟨2 * q, 1, wa.heap.size, by rw [← HT3.out], rfl, Nat.le_refl _, by omega, by omega, hlta, by rw [← HT1.out]; exact A10.out, by rw [← HT1.out]; exact N10.out, W10.out, B10.out, fun r a c => absurd c (by omega)⟩
          case measure => rw [NM10.out, NM.out]; simp [intOf]; omega
        · have hqP' : q < P := by omega
          have HQ := hide (show (q : Int) + 1 = ((q + 1 : Nat) : Int) by omega)
          have hqe : ((q : Int) == (P : Int)) = false := by simp; omega
          have HT2 := hide (show P - 1 + q + 1 = P - 1 + (q + 1) by omega)
          have A7 := hide (AA.out.past (a := ⟨b, 23, none⟩) (Nat.ne_of_gt hbw) (.int .i64 ((q : Int) + 1)))
          have N7 := hide (NN.out.past (a := ⟨b, 23, none⟩) hb4b (.int .i64 ((q : Int) + 1)))
          have W7 := hide (WW.out.setP ((q : Int) + 1))
          have B7 := hide (BB.out.set 23 (.int .i64 ((q : Int) + 1)))
          have hlta : w.heap.size < wr.heap.size := AA.out.lt
          have HZ7 := hide (show (wr.setCell ⟨b, 23, none⟩ (.int .i64 ((q : Int) + 1))).heap.size = wr.heap.size by simp)
          have hq10 : q ≤ 20048 := by omega
          clear hqq
          go_wp2_with (first
            | (with_reducible refine wpList_arr_load (o := ⟨some 18, _, _, _, _, _⟩) rfl (.tmp 4) rfl b4 _ _ rfl (HPt.out _) NN.out ?_)
            | (with_reducible refine wpList_arr_load (o := ⟨some 19, _, _, _, _, _⟩) rfl (.tmp 2) rfl w.heap.size _ _ rfl (HPt.out _) AA.out ?_)
            | (with_reducible refine wpList_arr_neq (o := ⟨some 20, _, _, _, _, _⟩) rfl (.tmp 18) (.tmp 19) _ rfl _ _ rfl rfl (HPt.out _) (HPt.out _) false HE.out ?_)
            | (with_reducible refine wpList_arr_load (o := ⟨some 46, _, _, _, _, _⟩) rfl (.tmp 4) rfl b4 _ _ rfl (HPt.out _) N7.out ?_)
            | (with_reducible refine wpList_arr_new (o := ⟨some 4, _, _, _, _, _⟩) rfl rfl ?_; intro wn hA' hb' hs'; have Nn := hide hA'; have Bn := hide (B7.out.next hb' hbw); have An := hide (A7.out.next hb'); have Wn := hide (W7.out.next hb'); clear hA' hb' hs')
            | (with_reducible refine wpList_arr_store rfl (.tmp 4) (.tmp 46) rfl _ _ _ (pad10 (rit zs (P - 1 + q))) rfl rfl (HPt.out _) hzl.out Nn.out ?_; intro w8 hN8 ho8; rw [HZ7.out] at hN8 ho8; have N8 := hide hN8; have A8 := hide (An.out.same (ho8.rest w.heap.size (Nat.ne_of_lt hlta))); have W8 := hide (Wn.out.same (ho8.rest b (Nat.ne_of_lt (Nat.lt_trans hbw hlta)))); have B8 := hide (Bn.out.own ho8 (Nat.le_of_lt hlta) hbw);  clear hN8 ho8))
          have S8 := hide (B8.out.step HS.out h1 h2)
          have hf8 : w8.cell? ⟨b, 1, none⟩ = some (.func (.func 72) #[] #[.pointer (some ⟨bd, 0, none⟩), .pointer (some ⟨bs, 0, none⟩)]) := W8.out.cF
          have hcut := ring_cut_all wr.heap.size 0
          have HD := hide (step_row wr.heap.size bd bs zs (P - 1 + q) w8.drew HG.out S8.out N8.out)
          go_still_tail 5, (by kernel_rfl)
          change wpList _ _ _ _ _ w8.drew
          go_wp2_with fail
          refine HD.out.mono ?_; rintro e w9 ⟨rfl, hb9⟩
          have hb9' : Below w8.heap.size w8 w9 := (Below.refl _ _).drew.trans hb9
          have A9 := hide (A8.out.next hb9')
          have N9 := hide (N8.out.next hb9')
          have B9 := hide (B8.out.next hb9' hbw)
          have W9 := hide (W8.out.next hb9')
          clear hb9 hb9' hf8 hcut
          go_wp2_with (with_reducible refine wpList_arr_store rfl (.tmp 4) (.tmp 26) rfl wr.heap.size _ _ (pad10 (rit zs ((P - 1 + q) + 1))) rfl rfl (HPt.out _) (HPt.out _) N9.out ?_; intro w10 hN10 ho10; have N10 := hide hN10; have A10 := hide (A9.out.same (ho10.rest w.heap.size (Nat.ne_of_lt hlta))); have W10 := hide (W9.out.same (ho10.rest b (Nat.ne_of_lt (Nat.lt_trans hbw hlta)))); have B10 := hide (B9.out.own ho10 (Nat.le_of_lt hlta) hbw); clear hN10 ho10)
          have NM10 := hide (numAt_of W10.out.cp)
          go_simp
          go_roundw
          case rel => exact ⟨P, q + 1, wr.heap.size, rfl, rfl, by omega, by omega, hPm, hlta, A10.out, by rw [← HT2.out]; exact N10.out, by rw [← HQ.out]; exact W10.out, B10.out, HNE.out⟩
          case measure => rw [NM10.out, NM.out]; simp [intOf]; omega
end Go.Proofs.Ytcbcgapnoompbaa
