
/-
  WHERE THE STEPS FROM A RING LEAD: the struct as one block; its fields read and written; rows compared.
-/
import Derived.Test.YtkhcabgpbmhimaaRiU
import Derived.Deep.MidRow
namespace Go.Proofs.Ytkhcabgpbmhimaa
open Go.RowKit Go.Deep
set_option linter.unusedVariables false

/-- The cells of such a struct. -/
def wkL (n : Int) (F : Value) (st ag : List Int) (l p : Int) : List Value := .int .i64 n :: F :: (st.map (Value.int .i64) ++ (ag.map (Value.int .i64) ++ [.int .i64 l, .int .i64 p]))
/-- The step of rings of a size. -/
def stepF (bd bs : Nat) : Value := .func (.func 33) #[] #[.pointer (some ⟨bd, 0, none⟩), .pointer (some ⟨bs, 0, none⟩)]
structure WkAt (w : World) (b : Nat) (n : Int) (F : Value) (st ag : List Int) (l p : Int) : Prop where
  hs : st.length = 10
  ha : ag.length = 10
  at_ : w.heap[b]? = some (.cells (wkL n F st ag l p).toArray 45 (0, 0))
theorem wkL_len {n : Int} {F : Value} {st ag : List Int} {l p : Int} (hs : st.length = 10) (ha : ag.length = 10) : (wkL n F st ag l p).length = 24 := by simp [wkL, hs, ha]

section
variable {w w' : World} {b : Nat} {n : Int} {F : Value} {st ag : List Int} {l p : Int}
theorem WkAt.lt (h : WkAt w b n F st ag l p) : b < w.heap.size := (Array.getElem?_eq_some_iff.1 h.at_).1
theorem WkAt.cellAt (h : WkAt w b n F st ag l p) (j : Nat) : w.cell? ⟨b, j, none⟩ = (wkL n F st ag l p)[j]? := by
  rw [cell_of_row w b j _ _ (0, 0) h.at_, List.getElem?_toArray]
theorem WkAt.frozen (h : WkAt w b n F st ag l p) (j : Nat) : w.frozen? ⟨b, j, none⟩ = false := frozen_of_row w b j _ _ h.at_
theorem WkAt.c0 (h : WkAt w b n F st ag l p) : w.cell? ⟨b, 0, none⟩ = some (.int .i64 n) := by rw [h.cellAt]; rfl
theorem WkAt.cF (h : WkAt w b n F st ag l p) : w.cell? ⟨b, 1, none⟩ = some F := by rw [h.cellAt]; rfl
theorem WkAt.cl (h : WkAt w b n F st ag l p) : w.cell? ⟨b, 22, none⟩ = some (.int .i64 l) := by
  rw [h.cellAt]; unfold wkL
  rw [List.getElem?_cons_succ, List.getElem?_cons_succ, List.getElem?_append_right (by rw [List.length_map, h.hs]; omega), List.length_map, h.hs, List.getElem?_append_right (by rw [List.length_map, h.ha]; omega), List.length_map, h.ha]; rfl
theorem WkAt.cp (h : WkAt w b n F st ag l p) : w.cell? ⟨b, 23, none⟩ = some (.int .i64 p) := by
  rw [h.cellAt]; unfold wkL
  rw [List.getElem?_cons_succ, List.getElem?_cons_succ, List.getElem?_append_right (by rw [List.length_map, h.hs]; omega), List.length_map, h.hs, List.getElem?_append_right (by rw [List.length_map, h.ha]; omega), List.length_map, h.ha]; rfl
theorem WkAt.start (h : WkAt w b n F st ag l p) : w.rangeAt b 2 (st.map (Value.int .i64)) := fun j v hv => by
  have hj : j < 10 := by have := (List.getElem?_eq_some_iff.1 hv).1; rw [List.length_map, h.hs] at this; exact this
  rw [h.cellAt]; unfold wkL
  rw [show 2 + j = j + 1 + 1 by omega, List.getElem?_cons_succ, List.getElem?_cons_succ, List.getElem?_append_left (by rw [List.length_map, h.hs]; omega)]
  exact hv
theorem WkAt.again (h : WkAt w b n F st ag l p) : w.rangeAt b 12 (ag.map (Value.int .i64)) := fun j v hv => by
  have hj : j < 10 := by have := (List.getElem?_eq_some_iff.1 hv).1; rw [List.length_map, h.ha] at this; exact this
  rw [h.cellAt]; unfold wkL
  rw [show 12 + j = j + 10 + 1 + 1 by omega, List.getElem?_cons_succ, List.getElem?_cons_succ, List.getElem?_append_right (by rw [List.length_map, h.hs]; omega), List.length_map, h.hs, show j + 10 - 10 = j by omega, List.getElem?_append_left (by rw [List.length_map, h.ha]; omega)]
  exact hv
theorem WkAt.same (h : WkAt w b n F st ag l p) (e : w'.heap[b]? = w.heap[b]?) : WkAt w' b n F st ag l p := ⟨h.hs, h.ha, e.trans h.at_⟩
theorem WkAt.below (h : WkAt w b n F st ag l p) {B : Nat} (hb : Below B w w') (hg : b < B) : WkAt w' b n F st ag l p := h.same (hb.block b hg)
theorem WkAt.next (h : WkAt w b n F st ag l p) (hb : Below w.heap.size w w') : WkAt w' b n F st ag l p := h.below hb h.lt
theorem WkAt.setL (h : WkAt w b n F st ag l p) (l' : Int) : WkAt (w.setCell ⟨b, 22, none⟩ (.int .i64 l')) b n F st ag l' p := by
  refine ⟨h.hs, h.ha, ?_⟩
  rw [heap_setCell_same w b 22 _ _ _ h.at_, List.setIfInBounds_toArray]
  congr 3
  unfold wkL
  rw [List.set_cons_succ, List.set_cons_succ, List.set_append_right _ _ (by rw [List.length_map, h.hs]; omega), List.length_map, h.hs, List.set_append_right _ _ (by rw [List.length_map, h.ha]; omega), List.length_map, h.ha]; rfl
theorem WkAt.setP (h : WkAt w b n F st ag l p) (p' : Int) : WkAt (w.setCell ⟨b, 23, none⟩ (.int .i64 p')) b n F st ag l p' := by
  refine ⟨h.hs, h.ha, ?_⟩
  rw [heap_setCell_same w b 23 _ _ _ h.at_, List.setIfInBounds_toArray]
  congr 3
  unfold wkL
  rw [List.set_cons_succ, List.set_cons_succ, List.set_append_right _ _ (by rw [List.length_map, h.hs]; omega), List.length_map, h.hs, List.set_append_right _ _ (by rw [List.length_map, h.ha]; omega), List.length_map, h.ha]; rfl
end

/-- ALL BLOCKS BUT ONE ARE AS THEY WERE; others may have been made. -/
structure But (b : Nat) (w w' : World) : Prop where
  below : Below b w w'
  rest : ∀ h, h < w.heap.size → h ≠ b → w'.heap[h]? = w.heap[h]?
section
variable {b : Nat} {w w1 w2 : World}
theorem But.refl (b : Nat) (w : World) : But b w w := ⟨Below.refl _ _, fun _ _ _ => rfl⟩
theorem But.size (h : But b w w1) : w.heap.size ≤ w1.heap.size := h.below.size
theorem But.trans (h : But b w w1) (h2 : But b w1 w2) : But b w w2 := ⟨h.below.trans h2.below, fun k hk hn => (h2.rest k (Nat.lt_of_lt_of_le hk h.size) hn).trans (h.rest k hk hn)⟩
theorem But.of_below (h : Below w.heap.size w w1) (hb : b ≤ w.heap.size) : But b w w1 := ⟨h.mono hb, fun k hk _ => h.block k hk⟩
theorem But.of_lone (h : Lone b w w1) : But b w w1 := ⟨h.below, fun k _ hn => h.rest k hn⟩
theorem But.next (h : But b w w1) (h2 : Below w1.heap.size w1 w2) (hb : b < w.heap.size) : But b w w2 := h.trans (But.of_below h2 (Nat.le_trans (Nat.le_of_lt hb) h.size))
theorem But.set (h : But b w w1) (j : Nat) (v : Value) : But b w (w1.setCell ⟨b, j, none⟩ v) := h.trans (But.of_lone ((Lone.refl b w1).set j v))
/-- A block that the call has made itself may change too. -/
theorem But.own {c : Nat} (h : But b w w1) (h2 : Lone c w1 w2) (hc : w.heap.size ≤ c) (hb : b < w.heap.size) : But b w w2 :=
  ⟨h.below.trans (h2.below.mono (by omega)), fun k hk hn => (h2.rest k (by omega)).trans (h.rest k hk hn)⟩
theorem But.arr {c : Nat} {t : TypeId} {xs : List Int} (h : But b w w1) (hA : ArrAt w c t xs) (hn : c ≠ b) : ArrAt w1 c t xs := hA.same (h.rest c hA.lt hn)
theorem But.step {bd bs n : Nat} (h : But b w w1) (hS : StepAt w bd bs n) (h1 : bd ≠ b) (h2 : bs ≠ b) : StepAt w1 bd bs n := hS.same (h.rest bd hS.2.2.1 h1) (h.rest bs hS.2.2.2 h2) h.size
end

theorem wkSize : (Try.prog.info? 45).map (·.size) = some 24 := by kernel_rfl
theorem wkInfo : (Try.prog.info? 45).map (fun i => (i.zero, i.size)) = some (some (.agg (wkL 0 .nilFunc zero10 zero10 0 0).toArray), 24) := by kernel_rfl
theorem rowGuardR : Try.prog.eqGuardType Try.prog.depth 43 = false := by kernel_rfl
theorem cellsIntR : Try.prog.cellsOf 3 = 1 := by kernel_rfl

/-- Numbers are compared one by one. -/
theorem eq_intsR (d : Nat) (xs ys : List Int) (w : World) : ∀ is : List Nat, (∀ i ∈ is, i < xs.length ∧ i < ys.length) →
    (Op.eqItems (d + 1) 3 1 (xs.map (Value.int .i64)).toArray (ys.map (Value.int .i64)).toArray is).run Try.prog w = .ok (is.all fun i => xs.getD i 0 == ys.getD i 0) w
  | [], _ => rfl
  | i :: is, h => by
    obtain ⟨hx, hy⟩ := h i List.mem_cons_self
    have ih := eq_intsR d xs ys w is (fun j hj => h j (List.mem_cons_of_mem _ hj))
    have part_at : ∀ (zs : List Int), i < zs.length → (part 3 (zs.map (Value.int .i64)).toArray (i * 1)).run Try.prog w = .ok (.int .i64 (zs.getD i 0)) w := fun zs hz => by
      simp [part, isAgg, Sem.run_bind, run_underlying Try.underlying3, List.getElem?_eq_getElem hz, List.getD]
    rw [Op.eqItems, Sem.run_bind, part_at xs hx, Result.andThen_ok, Sem.run_bind, part_at ys hy, Result.andThen_ok, Sem.run_bind, run_equalIn_int w d 3 .i64 .i64 _ _ Try.underlying3, Result.andThen_ok, List.all_cons]
    cases hb : (xs.getD i 0 == ys.getD i 0)
    · rfl
    · exact ih
theorem list_ext_getDR {xs ys : List Int} (hl : xs.length = ys.length) (h : ∀ j, j < xs.length → xs.getD j 0 = ys.getD j 0) : xs = ys := by
  apply List.ext_getElem hl
  intro j h1 h2
  have := h j h1
  rwa [rget h1, rget h2] at this
theorem all_eqR (xs ys : List Int) (h : xs.length = ys.length) : ((List.range xs.length).all fun i => xs.getD i 0 == ys.getD i 0) = (xs == ys) := by
  rw [Bool.eq_iff_iff, List.all_eq_true, beq_iff_eq]
  constructor
  · intro h1
    exact list_ext_getDR h fun j hj => by simpa using h1 j (List.mem_range.2 hj)
  · rintro rfl j _
    simp
theorem equal_rows (xs ys : List Int) (hx : xs.length = 10) (hy : ys.length = 10) (w : World) : (Op.equalIn 10000 43 (aggA xs) (aggA ys)).run Try.prog w = .ok (xs == ys) w := by
  unfold aggA
  cases hi : Try.prog.info? 3 with
  | none => have := infoInt; rw [hi] at this; simp at this
  | some i =>
    rw [run_equalIn_array w 9999 _ _ ringArr hi, cellsIntR, eq_intsR 9998 xs ys w _ (fun i hi => by have := List.mem_range.1 hi; omega), show 10 = xs.length from hx.symm, all_eqR xs ys (by omega)]
theorem neq_rowsR (xs ys : List Int) (hx : xs.length = 10) (hy : ys.length = 10) (w : World) : (binOp .neq 43 (aggA xs) (aggA ys)).run Try.prog w = .ok (.bool (!(xs == ys))) w := by
  have h := equal_rows xs ys hx hy w
  unfold aggA at *
  rw [run_neq_struct, h]
  rfl

/-- Cells set one by one. -/
def setL : List Value → Nat → List Value → List Value
  | cs, _, [] => cs
  | cs, o, v :: r => setL (cs.set o v) (o + 1) r
theorem heap_setCells {b : Nat} {t : TypeId} : ∀ (vs : List Value) (o : Nat) (cs : List Value) (w : World), w.heap[b]? = some (.cells cs.toArray t (0, 0)) → (w.setCells b o vs).heap[b]? = some (.cells (setL cs o vs).toArray t (0, 0))
  | [], _, _, _, h => h
  | v :: r, o, cs, w, h => heap_setCells r (o + 1) (cs.set o v) (w.setCell ⟨b, o, none⟩ v) (by rw [heap_setCell_same w b o _ t _ h, List.setIfInBounds_toArray])
theorem setL_mid : ∀ (xs ys A B : List Value), xs.length = ys.length → setL (A ++ (ys ++ B)) A.length xs = A ++ (xs ++ B)
  | [], [], A, B, _ => rfl
  | [], _ :: _, _, _, h => by simp at h
  | _ :: _, [], _, _, h => by simp at h
  | x :: xs, y :: ys, A, B, h => by
    rw [setL, List.set_append_right _ _ (Nat.le_refl _), Nat.sub_self, List.cons_append, List.set_cons_zero]
    have := setL_mid xs ys (A ++ [x]) B (by simpa using h)
    rw [List.append_assoc, List.length_append, List.append_assoc] at this
    exact this
theorem lone_setCells (b : Nat) : ∀ (vs : List Value) (o : Nat) (w0 w : World), Lone b w0 w → Lone b w0 (w.setCells b o vs)
  | [], _, _, _, h => h
  | v :: r, o, w0, w, h => lone_setCells b r (o + 1) w0 _ (h.set o v)

theorem wk_there {w : World} {b : Nat} {n : Int} {F : Value} {st ag xs : List Int} {l p : Int} (hL : WkAt w b n F st ag l p) (hl : xs.length = 10) : w.there b 12 ((xs.map (Value.int .i64)).toArray).size := fun j hj => ⟨by
    have hj' : j < 10 := by simpa [hl] using hj
    rw [hL.cellAt, List.getElem?_eq_getElem (by rw [wkL_len hL.hs hL.ha]; omega)]
    rfl, hL.frozen _⟩
theorem wk_stored {w : World} {b : Nat} {n : Int} {F : Value} {st ag xs : List Int} {l p : Int} (hL : WkAt w b n F st ag l p) (hl : xs.length = 10) :
    WkAt (w.setCells b 12 ((xs.map (Value.int .i64)).toArray).toList) b n F st xs l p ∧ Lone b w (w.setCells b 12 ((xs.map (Value.int .i64)).toArray).toList) := by
  refine ⟨⟨hL.hs, hl, ?_⟩, lone_setCells b _ _ w w (Lone.refl b w)⟩
  have h1 := heap_setCells (xs.map (Value.int .i64)) 12 _ w hL.at_
  have h2 := setL_mid (xs.map (Value.int .i64)) (ag.map (Value.int .i64)) (.int .i64 n :: F :: st.map (Value.int .i64)) [.int .i64 l, .int .i64 p] (by simp [hl, hL.ha])
  have h3 : (Value.int .i64 n :: F :: st.map (Value.int .i64)).length = 12 := by simp [hL.hs]
  rw [h3] at h2
  have h4 : wkL n F st ag l p = (Value.int .i64 n :: F :: st.map (Value.int .i64)) ++ (ag.map (Value.int .i64) ++ [.int .i64 l, .int .i64 p]) := rfl
  have h5 : wkL n F st xs l p = (Value.int .i64 n :: F :: st.map (Value.int .i64)) ++ (xs.map (Value.int .i64) ++ [.int .i64 l, .int .i64 p]) := rfl
  rw [h4, h2, ← h5] at h1
  simpa using h1

section
variable {ops : Array Oper} {rest : List Oper} {o : Oper} {a : Act} {w : World} {Q : Exit → Act → World → Prop}
theorem wpList_arr_neq (hgd : o.guard = none) (x y : Operand) (r : TypeId) (ho : o.op = .binOp .neq 43 x y r) (xs ys : List Int)
    (hx : a.eval x = aggA xs) (hy : a.eval y = aggA ys) (hlx : xs.length = 10) (hly : ys.length = 10) (e : Bool) (he : (xs == ys) = e)
    (h : wpList Try.prog ops Q rest (a.put o.dst (.bool (!e))) w) :
    wpList Try.prog ops Q (o :: rest) a w := by
  refine wpList_plain hgd fun K hK => ?_
  subst he
  unfold Oper.wp execOp
  have hgd2 : (eqGuard .neq 43 x y (aggA xs) (aggA ys)).run Try.prog w = .ok () w := run_eqGuard_agg w .neq 43 x y _ _ rowGuardR
  simp only [ho, hx, hy, Sem.run_bind, hgd2, Result.andThen_ok, neq_rowsR xs ys hlx hly w]
  exact hK _ _ h

/-- A row out of the struct. -/
theorem wpList_wk_load (hgd : o.guard = none) (x : Operand) (ho : o.op = .load 43 x) (b k : Nat) (xs : List Int)
    (hx : a.eval x = .pointer (some ⟨b, k, none⟩)) (hl : xs.length = 10) (hL : w.rangeAt b k (xs.map (Value.int .i64)))
    (h : wpList Try.prog ops Q rest (a.put o.dst (aggA xs)) w) :
    wpList Try.prog ops Q (o :: rest) a w :=
  wpList_load_mid hgd 43 x ho b k hx _ _ hL ringArr rfl (by rw [sizeRow, List.length_map, hl]) h
/-- The first that comes again, stored. -/
theorem wpList_wk_store (hgd : o.guard = none) (x y : Operand) (ho : o.op = .store 43 x y) (b : Nat) (n : Int) (F : Value) (st ag xs : List Int) (l p : Int)
    (hx : a.eval x = .pointer (some ⟨b, 12, none⟩)) (hy : a.eval y = aggA xs) (hl : xs.length = 10) (hL : WkAt w b n F st ag l p)
    (h : ∀ w', WkAt w' b n F st xs l p → Lone b w w' → wpList Try.prog ops Q rest (a.put o.dst undef) w') :
    wpList Try.prog ops Q (o :: rest) a w := by
  exact wpList_store_mid hgd 43 x y ho b 12 _ hx hy (wk_there hL hl) (by rw [sizeRow]; simp [hl]) (one_intsA xs) (h _ (wk_stored hL hl).1 (wk_stored hL hl).2)
end

section
variable {ops : Array Oper} {o : Oper} {a : Act} {w : World} {K : Act → World → Prop} {Q : Exit → Act → World → Prop} {E : Prop}
/-- A row stored, as one step of a region that draws. -/
theorem step_arr_store (hgd : o.guard = none) (x y : Operand) (ho : o.op = .store 43 x y) (b : Nat) (t : TypeId) (xs ys : List Int)
    (hx : a.eval x = .pointer (some ⟨b, 0, none⟩)) (hy : a.eval y = aggA ys) (hl : ys.length = 10) (hl' : xs.length = 10) (hL : ArrAt w b t xs)
    (h : ∀ w', ArrAt w' b t ys → Lone b w w' → K (a.put o.dst undef) w') :
    if Region.wanted o (yielded ops a.tmps) = true then Oper.wp Try.prog o a w K Q else E := by
  rw [if_pos (by simp [Region.wanted, hgd])]
  refine wp_store_row 43 x y ho b _ hx hy t _ hL (by rw [sizeRow]; simp [hl]) (by simp [hl, hl']) (one_intsA ys) ?_
  exact h _ (setRow_heap w b _ _ _ _ hL) ⟨below_setRow (Below.refl _ _) (Nat.le_refl _) _, by simp, fun k hk => setRow_other w b k _ hk⟩
/-- A row made, as one step of a region that draws. -/
theorem step_arr_new (hgd : o.guard = none) (ho : o.op = .alloc 43)
    (h : ∀ w', ArrAt w' w.heap.size 43 zero10 → Below w.heap.size w w' → w'.heap.size = w.heap.size + 1 → K (a.put o.dst (.pointer (some ⟨w.heap.size, 0, none⟩))) w') :
    if Region.wanted o (yielded ops a.tmps) = true then Oper.wp Try.prog o a w K Q else E := by
  rw [if_pos (by simp [Region.wanted, hgd])]
  have hz := (zero_of_info (P := Try.prog) infoRow).1 w
  unfold Oper.wp
  simp only [execOp, ho, Sem.run_bind, hz, Result.andThen_ok]
  simp [aggA, Value.cells, newVar, newRow, Sem.run_bind]
  exact h _ (by unfold ArrAt; exact heap_alloc_new _ _) ((Below.refl _ _).alloc (Nat.le_refl _) _) (by simp)
/-- The first that comes again, stored, as one step. -/
theorem step_wk_store (hgd : o.guard = none) (x y : Operand) (ho : o.op = .store 43 x y) (b : Nat) (n : Int) (F : Value) (st ag xs : List Int) (l p : Int)
    (hx : a.eval x = .pointer (some ⟨b, 12, none⟩)) (hy : a.eval y = aggA xs) (hl : xs.length = 10) (hL : WkAt w b n F st ag l p)
    (h : ∀ w', WkAt w' b n F st xs l p → Lone b w w' → K (a.put o.dst undef) w') :
    if Region.wanted o (yielded ops a.tmps) = true then Oper.wp Try.prog o a w K Q else E := by
  rw [if_pos (by simp [Region.wanted, hgd])]
  exact wp_store_mid 43 x y ho b 12 _ hx hy (wk_there hL hl) (by rw [sizeRow]; simp [hl]) (one_intsA xs) (h _ (wk_stored hL hl).1 (wk_stored hL hl).2)
/-- A row loaded, as one step. -/
theorem step_wk_load (hgd : o.guard = none) (x : Operand) (ho : o.op = .load 43 x) (b k : Nat) (xs : List Int)
    (hx : a.eval x = .pointer (some ⟨b, k, none⟩)) (hl : xs.length = 10) (hL : w.rangeAt b k (xs.map (Value.int .i64)))
    (h : K (a.put o.dst (aggA xs)) w) :
    if Region.wanted o (yielded ops a.tmps) = true then Oper.wp Try.prog o a w K Q else E := by
  rw [if_pos (by simp [Region.wanted, hgd])]
  exact wp_load_mid 43 x ho b k hx _ _ hL ringArr rfl (by rw [sizeRow, List.length_map, hl]) h
end
end Go.Proofs.Ytkhcabgpbmhimaa
