import Derived.Test.YtcbcgapnoompbaaMg06
import Derived.Test.YtcbcgapnoompbaaMg12
import Derived.Laws.Tables
import Derived.Laws.Rows
import Derived.Laws.Slices
import Derived.Deep.WholeRow
import Derived.Deep.MidRow
import Derived.ChangeKeysEq
import Derived.Laws.CopyOwn
import Derived.Test.YtcbcgapnoompbaaMg11
import Derived.ArgAppend
import Derived.StillTailTactics
import Derived.Laws.EntriesVeiled

/-
  A ROW OF A RING AS ONE VALUE: made, boxed, stored, loaded, cut, handed out; no operation is told cell by cell.
-/
namespace Go.Proofs.Ytcbcgapnoompbaa
open Go.RowKit Go.Deep
set_option linter.unusedVariables false

/-- A block of numbers. -/
def ArrAt (w : World) (b : Nat) (t : TypeId) (xs : List Int) : Prop := w.heap[b]? = some (.cells (xs.map (Value.int .i64)).toArray t (0, 0))
section
variable {w w' : World} {b : Nat} {t : TypeId} {xs : List Int}
theorem ArrAt.cell (h : ArrAt w b t xs) (j : Nat) (hj : j < xs.length) : w.cell? ⟨b, j, none⟩ = some (.int .i64 (xs.getD j 0)) := by
  rw [cell_of_row w b j _ t (0, 0) h, List.getElem?_toArray, List.getElem?_map, List.getElem?_eq_getElem hj]; simp [List.getD, List.getElem?_eq_getElem hj]
theorem ArrAt.frozen (h : ArrAt w b t xs) (j : Nat) : w.frozen? ⟨b, j, none⟩ = false := frozen_of_row w b j _ t h
theorem ArrAt.lt (h : ArrAt w b t xs) : b < w.heap.size := (Array.getElem?_eq_some_iff.1 h).1
theorem ArrAt.set (h : ArrAt w b t xs) (j : Nat) (v : Int) : ArrAt (w.setCell ⟨b, j, none⟩ (.int .i64 v)) b t (xs.set j v) := by
  unfold ArrAt
  rw [heap_setCell_same w b j _ t _ h, List.map_set]
  congr 2
  simp [List.setIfInBounds_toArray]
theorem ArrAt.same (h : ArrAt w b t xs) (e : w'.heap[b]? = w.heap[b]?) : ArrAt w' b t xs := e.trans h
theorem ArrAt.below (h : ArrAt w b t xs) {B : Nat} (hb : Below B w w') (hg : b < B) : ArrAt w' b t xs := h.same (hb.block b hg)
theorem ArrAt.next (h : ArrAt w b t xs) (hb : Below w.heap.size w w') : ArrAt w' b t xs := h.below hb h.lt
theorem ArrAt.new (h : ArrAt w b t xs) (o : Obj) : ArrAt (w.alloc o) b t xs := (Below.heap_alloc _ _ _ h.lt).trans h
theorem ArrAt.past (h : ArrAt w b t xs) {a : Addr} (ha : b ≠ a.block) (v : Value) : ArrAt (w.setCell a v) b t xs := (Below.heap_setCell _ _ _ _ ha).trans h
theorem ArrAt.made (w : World) (t : TypeId) (xs : List Int) : ArrAt (w.alloc (.cells (xs.map (Value.int .i64)).toArray t)) w.heap.size t xs := heap_alloc_new _ _
theorem ArrAt.ints (h : ArrAt w b t xs) (n : Nat) (hn : n ≤ xs.length) : Ints w w.heap.size (some ⟨b, 0, none⟩) n (xs.take n) :=
  ⟨by rw [List.length_take]; omega, fun _ => ⟨_, rfl, h.lt, fun k hk => by
    rw [add_head, h.cell k (by omega)]
    simp [List.getD, List.getElem?_take, hk]⟩⟩
end

/-- WHAT A STORE INTO ONE BLOCK LEAVES. -/
structure Lone (b : Nat) (w w' : World) : Prop where
  below : Below b w w'
  size : w'.heap.size = w.heap.size
  rest : ∀ h, h ≠ b → w'.heap[h]? = w.heap[h]?
theorem Lone.refl (b : Nat) (w : World) : Lone b w w := ⟨Below.refl _ _, rfl, fun _ _ => rfl⟩
theorem Lone.drew {b : Nat} {w w' : World} (h : Lone b w w') : Lone b w w'.drew := ⟨h.below.drew, h.size, h.rest⟩
theorem Lone.set {b : Nat} {w w' : World} (h : Lone b w w') (j : Nat) (v : Value) : Lone b w (w'.setCell ⟨b, j, none⟩ v) :=
  ⟨h.below.setCell (Nat.le_refl _) _, by rw [← h.size]; simp, fun k hk => (heap_setCell_other w' ⟨b, j, none⟩ k v hk).trans (h.rest k hk)⟩
theorem Lone.trans {b : Nat} {w w1 w2 : World} (h : Lone b w w1) (h2 : Lone b w1 w2) : Lone b w w2 := ⟨h.below.trans h2.below, h2.size.trans h.size, fun k hk => (h2.rest k hk).trans (h.rest k hk)⟩

/-- The value of a row. -/
def aggA (xs : List Int) : Value := .agg (xs.map (Value.int .i64)).toArray
theorem one_intsA (xs : List Int) : (xs.map (Value.int .i64)).toArray.all (·.oneCell') = true := by
  rw [Array.all_eq_true_iff_forall_mem]
  intro v hv
  simp at hv
  obtain ⟨z, _, rfl⟩ := hv
  rfl
def zero10 : List Int := List.replicate 10 0
theorem zero10_len : zero10.length = 10 := by simp [zero10]
theorem infoRow : (Try.prog.info? 55).map (fun i => (i.zero, i.size)) = some (some (aggA zero10), 10) := by kernel_rfl
theorem sizeRow : (Try.prog.info? 55).map (·.size) = some 10 := by kernel_rfl
theorem ringArr : Try.prog.underlying 55 = some (.array 10 3) := by kernel_rfl

section
variable {ops : Array Oper} {rest : List Oper} {o : Oper} {a : Act} {w : World} {Q : Exit → Act → World → Prop}

/-- A row of its own is made. -/
theorem wpList_arr_new (hgd : o.guard = none) (ho : o.op = .alloc 55)
    (h : ∀ w', ArrAt w' w.heap.size 55 zero10 → Below w.heap.size w w' → w'.heap.size = w.heap.size + 1 → wpList Try.prog ops Q rest (a.put o.dst (.pointer (some ⟨w.heap.size, 0, none⟩))) w') :
    wpList Try.prog ops Q (o :: rest) a w := by
  refine wpList_plain hgd fun K hK => ?_
  have hz := (zero_of_info (P := Try.prog) infoRow).1 w
  unfold Oper.wp
  simp only [execOp, ho, Sem.run_bind, hz, Result.andThen_ok]
  simp [aggA, Value.cells, newVar, newRow, Sem.run_bind]
  exact hK _ _ (h _ (by unfold ArrAt; exact heap_alloc_new _ _) ((Below.refl _ _).alloc (Nat.le_refl _) _) (by simp))

/-- A row is boxed. -/
theorem wpList_arr_box (hgd : o.guard = none) (T : TypeId) (x : Operand) (ho : o.op = .box T x) (xs : List Int) (hx : a.eval x = aggA xs)
    (h : ∀ w', ArrAt w' w.heap.size T xs → Below w.heap.size w w' → w'.heap.size = w.heap.size + 1 → wpList Try.prog ops Q rest (a.put o.dst (.pointer (some ⟨w.heap.size, 0, none⟩))) w') :
    wpList Try.prog ops Q (o :: rest) a w := by
  refine wpList_plain hgd fun K hK => ?_
  unfold Oper.wp execOp
  simp only [ho, hx, Sem.run_bind, Instr.box, newVar, newRow, run_newObj_alloc, Sem.run_pure, Result.andThen_ok]
  exact hK _ _ (h _ (by unfold ArrAt; exact heap_alloc_new _ _) ((Below.refl _ _).alloc (Nat.le_refl _) _) (by simp))

/-- A row is stored. -/
theorem wpList_arr_store (hgd : o.guard = none) (x y : Operand) (ho : o.op = .store 55 x y) (b : Nat) (t : TypeId) (xs ys : List Int)
    (hx : a.eval x = .pointer (some ⟨b, 0, none⟩)) (hy : a.eval y = aggA ys) (hl : ys.length = 10) (hl' : xs.length = 10) (hL : ArrAt w b t xs)
    (h : ∀ w', ArrAt w' b t ys → Lone b w w' → wpList Try.prog ops Q rest (a.put o.dst undef) w') :
    wpList Try.prog ops Q (o :: rest) a w := by
  refine wpList_store_row hgd 55 x y ho b _ hx hy t _ hL (by rw [sizeRow]; simp [hl]) (by simp [hl, hl']) (one_intsA ys) ?_
  refine h _ (setRow_heap w b _ _ _ _ hL) ⟨below_setRow (Below.refl _ _) (Nat.le_refl _) _, by simp, fun k hk => setRow_other w b k _ hk⟩

/-- A row is loaded. -/
theorem wpList_arr_load (hgd : o.guard = none) (x : Operand) (ho : o.op = .load 55 x) (b : Nat) (t : TypeId) (xs : List Int)
    (hx : a.eval x = .pointer (some ⟨b, 0, none⟩)) (hl : xs.length = 10) (hL : ArrAt w b t xs)
    (h : wpList Try.prog ops Q rest (a.put o.dst (aggA xs)) w) :
    wpList Try.prog ops Q (o :: rest) a w := by
  exact wpList_load_row hgd 55 x ho b hx t _ (0, 0) _ hL ringArr rfl (by rw [sizeRow]; simp [hl]) h
end

theorem results_arr1 {fn : Func} {p : Tmp} (h : fn.results = #[.cell p 55]) (tmps : Array Value) (w : World) (b : Nat) (t : TypeId) (xs : List Int)
    (hp : tmps.getD p undef = .pointer (some ⟨b, 0, none⟩)) (hl : xs.length = 10) (hL : ArrAt w b t xs) :
    (results fn tmps).run Try.prog w = .ok (aggA xs) w := by
  exact results_cell_row h tmps w b t _ (0, 0) _ hp hL ringArr rfl (by rw [sizeRow]; simp [hl])

theorem ring_under : Try.prog.underlying 55 = some (.array (Try.prog.arrayLen 55) (Try.prog.elem 55)) := by kernel_rfl
theorem ring_len : Try.prog.arrayLen 55 = 10 := by kernel_rfl
theorem ring_size (W : World) : (sizeOf (Try.prog.elem 55)).run Try.prog W = .ok 1 W := by
  rw [show Try.prog.elem 55 = 3 from by kernel_rfl]
  have h := infoInt
  cases hq : Try.prog.info? 3 with
  | none => rw [hq] at h; simp at h
  | some i =>
    rw [hq] at h
    simp at h
    simp [sizeOf, typeInfo, hq, Sem.run_bind, h]
/-- A cut out of the row. -/
theorem ring_cut (b o n : Nat) (h10 : n ≤ 10) (W : World) :
    (Instr.sliceAt 55 (.pointer (some ⟨b, o, none⟩)) none (some (.int .i64 (n : Int))) none).run Try.prog W = .ok (.slice (some ⟨b, o, none⟩) n 10) W := by
  rw [run_sliceAt_array_h W 55 ⟨b, o, none⟩ ring_under .i64 (n : Int) (by omega) (by rw [ring_len]; omega), ring_size]
  simp [slicedAt, ring_len, Addr.add]
theorem ring_cut_all (b o : Nat) (W : World) :
    (Instr.sliceAt 55 (.pointer (some ⟨b, o, none⟩)) none none none).run Try.prog W = .ok (.slice (some ⟨b, o, none⟩) 10 10) W := by
  rw [run_sliceAt_array_all W 55 ⟨b, o, none⟩ ring_under, ring_size]
  simp [slicedAt, ring_len, Addr.add]
end Go.Proofs.Ytcbcgapnoompbaa

/-
  A STEP, THE PROGRAM's WAY: the closures of stepFor; the list of a row; RingStep.
-/
namespace Go.Proofs.Ytcbcgapnoompbaa
open Go.RowKit Go.Deep
set_option linter.unusedVariables false

/-- A ring in a row. -/
def pad10 (zs : List Int) : List Int := zs ++ List.replicate (10 - zs.length) 0
theorem pad10_len {zs : List Int} (h : zs.length ≤ 10) : (pad10 zs).length = 10 := by simp [pad10]; omega
theorem pad10_take (zs : List Int) : (pad10 zs).take zs.length = zs := by simp [pad10]
theorem pad10_nil : pad10 [] = zero10 := rfl
theorem pad10_set {ys : List Int} {k : Nat} (hk : ys.length = k) (h : k < 10) (v : Int) : (pad10 ys).set k v = pad10 (ys ++ [v]) := by
  unfold pad10
  rw [List.set_append_right _ _ (by omega), List.append_assoc]
  congr 1
  rw [show 10 - ys.length = (10 - (ys ++ [v]).length) + 1 by simp; omega, List.replicate_succ, hk, Nat.sub_self, List.set_cons_zero]
  rfl
theorem pad10_inj {xs ys : List Int} (h : xs.length = ys.length) (e : pad10 xs = pad10 ys) : xs = ys := by
  have h1 := pad10_take xs
  rw [e, h, pad10_take] at h1
  exact h1.symm

theorem behind_get (z : Int) (os : List Int) (k : Nat) (hk : k < (z :: os).length) : (os ++ [z]).getD k 0 = (z :: os).getD (nextOf k (z :: os).length) 0 := by
  rw [List.length_cons] at hk
  by_cases h : k + 1 = os.length + 1
  · have hn : nextOf k (z :: os).length = 0 := nextOf_end (by rw [List.length_cons]; exact h)
    rw [hn]
    simp only [List.getD]
    rw [List.getElem?_append_right (by omega), show k - os.length = 0 by omega]
    rfl
  · have hn : nextOf k (z :: os).length = k + 1 := nextOf_in (by rw [List.length_cons]; omega)
    rw [hn]
    simp only [List.getD]
    rw [List.getElem?_append_left (by omega)]
    rfl
theorem within_getD {lo hi : Int} {zs : List Int} (h : within lo hi zs = true) (k : Nat) (hk : k < zs.length) : lo ≤ zs.getD k 0 ∧ zs.getD k 0 ≤ hi := by
  rw [rget hk]; exact within_get h k hk

section
variable {P : Program}
/-- 'append(l, x)', l a list that is as long as its room: it is copied. -/
theorem wpList_app_full {wr : World} {ops : Array Oper} {rest : List Oper} {o : Oper} {a : Act} {Q : Exit → Act → World → Prop} (hgd : o.guard = none) (s x : Operand) (t e : TypeId)
    (ho : o.op = .call { callee := .builtin .append, args := #[s, x], argTypes := #[t, t] }) (ht : P.underlying t = some (.slice e))
    (hinfo : (P.info? e).map (fun i => (i.zero, i.size, i.bytes)) = some (some (.int .i64 0), 1, 8))
    (A : Option Addr) (m B : Nat) (zs : List Int) (hs : a.eval s = .slice A m m) (hr : Ints wr B A m zs) (hB : B ≤ wr.heap.size) (h0 : 0 < m) (n : Int) (c : Nat) (hx : a.eval x = .slice (some ⟨wr.heap.size, 0, none⟩) 1 c)
    (hlen : m < 1000000)
    (h : ∀ v' w', Own w' wr.heap.size e v' (zs ++ [n]) → Below wr.heap.size wr w' → wpList P ops Q rest (a.put o.dst v') w') :
    wpList P ops Q (o :: rest) a (wr.alloc (.cells #[.int .i64 n] e)) := by
  obtain ⟨i0, hi, hz0, hz1, hz2⟩ := info_parts hinfo
  obtain rfl := hr.len
  obtain ⟨ad, rfl, hab, _⟩ := hr.at_ h0
  have hra := hr.alloc hB (.cells #[.int .i64 n] e)
  refine wpList_append_grows _ hgd s x t ho e i0 (.int .i64 0) 1 8 ht hi hz0 hz1 hz2 rfl (by decide) (some ad) zs.length zs.length (zs.map (Value.int .i64)) hs (by simp) (by simp) ?_
    ⟨wr.heap.size, 0, none⟩ 1 c [.int .i64 n] hx rfl ?_ ?_ (by omega) (by unfold maxLen; omega) (by omega) ?_
  · intro b hb j u hj
    injection hb with hb
    subst hb
    rw [List.getElem?_map] at hj
    obtain ⟨z, hz, rfl⟩ := Option.map_eq_some_iff.1 hj
    obtain ⟨hlt, rfl⟩ := List.getElem?_eq_some_iff.1 hz
    obtain ⟨ad', had, _, hc⟩ := hra.at_ hlt
    obtain rfl : ad' = ad := by injection had with h; exact h.symm
    rw [hc]
    simp [List.getD, List.getElem?_eq_getElem hlt]
  · intro j u hj
    match j, hj with
    | 0, hj => simp at hj; subst hj; simp [Addr.add]
  · intro u hu; simp at hu; subst hu; rfl
  · intro v' w' h1 h2
    have h3 : Own w' (wr.alloc (.cells #[.int .i64 n] e)).heap.size e v' (zs ++ [n]) := by simpa [Own] using h1
    refine h v' w' (h3.less (by simp)) ?_
    exact (((Below.refl wr.heap.size wr).alloc (Nat.le_refl _) _).grown h2 (by simp) (by simp))
end

set_option maxRecDepth 100000 in
set_option maxHeartbeats 1000000 in
/-- The variadic closure: the differences around. -/
theorem differences_any (A : Option Addr) (m B : Nat) (z : Int) (os zs : List Int) (w : World) (hr : Ints w B A m os) (hB : B ≤ w.heap.size) (h0 : 0 < m) (hm : m ≤ 9) (hzs : z :: os = zs) (hc : within 0 1000 zs = true) :
    Calls Try.prog 70 #[.int .i64 z, .slice A m m] w fun e w' => e = .returned (aggA (pad10 (rstep zs))) ∧ Below w.heap.size w w' := by
  obtain rfl := hr.len
  have hL1 : zs.length = os.length + 1 := by rw [← hzs]; exact List.length_cons
  have HE := hide (rstep_length zs)
  have hz0 : 0 ≤ z ∧ z ≤ 1000 := by have := within_getD hc 0 (by omega); rw [← hzs] at this; exact this
  have HC := hide (fun k hk => within_getD hc k hk)
  clear hc
  have HT := hide (fun k (hk : k < zs.length) => rstep_take_succ zs k hk)
  have HN := hide (fun k (hk : k < zs.length) => (show (os ++ [z]).getD k 0 = zs.getD (nextOf k zs.length) 0 by subst hzs; exact behind_get z os k hk))
  have HZ := hide (show zs.getD 0 0 = z by rw [← hzs]; rfl)
  have HLL := hide (show (os ++ [z]).length = zs.length by rw [hL1]; simp)
  have hlz : 2 ≤ zs.length ∧ zs.length ≤ 10 := by omega
  obtain ⟨hlz1, hlz2⟩ := hlz
  have HOL := hide (show os.length = zs.length - 1 by omega)
  clear hzs hL1
  obtain ⟨ad, rfl, hab, _⟩ := hr.at_ h0
  obtain ⟨i0, hi, hz00, hz1, hz2⟩ := info_parts infoInt
  have HI := hide hi
  have HI0 := hide hz00
  have HI1 := hide hz1
  have HI2 := hide hz2
  clear hi hz00 hz1 hz2
  have hzl := hide zero10_len
  have HR := hide hr
  clear hr
  go_enter Try.func70, Try.ntmps70
  go_wp2_with (first
    | (with_reducible refine wpList_arr_new (o := ⟨some 4, _, _, _, _, _⟩) rfl rfl ?_; intro w1 hL1' hb1 hs1; have A1 := hide hL1'; have B1 := hide hb1; have S1 := hide hs1; clear hL1' hb1 hs1)
    | (with_reducible refine wpList_arr_new (o := ⟨some 5, _, _, _, _, _⟩) rfl rfl ?_; intro w2 hL2' hb2 hs2; have A2 := hide hL2'; have B2 := hide (B1.out.trans (hb2.mono B1.out.size)); have S2 := hide hs2; have A12 := hide (A1.out.next hb2); have R2 := hide (HR.out.below B2.out hB); have Z2 := hide (Nat.le_trans hB B2.out.size); clear hL2' hb2 hs2)
    | (at_builtin; refine wpList_app_full rfl _ _ 24 3 rfl Try.underlying24 infoInt (some ad) os.length B os rfl R2.out Z2.out h0 _ _ rfl (by omega) ?_; intro v3 w3 hO3 hb3; have O3 := hide hO3; have B3 := hide (B2.out.trans (hb3.mono B2.out.size)); have A3 := hide (A2.out.next hb3); have A13 := hide (A12.out.next hb3); obtain ⟨A', c', hv', _, _⟩ := hO3.shape; subst hv'; obtain ⟨g', hA', hg1', hg2'⟩ := hO3.head (by rw [HLL.out]; omega); subst hA'; have hI3 := hO3.ints; rw [HLL.out] at hI3; rw [HLL.out]; have I3 := hide hI3; have G1 := hide hg1'; have G2 := hide hg2'; clear hO3 hb3 hI3 hg1' hg2'))
  have HN0 := hide (show zs.getD (0 % zs.length) 0 = z by rw [Nat.zero_mod]; exact HZ.out)
  have HNX := hide (fun k => (show zs.getD (nextOf k zs.length) 0 = zs.getD ((k + 1) % zs.length) 0 from rfl))
  have hne : w1.heap.size < g' := by have := G1.out; have := S2.out; omega
  go_loopw [6, 15] (fun n i wr => ∃ k : Nat, k ≤ zs.length ∧ i = .int .i64 k ∧ n = .int .i64 (zs.getD (k % zs.length) 0) ∧ ArrAt wr w1.heap.size 55 (pad10 ((rstep zs).take k)) ∧ Lone w1.heap.size w3 wr)
    (fun _ i _ => zs.length - (intOf i).toNat)
  case atStart => exact ⟨0, Nat.zero_le _, rfl, by rw [HN0.out], A3.out, Lone.refl _ _⟩
  case round =>
    obtain ⟨k, hk, rfl, rfl, hA, hO⟩ := hrel
    have HO := hide hO
    have HA := hide hA
    have hlk : (pad10 ((rstep zs).take k)).length = 10 := pad10_len (by rw [List.length_take, HE.out]; omega)
    by_cases hlt : k < zs.length
    · have hold := hA.cell k (by omega)
      have hfz := hA.frozen k
      have hcell : wr.cell? ⟨g', k, none⟩ = some (.int .i64 (zs.getD ((k + 1) % zs.length) 0)) := by
        obtain ⟨ad', had, _, hc⟩ := I3.out.at_ hlt
        injection had with had
        subst had
        rw [HN.out k hlt, HNX.out, add_head] at hc
        rw [← hc]
        exact cell_of_block (hO.rest g' (by omega))
      have hb1 := HC.out k hlt
      have hb2 := HC.out (nextOf k zs.length) (nextOf_lt hlt)
      rw [HNX.out] at hb2
      have HD := hide (dif_size (zs.getD k 0) (zs.getD ((k + 1) % zs.length) 0))
      have HS := hide (show (rstep zs).take (k + 1) = (rstep zs).take k ++ [dif (zs.getD k 0) (zs.getD ((k + 1) % zs.length) 0)] from HT.out k hlt)
      rw [show k % zs.length = k from Nat.mod_eq_of_lt hlt]
      have HK := hide (show ((rstep zs).take k).length = k by rw [List.length_take, HE.out]; omega)
      have hk10 : k < 10 := by omega
      clear hA hO hlk
      generalize hy : zs.getD ((k + 1) % zs.length) 0 = y at *
      have HY := hide hy
      clear hy
      generalize zs.getD k 0 = x at *
      generalize dif x y = d at *
      go_wp2_with fail
      refine (sizeOf_any _ (by omega) (by omega) _).mono ?_; rintro e w' ⟨rfl, rfl⟩; rw [HD.out]
      go_wp2_with fail
      go_roundw
      case rel => exact ⟨k + 1, by omega, by go_num, by rw [HY.out], by rw [HS.out, ← pad10_set HK.out hk10]; exact HA.out.set k d, HO.out.set k _⟩
      case measure => simp [intOf]; omega
    · obtain rfl : k = zs.length := by omega
      rw [List.take_of_length_le (by rw [HE.out]; exact Nat.le_refl _)] at hA hlk
      have HAF := hide hA
      have HLK := hide hlk
      have HA1 := hide (A13.out.same (hO.rest w.heap.size (by have := S1.out; omega)))
      clear hA hlk hO HA
      go_wp2_with (first
        | (with_reducible refine wpList_arr_load rfl (.tmp 5) rfl w1.heap.size _ (pad10 (rstep zs)) rfl HLK.out HAF.out ?_)
        | (with_reducible refine wpList_arr_store rfl (.tmp 4) (.tmp 28) rfl w.heap.size _ _ (pad10 (rstep zs)) rfl rfl HLK.out hzl.out HA1.out ?_; intro w5 hL5 ho5))
      exact bodyPost_ret (results_arr1 rfl _ _ _ _ _ rfl HLK.out hL5) rfl ⟨rfl, (B3.out.trans (HO.out.below.mono (by have := S1.out; omega))).trans ho5.below⟩
end Go.Proofs.Ytcbcgapnoompbaa
