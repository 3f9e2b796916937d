import Derived.Test.YtcbcgapnoompbaaMg26
import Derived.Test.YtcbcgapnoompbaaMg27
import Derived.Test.YtcbcgapnoompbaaMg05
import Derived.Test.YtcbcgapnoompbaaMg03
import Derived.Test.YtcbcgapnoompbaaMg08
import Derived.RegionTactic
import Derived.Deep.RegionWith

/-
  ONE OF SO MANY LISTS, AS THE CURSOR PICKS: what is held while a list of lists is laid and one of them is read, in whatever order.
-/
namespace Go.Proofs.Ytcbcgapnoompbaa
open Go.RowKit Go.Deep
set_option linter.unusedVariables false

theorem ready_all {ops : Array Oper} {md : Region.Mode} {listed : Array Bool} (hs : listed.size = ops.size) (hf : (List.range ops.size).all (fun i => ((ops[i]?).map fun o => o.after.all fun e => decide (e.on < i)).getD true) = true) (hr : Region.ready md ops listed = []) : ∀ i, i < ops.size → listed.getD i false = true := by
  intro i
  induction i using Nat.strongRecOn with
  | _ i ih =>
    intro hi
    cases hl : listed.getD i false with
    | true => rfl
    | false =>
      have hlt : listed.getD i true = false := by
        have : i < listed.size := by omega
        simp [Array.getD, this] at hl ⊢
        exact hl
      have : i ∈ Region.ready md ops listed := ready_iff.2 ⟨hi, hlt, ops[i], by simp [hi], fun e he hb => by
        have h1 := List.all_eq_true.1 hf i (List.mem_range.2 hi)
        simp only [Array.getElem?_eq_getElem hi, Option.map_some, Option.getD_some] at h1
        have h2 := Array.all_eq_true'.1 h1 e he
        exact ih e.on (of_decide_eq_true h2) (Nat.lt_trans (of_decide_eq_true h2) hi)⟩
      rw [hr] at this
      cases this

/-- Few numbers of modest size. -/
def NiceL (zs : List Int) : Prop := zs.length ≤ 20 ∧ within (-1000000) 1000000 zs = true
/-- A list of the call's own, of few numbers. -/
def Nice (w : World) (base : Nat) (v : Value) : Prop := ∃ (zs : List Int) (A : Option Addr) (c : Nat), v = .slice A zs.length c ∧ NiceL zs ∧ Own w base 3 (.slice A zs.length c) zs
def AtNice (w : World) (base : Nat) (v : Value) : Prop := ∃ (p : Addr) (x : Value), v = .pointer (some p) ∧ base ≤ p.block ∧ p.block < w.heap.size ∧ w.cell? p = some x ∧ Nice w base x
def BigRow (w : World) (base k : Nat) (v : Value) : Prop := ∃ (g : Nat) (vs : List Value), v = .slice (some ⟨g, 0, none⟩) k k ∧ base ≤ g ∧ vs.length = k ∧ w.heap[g]? = some (.cells vs.toArray 24 (0, 0)) ∧ ∀ x ∈ vs, Nice w base x
/-- What is held of the world. -/
structure ChoiceW (b m base : Nat) (w0 w : World) (lc : Bool) : Prop where
  cur : Cur w b (if lc then m + 2 else m)
  below : Below b w0 w
  save : Save b w0 w
  lo : b < base
  hi : base ≤ w.heap.size
section
variable {b m base k : Nat} {w0 w w' : World} {lc : Bool} {v : Value} {zs : List Int}
theorem Nice.keep (h : Nice w base v) (hk : ∀ g, base ≤ g → g < w.heap.size → w'.heap[g]? = w.heap[g]?) : Nice w' base v := by
  obtain ⟨zs, A, c, e, hn, ho⟩ := h
  exact ⟨zs, A, c, e, hn, ho.keep hk⟩
theorem Nice.alloc (h : Nice w base v) (o : Obj) : Nice (w.alloc o) base v := h.keep fun _ _ hg => Below.heap_alloc _ _ _ hg
theorem Nice.went (h : Nice w base v) (hs : Save b w w') (hb : b < base) : Nice w' base v := h.keep fun g hg hl => hs g hl (by omega)
theorem BigRow.keep (h : BigRow w base k v) (hk : ∀ g, base ≤ g → g < w.heap.size → w'.heap[g]? = w.heap[g]?) : BigRow w' base k v := by
  obtain ⟨g, vs, e, hb, hl, hg, hn⟩ := h
  exact ⟨g, vs, e, hb, hl, (hk g hb (lt_of_block hg)).trans hg, fun x hx => (hn x hx).keep hk⟩
theorem AtNice.keep (h : AtNice w base v) (hk : ∀ g, base ≤ g → g < w.heap.size → w'.heap[g]? = w.heap[g]?) (hs : w.heap.size ≤ w'.heap.size) : AtNice w' base v := by
  obtain ⟨p, x, e, hb, hl, hc, hn⟩ := h
  exact ⟨p, x, e, hb, by omega, (cell_of_block (hk p.block hb hl)).trans hc, hn.keep hk⟩
theorem BigRow.alloc (h : BigRow w base k v) (o : Obj) : BigRow (w.alloc o) base k v := h.keep fun _ _ hg => Below.heap_alloc _ _ _ hg
theorem AtNice.alloc (h : AtNice w base v) (o : Obj) : AtNice (w.alloc o) base v := h.keep (fun _ _ hg => Below.heap_alloc _ _ _ hg) (by simp)
theorem BigRow.went (h : BigRow w base k v) (hs : Save b w w') (hb : b < base) : BigRow w' base k v := h.keep fun g hg hl => hs g hl (by omega)
theorem AtNice.went (h : AtNice w base v) (hs : Save b w w') (hb : b < base) (hz : w.heap.size ≤ w'.heap.size) : AtNice w' base v := h.keep (fun g hg hl => hs g hl (by omega)) hz
theorem ChoiceW.alloc (h : ChoiceW b m base w0 w lc) (o : Obj) : ChoiceW b m base w0 (w.alloc o) lc :=
  ⟨h.cur.keep fun g hg => Below.heap_alloc _ _ _ (by have := h.hi; have := h.lo; omega), h.below.alloc (by have := h.hi; have := h.lo; omega) _, fun g hg hn => (Below.heap_alloc _ _ _ (by have := h.below.size; omega)).trans (h.save g hg hn), h.lo, by have := h.hi; simp; omega⟩
theorem ChoiceW.went (h : ChoiceW b m base w0 w false) (hw : Went b (m + 2) w w') : ChoiceW b m base w0 w' true :=
  ⟨hw.cur, h.below.trans hw.below, h.save.trans hw.save h.below.size, h.lo, by have := h.hi; have := hw.below.size; omega⟩
theorem Nice.new (w : World) (base : Nat) (zs : List Int) (hb : base ≤ w.heap.size) (hn : NiceL zs) : Nice (w.alloc (.cells (zs.map (Value.int .i64)).toArray 3)) base (.slice (some ⟨w.heap.size, 0, none⟩) zs.length zs.length) := by
  have e : (w.alloc (.cells (zs.map (Value.int .i64)).toArray 3)).heap[w.heap.size]? = some (.cells (zs.map (Value.int .i64)).toArray 3 (0, 0)) := by
    show (w.heap.push _)[w.heap.size]? = _
    simp
  exact ⟨zs, _, _, rfl, hn, by simp, .inr ⟨w.heap.size, zs.length, _, rfl, hb, e, Nat.le_refl _, by have := hn.1; unfold maxLen; omega, by simp, by rw [Nat.mul_one]; show (zs.map (Value.int .i64)).take zs.length = _; exact List.take_of_length_le (by simp)⟩⟩
theorem Nice.zeros (w : World) (base n : Nat) (hb : base ≤ w.heap.size) (hn : n ≤ 20) : Nice (w.alloc (.cells (madeCells #[.int .i64 0] n) 3)) base (.slice (some ⟨w.heap.size, 0, none⟩) n n) := by
  have h := Own.of_row (Row.zeros w n 3) hb (by simp; unfold maxLen; omega)
  rw [List.length_replicate] at h
  refine ⟨List.replicate n 0, some ⟨w.heap.size, 0, none⟩, n, by simp, ⟨by simpa using hn, within_of fun k hk => by simp⟩, by simpa using h⟩
theorem Nice.nil (w : World) (base : Nat) : Nice w base (.slice none 0 0) := ⟨[], none, 0, rfl, ⟨by simp, by decide⟩, Own.nil _ _ _⟩
theorem BigRow.new (w : World) (base : Nat) (vs : List Value) (hb : base ≤ w.heap.size) (hn : ∀ x ∈ vs, Nice w base x) : BigRow (w.alloc (.cells vs.toArray 24)) base vs.length (.slice (some ⟨w.heap.size, 0, none⟩) vs.length vs.length) := by
  have e : (w.alloc (.cells vs.toArray 24)).heap[w.heap.size]? = some (.cells vs.toArray 24 (0, 0)) := by
    show (w.heap.push _)[w.heap.size]? = _
    simp
  exact ⟨_, vs, rfl, hb, rfl, e, fun x hx => (hn x hx).alloc _⟩
theorem BigRow.at_ {g : Nat} (h : BigRow w base k (.slice (some ⟨g, 0, none⟩) k k)) {r : Nat} (hr : r < k) : AtNice w base (.pointer (some ⟨g, r, none⟩)) := by
  obtain ⟨g', vs, e, hb, hl, hg, hn⟩ := h
  injection e with e1
  injection e1 with e1
  injection e1 with e1
  subst e1
  exact ⟨⟨g, r, none⟩, vs[r]'(by omega), rfl, hb, lt_of_block hg, by simp [World.cell?, hg, show r < vs.length by omega], hn _ (List.getElem_mem _)⟩
end
end Go.Proofs.Ytcbcgapnoompbaa

/-
  HEAPS THAT ARE DRAWN: sureHeaps, heaps, DrawAreHeaps.
-/
namespace Go.Proofs.Ytcbcgapnoompbaa
open Go.RowKit Go.Deep
set_option linter.unusedVariables false

theorem Ints.cellAt {w : World} {B n k : Nat} {ad : Addr} {zs : List Int} (h : Ints w B (some ad) n zs) (hk : k < n) : w.cell? (ad.add k) = some (.int .i64 (zs.getD k 0)) := by
  have hl := h.len
  obtain ⟨ad', e, _, hc⟩ := h.at_ (k := k) (by omega)
  injection e with e
  subst e
  exact hc
theorem Went.app {b m : Nat} {w wr wa : World} (h : Went b m w wr) (hb : b < w.heap.size) (ha : Below w.heap.size wr wa) : Went b m w wa :=
  ⟨h.cur.keep fun g hg => ha.block g (by omega), h.below.trans (ha.mono (by omega)), fun g hg hn => (ha.block g hg).trans (h.save g hg hn)⟩
theorem Own.went {w w' : World} {base b m : Nat} {t : TypeId} {v : Value} {zs : List Int} (h : Own w base t v zs) (hw : Went b m w w') (hb : b < base) : Own w' base t v zs := h.keep fun g hg hl => hw.save g hl (by omega)

theorem wrap_bd (x z L : Int) (hx : 0 ≤ x ∧ x ≤ 9) (h1 : 1 ≤ L) (h2 : L ≤ 6) : -6 ≤ IntKind.i64.wrap (x + z.tmod L) ∧ IntKind.i64.wrap (x + z.tmod L) ≤ 15 := by
  have a := Int.tmod_lt_of_pos z (show 0 < L by omega)
  have b := Int.lt_tmod_of_pos z (show 0 < L by omega)
  rw [IntKind.wrap_i64]
  omega
/-- WHAT A DRAW OF A LIST LEAVES. -/
def DrawnL (b m : Nat) (w : World) (e : Ending) (w' : World) : Prop := ∃ v, e = .returned v ∧ Nice w' w.heap.size v ∧ Went b m w w'

/-- A cursor of one's own. -/
theorem Cur.new (w : World) (A : Option Addr) (n c : Nat) (h : Bys w w.heap.size A n) (hn : n ≤ 1048576) : Cur (w.alloc (.cells #[.slice A n c, .int .i64 0, .int .u64 0] 45)) w.heap.size 0 := by
  have e : (w.alloc (.cells #[.slice A n c, .int .i64 0, .int .u64 0] 45)).heap[w.heap.size]? = some (.cells #[.slice A n c, .int .i64 0, .int .u64 0] 45 (0, 0)) := by
    show (w.heap.push _)[w.heap.size]? = _
    simp
  exact ⟨A, n, c, 0, 0, e, h.keep fun g hg => Below.heap_alloc _ _ _ hg, hn, by omega, by omega, by omega, by omega⟩
/-- What a drawing function leaves: a list of its own; nothing that was there has turned. -/
def DrewL (w : World) (e : Ending) (w' : World) : Prop := ∃ v, e = .returned v ∧ Nice w' w.heap.size v ∧ Below w.heap.size w w'
end Go.Proofs.Ytcbcgapnoompbaa
