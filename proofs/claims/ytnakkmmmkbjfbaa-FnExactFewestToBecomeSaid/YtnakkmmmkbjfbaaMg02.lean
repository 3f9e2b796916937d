import Derived.Test.YtnakkmmmkbjfbaaMg00
import Derived.OwnWalk

/-
  LISTS OF NUMBERS THAT A CALL MAKES ITSELF, by append or by make: 'Own w base e v zs'. No program is named here.
-/
namespace Go.Proofs.Ytnakkmmmkbjfbaa
open Go.RowKit Go.Deep

/-- The slice value v is nil or begins a row of the call's own (a block from base on, element type e, not frozen): its numbers are zs. -/
def Own (w : World) (base : Nat) (e : TypeId) (v : Value) (zs : List Int) : Prop := w.ownsRow base e 1 v zs.length (zs.map (Value.int .i64))

section
variable {w w' : World} {base : Nat} {e : TypeId} {v : Value} {zs : List Int} {A : Option Addr} {n c : Nat}
theorem Own.nil (w : World) (base : Nat) (e : TypeId) : Own w base e (.slice none 0 0) [] := World.ownsRow_nil _ _ _ _
/-- Nil, or the head of a row. -/
theorem Own.form (h : Own w base e v zs) : (v = .slice none 0 0 ∧ zs = []) ∨ ∃ g c, v = .slice (some ⟨g, 0, none⟩) zs.length c ∧ base ≤ g ∧ g < w.heap.size ∧ zs.length ≤ c ∧ c ≤ maxLen := by
  rcases h.2 with ⟨rfl, h0⟩ | ⟨g, cap, cur, rfl, hb, hg, hn, hm, _⟩
  · exact .inl ⟨rfl, List.eq_nil_of_length_eq_zero h0⟩
  · refine .inr ⟨g, cap, rfl, hb, ?_, hn, hm⟩
    obtain ⟨hlt, _⟩ := Array.getElem?_eq_some_iff.1 hg
    exact hlt
theorem Own.shape (h : Own w base e v zs) : ∃ A c, v = .slice A zs.length c ∧ zs.length ≤ c ∧ c ≤ maxLen := by
  rcases h.form with ⟨rfl, rfl⟩ | ⟨g, c, rfl, _, _, h1, h2⟩
  · exact ⟨none, 0, rfl, Nat.le_refl _, Nat.zero_le _⟩
  · exact ⟨_, c, rfl, h1, h2⟩
theorem Own.head (h : Own w base e (.slice A n c) zs) (hz : 0 < zs.length) : ∃ g, A = some ⟨g, 0, none⟩ ∧ base ≤ g ∧ g < w.heap.size := by
  rcases h.form with ⟨_, rfl⟩ | ⟨g, _, h1, hb, hlt, _⟩
  · simp at hz
  · injection h1 with hA
    exact ⟨g, hA, hb, hlt⟩
theorem Own.ints (h : Own w base e (.slice A n c) zs) : Ints w w.heap.size A zs.length zs := by
  rcases h.form with ⟨h1, rfl⟩ | ⟨_, c', h1, _, hlt, _⟩
  · exact Ints.none_
  · injection h1 with hA hn hc
    subst hA; subst hn; subst hc
    refine ⟨rfl, fun _ => ⟨_, rfl, hlt, fun k hk => ?_⟩⟩
    rw [add_head, World.ownsRow.cellAt h k (by omega)]
    simp [List.getD, List.getElem?_eq_getElem hk]
theorem Own.keep (h : Own w base e v zs) (hk : ∀ g, base ≤ g → g < w.heap.size → w'.heap[g]? = w.heap[g]?) : Own w' base e v zs := by
  refine ⟨h.1, ?_⟩
  rcases h.2 with h2 | ⟨g, cap, cur, hv, hb, hg, r⟩
  · exact .inl h2
  · obtain ⟨hlt, _⟩ := Array.getElem?_eq_some_iff.1 hg
    exact .inr ⟨g, cap, cur, hv, hb, (hk g hb hlt).trans hg, r⟩
theorem Own.below (h : Own w base e v zs) (hb : Below w.heap.size w w') : Own w' base e v zs := h.keep fun g _ hg => hb.block g hg
theorem Own.alloc (h : Own w base e v zs) (o : Obj) : Own (w.alloc o) base e v zs := h.keep fun _ _ hg => Below.heap_alloc _ _ _ hg
theorem Own.drewN (h : Own w base e v zs) (m : Nat) : Own (w.drewN m) base e v zs := h
theorem Own.less {base' : Nat} (h : Own w base e v zs) (hb : base' ≤ base) : Own w base' e v zs := by
  refine ⟨h.1, ?_⟩
  rcases h.2 with h2 | ⟨g, cap, cur, hv, hb', r⟩
  · exact .inl h2
  · exact .inr ⟨g, cap, cur, hv, by omega, r⟩
/-- A row that make has laid and that has been filled. -/
theorem Own.of_row {g t : Nat} (h : Row w g t zs) (hb : base ≤ g) (hm : zs.length ≤ maxLen) : Own w base t (.slice (some ⟨g, 0, none⟩) zs.length zs.length) zs := by
  obtain ⟨cur, h1, h2, h3⟩ := h
  refine ⟨by simp, .inr ⟨g, zs.length, cur, rfl, hb, h1, Nat.le_refl _, hm, by omega, ?_⟩⟩
  apply List.ext_getElem?
  intro i
  by_cases hi : i < zs.length
  · rw [List.getElem?_take, if_pos (by omega), Array.getElem?_toList, h3 i hi, List.getElem?_map, List.getElem?_eq_getElem hi]
    simp [List.getD, List.getElem?_eq_getElem hi]
  · rw [List.getElem?_eq_none (by simp; omega), List.getElem?_eq_none (by simp; omega)]
end

section
variable {P : Program}
/-- 'out = append(out, x)' onto a list of the call's own, as the translation lays it: x lies in a new block of one cell. -/
theorem wpList_app_int {wr : World} {ops : Array Oper} {rest : List Oper} {o : Oper} {a : Act} {Q : Exit → Act → World → Prop} (hgd : o.guard = none) (s x : Operand) (t e : TypeId)
    (ho : o.op = .call { callee := .builtin .append, args := #[s, x], argTypes := #[t, t] }) (ht : P.underlying t = some (.slice e))
    (hinfo : (P.info? e).map (fun i => (i.zero, i.size, i.bytes)) = some (some (.int .i64 0), 1, 8))
    (base : Nat) (v : Value) (zs : List Int) (hs : a.eval s = v) (hown : Own wr base e v zs) (n : Int) (c : Nat) (hx : a.eval x = .slice (some ⟨wr.heap.size, 0, none⟩) 1 c)
    (hbase : base ≤ wr.heap.size) (hlen : zs.length < 1000000)
    (h : ∀ v' w', Own w' base e v' (zs ++ [n]) → Below base wr w' → wpList P ops Q rest (a.put o.dst v') w') :
    wpList P ops Q (o :: rest) a (wr.alloc (.cells #[.int .i64 n] e)) := by
  obtain ⟨i0, hi, hz0, hz1, hz2⟩ := info_parts hinfo
  refine wpList_append_own _ hgd s x t ho base e i0 (.int .i64 0) 1 8 ht hi hz0 hz1 hz2 rfl (by decide) v zs.length (zs.map (Value.int .i64)) hs (World.ownsRow.alloc hown _)
    ⟨wr.heap.size, 0, none⟩ 1 c [.int .i64 n] hx rfl ?_ ?_ (by unfold maxLen; omega) (by omega) (by simp; omega) ?_
  · intro j u hj
    match j, hj with
    | 0, hj => simp at hj; subst hj; simp [Addr.add]
  · intro u hu; simp at hu; subst hu; rfl
  · intro v' w' h1 h2 _
    refine h v' w' (by simpa [Own] using h1) ?_
    refine (((Below.refl base wr).alloc hbase _).grown h2 (by simp; omega) ?_)
    intro k hk
    exact (World.ownsRow.lt hown k hk).1
end
end Go.Proofs.Ytnakkmmmkbjfbaa
