import Derived.Test.YtediapekgbekeaaMg00
import Derived.Orders
import Derived.OwnWalk

/-
  A REGION THAT DRAWS ITS ORDER, BY AN INVARIANT: what each operation keeps whenever it may come up, whatever came before. No program is named here.
-/
namespace Go.Proofs.Ytediapekgbekeaa
open Go.RowKit

section
variable {P : Program} {ops : Array Oper} {Q : Exit → Act → World → Prop} {md : Region.Mode}
/-- How many have not come up. -/
def unlisted (listed : Array Bool) : Nat := (listed.toList.filter fun x => !x).length
theorem ready_iff {listed : Array Bool} {i : Nat} : i ∈ Region.ready md ops listed ↔ i < ops.size ∧ listed.getD i true = false ∧ ∃ o, ops[i]? = some o ∧ ∀ e ∈ o.after, Region.binds md e = true → listed.getD e.on false = true := by
  unfold Region.ready
  rw [List.mem_filter, List.mem_range]
  constructor
  · rintro ⟨h1, h2⟩
    simp only [Bool.and_eq_true, Bool.not_eq_true'] at h2
    obtain ⟨h2, h3⟩ := h2
    refine ⟨h1, h2, ops[i], by simp [h1], fun e he hb => ?_⟩
    simp only [Array.getElem?_eq_getElem h1, Option.map_some, Option.getD_some] at h3
    have := Array.all_eq_true'.1 h3 e he
    simpa [hb] using this
  · rintro ⟨h1, h2, o, ho, h3⟩
    refine ⟨h1, ?_⟩
    rw [h2, ho]
    simp only [Option.map_some, Option.getD_some, Bool.not_false, Bool.true_and]
    refine Array.all_eq_true'.2 fun e he => ?_
    by_cases hb : Region.binds md e = true
    · simp [h3 e he hb]
    · simp [hb]
theorem unlisted_set {listed : Array Bool} {i : Nat} (h : listed.getD i true = false) : unlisted (listed.setIfInBounds i true) < unlisted listed := by
  have hi : i < listed.size := by
    rcases Nat.lt_or_ge i listed.size with h1 | h1
    · exact h1
    · simp [Array.getD, show ¬ i < listed.size by omega] at h
  obtain ⟨l⟩ := listed
  simp only [unlisted, List.size_toArray] at hi ⊢
  rw [List.setIfInBounds_toArray]
  simp only
  have hg : l[i] = false := by simpa [Array.getD, hi] using h
  clear h
  induction l generalizing i with
  | nil => simp at hi
  | cons x xs ih =>
    cases i with
    | zero => simp at hg; subst hg; simp
    | succ i =>
      have := ih (i := i) (by simpa using hi) (by simpa using hg)
      simp only [List.set_cons_succ]
      rw [List.filter_cons, List.filter_cons]
      split <;> simp <;> omega
/-- THE RULE. -/
theorem wpAny_inv (I : Array Bool → Act → World → Prop)
    (hstep : ∀ listed a w, I listed a w → ∀ i, i < ops.size → listed.getD i true = false → (∃ o, ops[i]? = some o ∧ ∀ e ∈ o.after, Region.binds md e = true → listed.getD e.on false = true) → wpOp P ops Q i (I (listed.setIfInBounds i true)) a w)
    (hend : ∀ listed a w, I listed a w → Region.ready md ops listed = [] → Q .normal a w) :
    ∀ (fuel : Nat) (listed : Array Bool) (a : Act) (w : World), unlisted listed ≤ fuel → I listed a w → wpAny P md ops Q fuel listed a w
  | 0, listed, a, w, hf, hI => by
    have hr : Region.ready md ops listed = [] := by
      apply List.eq_nil_iff_forall_not_mem.2
      intro i hi
      obtain ⟨_, h2, _⟩ := ready_iff.1 hi
      have := unlisted_set h2
      omega
    exact ⟨hr, hend _ _ _ hI hr⟩
  | fuel + 1, listed, a, w, hf, hI => by
    refine ⟨fun hr => hend _ _ _ hI hr, fun i hi => ?_⟩
    obtain ⟨h1, h2, h3⟩ := ready_iff.1 hi
    refine wpOp_mono (fun a' w' h' => wpAny_inv I hstep hend fuel _ a' w' ?_ h') (hstep listed a w hI i h1 h2 h3)
    have := unlisted_set h2
    omega
end
end Go.Proofs.Ytediapekgbekeaa

/-
  LISTS OF NUMBERS THAT A CALL MAKES ITSELF, by append or by make: 'Own w base e v zs'. No program is named here.
-/
namespace Go.Proofs.Ytediapekgbekeaa
open Go.RowKit Go.Deep

/-- The slice value v is nil or begins a row of the call's own (a block from base on, element type e, not frozen): its numbers are zs. -/
def Own (w : World) (base : Nat) (e : TypeId) (v : Value) (zs : List Int) : Prop := w.ownsRow base e 1 v zs.length (zs.map (Value.int .i64))

section
variable {w w' : World} {base : Nat} {e : TypeId} {v : Value} {zs : List Int} {A : Option Addr} {n c : Nat}
theorem Own.nil (w : World) (base : Nat) (e : TypeId) : Own w base e (.slice none 0 0) [] := World.ownsRow_nil _ _ _ _
/-- Nil, or the head of a row. -/
theorem Own.form (h : Own w base e v zs) : (v = .slice none 0 0 ∧ zs = []) ∨ ∃ g c, v = .slice (some ⟨g, 0, none⟩) zs.length c ∧ base ≤ g ∧ g < w.heap.size ∧ zs.length ≤ c ∧ c ≤ maxLen := by
  rcases h.2 with ⟨rfl, h0⟩ | ⟨g, cap, cur, rfl, hb, hg, hn, hm, _⟩
  · exact .inl ⟨rfl, List.eq_nil_of_length_eq_zero h0⟩
  · refine .inr ⟨g, cap, rfl, hb, ?_, hn, hm⟩
    obtain ⟨hlt, _⟩ := Array.getElem?_eq_some_iff.1 hg
    exact hlt
theorem Own.shape (h : Own w base e v zs) : ∃ A c, v = .slice A zs.length c ∧ zs.length ≤ c ∧ c ≤ maxLen := by
  rcases h.form with ⟨rfl, rfl⟩ | ⟨g, c, rfl, _, _, h1, h2⟩
  · exact ⟨none, 0, rfl, Nat.le_refl _, Nat.zero_le _⟩
  · exact ⟨_, c, rfl, h1, h2⟩
theorem Own.head (h : Own w base e (.slice A n c) zs) (hz : 0 < zs.length) : ∃ g, A = some ⟨g, 0, none⟩ ∧ base ≤ g ∧ g < w.heap.size := by
  rcases h.form with ⟨_, rfl⟩ | ⟨g, _, h1, hb, hlt, _⟩
  · simp at hz
  · injection h1 with hA
    exact ⟨g, hA, hb, hlt⟩
theorem Own.ints (h : Own w base e (.slice A n c) zs) : Ints w w.heap.size A zs.length zs := by
  rcases h.form with ⟨h1, rfl⟩ | ⟨_, c', h1, _, hlt, _⟩
  · exact Ints.none_
  · injection h1 with hA hn hc
    subst hA; subst hn; subst hc
    refine ⟨rfl, fun _ => ⟨_, rfl, hlt, fun k hk => ?_⟩⟩
    rw [add_head, World.ownsRow.cellAt h k (by omega)]
    simp [List.getD, List.getElem?_eq_getElem hk]
theorem Own.keep (h : Own w base e v zs) (hk : ∀ g, base ≤ g → g < w.heap.size → w'.heap[g]? = w.heap[g]?) : Own w' base e v zs := by
  refine ⟨h.1, ?_⟩
  rcases h.2 with h2 | ⟨g, cap, cur, hv, hb, hg, r⟩
  · exact .inl h2
  · obtain ⟨hlt, _⟩ := Array.getElem?_eq_some_iff.1 hg
    exact .inr ⟨g, cap, cur, hv, hb, (hk g hb hlt).trans hg, r⟩
theorem Own.below (h : Own w base e v zs) (hb : Below w.heap.size w w') : Own w' base e v zs := h.keep fun g _ hg => hb.block g hg
theorem Own.alloc (h : Own w base e v zs) (o : Obj) : Own (w.alloc o) base e v zs := h.keep fun _ _ hg => Below.heap_alloc _ _ _ hg
theorem Own.drewN (h : Own w base e v zs) (m : Nat) : Own (w.drewN m) base e v zs := h
theorem Own.less {base' : Nat} (h : Own w base e v zs) (hb : base' ≤ base) : Own w base' e v zs := by
  refine ⟨h.1, ?_⟩
  rcases h.2 with h2 | ⟨g, cap, cur, hv, hb', r⟩
  · exact .inl h2
  · exact .inr ⟨g, cap, cur, hv, by omega, r⟩
/-- A row that make has laid and that has been filled. -/
theorem Own.of_row {g t : Nat} (h : Row w g t zs) (hb : base ≤ g) (hm : zs.length ≤ maxLen) : Own w base t (.slice (some ⟨g, 0, none⟩) zs.length zs.length) zs := by
  obtain ⟨cur, h1, h2, h3⟩ := h
  refine ⟨by simp, .inr ⟨g, zs.length, cur, rfl, hb, h1, Nat.le_refl _, hm, by omega, ?_⟩⟩
  apply List.ext_getElem?
  intro i
  by_cases hi : i < zs.length
  · rw [List.getElem?_take, if_pos (by omega), Array.getElem?_toList, h3 i hi, List.getElem?_map, List.getElem?_eq_getElem hi]
    simp [List.getD, List.getElem?_eq_getElem hi]
  · rw [List.getElem?_eq_none (by simp; omega), List.getElem?_eq_none (by simp; omega)]
end

section
variable {P : Program}
/-- 'out = append(out, x)' onto a list of the call's own, as the translation lays it: x lies in a new block of one cell. -/
theorem wpList_app_int {wr : World} {ops : Array Oper} {rest : List Oper} {o : Oper} {a : Act} {Q : Exit → Act → World → Prop} (hgd : o.guard = none) (s x : Operand) (t e : TypeId)
    (ho : o.op = .call { callee := .builtin .append, args := #[s, x], argTypes := #[t, t] }) (ht : P.underlying t = some (.slice e))
    (hinfo : (P.info? e).map (fun i => (i.zero, i.size, i.bytes)) = some (some (.int .i64 0), 1, 8))
    (base : Nat) (v : Value) (zs : List Int) (hs : a.eval s = v) (hown : Own wr base e v zs) (n : Int) (c : Nat) (hx : a.eval x = .slice (some ⟨wr.heap.size, 0, none⟩) 1 c)
    (hbase : base ≤ wr.heap.size) (hlen : zs.length < 1000000)
    (h : ∀ v' w', Own w' base e v' (zs ++ [n]) → Below base wr w' → wpList P ops Q rest (a.put o.dst v') w') :
    wpList P ops Q (o :: rest) a (wr.alloc (.cells #[.int .i64 n] e)) := by
  obtain ⟨i0, hi, hz0, hz1, hz2⟩ := info_parts hinfo
  refine wpList_append_own _ hgd s x t ho base e i0 (.int .i64 0) 1 8 ht hi hz0 hz1 hz2 rfl (by decide) v zs.length (zs.map (Value.int .i64)) hs (World.ownsRow.alloc hown _)
    ⟨wr.heap.size, 0, none⟩ 1 c [.int .i64 n] hx rfl ?_ ?_ (by unfold maxLen; omega) (by omega) (by simp; omega) ?_
  · intro j u hj
    match j, hj with
    | 0, hj => simp at hj; subst hj; simp [Addr.add]
  · intro u hu; simp at hu; subst hu; rfl
  · intro v' w' h1 h2 _
    refine h v' w' (by simpa [Own] using h1) ?_
    refine (((Below.refl base wr).alloc hbase _).grown h2 (by simp; omega) ?_)
    intro k hk
    exact (World.ownsRow.lt hown k hk).1
end
end Go.Proofs.Ytediapekgbekeaa


/-
  PLAIN FACTS ON LISTS OF NUMBERS. No program is named here.
-/
namespace Go.Proofs.Ytediapekgbekeaa
/-- Numbers between two bounds. -/
def within (lo hi : Int) (zs : List Int) : Bool := zs.all fun n => decide (lo ≤ n ∧ n ≤ hi)
theorem within_get {lo hi : Int} {zs : List Int} (h : within lo hi zs = true) (k : Nat) (hk : k < zs.length) : lo ≤ zs[k] ∧ zs[k] ≤ hi := by
  unfold within at h
  have := List.all_eq_true.1 h zs[k] (List.getElem_mem hk)
  simpa using this
theorem within_of {lo hi : Int} {zs : List Int} (h : ∀ (k : Nat) (_ : k < zs.length), lo ≤ zs[k] ∧ zs[k] ≤ hi) : within lo hi zs = true := by
  unfold within
  rw [List.all_eq_true]
  intro x hx
  obtain ⟨k, hk, rfl⟩ := List.getElem_of_mem hx
  simpa using h k hk
theorem within_not {lo hi : Int} {zs : List Int} (k : Nat) (hk : k < zs.length) (h : ¬ (lo ≤ zs[k] ∧ zs[k] ≤ hi)) : within lo hi zs = false := by
  cases hw : within lo hi zs
  · rfl
  · exact absurd (within_get hw k hk) h
/-- Heaps. -/
def good (zs : List Int) : Bool := decide (1 ≤ zs.length ∧ zs.length ≤ 12) && within 0 1000 zs
theorem good_of {zs : List Int} (h : good zs = true) : 1 ≤ zs.length ∧ zs.length ≤ 12 ∧ within 0 1000 zs = true := by
  unfold good at h
  simp at h
  exact ⟨by omega, h.1.2, h.2⟩
theorem good_get {zs : List Int} (h : good zs = true) (k : Nat) (hk : k < zs.length) : 0 ≤ zs[k] ∧ zs[k] ≤ 1000 := within_get (good_of h).2.2 k hk
/-- The sum. -/
def tot : List Int → Int
  | [] => 0
  | x :: xs => x + tot xs
theorem tot_append (a b : List Int) : tot (a ++ b) = tot a + tot b := by
  induction a with
  | nil => simp [tot]
  | cons x xs ih => simp [tot, ih]; omega
theorem tot_take_succ (zs : List Int) (k : Nat) (hk : k < zs.length) : tot (zs.take (k + 1)) = tot (zs.take k) + zs[k] := by
  rw [List.take_succ_eq_append_getElem hk, tot_append]; simp [tot]
theorem tot_bd (lo hi : Int) (zs : List Int) (h : within lo hi zs = true) : lo * zs.length ≤ tot zs ∧ tot zs ≤ hi * zs.length := by
  induction zs with
  | nil => simp [tot]
  | cons x xs ih =>
    have h0 := within_get h 0 (by simp)
    have h1 : within lo hi xs = true := by unfold within at h ⊢; simp at h ⊢; exact h.2
    have := ih h1
    simp [tot, Int.mul_add] at *
    omega
end Go.Proofs.Ytediapekgbekeaa
