import Derived.Test.YtediapekgbekeaaMg03
import Derived.Test.YtediapekgbekeaaMg06
import Derived.Test.YtediapekgbekeaaMg10

/-
  THE LAWS' OWN HELPERS THAT WRITE MARKS INTO A LIST AND LOOK FOR THEM: markIntS, heldIntS.
-/
namespace Go.Proofs.Ytediapekgbekeaa
open Go.RowKit Go.Deep

/-- k0, k0 + 1, .. -/
def marks (k0 : Int) (n : Nat) : List Int := (List.range n).map fun (i : Nat) => k0 + (i : Int)
theorem marks_length (k0 : Int) (n : Nat) : (marks k0 n).length = n := by simp [marks]
theorem marks_succ (k0 : Int) (n : Nat) : marks k0 (n + 1) = marks k0 n ++ [k0 + (n : Int)] := by simp [marks, List.range_succ]
theorem marks_get (k0 : Int) (n k : Nat) (hk : k < n) : (marks k0 n)[k]'(by rw [marks_length]; exact hk) = k0 + (k : Int) := by simp [marks]
/-- The first j are marked. -/
def mixed (k0 : Int) (j : Nat) (zs : List Int) : List Int := marks k0 j ++ zs.drop j
theorem mixed_zero (k0 : Int) (zs : List Int) : mixed k0 0 zs = zs := by simp [mixed, marks]
theorem mixed_all (k0 : Int) (zs : List Int) : mixed k0 zs.length zs = marks k0 zs.length := by simp [mixed]
theorem mixed_length (k0 : Int) (j : Nat) (zs : List Int) (h : j ≤ zs.length) : (mixed k0 j zs).length = zs.length := by
  simp [mixed, marks_length]; omega
theorem mixed_set (k0 : Int) (j : Nat) (zs : List Int) (h : j < zs.length) : (mixed k0 j zs).set j (k0 + (j : Int)) = mixed k0 (j + 1) zs := by
  unfold mixed
  rw [List.set_append_right _ _ (by rw [marks_length]; exact Nat.le_refl _), marks_length, Nat.sub_self, List.drop_eq_getElem_cons h, List.set_cons_zero, marks_succ]
  simp

/-- WHAT markIntS LEAVES: the marks in the list, whose block alone has turned. -/
def Marked (base : Nat) (A : Option Addr) (n c : Nat) (k0 : Int) (w : World) (e : Ending) (w' : World) : Prop :=
  e = .returned (.int .i64 (k0 + (n : Int))) ∧ Own w' base 3 (.slice A n c) (marks k0 n) ∧ Below base w w' ∧ ∀ h, h < w.heap.size → (∀ ad, A = some ad → h ≠ ad.block) → w'.heap[h]? = w.heap[h]?

theorem Own.stored {w : World} {base g n c : Nat} {e : TypeId} {zs : List Int} (h : Own w base e (.slice (some ⟨g, 0, none⟩) n c) zs) (hn : zs.length = n) (j : Nat) (u : Int) :
    Own (w.setCell ⟨g, j, none⟩ (.int .i64 u)) base e (.slice (some ⟨g, 0, none⟩) n c) (zs.set j u) := by
  subst hn
  have := (World.ownsRow.stored h j (.int .i64 u)).1
  unfold Own
  rw [List.length_set, List.map_set]
  exact this

end Go.Proofs.Ytediapekgbekeaa

/-
  MARKS IN A LIST OF STRUCTS OF 3 NUMBERS (impl.Move): markMoveS, heldMoveS. Printed by structs.py.
-/
namespace Go.Proofs.Ytediapekgbekeaa
open Go.RowKit Go.Deep
set_option linter.unusedVariables false

/-- Nil, or a row of the call's own of n structs whose cells are the numbers xs. -/
def OwnIMo (w : World) (base : Nat) (v : Value) (n : Nat) (xs : List Int) : Prop := w.ownsRow base 43 3 v n (xs.map (Value.int .i64)) ∧ xs.length = n * 3

section
variable {w w' : World} {base n : Nat} {v : Value} {xs : List Int}
theorem OwnIMo.keep (h : OwnIMo w base v n xs) (hk : ∀ g, base ≤ g → g < w.heap.size → w'.heap[g]? = w.heap[g]?) : OwnIMo w' base v n xs := by
  refine ⟨⟨h.1.1, ?_⟩, h.2⟩
  rcases h.1.2 with h2 | ⟨g, cap, cur, hv, hb, hg, r⟩
  · exact .inl h2
  · obtain ⟨hlt, _⟩ := Array.getElem?_eq_some_iff.1 hg
    exact .inr ⟨g, cap, cur, hv, hb, (hk g hb hlt).trans hg, r⟩
theorem OwnIMo.below (h : OwnIMo w base v n xs) (hb : Below w.heap.size w w') : OwnIMo w' base v n xs := h.keep fun g _ hg => hb.block g hg
theorem OwnIMo.less {base' : Nat} (h : OwnIMo w base v n xs) (hb : base' ≤ base) : OwnIMo w base' v n xs := by
  refine ⟨⟨h.1.1, ?_⟩, h.2⟩
  rcases h.1.2 with h2 | ⟨g, cap, cur, hv, hb', r⟩
  · exact .inl h2
  · exact .inr ⟨g, cap, cur, hv, by omega, r⟩
theorem OwnIMo.form (h : OwnIMo w base v n xs) : (v = .slice none 0 0 ∧ n = 0) ∨ ∃ g c, v = .slice (some ⟨g, 0, none⟩) n c ∧ base ≤ g ∧ g < w.heap.size := by
  rcases h.1.2 with ⟨rfl, h0⟩ | ⟨g, cap, cur, rfl, hb, hg, hn, hm, _⟩
  · exact .inl ⟨rfl, h0⟩
  · refine .inr ⟨g, cap, rfl, hb, ?_⟩
    obtain ⟨hlt, _⟩ := Array.getElem?_eq_some_iff.1 hg
    exact hlt

/-- One more is marked. -/
theorem OwnIMo.mark {g c : Nat} {k0 : Int} {j : Nat} (h : OwnIMo w base (.slice (some ⟨g, 0, none⟩) n c) n (mixed k0 (j * 3) xs)) (hl : xs.length = n * 3) (hj : j < n) {a b d : Int}
    (ha : a = k0 + ((j * 3 : Nat) : Int)) (hb : b = k0 + ((j * 3 + 1 : Nat) : Int)) (hd : d = k0 + ((j * 3 + 1 + 1 : Nat) : Int)) :
    OwnIMo (((w.setCell ⟨g, j * 3, none⟩ (.int .i64 a)).setCell ⟨g, j * 3 + 1, none⟩ (.int .i64 b)).setCell ⟨g, j * 3 + 2, none⟩ (.int .i64 d)) base (.slice (some ⟨g, 0, none⟩) n c) n (mixed k0 ((j + 1) * 3) xs) := by
  subst ha; subst hb; subst hd
  refine ⟨?_, by rw [mixed_length _ _ _ (by omega)]; exact hl⟩
  have h1 := (World.ownsRow.stored (World.ownsRow.stored (World.ownsRow.stored h.1 (j * 3) (.int .i64 (k0 + ((j * 3 : Nat) : Int)))).1 (j * 3 + 1) (.int .i64 (k0 + ((j * 3 + 1 : Nat) : Int)))).1 (j * 3 + 2) (.int .i64 (k0 + ((j * 3 + 1 + 1 : Nat) : Int)))).1
  rw [← List.map_set, mixed_set k0 (j * 3) xs (by omega), ← List.map_set, mixed_set k0 (j * 3 + 1) xs (by omega), show j * 3 + 2 = j * 3 + 1 + 1 from rfl, ← List.map_set, mixed_set k0 (j * 3 + 1 + 1) xs (by omega),
    show j * 3 + 1 + 1 + 1 = (j + 1) * 3 from by omega] at h1
  exact h1
theorem OwnIMo.at_ {g c k : Nat} (h : OwnIMo w base (.slice (some ⟨g, 0, none⟩) n c) n xs) (hk : k < n * 3) (hk' : k < xs.length) : w.cell? ⟨g, k, none⟩ = some (.int .i64 xs[k]) := by
  rw [World.ownsRow.cellAt h.1 k hk, List.getElem?_map, List.getElem?_eq_getElem hk', Option.map_some]
end

def numsMo (ms : List Mo) : List Int := (List.range (ms.length * 3)).map (numMo ms)
theorem numsMo_length (ms : List Mo) : (numsMo ms).length = ms.length * 3 := by simp [numsMo]
theorem OwnIMo.of_row {w : World} {base g : Nat} {ms : List Mo} (h : RowMo w g ms) (hb : base ≤ g) (hm : ms.length ≤ maxLen) : OwnIMo w base (.slice (some ⟨g, 0, none⟩) ms.length ms.length) ms.length (numsMo ms) := by
  obtain ⟨cur, h1, h2, h3⟩ := h
  refine ⟨⟨by simp [numsMo], .inr ⟨g, ms.length, cur, rfl, hb, h1, Nat.le_refl _, hm, by omega, ?_⟩⟩, by simp [numsMo]⟩
  apply List.ext_getElem?
  intro i
  by_cases hi : i < ms.length * 3
  · rw [List.getElem?_take, if_pos (by omega), Array.getElem?_toList, h3 i hi, List.getElem?_map]
    simp [numsMo, hi, cellMo]
  · rw [List.getElem?_eq_none (by simp; omega), List.getElem?_eq_none (by simp [numsMo]; omega)]
/-- It reads as ms. -/
theorem OwnIMo.list {w : World} {base n c : Nat} {A : Option Addr} {ms : List Mo} (h : OwnIMo w base (.slice A n c) n (numsMo ms)) : Mos w w.heap.size A n ms := by
  have hl := h.2
  rw [numsMo_length] at hl
  have hn : ms.length = n := by omega
  rcases h.form with ⟨h1, h0⟩ | ⟨g, c', h1, hb, hlt⟩
  · exact ⟨hn, fun h => by omega⟩
  · injection h1 with hA _ _
    subst hA
    refine ⟨hn, fun _ => ⟨g, 0, rfl, hlt, fun i hi => ?_⟩⟩
    have hi' : i < (numsMo ms).length := by rw [numsMo_length]; omega
    rw [Nat.zero_add, World.ownsRow.cellAt h.1 i hi, List.getElem?_map, List.getElem?_eq_getElem hi']
    simp [numsMo, cellMo]

theorem numsMo_get (ms : List Mo) (i : Nat) : (numsMo ms)[i]? = if i < ms.length * 3 then some (numMo ms i) else none := by
  unfold numsMo
  rw [List.getElem?_map]
  by_cases h : i < ms.length * 3
  · rw [List.getElem?_range h, if_pos h]; rfl
  · rw [List.getElem?_eq_none (by simpa using h), if_neg h]; rfl
theorem numsMo_cons (d : Mo) (ms : List Mo) : numsMo (d :: ms) = [d.x0, d.x1, d.x2] ++ numsMo ms := by
  apply List.ext_getElem?
  intro i
  rw [numsMo_get]
  by_cases hi : i < 3
  · rw [List.getElem?_append_left (by simpa using hi), if_pos (by simp; omega)]
    match i, hi with
    | 0, _ => rfl
    | 1, _ => rfl
    | 2, _ => rfl
  · obtain ⟨j, rfl⟩ : ∃ j, i = j + 3 := ⟨i - 3, by omega⟩
    rw [List.getElem?_append_right (by simp), numsMo_get]
    have e : numMo (d :: ms) (j + 3) = numMo ms j := by
      unfold numMo
      simp [show (j + 3) / 3 = j / 3 + 1 from by omega]
    rw [e]
    simp only [List.length_cons, List.length_nil]
    by_cases h : j < ms.length * 3
    · rw [if_pos (by omega), if_pos (by omega)]; congr 2
    · rw [if_neg (by omega), if_neg (by omega)]
theorem numsMo_append (a b : List Mo) : numsMo (a ++ b) = numsMo a ++ numsMo b := by
  induction a with
  | nil => rfl
  | cons d ms ih => rw [List.cons_append, numsMo_cons, numsMo_cons, ih, List.append_assoc]
theorem OwnIMo.nil (w : World) (base : Nat) : OwnIMo w base (.slice none 0 0) 0 (numsMo []) := ⟨World.ownsRow_nil _ _ _ _, rfl⟩
theorem OwnIMo.shape {w : World} {base n : Nat} {v : Value} {xs : List Int} (h : OwnIMo w base v n xs) : ∃ A c, v = .slice A n c := by
  rcases h.form with ⟨rfl, rfl⟩ | ⟨g, c, rfl, _, _⟩
  · exact ⟨_, _, rfl⟩
  · exact ⟨_, _, rfl⟩

/-- 'out = append(out, d)' onto a list of the call's own: d lies in a new block. -/
theorem wpList_app_Mo {wr : World} {ops : Array Oper} {rest : List Oper} {o : Oper} {a : Act} {Q : Exit → Act → World → Prop} (hgd : o.guard = none) (s x : Operand) (t : TypeId)
    (ho : o.op = .call { callee := .builtin .append, args := #[s, x], argTypes := #[t, t] }) (ht : Try.prog.underlying t = some (.slice 43))
    (base : Nat) (v : Value) (ms : List Mo) (hs : a.eval s = v) (hown : OwnIMo wr base v ms.length (numsMo ms)) (d : Mo) (c : Nat) (hx : a.eval x = .slice (some ⟨wr.heap.size, 0, none⟩) 1 c)
    (hbase : base ≤ wr.heap.size) (hlen : ms.length < 1000000)
    (h : ∀ v' w', OwnIMo w' base v' (ms ++ [d]).length (numsMo (ms ++ [d])) → Below base wr w' → wpList Try.prog ops Q rest (a.put o.dst v') w') :
    wpList Try.prog ops Q (o :: rest) a (wr.alloc (.cells #[.int .i64 d.x0, .int .i64 d.x1, .int .i64 d.x2] 43)) := by
  obtain ⟨i0, hi, hz0, hz1, hz2⟩ := info_parts infoMo
  refine wpList_append_own _ hgd s x t ho base 43 i0 (.agg #[.int .i64 0, .int .i64 0, .int .i64 0]) 3 24 ht hi hz0 hz1 hz2 rfl (by decide) v ms.length ((numsMo ms).map (Value.int .i64)) hs ((hown.keep fun _ _ hg => Below.heap_alloc _ _ _ hg).1)
    ⟨wr.heap.size, 0, none⟩ 1 c [.int .i64 d.x0, .int .i64 d.x1, .int .i64 d.x2] hx rfl ?_ ?_ (by unfold maxLen; omega) (by omega) (by simp; omega) ?_
  · intro j u hj
    match j, hj with
    | 0, hj => simp at hj; subst hj; rw [add_head]; simp
    | 1, hj => simp at hj; subst hj; rw [add_head]; simp
    | 2, hj => simp at hj; subst hj; rw [add_head]; simp
  · intro u hu; simp at hu; rcases hu with rfl | rfl | rfl <;> rfl
  · intro v' w' h1 h2 _
    refine h v' w' ⟨?_, ?_⟩ ?_
    · rw [numsMo_append, List.length_append, List.map_append, show numsMo [d] = [d.x0, d.x1, d.x2] from by rw [numsMo_cons]; rfl]
      exact h1
    · rw [numsMo_length]
    · refine (((Below.refl base wr).alloc hbase _).grown h2 (by simp; omega) ?_)
      intro k hk
      exact (World.ownsRow.lt hown.1 k hk).1

/-- A LIST OF STRUCTS BESIDE A BOOL. -/
def MadeRMo (ms : List Mo) (b : Bool) (w : World) (e : Ending) (w' : World) : Prop :=
  ∃ A c, e = .returned (.tuple #[.slice A ms.length c, .bool b]) ∧ OwnIMo w' w.heap.size (.slice A ms.length c) ms.length (numsMo ms) ∧ Below w.heap.size w w'
theorem madeRMo_none {w w' : World} (h : Below w.heap.size w w') : MadeRMo [] false w (.returned (.tuple #[.slice none 0 0, .bool false])) w' :=
  ⟨none, 0, rfl, OwnIMo.nil _ _, h⟩

/-- WHAT markMoveS LEAVES. -/
def MarkedMo (base : Nat) (A : Option Addr) (n c : Nat) (k0 : Int) (w : World) (e : Ending) (w' : World) : Prop :=
  e = .returned (.int .i64 (k0 + 3 * (n : Int))) ∧ OwnIMo w' base (.slice A n c) n (marks k0 (n * 3)) ∧ Below base w w' ∧ ∀ h, h < w.heap.size → (∀ ad, A = some ad → h ≠ ad.block) → w'.heap[h]? = w.heap[h]?

end Go.Proofs.Ytediapekgbekeaa
