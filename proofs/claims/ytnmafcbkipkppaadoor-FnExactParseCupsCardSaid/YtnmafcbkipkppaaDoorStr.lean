
/-
  LISTS OF TEXTS: read ('Strs'), made by append ('OwnS'). No program is named here.
-/
import Derived.Test.YtnmafcbkipkppaaDoorWords
import Derived.Test.YtnmafcbkipkppaaDoorOwn
import Derived.Test.YtnmafcbkipkppaaDoorText
import Derived.OwnWalk
namespace Go.Proofs.YtnmafcbkipkppaaDoor
open Go.RowKit Go.Deep
set_option linter.unusedVariables false

/-- A text as a value. -/
def sv (l : List UInt8) : Value := .string (bs l)
/-- The slice value '.slice A n c' reads as the texts ws, below block B. -/
def Strs (w : World) (B : Nat) (A : Option Addr) (n : Nat) (ws : List (List UInt8)) : Prop :=
  ws.length = n ∧ (0 < n → ∃ ad, A = some ad ∧ ad.block < B ∧ ∀ k, k < n → w.cell? (ad.add k) = some (.string (bs (ws.getD k []))))
section
variable {w w' : World} {B B' n c base : Nat} {A : Option Addr} {ws : List (List UInt8)} {e : TypeId} {v : Value}
theorem Strs.len (h : Strs w B A n ws) : ws.length = n := h.1
theorem Strs.at_ {k : Nat} (h : Strs w B A n ws) (hk : k < n) : ∃ ad, A = some ad ∧ ad.block < B ∧ w.cell? (ad.add k) = some (.string (bs (ws.getD k []))) := by
  obtain ⟨ad, e, hb, hc⟩ := h.2 (by omega)
  exact ⟨ad, e, hb, hc k hk⟩
theorem Strs.keep (h : Strs w B A n ws) (hk : ∀ p : Addr, p.block < B → w'.cell? p = w.cell? p) : Strs w' B A n ws :=
  ⟨h.1, fun hn => by
    obtain ⟨ad, e, hb, hc⟩ := h.2 hn
    exact ⟨ad, e, hb, fun j hj => (hk _ (by rw [block_of_add]; exact hb)).trans (hc j hj)⟩⟩
theorem Strs.more (h : Strs w B A n ws) (hB : B ≤ B') : Strs w B' A n ws :=
  ⟨h.1, fun hn => by
    obtain ⟨ad, e, hb, hc⟩ := h.2 hn
    exact ⟨ad, e, by omega, hc⟩⟩
theorem Strs.below {C : Nat} (h : Strs w B A n ws) (hb : Below C w w') (hC : B ≤ C) : Strs w' B A n ws := h.keep fun _ hp => hb.cell (by omega)

/-- The slice value v is nil or begins a row of the call's own: its texts are ws. -/
def OwnS (w : World) (base : Nat) (e : TypeId) (v : Value) (ws : List (List UInt8)) : Prop := w.ownsRow base e 1 v ws.length (ws.map sv)
theorem OwnS.nil (w : World) (base : Nat) (e : TypeId) : OwnS w base e (.slice none 0 0) [] := World.ownsRow_nil _ _ _ _
theorem OwnS.form (h : OwnS w base e v ws) : (v = .slice none 0 0 ∧ ws = []) ∨ ∃ g c, v = .slice (some ⟨g, 0, none⟩) ws.length c ∧ base ≤ g ∧ g < w.heap.size ∧ ws.length ≤ c ∧ c ≤ maxLen := by
  rcases h.2 with ⟨rfl, h0⟩ | ⟨g, cap, cur, rfl, hb, hg, hn, hm, _⟩
  · exact .inl ⟨rfl, List.eq_nil_of_length_eq_zero h0⟩
  · refine .inr ⟨g, cap, rfl, hb, ?_, hn, hm⟩
    obtain ⟨hlt, _⟩ := Array.getElem?_eq_some_iff.1 hg
    exact hlt
theorem OwnS.shape (h : OwnS w base e v ws) : ∃ A c, v = .slice A ws.length c ∧ ws.length ≤ c ∧ c ≤ maxLen := by
  rcases h.form with ⟨rfl, rfl⟩ | ⟨g, c, rfl, _, _, h1, h2⟩
  · exact ⟨none, 0, rfl, Nat.le_refl _, Nat.zero_le _⟩
  · exact ⟨_, c, rfl, h1, h2⟩
theorem OwnS.strs (h : OwnS w base e (.slice A n c) ws) : Strs w w.heap.size A ws.length ws := by
  rcases h.form with ⟨h1, rfl⟩ | ⟨_, c', h1, _, hlt, _⟩
  · exact ⟨rfl, fun h => absurd h (by simp)⟩
  · injection h1 with hA hn hc
    subst hA; subst hn; subst hc
    refine ⟨rfl, fun _ => ⟨_, rfl, hlt, fun k hk => ?_⟩⟩
    rw [add_head, World.ownsRow.cellAt h k (by omega)]
    simp [List.getD, List.getElem?_eq_getElem hk, sv]
theorem OwnS.keep (h : OwnS w base e v ws) (hk : ∀ g, base ≤ g → g < w.heap.size → w'.heap[g]? = w.heap[g]?) : OwnS w' base e v ws := by
  refine ⟨h.1, ?_⟩
  rcases h.2 with h2 | ⟨g, cap, cur, hv, hb, hg, r⟩
  · exact .inl h2
  · obtain ⟨hlt, _⟩ := Array.getElem?_eq_some_iff.1 hg
    exact .inr ⟨g, cap, cur, hv, hb, (hk g hb hlt).trans hg, r⟩
theorem OwnS.below (h : OwnS w base e v ws) (hb : Below w.heap.size w w') : OwnS w' base e v ws := h.keep fun g _ hg => hb.block g hg
end

section
variable {P : Program}
/-- 'out = append(out, s)' onto a list of the call's own: s lies in a new block of one cell. -/
theorem wpList_app_str {wr : World} {ops : Array Oper} {rest : List Oper} {o : Oper} {a : Act} {Q : Exit → Act → World → Prop} (hgd : o.guard = none) (s x : Operand) (t e : TypeId)
    (ho : o.op = .call { callee := .builtin .append, args := #[s, x], argTypes := #[t, t] }) (ht : P.underlying t = some (.slice e))
    (hinfo : (P.info? e).map (fun i => (i.zero, i.size, i.bytes)) = some (some (.string ⟨#[]⟩), 1, 16))
    (base : Nat) (v : Value) (ws : List (List UInt8)) (hs : a.eval s = v) (hown : OwnS wr base e v ws) (l : List UInt8) (c : Nat) (hx : a.eval x = .slice (some ⟨wr.heap.size, 0, none⟩) 1 c)
    (hbase : base ≤ wr.heap.size) (hlen : ws.length < 100000000)
    (h : ∀ v' w', OwnS w' base e v' (ws ++ [l]) → Below base wr w' → wpList P ops Q rest (a.put o.dst v') w') :
    wpList P ops Q (o :: rest) a (wr.alloc (.cells #[.string (bs l)] e)) := by
  obtain ⟨i0, hi, hz0, hz1, hz2⟩ := info_parts hinfo
  refine wpList_append_own _ hgd s x t ho base e i0 (.string ⟨#[]⟩) 1 16 ht hi hz0 hz1 hz2 rfl (by decide) v ws.length (ws.map sv) hs (World.ownsRow.alloc hown _)
    ⟨wr.heap.size, 0, none⟩ 1 c [.string (bs l)] hx rfl ?_ ?_ (by unfold maxLen; omega) (by omega) (by simp; omega) ?_
  · intro j u hj
    match j, hj with
    | 0, hj => simp at hj; subst hj; simp [Addr.add]
  · intro u hu; simp at hu; subst hu; rfl
  · intro v' w' h1 h2 _
    refine h v' w' (by simpa [OwnS, sv] using h1) ?_
    refine (((Below.refl base wr).alloc hbase _).grown h2 (by simp; omega) ?_)
    intro k hk
    exact (World.ownsRow.lt hown k hk).1
end
end Go.Proofs.YtnmafcbkipkppaaDoor
