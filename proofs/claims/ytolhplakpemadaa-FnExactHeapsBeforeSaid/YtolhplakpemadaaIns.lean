
/-
  LISTS PUT INTO A LIST OF LISTS: the laws that a row built anew wants (out of XRbN, XRbM, without the rings).
-/
import Derived.Test.YtolhplakpemadaaRbW
import Derived.Test.YtolhplakpemadaaSsA
import Derived.Test.YtolhplakpemadaaSsB
import Derived.Test.YtolhplakpemadaaSortL
import Derived.Laws.AppendOwnNone
namespace Go.Proofs.Ytolhplakpemadaa
open Go.RowKit Go.Deep
set_option linter.unusedVariables false

theorem lexLt_step {x y : List Int} {k : Nat} (h1 : k < x.length) (h2 : k < y.length) : lexLt (x.drop k) (y.drop k) = if x.getD k 0 = y.getD k 0 then lexLt (x.drop (k + 1)) (y.drop (k + 1)) else decide (x.getD k 0 < y.getD k 0) := by
  rw [List.drop_eq_getElem_cons h1, List.drop_eq_getElem_cons h2, rget h1, rget h2]
  conv => lhs; unfold lexLt
  by_cases h : x[k] < y[k]
  · rw [if_pos h, if_neg (by omega)]; simpa using h
  · by_cases h3 : y[k] < x[k]
    · rw [if_neg h, if_pos h3, if_neg (by omega)]; simp; omega
    · rw [if_neg h, if_neg h3, if_pos (by omega)]

/-- 'append(v, l...)' onto a row of lists of the call's own, l whatever row of lists. -/
theorem wpList_app_vals {wr : World} {ops : Array Oper} {rest : List Oper} {o : Oper} {a : Act} {Q : Exit → Act → World → Prop} (hgd : o.guard = none) (s x : Operand)
    (ho : o.op = .call { callee := .builtin .append, args := #[s, x], argTypes := #[23, 23] })
    (K : Nat) (v : Value) (n : Nat) (xs : List Value) (hs : a.eval s = v) (hown : wr.ownsRow K 22 1 v n xs) (ad : Addr) (m c : Nat) (news : List Value) (hx : a.eval x = .slice (some ad) m c) (hl : news.length = m)
    (hv : ∀ j u, news[j]? = some u → wr.cell? (ad.add j) = some u) (h1 : ∀ u ∈ news, u.oneCell' = true) (hK : K ≤ wr.heap.size) (hlen : n + m < 1000000)
    (h : ∀ v' w', w'.ownsRow K 22 1 v' (n + m) (xs ++ news) → Below K wr w' → wpList Try.prog ops Q rest (a.put o.dst v') w') :
    wpList Try.prog ops Q (o :: rest) a wr := by
  obtain ⟨i0, hi, hz0, hz1, hz2⟩ := info_parts3 infoRowT
  refine wpList_append_own _ hgd s x 23 ho K 22 i0 (.slice none 0 0) 1 24 Try.underlying23 hi hz0 hz1 hz2 rfl (by decide) v n xs hs hown ad m c news hx (by rw [hl, Nat.mul_one]) hv h1 (by unfold maxLen; omega) (by omega) hK ?_
  intro v' w' h2 h3 _
  refine h v' w' h2 ((Below.refl K wr).grown h3 hK ?_)
  intro k hk
  exact (World.ownsRow.lt hown k hk).1
theorem wpList_app_oneG {W : World} {ops : Array Oper} {rest : List Oper} {o : Oper} {a : Act} {Q : Exit → Act → World → Prop} (hgd : o.guard = none) (s x : Operand)
    (ho : o.op = .call { callee := .builtin .append, args := #[s, x], argTypes := #[23, 23] })
    (K : Nat) (v : Value) (n : Nat) (xs : List Value) (hs : a.eval s = v) (hown : W.ownsRow K 22 1 v n xs) (r : Value) (hr : r.oneCell' = true) (g c : Nat) (hg : g = W.heap.size) (hx : a.eval x = .slice (some ⟨g, 0, none⟩) 1 c) (hK : K ≤ W.heap.size) (hlen : n + 1 < 1000000)
    (h : ∀ v' w', w'.ownsRow K 22 1 v' (n + 1) (xs ++ [r]) → Below K W w' → wpList Try.prog ops Q rest (a.put o.dst v') w') :
    wpList Try.prog ops Q (o :: rest) a (W.alloc (.cells #[r] 22)) := by
  subst hg
  refine wpList_app_vals hgd s x ho K v n xs hs (World.ownsRow.alloc hown _) ⟨W.heap.size, 0, none⟩ 1 c [r] hx rfl (cell_one_new W r _) (by intro u hu; rw [List.mem_singleton] at hu; subst hu; exact hr) (by simp; omega) hlen fun v' w' h1 h2 => h v' w' h1 (((Below.refl K W).alloc hK _).trans h2)
theorem empty_row (w : World) : (w.alloc (.cells #[] 22)).ownsRow w.heap.size 22 1 (.slice (some ⟨w.heap.size, 0, none⟩) 0 0) 0 [] := by
  have e : (w.alloc (.cells #[] 22)).heap[w.heap.size]? = some (.cells #[] 22 (0, 0)) := by
    show (w.heap.push _)[w.heap.size]? = _
    simp
  exact ⟨rfl, .inr ⟨_, 0, _, rfl, Nat.le_refl _, e, Nat.le_refl _, Nat.zero_le _, rfl, rfl⟩⟩
theorem OwnPs.insert {W W' : World} {base P : Nat} {v v3 o : Value} {F : List (Value × List Int)} {ol : List Int} (h : OwnPs W base v F) (ho : Own W base 3 o ol) (hap : ∀ y ∈ F, apart y (o, ol)) (hK : Below W.heap.size W W')
    (hrow : W'.ownsRow W.heap.size 22 1 v3 (F.length + 1) ((F.take P ++ (o, ol) :: F.drop P).map Prod.fst)) (hb : base ≤ W.heap.size) (hP : P ≤ F.length) : OwnPs W' base v3 (F.take P ++ (o, ol) :: F.drop P) := by
  have hlen : (F.take P ++ (o, ol) :: F.drop P).length = F.length + 1 := by
    rw [List.length_append, List.length_take, List.length_cons, List.length_drop]; omega
  have hmem : ∀ y ∈ F.take P ++ (o, ol) :: F.drop P, y ∈ F ∨ y = (o, ol) := fun y hy => by
    rcases List.mem_append.1 hy with h1 | h1
    · exact .inl (List.mem_of_mem_take h1)
    · rcases List.mem_cons.1 h1 with h1 | h1
      · exact .inr h1
      · exact .inl (List.mem_of_mem_drop h1)
  refine ⟨?_, fun y hy => ?_, ?_⟩
  · rw [hlen]
    refine ⟨hrow.1, ?_⟩
    rcases hrow.2 with h2 | ⟨g, cap, cur, hv, hb', r⟩
    · exact .inl h2
    · exact .inr ⟨g, cap, cur, hv, by omega, r⟩
  · have hy2 : Own W base 3 y.1 y.2 := by
      rcases hmem y hy with h1 | rfl
      · exact (h.2.1 y h1).1
      · exact ho
    refine ⟨hy2.below hK, fun b hb1 hb2 => ?_⟩
    have h1 := (hy2.blk hb1).2
    rcases hrow.2 with ⟨h2, _⟩ | ⟨g, cap, cur, hv, hb', r⟩
    · rw [h2] at hb2; cases hb2
    · rw [hv] at hb2
      have : g = b := by simpa [Value.ownBlock] using hb2
      omega
  · have hp := h.2.2
    rw [← List.take_append_drop P F] at hp
    obtain ⟨p1, p2, p3⟩ := List.pairwise_append.1 hp
    refine List.pairwise_append.2 ⟨p1, List.pairwise_cons.2 ⟨fun y hy => apart_symm (hap y (List.mem_of_mem_drop hy)), p2⟩, fun y hy z hz => ?_⟩
    rcases List.mem_cons.1 hz with rfl | hz
    · exact hap y (List.mem_of_mem_take hy)
    · exact p3 y hy z hz
theorem OwnPs.take_cells {w : World} {base : Nat} {g n c P : Nat} {L : List (Value × List Int)} (h : OwnPs w base (.slice (some ⟨g, 0, none⟩) n c) L) (hP : P ≤ L.length) :
    ((L.take P).map Prod.fst).length = P ∧ (∀ j u, ((L.take P).map Prod.fst)[j]? = some u → w.cell? ((⟨g, 0, none⟩ : Addr).add j) = some u) ∧ ∀ u ∈ (L.take P).map Prod.fst, u.oneCell' = true := by
  refine ⟨by rw [List.length_map, List.length_take]; omega, fun j u hj => ?_, fun u hu => ?_⟩
  · rw [List.getElem?_map] at hj
    obtain ⟨y, hy, rfl⟩ := Option.map_eq_some_iff.1 hj
    rw [List.getElem?_take] at hy
    split at hy
    · obtain ⟨hlt, rfl⟩ := List.getElem?_eq_some_iff.1 hy
      obtain ⟨ad', e, hc, _⟩ := h.at_ hlt
      injection e with e
      subst e
      exact hc
    · cases hy
  · obtain ⟨y, hy, rfl⟩ := List.mem_map.1 hu
    exact (h.2.1 y (List.mem_of_mem_take hy)).1.cell1
theorem OwnPs.drop_cells {w : World} {base : Nat} {g n c P : Nat} {L : List (Value × List Int)} (h : OwnPs w base (.slice (some ⟨g, 0, none⟩) n c) L) (hP : P ≤ L.length) :
    ((L.drop P).map Prod.fst).length = L.length - P ∧ (∀ j u, ((L.drop P).map Prod.fst)[j]? = some u → w.cell? ((⟨g, P, none⟩ : Addr).add j) = some u) ∧ ∀ u ∈ (L.drop P).map Prod.fst, u.oneCell' = true := by
  refine ⟨by rw [List.length_map, List.length_drop], fun j u hj => ?_, fun u hu => ?_⟩
  · rw [List.getElem?_map] at hj
    obtain ⟨y, hy, rfl⟩ := Option.map_eq_some_iff.1 hj
    rw [List.getElem?_drop] at hy
    obtain ⟨hlt, rfl⟩ := List.getElem?_eq_some_iff.1 hy
    obtain ⟨ad', e, hc, _⟩ := h.at_ hlt
    injection e with e
    subst e
    rw [add_head] at hc
    rw [show (⟨g, P, none⟩ : Addr).add j = ⟨g, P + j, none⟩ from by simp [Addr.add]]
    exact hc
  · obtain ⟨y, hy, rfl⟩ := List.mem_map.1 hu
    exact (h.2.1 y (List.mem_of_mem_drop hy)).1.cell1

end Go.Proofs.Ytolhplakpemadaa
