
/-
  LISTS OF LISTS AS LISTS OF PAIRS: a value and what it reads as.
-/
import Derived.Test.YtolhplakpemadaaSsB
namespace Go.Proofs.Ytolhplakpemadaa
open Go.RowKit Go.Deep
set_option linter.unusedVariables false

/-- Two values do not begin in one block. -/
def apart (x y : Value × List Int) : Prop := ∀ b, x.1.ownBlock = some b → y.1.ownBlock ≠ some b
/-- A list of lists of the call's own. -/
def OwnPs (w : World) (base : Nat) (v : Value) (L : List (Value × List Int)) : Prop :=
  w.ownsRow base 22 1 v L.length (L.map Prod.fst) ∧ (∀ x ∈ L, Own w base 3 x.1 x.2 ∧ ∀ b, x.1.ownBlock = some b → v.ownBlock ≠ some b) ∧ L.Pairwise apart
section
variable {w w' : World} {base : Nat} {v : Value} {L : List (Value × List Int)}
theorem getD_map {α β : Type} (L : List α) (f : α → β) (d : β) (k : Nat) (hk : k < L.length) : (L.map f).getD k d = f L[k] := by simp [List.getD, hk]
theorem OwnPs.toVs (h : OwnPs w base v L) : OwnVs w base v (L.map Prod.fst) (L.map Prod.snd) := by
  refine ⟨by simp, by simpa using h.1, fun k hk => ?_, fun i j hij hj b hb => ?_, fun i hi b hb => ?_⟩
  · rw [List.length_map] at hk
    rw [getD_map _ _ _ _ hk, getD_map _ _ _ _ hk]
    exact (h.2.1 _ (List.getElem_mem hk)).1
  · rw [List.length_map] at hj
    rw [getD_map _ _ _ _ (by omega)] at hb
    rw [getD_map _ _ _ _ hj]
    exact List.pairwise_iff_getElem.1 h.2.2 i j (by omega) hj hij b hb
  · rw [List.length_map] at hi
    rw [getD_map _ _ _ _ hi] at hb
    exact (h.2.1 _ (List.getElem_mem hi)).2 b hb
theorem OwnVs.toPs {vs : List Value} {zss : List (List Int)} (h : OwnVs w base v vs zss) : OwnPs w base v (vs.zip zss) ∧ (vs.zip zss).map Prod.snd = zss := by
  obtain ⟨h1, h2, h3, h4, h5⟩ := h
  have hl : (vs.zip zss).length = vs.length := by rw [List.length_zip]; omega
  have hf : (vs.zip zss).map Prod.fst = vs := List.map_fst_zip (by omega)
  have hs : (vs.zip zss).map Prod.snd = zss := List.map_snd_zip (by omega)
  have hg : ∀ (k : Nat) (hk : k < (vs.zip zss).length), (vs.zip zss)[k] = (vs.getD k undef, zss.getD k []) := fun k hk => by
    rw [List.getElem_zip]
    simp [List.getD, show k < vs.length by omega, show k < zss.length by omega]
  refine ⟨⟨by rw [hl, hf]; exact h2, fun x hx => ?_, List.pairwise_iff_getElem.2 fun i j hi hj hij b hb => ?_⟩, hs⟩
  · obtain ⟨k, hk, rfl⟩ := List.getElem_of_mem hx
    rw [hg k hk]
    exact ⟨h3 k (by omega), h5 k (by omega)⟩
  · rw [hg i hi] at hb
    rw [hg j hj]
    exact h4 i j hij (by omega) b hb
theorem ownsRow_keep {e : TypeId} {n : Nat} {xs : List Value} (h : w.ownsRow base e 1 v n xs) (hk : ∀ g, base ≤ g → g < w.heap.size → w'.heap[g]? = w.heap[g]?) : w'.ownsRow base e 1 v n xs := by
  refine ⟨h.1, ?_⟩
  rcases h.2 with h2 | ⟨g, cap, cur, hv, hb, hg, r⟩
  · exact .inl h2
  · obtain ⟨hlt, _⟩ := Array.getElem?_eq_some_iff.1 hg
    exact .inr ⟨g, cap, cur, hv, hb, (hk g hb hlt).trans hg, r⟩
theorem OwnPs.keep (h : OwnPs w base v L) (hk : ∀ g, base ≤ g → g < w.heap.size → w'.heap[g]? = w.heap[g]?) : OwnPs w' base v L :=
  ⟨ownsRow_keep h.1 hk, fun x hx => ⟨(h.2.1 x hx).1.keep hk, (h.2.1 x hx).2⟩, h.2.2⟩
theorem OwnPs.below (h : OwnPs w base v L) (hb : Below w.heap.size w w') : OwnPs w' base v L := h.keep fun g _ hg => hb.block g hg
theorem OwnPs.nil (w : World) (base : Nat) : OwnPs w base (.slice none 0 0) [] := ⟨World.ownsRow_nil _ _ _ _, fun x hx => absurd hx (by simp), .nil⟩
end
/-- 'out = append(out, l)', l a list that lies apart from those of out. -/
theorem wpList_app_rowP {wr : World} {ops : Array Oper} {rest : List Oper} {o : Oper} {a : Act} {Q : Exit → Act → World → Prop} (hgd : o.guard = none) (s x : Operand)
    (ho : o.op = .call { callee := .builtin .append, args := #[s, x], argTypes := #[23, 23] })
    (base K : Nat) (v : Value) (F : List (Value × List Int)) (p : Value × List Int) (hs : a.eval s = v) (hown : OwnPs wr base v F) (hp : Own wr base 3 p.1 p.2)
    (hR : ∀ y ∈ F, apart y p) (hv : ∀ b, p.1.ownBlock = some b → v.ownBlock ≠ some b) (hKv : ∀ b, v.ownBlock = some b → K ≤ b) (hKs : K ≤ wr.heap.size) (c : Nat) (hx : a.eval x = .slice (some ⟨wr.heap.size, 0, none⟩) 1 c)
    (hbase : base ≤ wr.heap.size) (hlen : F.length < 1000000)
    (h : ∀ v' w', OwnPs w' base v' (F ++ [p]) → Below K wr w' → (∀ b, v'.ownBlock = some b → K ≤ b) → wpList Try.prog ops Q rest (a.put o.dst v') w') :
    wpList Try.prog ops Q (o :: rest) a (wr.alloc (.cells #[p.1] 22)) := by
  obtain ⟨i0, hi, hz0, hz1, hz2⟩ := info_parts3 infoRowT
  refine wpList_append_own_at _ hgd s x 23 ho base 22 i0 (.slice none 0 0) 1 24 Try.underlying23 hi hz0 hz1 hz2 rfl (by decide) v F.length (F.map Prod.fst) hs (World.ownsRow.alloc hown.1 _)
    ⟨wr.heap.size, 0, none⟩ 1 c [p.1] hx rfl ?_ ?_ (by unfold maxLen; omega) (by omega) (by simp; omega) ?_
  · intro j y hj
    match j, hj with
    | 0, hj => simp at hj; subst hj; simp [Addr.add]
  · intro y hy; simp at hy; subst hy; exact hp.cell1
  · intro v' w' h1 h2 _ h4
    have hoth : ∀ k, k < wr.heap.size → some k ≠ v.ownBlock → w'.heap[k]? = wr.heap[k]? := fun k hk hne => by
      rw [h2.block k (by simp; omega) hne]
      exact Below.heap_alloc _ _ _ hk
    have hblk : v'.ownBlock = v.ownBlock ∨ ∃ g, v'.ownBlock = some g ∧ wr.heap.size ≤ g := by
      rcases h4 with h4 | h4
      · exact .inl h4
      · exact .inr ⟨_, h4, by simp⟩
    have one : ∀ y : Value × List Int, Own wr base 3 y.1 y.2 → (∀ b, y.1.ownBlock = some b → v.ownBlock ≠ some b) → Own w' base 3 y.1 y.2 ∧ ∀ b, y.1.ownBlock = some b → v'.ownBlock ≠ some b := fun y hy hyv => by
      refine ⟨hy.keepB fun g hg hlt => hoth g hlt (fun e => hyv g hg e.symm), fun b hb hb' => ?_⟩
      rcases hblk with e | ⟨g, e, hg⟩
      · rw [e] at hb'; exact hyv b hb hb'
      · rw [e] at hb'; injection hb' with hb'; have := (hy.blk hb).2; omega
    refine h v' w' ⟨by simpa using h1, fun y hy => ?_, List.pairwise_append.2 ⟨hown.2.2, by simp, fun y hy z hz => ?_⟩⟩ ?_ (fun b hb => ?_)
    · rcases List.mem_append.1 hy with hy | hy
      · exact one y (hown.2.1 y hy).1 (hown.2.1 y hy).2
      · simp at hy; subst hy; exact one _ hp hv
    · simp at hz; subst hz; exact hR y hy
    · exact ((Below.refl K wr).alloc hKs _).grown h2 (by simp; omega) hKv
    · rcases hblk with e | ⟨g, e, hg⟩
      · rw [e] at hb; exact hKv b hb
      · rw [e] at hb; injection hb with hb; omega
end Go.Proofs.Ytolhplakpemadaa
