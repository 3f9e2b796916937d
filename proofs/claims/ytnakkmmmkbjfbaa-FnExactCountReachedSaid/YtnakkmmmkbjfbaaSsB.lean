
/-
  A LIST APPENDED TO A LIST OF LISTS, and where the list of lists lies behind it.
-/
import Derived.Test.YtnakkmmmkbjfbaaSsA
namespace Go.Proofs.Ytnakkmmmkbjfbaa
open Go.RowKit Go.Deep
set_option linter.unusedVariables false

section
/-- 'out = append(out, l)', l a list that was made behind the list of lists. -/
theorem wpList_app_rowB {wr : World} {ops : Array Oper} {rest : List Oper} {o : Oper} {a : Act} {Q : Exit → Act → World → Prop} (hgd : o.guard = none) (s x : Operand)
    (ho : o.op = .call { callee := .builtin .append, args := #[s, x], argTypes := #[47, 47] })
    (base K : Nat) (v u : Value) (vs : List Value) (zss : List (List Int)) (zs : List Int) (hs : a.eval s = v) (hown : OwnVs wr base v vs zss) (hu : Own wr K 3 u zs)
    (hK : (∀ i, i < zss.length → ∀ b, (vs.getD i undef).ownBlock = some b → b < K) ∧ ∀ b, v.ownBlock = some b → b < K) (hbK : base ≤ K) (c : Nat) (hx : a.eval x = .slice (some ⟨wr.heap.size, 0, none⟩) 1 c)
    (hbase : base ≤ wr.heap.size) (hlen : zss.length < 1000000)
    (h : ∀ v' w', OwnVs w' base v' (vs ++ [u]) (zss ++ [zs]) → Below base wr w' → (∀ k, k < wr.heap.size → some k ≠ v.ownBlock → w'.heap[k]? = wr.heap[k]?) → (v'.ownBlock = v.ownBlock ∨ ∃ g, v'.ownBlock = some g ∧ wr.heap.size ≤ g) → wpList Try.prog ops Q rest (a.put o.dst v') w') :
    wpList Try.prog ops Q (o :: rest) a (wr.alloc (.cells #[u] 22)) := by
  obtain ⟨i0, hi, hz0, hz1, hz2⟩ := info_parts3 infoRowT
  have hl := hown.1
  refine wpList_append_own_at _ hgd s x 47 ho base 22 i0 (.slice none 0 0) 1 24 Try.underlying47 hi hz0 hz1 hz2 rfl (by decide) v vs.length vs hs (World.ownsRow.alloc hown.2.1 _)
    ⟨wr.heap.size, 0, none⟩ 1 c [u] hx rfl ?_ ?_ (by unfold maxLen; omega) (by omega) (by simp; omega) ?_
  · intro j y hj
    match j, hj with
    | 0, hj => simp at hj; subst hj; simp [Addr.add]
  · intro y hy; simp at hy; subst hy; exact hu.cell1
  · intro v' w' h1 h2 _ h4
    have hoth : ∀ k, k < wr.heap.size → some k ≠ v.ownBlock → w'.heap[k]? = wr.heap[k]? := fun k hk hne => by
      rw [h2.block k (by simp; omega) hne]
      exact Below.heap_alloc _ _ _ hk
    have hblk : v'.ownBlock = v.ownBlock ∨ ∃ g, v'.ownBlock = some g ∧ wr.heap.size ≤ g := by
      rcases h4 with h4 | h4
      · exact .inl h4
      · exact .inr ⟨_, h4, by simp⟩
    refine h v' w' (hown.snoc hu hK hbK h1 hoth hblk) ?_ hoth hblk
    · refine (((Below.refl base wr).alloc hbase _).grown h2 (by simp; omega) ?_)
      intro k hk
      exact (hown.blk hk).1
end
end Go.Proofs.Ytnakkmmmkbjfbaa
