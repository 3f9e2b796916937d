
/-
  AN APPEND OF A DOUBLING, AND WHICH BLOCK TURNED.
-/
import Derived.Test.YtnakkmmmkbjfbaaDbM
import Derived.Maps.AppendAt
namespace Go.Proofs.Ytnakkmmmkbjfbaa
open Go.RowKit Go.Deep
set_option linter.unusedVariables false

theorem OwnIDb.blk {w : World} {base n : Nat} {v : Value} {xs : List Int} (h : OwnIDb w base v n xs) {b : Nat} (hb : v.ownBlock = some b) : base ≤ b ∧ b < w.heap.size := by
  rcases h.form with ⟨rfl, _⟩ | ⟨g, c, rfl, h1, h2⟩
  · cases hb
  · injection hb with hb; subst hb; exact ⟨h1, h2⟩
theorem own_blk {w : World} {base : Nat} {e : TypeId} {u : Value} {zs : List Int} (h : Own w base e u zs) {b : Nat} (hb : u.ownBlock = some b) : base ≤ b ∧ b < w.heap.size := by
  rcases h.form with ⟨rfl, _⟩ | ⟨g, c, rfl, h1, h2, _⟩
  · cases hb
  · injection hb with hb; subst hb; exact ⟨h1, h2⟩
theorem own_keepAt {w w' : World} {base g n c : Nat} {e : TypeId} {zs : List Int} (h : Own w base e (.slice (some ⟨g, 0, none⟩) n c) zs) (hk : w'.heap[g]? = w.heap[g]?) : Own w' base e (.slice (some ⟨g, 0, none⟩) n c) zs := by
  refine ⟨h.1, ?_⟩
  rcases h.2 with ⟨h1, _⟩ | ⟨g', cap, cur, h1, hb, hg, r⟩
  · cases h1
  · cases h1
    exact .inr ⟨_, _, cur, rfl, hb, hk.trans hg, r⟩
theorem cell_blk {w w' : World} {g i : Nat} (h : w'.heap[g]? = w.heap[g]?) : w'.cell? ⟨g, i, none⟩ = w.cell? ⟨g, i, none⟩ := by
  unfold World.cell?; simp only [h]
/-- 'out = append(out, d)', and which block turned. -/
theorem wpList_app_Db_at {wr : World} {ops : Array Oper} {rest : List Oper} {o : Oper} {a : Act} {Q : Exit → Act → World → Prop} (hgd : o.guard = none) (s x : Operand) (t : TypeId)
    (ho : o.op = .call { callee := .builtin .append, args := #[s, x], argTypes := #[t, t] }) (ht : Try.prog.underlying t = some (.slice 38))
    (base : Nat) (v : Value) (ms : List Db) (hs : a.eval s = v) (hown : OwnIDb wr base v ms.length (numsDb ms)) (d : Db) (c : Nat) (hx : a.eval x = .slice (some ⟨wr.heap.size, 0, none⟩) 1 c)
    (hbase : base ≤ wr.heap.size) (hlen : ms.length < 1000000)
    (h : ∀ v' w', OwnIDb w' base v' (ms ++ [d]).length (numsDb (ms ++ [d])) → Below base wr w' → (∀ k, k < wr.heap.size → some k ≠ v.ownBlock → w'.heap[k]? = wr.heap[k]?) → wr.heap.size ≤ w'.heap.size →
      (∀ b, v'.ownBlock = some b → v.ownBlock = some b ∨ wr.heap.size ≤ b) → wpList Try.prog ops Q rest (a.put o.dst v') w') :
    wpList Try.prog ops Q (o :: rest) a (wr.alloc (.cells #[.int .i64 d.x0, .int .i64 d.x1] 38)) := by
  obtain ⟨i0, hi, hz0, hz1, hz2⟩ := info_parts infoDb
  refine wpList_append_own_at _ hgd s x t ho base 38 i0 (.agg #[.int .i64 0, .int .i64 0]) 2 16 ht hi hz0 hz1 hz2 rfl (by decide) v ms.length ((numsDb ms).map (Value.int .i64)) hs ((hown.keep fun _ _ hg => Below.heap_alloc _ _ _ hg).1)
    ⟨wr.heap.size, 0, none⟩ 1 c [.int .i64 d.x0, .int .i64 d.x1] hx rfl ?_ ?_ (by unfold maxLen; omega) (by omega) (by simp; omega) ?_
  · intro j u hj
    match j, hj with
    | 0, hj => simp at hj; subst hj; rw [add_head]; simp
    | 1, hj => simp at hj; subst hj; rw [add_head]; simp
  · intro u hu; simp at hu; rcases hu with rfl | rfl <;> rfl
  · intro v' w' h1 h2 _ h4
    have hB : Below base wr w' := by
      refine (((Below.refl base wr).alloc hbase _).grown h2 (by simp; omega) ?_)
      intro k hk
      exact (World.ownsRow.lt hown.1 k hk).1
    refine h v' w' ⟨?_, ?_⟩ hB ?_ hB.size ?_
    · rw [numsDb_append, List.length_append, List.map_append, show numsDb [d] = [d.x0, d.x1] from by rw [numsDb_cons]; rfl]
      exact h1
    · rw [numsDb_length]
    · intro k hk hne
      rw [h2.block k (by simp; omega) hne]
      exact Below.heap_alloc _ _ _ hk
    · intro b hb
      rcases h4 with h4 | h4
      · exact .inl (h4 ▸ hb)
      · rw [h4] at hb; injection hb with hb; exact .inr (by simp at hb; omega)

end Go.Proofs.Ytnakkmmmkbjfbaa
