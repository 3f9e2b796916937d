import Derived.Test.YtnakkmmmkbjfbaaMg18
import Derived.Maps.AppendAt

/-
  A LIST APPENDED TO A LIST OF LISTS; a made list of lists that has been filled.
-/
namespace Go.Proofs.Ytnakkmmmkbjfbaa
open Go.RowKit Go.Deep
set_option linter.unusedVariables false

theorem infoRowT : (Try.prog.info? 22).map (fun i => (i.zero, i.size, i.bytes)) = some (some (.slice none 0 0), 1, 24) := by kernel_rfl
theorem info_parts3 {P : Program} {e : TypeId} {z : Value} {b : Nat} (h : (P.info? e).map (fun i => (i.zero, i.size, i.bytes)) = some (some z, 1, b)) : ∃ i, P.info? e = some i ∧ i.zero = some z ∧ i.size = 1 ∧ i.bytes = b := by
  obtain ⟨i, hi, he⟩ := Option.map_eq_some_iff.1 h
  simp only [Prod.mk.injEq] at he
  exact ⟨i, hi, he.1, he.2.1, he.2.2⟩
theorem Own.blk {w : World} {base : Nat} {e : TypeId} {u : Value} {zs : List Int} (h : Own w base e u zs) {b : Nat} (hb : u.ownBlock = some b) : base ≤ b ∧ b < w.heap.size := by
  rcases h.form with ⟨rfl, _⟩ | ⟨g, c, rfl, h1, h2, _⟩
  · cases hb
  · injection hb with hb; subst hb; exact ⟨h1, h2⟩
theorem Own.cell1 {w : World} {base : Nat} {e : TypeId} {u : Value} {zs : List Int} (h : Own w base e u zs) : u.oneCell' = true := by
  rcases h.form with ⟨rfl, _⟩ | ⟨g, c, rfl, _⟩ <;> rfl
theorem OwnVs.blk {w : World} {base : Nat} {v : Value} {vs : List Value} {zss : List (List Int)} (h : OwnVs w base v vs zss) {b : Nat} (hb : v.ownBlock = some b) : base ≤ b ∧ b < w.heap.size := by
  rcases h.form with ⟨rfl, _⟩ | ⟨g, c, rfl, h1, h2, _⟩
  · cases hb
  · injection hb with hb; subst hb; exact ⟨h1, h2⟩
theorem OwnVs.blks {w : World} {base : Nat} {v : Value} {vs : List Value} {zss : List (List Int)} (h : OwnVs w base v vs zss) : (∀ i, i < zss.length → ∀ b, (vs.getD i undef).ownBlock = some b → b < w.heap.size) ∧ ∀ b, v.ownBlock = some b → b < w.heap.size :=
  ⟨fun i hi b hb => ((h.2.2.1 i hi).blk hb).2, fun b hb => (h.blk hb).2⟩
theorem snoc_lt {α : Type} (xs : List α) (y d : α) (k : Nat) (h : k < xs.length) : (xs ++ [y]).getD k d = xs.getD k d := by
  simp only [List.getD]; rw [List.getElem?_append_left h]
theorem snoc_at {α : Type} (xs : List α) (y d : α) : (xs ++ [y]).getD xs.length d = y := by
  simp [List.getD]
theorem snoc_vs {vs : List Value} {zss : List (List Int)} (h : vs.length = zss.length) (u d : Value) : (vs ++ [u]).getD zss.length d = u := by rw [← h]; exact snoc_at vs u d

theorem OwnVs.snoc {wr w' : World} {base K : Nat} {v v' u : Value} {vs : List Value} {zss : List (List Int)} {zs : List Int} (hown : OwnVs wr base v vs zss) (hu : Own wr K 3 u zs)
    (hK : (∀ i, i < zss.length → ∀ b, (vs.getD i undef).ownBlock = some b → b < K) ∧ ∀ b, v.ownBlock = some b → b < K) (hbK : base ≤ K)
    (h1 : w'.ownsRow base 22 1 v' (vs.length + 1) (vs ++ [u])) (hoth : ∀ k, k < wr.heap.size → some k ≠ v.ownBlock → w'.heap[k]? = wr.heap[k]?)
    (hb : v'.ownBlock = v.ownBlock ∨ ∃ g, v'.ownBlock = some g ∧ wr.heap.size ≤ g) : OwnVs w' base v' (vs ++ [u]) (zss ++ [zs]) := by
  have hl := hown.1
  refine ⟨by simp [hl], by simpa using h1, fun k hk => ?_, fun i j hij hj b hbi hbj => ?_, fun i hi b hbi hbv => ?_⟩
  · simp at hk
    by_cases e : k = zss.length
    · subst e
      rw [snoc_vs hl, snoc_at]
      exact (hu.less hbK).keepB fun g hg hlt => hoth g hlt (fun e => absurd (hK.2 g e.symm) (by have := (hu.blk hg).1; omega))
    · rw [snoc_lt _ _ _ _ (by omega), snoc_lt _ _ _ _ (by omega)]
      exact (hown.2.2.1 k (by omega)).keepB fun g hg hlt => hoth g hlt (fun e => hown.2.2.2.2 k (by omega) g hg e.symm)
  · simp at hj
    rw [snoc_lt _ _ _ _ (by omega)] at hbi
    by_cases e : j = zss.length
    · subst e
      rw [snoc_vs hl] at hbj
      have := hK.1 i (by omega) b hbi
      have := (hu.blk hbj).1
      omega
    · rw [snoc_lt _ _ _ _ (by omega)] at hbj
      exact hown.2.2.2.1 i j hij (by omega) b hbi hbj
  · simp at hi
    by_cases e : i = zss.length
    · subst e
      rw [snoc_vs hl] at hbi
      rcases hb with hb | ⟨g, hb, hg⟩
      · rw [hb] at hbv
        have := hK.2 b hbv
        have := (hu.blk hbi).1
        omega
      · rw [hb] at hbv
        injection hbv with hbv
        have := (hu.blk hbi).2
        omega
    · rw [snoc_lt _ _ _ _ (by omega)] at hbi
      rcases hb with hb | ⟨g, hb, hg⟩
      · rw [hb] at hbv
        exact hown.2.2.2.2 i (by omega) b hbi hbv
      · rw [hb] at hbv
        injection hbv with hbv
        have := ((hown.2.2.1 i (by omega)).blk hbi).2
        omega

section
/-- 'out = append(out, l)', l a list that was made behind the list of lists. -/
theorem wpList_app_row {wr : World} {ops : Array Oper} {rest : List Oper} {o : Oper} {a : Act} {Q : Exit → Act → World → Prop} (hgd : o.guard = none) (s x : Operand)
    (ho : o.op = .call { callee := .builtin .append, args := #[s, x], argTypes := #[47, 47] })
    (base K : Nat) (v u : Value) (vs : List Value) (zss : List (List Int)) (zs : List Int) (hs : a.eval s = v) (hown : OwnVs wr base v vs zss) (hu : Own wr K 3 u zs)
    (hK : (∀ i, i < zss.length → ∀ b, (vs.getD i undef).ownBlock = some b → b < K) ∧ ∀ b, v.ownBlock = some b → b < K) (hbK : base ≤ K) (c : Nat) (hx : a.eval x = .slice (some ⟨wr.heap.size, 0, none⟩) 1 c)
    (hbase : base ≤ wr.heap.size) (hlen : zss.length < 1000000)
    (h : ∀ v' w', OwnVs w' base v' (vs ++ [u]) (zss ++ [zs]) → Below base wr w' → (∀ k, k < wr.heap.size → some k ≠ v.ownBlock → w'.heap[k]? = wr.heap[k]?) → wpList Try.prog ops Q rest (a.put o.dst v') w') :
    wpList Try.prog ops Q (o :: rest) a (wr.alloc (.cells #[u] 22)) := by
  obtain ⟨i0, hi, hz0, hz1, hz2⟩ := info_parts3 infoRowT
  have hl := hown.1
  refine wpList_append_own_at _ hgd s x 47 ho base 22 i0 (.slice none 0 0) 1 24 Try.underlying47 hi hz0 hz1 hz2 rfl (by decide) v vs.length vs hs (World.ownsRow.alloc hown.2.1 _)
    ⟨wr.heap.size, 0, none⟩ 1 c [u] hx rfl ?_ ?_ (by unfold maxLen; omega) (by omega) (by simp; omega) ?_
  · intro j y hj
    match j, hj with
    | 0, hj => simp at hj; subst hj; simp [Addr.add]
  · intro y hy; simp at hy; subst hy; exact hu.cell1
  · intro v' w' h1 h2 _ h4
    have hoth : ∀ k, k < wr.heap.size → some k ≠ v.ownBlock → w'.heap[k]? = wr.heap[k]? := fun k hk hne => by
      rw [h2.block k (by simp; omega) hne]
      exact Below.heap_alloc _ _ _ hk
    refine h v' w' (hown.snoc hu hK hbK h1 hoth ?_) ?_ hoth
    · rcases h4 with h4 | h4
      · exact .inl h4
      · exact .inr ⟨_, h4, by simp⟩
    · refine (((Below.refl base wr).alloc hbase _).grown h2 (by simp; omega) ?_)
      intro k hk
      exact (hown.blk hk).1
end

/-- What a call leaves whose answer is a list of lists beside a bool. -/
def MadeSS (zss : List (List Int)) (b : Bool) (w : World) (e : Ending) (w' : World) : Prop :=
  ∃ A c vs, e = .returned (.tuple #[.slice A zss.length c, .bool b]) ∧ zss.length ≤ c ∧ c ≤ maxLen ∧ OwnVs w' w.heap.size (.slice A zss.length c) vs zss ∧ Below w.heap.size w w'
theorem madeSS_none {w w' : World} (h : Below w.heap.size w w') : MadeSS [] false w (.returned (.tuple #[.slice none 0 0, .bool false])) w' :=
  ⟨none, 0, [], rfl, Nat.le_refl _, Nat.zero_le _, OwnVs.nil _ _, h⟩
theorem madeSS_of {zss : List (List Int)} {b : Bool} {w w' : World} {v : Value} {vs : List Value} (h : OwnVs w' w.heap.size v vs zss) (hb : Below w.heap.size w w') : ∃ A c, v = .slice A zss.length c ∧ MadeSS zss b w (.returned (.tuple #[v, .bool b])) w' := by
  obtain ⟨A, c, rfl, h1, h2⟩ := h.shape
  exact ⟨A, c, rfl, A, c, vs, rfl, h1, h2, h, hb⟩
end Go.Proofs.Ytnakkmmmkbjfbaa

/-
  A LIST APPENDED TO A LIST OF LISTS, and where the list of lists lies behind it.
-/
namespace Go.Proofs.Ytnakkmmmkbjfbaa
open Go.RowKit Go.Deep
set_option linter.unusedVariables false

section
/-- 'out = append(out, l)', l a list that was made behind the list of lists. -/
theorem wpList_app_rowB {wr : World} {ops : Array Oper} {rest : List Oper} {o : Oper} {a : Act} {Q : Exit → Act → World → Prop} (hgd : o.guard = none) (s x : Operand)
    (ho : o.op = .call { callee := .builtin .append, args := #[s, x], argTypes := #[47, 47] })
    (base K : Nat) (v u : Value) (vs : List Value) (zss : List (List Int)) (zs : List Int) (hs : a.eval s = v) (hown : OwnVs wr base v vs zss) (hu : Own wr K 3 u zs)
    (hK : (∀ i, i < zss.length → ∀ b, (vs.getD i undef).ownBlock = some b → b < K) ∧ ∀ b, v.ownBlock = some b → b < K) (hbK : base ≤ K) (c : Nat) (hx : a.eval x = .slice (some ⟨wr.heap.size, 0, none⟩) 1 c)
    (hbase : base ≤ wr.heap.size) (hlen : zss.length < 1000000)
    (h : ∀ v' w', OwnVs w' base v' (vs ++ [u]) (zss ++ [zs]) → Below base wr w' → (∀ k, k < wr.heap.size → some k ≠ v.ownBlock → w'.heap[k]? = wr.heap[k]?) → (v'.ownBlock = v.ownBlock ∨ ∃ g, v'.ownBlock = some g ∧ wr.heap.size ≤ g) → wpList Try.prog ops Q rest (a.put o.dst v') w') :
    wpList Try.prog ops Q (o :: rest) a (wr.alloc (.cells #[u] 22)) := by
  obtain ⟨i0, hi, hz0, hz1, hz2⟩ := info_parts3 infoRowT
  have hl := hown.1
  refine wpList_append_own_at _ hgd s x 47 ho base 22 i0 (.slice none 0 0) 1 24 Try.underlying47 hi hz0 hz1 hz2 rfl (by decide) v vs.length vs hs (World.ownsRow.alloc hown.2.1 _)
    ⟨wr.heap.size, 0, none⟩ 1 c [u] hx rfl ?_ ?_ (by unfold maxLen; omega) (by omega) (by simp; omega) ?_
  · intro j y hj
    match j, hj with
    | 0, hj => simp at hj; subst hj; simp [Addr.add]
  · intro y hy; simp at hy; subst hy; exact hu.cell1
  · intro v' w' h1 h2 _ h4
    have hoth : ∀ k, k < wr.heap.size → some k ≠ v.ownBlock → w'.heap[k]? = wr.heap[k]? := fun k hk hne => by
      rw [h2.block k (by simp; omega) hne]
      exact Below.heap_alloc _ _ _ hk
    have hblk : v'.ownBlock = v.ownBlock ∨ ∃ g, v'.ownBlock = some g ∧ wr.heap.size ≤ g := by
      rcases h4 with h4 | h4
      · exact .inl h4
      · exact .inr ⟨_, h4, by simp⟩
    refine h v' w' (hown.snoc hu hK hbK h1 hoth hblk) ?_ hoth hblk
    · refine (((Below.refl base wr).alloc hbase _).grown h2 (by simp; omega) ?_)
      intro k hk
      exact (hown.blk hk).1
end
end Go.Proofs.Ytnakkmmmkbjfbaa
