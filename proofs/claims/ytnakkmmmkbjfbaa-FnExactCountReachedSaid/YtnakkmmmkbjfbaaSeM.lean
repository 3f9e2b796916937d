
/-
  ALL THAT DOUBLINGS LEAD TO, THE MODEL's WAY: dbFar.
-/
import Derived.Test.YtnakkmmmkbjfbaaSeN
namespace Go.Proofs.Ytnakkmmmkbjfbaa
open Go.RowKit Go.Deep
set_option linter.unusedVariables false

theorem infoBool : (Try.prog.info? 4).map (fun i => (i.zero, i.size, i.bytes)) = some (some (.bool false), 1, 1) := by kernel_rfl
theorem OwnVs.keepO {W W' : World} {base : Nat} {v : Value} {vs : List Value} {zss : List (List Int)} (h : OwnVs W base v vs zss) (fb : Option Nat) (hk : ∀ g, g < W.heap.size → some g ≠ fb → W'.heap[g]? = W.heap[g]?)
    (h1 : ∀ b, v.ownBlock = some b → fb ≠ some b) (h2 : ∀ i, i < zss.length → ∀ b, (vs.getD i undef).ownBlock = some b → fb ≠ some b) : OwnVs W' base v vs zss := by
  obtain ⟨g1, g2, g3, g4, g5⟩ := h
  refine ⟨g1, ⟨g2.1, ?_⟩, fun k hk' => (g3 k hk').keepB fun g hg hlt => hk g hlt (fun e => h2 k hk' g hg e.symm), g4, g5⟩
  rcases g2.2 with k2 | ⟨g, cap, cur, hv, hb', hg, r⟩
  · exact .inl k2
  · obtain ⟨hlt, _⟩ := Array.getElem?_eq_some_iff.1 hg
    exact .inr ⟨g, cap, cur, hv, hb', (hk g hlt (fun e => h1 g (by rw [hv]; rfl) e.symm)).trans hg, r⟩
def lensOf (Q : List StP) : List Int := Q.map fun p => (p.2.length : Int)
/-- Where the search stands in memory: the queue, how far each is, what has been seen. -/
structure FarI (w : World) (size : Nat) (Q : List StP) (W : World) (qv fv : Value) (vs : List Value) : Prop where
  q : OwnVs W (w.heap.size + 1) qv vs (Q.map Prod.fst)
  f : Own W (w.heap.size + 1) 3 fv (lensOf Q)
  s : W.rowIs w.heap.size 4 size (fun i => .bool (decide (i ∈ numsOf Q)))
  sep : ∀ b, fv.ownBlock = some b → qv.ownBlock ≠ some b
  rows : ∀ i, i < Q.length → ∀ b, (vs.getD i undef).ownBlock = some b → fv.ownBlock ≠ some b
  below : Below w.heap.size w W
  size : w.heap.size + 1 ≤ W.heap.size
section
variable {w : World} {size : Nat} {Q : List StP} {W W' : World} {qv fv : Value} {vs : List Value}
theorem FarI.next (h : FarI w size Q W qv fv vs) (hb : Below W.heap.size W W') : FarI w size Q W' qv fv vs :=
  ⟨h.q.below hb, h.f.below hb, h.s.of_block (hb.block _ h.s.lt), h.sep, h.rows, h.below.trans (hb.mono (by have := h.size; omega)), Nat.le_trans h.size hb.size⟩
/-- A new list made and its number marked. -/
theorem FarI.marked {w3 : World} {u : Value} {ys : List Int} (h : FarI w size Q W qv fv vs) (hb : Below W.heap.size W w3) (hu : Own w3 W.heap.size 3 u ys) (k : Nat) :
    OwnVs (w3.setCell ⟨w.heap.size, k, none⟩ (.bool true)) (w.heap.size + 1) qv vs (Q.map Prod.fst) ∧ Own (w3.setCell ⟨w.heap.size, k, none⟩ (.bool true)) W.heap.size 3 u ys ∧
    Own (w3.setCell ⟨w.heap.size, k, none⟩ (.bool true)) (w.heap.size + 1) 3 fv (lensOf Q) ∧ (w3.setCell ⟨w.heap.size, k, none⟩ (.bool true)).rowIs w.heap.size 4 size (fun i => if i = k then .bool true else .bool (decide (i ∈ numsOf Q))) ∧
    W.heap.size ≤ (w3.setCell ⟨w.heap.size, k, none⟩ (.bool true)).heap.size ∧ Below w.heap.size w (w3.setCell ⟨w.heap.size, k, none⟩ (.bool true)) := by
  have hn := h.next hb
  have hs := h.size
  refine ⟨hn.q.keep fun g hg _ => Below.heap_setCell _ _ _ _ (by simp; omega), hu.keep fun g hg _ => Below.heap_setCell _ _ _ _ (by simp; omega), hn.f.keep fun g hg _ => Below.heap_setCell _ _ _ _ (by simp; omega), World.rowIs.set hn.s k _, by simpa using hb.size, ?_⟩
  exact hn.below.setCell (p := ⟨w.heap.size, k, none⟩) (Nat.le_refl _) _
/-- Behind the append onto the queue. -/
theorem FarI.queued {W3 w4 : World} {v4 : Value} (h : FarI w size Q W qv fv vs) (hf : Own W3 (w.heap.size + 1) 3 fv (lensOf Q)) (ho : ∀ k, k < W3.heap.size → some k ≠ qv.ownBlock → w4.heap[k]? = W3.heap[k]?) :
    Own w4 (w.heap.size + 1) 3 fv (lensOf Q) := hf.keepB fun g hg hlt => ho g hlt (fun e => h.sep g hg e.symm)
/-- Behind the append onto the list of how far. -/
theorem FarI.done {W3 w4 w5 : World} {v4 f5 u : Value} {ys : List Int} {path : List Db} {k : Nat} (h : FarI w size Q W qv fv vs)
    (hu : Own W3 W.heap.size 3 u ys) (hf : Own W3 (w.heap.size + 1) 3 fv (lensOf Q)) (hs3 : W3.rowIs w.heap.size 4 size (fun i => if i = k then .bool true else .bool (decide (i ∈ numsOf Q)))) (hsz3 : W.heap.size ≤ W3.heap.size) (hb3 : Below w.heap.size w W3)
    (hq4 : OwnVs w4 (w.heap.size + 1) v4 (vs ++ [u]) (Q.map Prod.fst ++ [ys])) (hb4 : Below (w.heap.size + 1) W3 w4) (hk4 : v4.ownBlock = qv.ownBlock ∨ ∃ g, v4.ownBlock = some g ∧ W3.heap.size ≤ g)
    (hf5 : Own w5 (w.heap.size + 1) 3 f5 (lensOf Q ++ [(path.length : Int)])) (hb5 : Below (w.heap.size + 1) w4 w5) (ho5 : ∀ k, k < w4.heap.size → some k ≠ fv.ownBlock → w5.heap[k]? = w4.heap[k]?) (hk5 : f5.ownBlock = fv.ownBlock ∨ ∃ g, f5.ownBlock = some g ∧ w4.heap.size ≤ g)
    (hnum : k = numD ys) : FarI w size (Q ++ [(ys, path)]) w5 v4 f5 (vs ++ [u]) := by
  have hvl : vs.length = (Q.map Prod.fst).length := h.q.1
  have hfb : ∀ b, fv.ownBlock = some b → b < W.heap.size := fun b hb => (h.f.blk hb).2
  have hv4 : ∀ b, v4.ownBlock = some b → fv.ownBlock ≠ some b := fun b hb e => by
    rcases hk4 with h1 | ⟨g, h1, hg⟩
    · rw [h1] at hb; exact h.sep b e hb
    · rw [h1] at hb; injection hb with hb; have := hfb b e; omega
  have hrw : ∀ i, i < (Q.map Prod.fst ++ [ys]).length → ∀ b, ((vs ++ [u]).getD i undef).ownBlock = some b → fv.ownBlock ≠ some b ∧ b < w4.heap.size := fun i hi b hb => by
    have hb4s := (hq4.2.2.1 i hi).blk hb
    refine ⟨fun e => ?_, hb4s.2⟩
    rw [List.length_append, List.length_singleton] at hi
    by_cases hlt : i < Q.length
    · rw [snoc_lt _ _ _ _ (by rw [hvl]; simpa using hlt)] at hb
      exact h.rows i hlt b hb e
    · have : i = vs.length := by rw [hvl, List.length_map]; rw [List.length_map] at hi; omega
      subst this
      rw [snoc_at] at hb
      have := (hu.blk hb).1
      have := hfb b e
      omega
  refine ⟨?_, ?_, ?_, ?_, ?_, ?_, ?_⟩
  · rw [List.map_append]
    exact hq4.keepO fv.ownBlock ho5 hv4 (fun i hi b hb => (hrw i hi b hb).1)
  · unfold lensOf at hf5 ⊢
    rw [List.map_append]
    exact hf5
  · refine (hs3.of_block ((hb5.block _ (by omega)).trans (hb4.block _ (by omega)))).congr fun i _ => ?_
    unfold numsOf
    rw [List.map_append, List.map_singleton]
    by_cases e : i = k
    · rw [if_pos e]; simp [e, hnum]
    · rw [if_neg e]
      have : i ≠ numD ys := by rw [← hnum]; exact e
      simp [this, List.mem_append]
  · intro b hb hv
    rcases hk5 with h1 | ⟨g, h1, hg⟩
    · rw [h1] at hb; exact hv4 b hv hb
    · rw [h1] at hb; injection hb with hb; have := (hq4.blk hv).2; omega
  · intro i hi b hb hf
    rw [List.length_append, List.length_singleton] at hi
    obtain ⟨a1, a2⟩ := hrw i (by rw [List.length_append, List.length_map, List.length_singleton]; exact hi) b hb
    rcases hk5 with h1 | ⟨g, h1, hg⟩
    · rw [h1] at hf; exact a1 hf
    · rw [h1] at hf; injection hf with hf; omega
  · exact hb3.trans ((hb4.trans hb5).mono (by omega))
  · have := hb4.size
    have := hb5.size
    have := h.size
    omega
end
end Go.Proofs.Ytnakkmmmkbjfbaa
