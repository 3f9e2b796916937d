
/-
  THE RINGS OF ONE PERIOD, THE PROGRAM's WAY: CycleOfRing.
-/
import Derived.Test.YtlafknagohploaaRiCy
namespace Go.Proofs.Ytlafknagohploaa
open Go.RowKit Go.Deep
set_option linter.unusedVariables false

/-- Where the program's CycleOfRing stands. -/
def CzRel (zs : List Int) (bC b7 : Nat) (w5 : World) (i : Value) (wr : World) : Prop :=
  ∃ (k : Nat) (vs : List Value), k ≤ perF zs ∧ i = .int .i64 (k : Int) ∧ vs.length = k ∧ wr.rowIs bC 22 (perF zs) (fun j => vs.getD j (.slice none 0 0)) ∧ ArrAt wr b7 47 (pad10 (rit zs (leadF zs + k))) ∧ Below bC w5 wr ∧ b7 < wr.heap.size ∧
    (∀ i, i < k → Own wr bC 3 (vs.getD i undef) (rit zs (leadF zs + i))) ∧ (∀ i j, i < j → j < k → ∀ b, (vs.getD i undef).ownBlock = some b → (vs.getD j undef).ownBlock ≠ some b) ∧ (∀ i, i < k → ∀ b, (vs.getD i undef).ownBlock = some b → b7 < b)
theorem getD_under {vs : List Value} {k : Nat} (h : k < vs.length) (d e : Value) : vs.getD k d = vs.getD k e := by simp [List.getD, List.getElem?_eq_getElem h]
theorem owns_of_rowIs {w : World} {g n base : Nat} {t : TypeId} {vs : List Value} {d : Value} (h : w.rowIs g t n (fun j => vs.getD j d)) (hl : vs.length = n) (hb : base ≤ g) (hm : n ≤ maxLen) : w.ownsRow base t 1 (.slice (some ⟨g, 0, none⟩) n n) vs.length vs := by
  obtain ⟨cur, h1, h2, h3⟩ := h
  refine ⟨by simp, .inr ⟨g, n, cur, by rw [hl], hb, h1, by omega, hm, by omega, ?_⟩⟩
  apply List.ext_getElem?
  intro i
  by_cases hi : i < vs.length
  · rw [List.getElem?_take, if_pos (by omega), Array.getElem?_toList, h3 i (by omega), List.getElem?_eq_getElem hi]
    simp [List.getD, List.getElem?_eq_getElem hi]
  · rw [List.getElem?_eq_none (by simp; omega), List.getElem?_eq_none (by omega)]
/-- A round's new list among those before. -/
theorem cz_next {zs : List Int} {bC b7 : Nat} {wr w2 : World} {k : Nat} {vs : List Value} {u : Value} (hl : vs.length = k) (hk : k < perF zs)
    (hrow : wr.rowIs bC 22 (perF zs) (fun j => vs.getD j (.slice none 0 0))) (hbC : bC < b7) (h7 : b7 < wr.heap.size)
    (ho : ∀ i, i < k → Own wr bC 3 (vs.getD i undef) (rit zs (leadF zs + i))) (hd : ∀ i j, i < j → j < k → ∀ b, (vs.getD i undef).ownBlock = some b → (vs.getD j undef).ownBlock ≠ some b) (hb : ∀ i, i < k → ∀ b, (vs.getD i undef).ownBlock = some b → b7 < b)
    (hu : Own w2 wr.heap.size 3 u (rit zs (leadF zs + k))) (h2 : Below wr.heap.size wr w2) :
    (w2.setCell ⟨bC, k, none⟩ u).rowIs bC 22 (perF zs) (fun j => (vs ++ [u]).getD j (.slice none 0 0)) ∧
      (∀ i, i < k + 1 → Own (w2.setCell ⟨bC, k, none⟩ u) bC 3 ((vs ++ [u]).getD i undef) (rit zs (leadF zs + i))) ∧
      (∀ i j, i < j → j < k + 1 → ∀ b, ((vs ++ [u]).getD i undef).ownBlock = some b → ((vs ++ [u]).getD j undef).ownBlock ≠ some b) ∧ (∀ i, i < k + 1 → ∀ b, ((vs ++ [u]).getD i undef).ownBlock = some b → b7 < b) := by
  have hub : ∀ b, u.ownBlock = some b → wr.heap.size ≤ b := fun b hb => (hu.blk hb).1
  refine ⟨?_, fun i hi => ?_, fun i j hij hj b hbi hbj => ?_, fun i hi b hbi => ?_⟩
  · have hrow2 := World.rowIs.of_block hrow (h2.block bC (by omega))
    refine (World.rowIs.set hrow2 k u).congr fun i hi => ?_
    by_cases e : i = k
    · subst e; simp only [if_true]; rw [← hl]; exact (snoc_at vs u _).symm
    · simp only [if_neg e]
      by_cases hlt : i < k
      · exact (snoc_lt vs u _ i (by omega)).symm
      · simp only [List.getD]
        rw [List.getElem?_eq_none (by omega), List.getElem?_eq_none (by simp; omega)]
  · by_cases e : i = k
    · subst e
      rw [show (vs ++ [u]).getD i undef = u from by rw [← hl]; exact snoc_at vs u _]
      exact (hu.less (by omega)).keepB fun g hg hlt => Below.heap_setCell _ _ _ _ (by have := hub g hg; simp; omega)
    · rw [snoc_lt _ _ _ _ (by omega)]
      refine ((ho i (by omega)).below h2).keepB fun g hg hlt => Below.heap_setCell _ _ _ _ ?_
      have := hb i (by omega) g hg
      simp; omega
  · rw [snoc_lt _ _ _ _ (by omega)] at hbi
    by_cases e : j = k
    · subst e
      rw [show (vs ++ [u]).getD j undef = u from by rw [← hl]; exact snoc_at vs u _] at hbj
      have h4 := hub b hbj
      have h5 := ((ho i (by omega)).blk hbi).2
      omega
    · rw [snoc_lt _ _ _ _ (by omega)] at hbj
      exact hd i j hij (by omega) b hbi hbj
  · by_cases e : i = k
    · subst e
      rw [show (vs ++ [u]).getD i undef = u from by rw [← hl]; exact snoc_at vs u _] at hbi
      have := hub b hbi
      omega
    · rw [snoc_lt _ _ _ _ (by omega)] at hbi
      exact hb i (by omega) b hbi
end Go.Proofs.Ytlafknagohploaa
