
/-
  MOVES THAT MAKE HEAPS EQUAL: the program's next move is the first of what is left, plainly. No program is named here but through the plain functions.
-/
import Derived.Test.YtieikogjjhjcdaaShareP
import Derived.Test.YtieikogjjhjcdaaPlanB
import Derived.Test.YtieikogjjhjcdaaPlayP
namespace Go.Proofs.Ytieikogjjhjcdaa

def exc (s : Int) (ys : List Int) : List Int := ys.map fun y => y - s
theorem exc_length (s : Int) (ys : List Int) : (exc s ys).length = ys.length := by simp [exc]
theorem exc_get (s : Int) (ys : List Int) (k : Nat) (h : k < ys.length) : (exc s ys)[k]'(by rw [exc_length]; exact h) = ys[k] - s := by simp [exc]
theorem fwB_many (s : Int) (ys : List Int) : fwB (manyL s ys) = hasPos (exc s ys) := by
  unfold fwB hasPos manyL exc
  rw [List.any_map, List.any_map]
  congr 1
  funext y
  simp only [Function.comp]
  by_cases h : 0 < y - s
  · rw [decide_eq_true h, decide_eq_true (by omega)]
  · rw [decide_eq_false h, decide_eq_false (by omega)]
theorem find_many (s : Int) (ys : List Int) : (manyL s ys).findIdx (fun x => decide (0 < x)) = fpos (exc s ys) := by
  unfold fpos manyL exc
  rw [List.findIdx_map, List.findIdx_map]
  congr 1
  funext y
  simp only [Function.comp]
  by_cases h : 0 < y - s
  · rw [decide_eq_true h, decide_eq_true (by omega)]
  · rw [decide_eq_false h, decide_eq_false (by omega)]
theorem find_few (s : Int) (ys : List Int) : (fewL s ys).findIdx (fun x => decide (0 < x)) = fneg (exc s ys) := by
  unfold fneg fewL exc
  rw [List.findIdx_map, List.findIdx_map]
  congr 1
  funext y
  simp only [Function.comp]
  by_cases h : y - s < 0
  · rw [decide_eq_true h, decide_eq_true (by omega)]
  · rw [decide_eq_false h, decide_eq_false (by omega)]
theorem fwB_few {s : Int} {ys : List Int} (h : fneg (exc s ys) < (exc s ys).length) : fwB (fewL s ys) = true := by
  rw [← find_few, exc_length, ← fewL_length s] at h
  unfold fwB
  rw [List.any_eq_true]
  exact ⟨_, List.getElem_mem h, List.findIdx_getElem (w := h)⟩
theorem next_no {s : Int} {ys : List Int} (h : hasPos (exc s ys) = false) : nextF s ys = 0 ∧ nextT s ys = 0 ∧ nextC s ys = 0 := by
  unfold nextF nextT nextC
  rw [fwB_many, h]
  simp
theorem next_yes {s : Int} {ys : List Int} (h0 : (exc s ys).sum = 0) (hp : hasPos (exc s ys) = true) :
    nextF s ys = (fpos (exc s ys) : Nat) ∧ nextT s ys = (fneg (exc s ys) : Nat) ∧ nextC s ys = amount (exc s ys) := by
  obtain ⟨hi, hj, h1, h2, _⟩ := next_pair h0 hp
  have b1 : fwB (manyL s ys) = true := by rw [fwB_many]; exact hp
  have e1 : fwI (manyL s ys) = fpos (exc s ys) := by unfold fwI; rw [if_pos b1, find_many]
  have e2 : fwI (fewL s ys) = fneg (exc s ys) := by unfold fwI; rw [if_pos (fwB_few hj), find_few]
  unfold nextF nextT nextC
  rw [if_pos b1, if_pos b1, if_pos b1, e1, e2, amount_eq hi hj]
  have hi' : fpos (exc s ys) < ys.length := by rw [← exc_length s]; exact hi
  have hj' : fneg (exc s ys) < ys.length := by rw [← exc_length s]; exact hj
  rw [exc_get s ys _ hi'] at h1 ⊢
  rw [exc_get s ys _ hj'] at h2 ⊢
  rw [gd hi', gd hj']
  refine ⟨rfl, rfl, ?_⟩
  omega
/-- A move that is left carries at least 1. -/
theorem amount_pos {E : List Int} (h0 : E.sum = 0) (hp : hasPos E = true) : 1 ≤ amount E := by
  obtain ⟨hi, hj, h1, h2, _⟩ := next_pair h0 hp
  rw [amount_eq hi hj]; omega
theorem exc_moved {s : Int} {ys : List Int} {i j : Nat} (c : Int) (hij : i ≠ j) (hi : i < ys.length) (hj : j < ys.length) : exc s (moved i j c ys) = movedE i j c (exc s ys) := by
  rw [moved_eq i j c ys hij hi hj]
  unfold movedE
  rw [gd (by rw [exc_length]; exact hi), gd (by rw [exc_length]; exact hj), exc_get s ys i hi, exc_get s ys j hj]
  unfold exc
  rw [List.map_set, List.map_set]
  congr 2 <;> omega
end Go.Proofs.Ytieikogjjhjcdaa
