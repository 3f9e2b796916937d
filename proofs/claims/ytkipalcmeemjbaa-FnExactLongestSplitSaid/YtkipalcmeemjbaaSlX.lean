
/-
  VALUES OF HEAPS, the program's way: toldOf, splitValues.
-/
import Derived.Test.YtkipalcmeemjbaaSlW
namespace Go.Proofs.Ytkipalcmeemjbaa
open Go.RowKit Go.Deep
set_option linter.unusedVariables false

def bpOf (x : Int × Int) : Bp := ⟨x.1, x.2⟩
def bps (l : List (Int × Int)) : List Bp := l.map bpOf
theorem bps_length (l : List (Int × Int)) : (bps l).length = l.length := by simp [bps]
theorem xrs_bps (l : List (Int × Int)) : xrs (bps l) = seenL l := by simp [xrs, bps, seenL, bpOf]
theorem told_len {α : Type} (t : List α) (z : α) (r : Int) (n p : Nat) : (told t z r n p).length ≤ p := by unfold told; rw [List.length_map]; exact pB_len _ _ _
theorem told_yes {t : List Int} {r : Int} {n p : Nat} (h : scan r n p = true) : bps (told t 0 r n (p + 1)) = bps (told t 0 r n p) ++ [⟨t.getD (n - p) 0, t.getD p 0⟩] := by
  unfold bps told
  rw [pB_yes h]; simp [bpOf]
/-- The least part, and the greatest one, as natural numbers. -/
def leastN (r : Int) : Nat := (leastP r).toNat
theorem leastN_is (r : Int) : ((leastN r : Nat) : Int) = leastP r ∧ 1 ≤ leastN r ∧ leastN r ≤ 2 := by
  unfold leastN leastP; split <;> omega
theorem told_least {α : Type} (t : List α) (z : α) (r : Int) (n : Nat) (hr : srule r = true) (hn : 1 ≤ n) : told t z r n (leastN r) = [] := by
  have h : pB r n (leastN r) = pB r n 0 := by
    have := pB_same (r := r) (n := n) (p := 0) (leastN r) (fun q _ hq => by
      rw [scan_parts hr (by omega)]
      have := (leastN_is r).1
      exact decide_eq_false (by omega))
    simpa using this
  unfold told; rw [h]; rfl
theorem told_past {α : Type} {t : List α} {z : α} {r : Int} {n p : Nat} (hr : srule r = true) (hn : 1 ≤ n) (h : ¬ (p : Int) ≤ mostP r n) (hp : p ≤ n + 1) : told t z r n p = told t z r n (n + 1) := by
  have e : pB r n (n + 1) = pB r n p := by
    have := pB_same (r := r) (n := n) (p := p) (n + 1 - p) (fun q hq _ => by
      rw [scan_parts hr (by omega)]
      exact decide_eq_false (by omega))
    rw [show n + 1 = p + (n + 1 - p) from by omega]; exact this
  unfold told; rw [e]
theorem mostP_bd {r : Int} {n : Nat} (hn : 1 ≤ n) : 0 ≤ mostP r n ∧ 2 * mostP r n ≤ n := by unfold mostP; split <;> omega
theorem vals_other (r : Int) (N j : Nat) (hN : 1 ≤ N) (h : j ≠ N) : (vals r N).getD j 0 = (vals r (N - 1)).getD j 0 := by
  rcases Nat.lt_or_ge j N with h1 | h1
  · exact tbl_get (by omega) (by omega)
  · rw [List.getD_eq_getElem?_getD, List.getD_eq_getElem?_getD, List.getElem?_eq_none (by rw [vals_length]; omega), List.getElem?_eq_none (by rw [vals_length]; omega)]
theorem vals_at (r : Int) (N : Nat) (hN : 1 ≤ N) : (vals r N).getD N 0 = ((mex (seenL (told (vals r (N - 1)) 0 r N (N + 1))) : Nat) : Int) := by
  obtain ⟨n, rfl⟩ : ∃ n, N = n + 1 := ⟨N - 1, by omega⟩
  exact tbl_last n

end Go.Proofs.Ytkipalcmeemjbaa
