
/-
  THE GREATEST AND THE LEAST ONE OF A LIST, BOTH WAYS: slices.Max, slices.Min, l1Least, SpreadOf.
-/
import Derived.Test.YtmknencbjhcehaaDoorFlows
namespace Go.Proofs.YtmknencbjhcehaaDoor
open Go.RowKit Go.Deep

/-- The greatest one of b and a list; the least one. -/
def up (b : Int) (l : List Int) : Int := l.foldl max b
def dn (b : Int) (l : List Int) : Int := l.foldl min b
theorem up_take_succ (b : Int) (zs : List Int) (k : Nat) (hk : k < zs.length) : up b (zs.take (k + 1)) = max (up b (zs.take k)) zs[k] := by
  unfold up; rw [List.take_succ_eq_append_getElem hk, List.foldl_append]; rfl
theorem dn_take_succ (b : Int) (zs : List Int) (k : Nat) (hk : k < zs.length) : dn b (zs.take (k + 1)) = min (dn b (zs.take k)) zs[k] := by
  unfold dn; rw [List.take_succ_eq_append_getElem hk, List.foldl_append]; rfl
theorem up_bd {lo hi : Int} {zs : List Int} (h : within lo hi zs = true) (b : Int) (hb : lo ≤ b ∧ b ≤ hi) : lo ≤ up b zs ∧ up b zs ≤ hi := by
  induction zs generalizing b with
  | nil => exact hb
  | cons x xs ih =>
    have h0 := within_get h 0 (by simp)
    have h1 : within lo hi xs = true := by unfold within at h ⊢; simp at h ⊢; exact h.2
    simp at h0
    exact ih h1 (max b x) (by omega)
theorem dn_bd {lo hi : Int} {zs : List Int} (h : within lo hi zs = true) (b : Int) (hb : lo ≤ b ∧ b ≤ hi) : lo ≤ dn b zs ∧ dn b zs ≤ hi := by
  induction zs generalizing b with
  | nil => exact hb
  | cons x xs ih =>
    have h0 := within_get h 0 (by simp)
    have h1 : within lo hi xs = true := by unfold within at h ⊢; simp at h ⊢; exact h.2
    simp at h0
    exact ih h1 (min b x) (by omega)
/-- The spread; 0 where there are no heaps. -/
def spreadN (zs : List Int) : Int := if good zs then up (zs.getD 0 0) zs - dn (zs.getD 0 0) zs else 0
theorem spreadN_yes {zs : List Int} (h : good zs = true) : spreadN zs = up (zs.getD 0 0) zs - dn (zs.getD 0 0) zs := by simp [spreadN, h]
theorem spreadN_no {zs : List Int} (h : good zs = false) : spreadN zs = 0 := by simp [spreadN, h]

end Go.Proofs.YtmknencbjhcehaaDoor
