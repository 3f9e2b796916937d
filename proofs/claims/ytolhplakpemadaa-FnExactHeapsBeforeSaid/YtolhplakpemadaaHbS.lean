
/-
  HEAPS BEFORE: how many numbers its answer holds.
-/
import Derived.Test.YtolhplakpemadaaHbM
import Derived.Test.YtolhplakpemadaaHbJ
import Derived.Test.YtolhplakpemadaaSsB
namespace Go.Proofs.Ytolhplakpemadaa
open Go.RowKit Go.Deep
set_option linter.unusedVariables false

theorem sizeSS_even (m : Nat) : ∀ L : List (List Int), (∀ x ∈ L, x.length = m) → sizeSS L = L.length * m
  | [], _ => by simp [sizeSS]
  | x :: xs, hx => by
    have h3 := sizeSS_even m xs (fun y hy => hx y (by simp [hy]))
    have h4 := hx x (by simp)
    unfold sizeSS at h3 ⊢
    rw [List.map_cons, List.sum_cons, h3, h4, List.length_cons, Nat.succ_mul]; omega
theorem hbR_short (zs : List Int) : sizeSS (hbR zs) ≤ 1048576 ∧ (hbR zs).length ≤ 1048576 := by
  cases h : few zs
  · have e : hbR zs = [] := by unfold hbR; rw [h]; rfl
    rw [e]; simp [sizeSS]
  · have e : hbR zs = hbO zs zs.length := by unfold hbR; rw [h]; rfl
    obtain ⟨_, h2, h4, _⟩ := few_small h
    have hl := hbO_len zs zs.length
    have h16 : zs.length * zs.length ≤ 4 * 4 := Nat.mul_le_mul h4 h4
    rw [e, sizeSS_even zs.length _ (fun x hx => hbO_rows x hx)]
    have := Nat.mul_le_mul (show (hbO zs zs.length).length ≤ 16 by omega) h4
    omega
end Go.Proofs.Ytolhplakpemadaa
