
/-
  THE ORDER OF LISTS OF NUMBERS, plainly. No program is named here.
-/
import Derived.Test.YtolhplakpemadaaCmpL
namespace Go.Proofs.Ytolhplakpemadaa
open Go.RowKit

theorem cmpL_neg : ∀ x y : List Int, cmpL y x = - cmpL x y
  | [], [] => rfl
  | [], _ :: _ => rfl
  | _ :: _, [] => rfl
  | a :: x, b :: y => by
    rw [cmpL, cmpL]
    have ih := cmpL_neg x y
    by_cases h1 : b < a
    · rw [if_pos h1, if_neg (by omega), if_pos h1]
    · by_cases h2 : a < b
      · rw [if_neg h1, if_pos h2, if_pos h2]; rfl
      · rw [if_neg h1, if_neg h2, if_neg h2, if_neg h1, ih]
theorem cmpL_zero : ∀ x y : List Int, cmpL x y = 0 → x = y
  | [], [], _ => rfl
  | [], _ :: _, h => by simp [cmpL] at h
  | _ :: _, [], h => by simp [cmpL] at h
  | a :: x, b :: y, h => by
    rw [cmpL] at h
    split at h
    · omega
    · split at h
      · omega
      · rw [cmpL_zero x y h, show a = b by omega]
theorem cmpL_self (x : List Int) : cmpL x x = 0 := by have := cmpL_neg x x; omega
theorem cmpL_trans : ∀ x y z : List Int, cmpL x y < 0 → cmpL y z < 0 → cmpL x z < 0
  | [], [], _, h, _ => by simp [cmpL] at h
  | [], _ :: _, [], _, h => by simp [cmpL] at h
  | [], _ :: _, _ :: _, _, _ => by simp [cmpL]
  | _ :: _, [], _, h, _ => by simp [cmpL] at h
  | _ :: _, _ :: _, [], _, h => by simp [cmpL] at h
  | a :: x, b :: y, c :: z, h1, h2 => by
    rw [cmpL] at h1 h2 ⊢
    have ih := cmpL_trans x y z
    split at h1
    · split at h2
      · rw [if_pos (by omega)]; omega
      · split at h2
        · omega
        · rw [if_pos (by omega)]; omega
    · split at h1
      · omega
      · split at h2
        · rw [if_pos (by omega)]; omega
        · split at h2
          · omega
          · rw [if_neg (by omega), if_neg (by omega)]; exact ih h1 h2
theorem cmpL_ntrans (x y z : List Int) (h1 : ¬ cmpL x y < 0) (h2 : ¬ cmpL y z < 0) : ¬ cmpL x z < 0 := fun h => by
  have n1 := cmpL_neg x y
  have n2 := cmpL_neg y z
  have n3 := cmpL_neg x z
  rcases (show cmpL z y < 0 ∨ cmpL z y ≥ 0 by omega) with e | e
  · rcases (show cmpL y x < 0 ∨ cmpL y x ≥ 0 by omega) with e2 | e2
    · have := cmpL_trans z y x e e2; omega
    · have e3 := cmpL_zero y x (by omega)
      subst e3; omega
  · have e3 := cmpL_zero z y (by omega)
    subst e3; omega
end Go.Proofs.Ytolhplakpemadaa
