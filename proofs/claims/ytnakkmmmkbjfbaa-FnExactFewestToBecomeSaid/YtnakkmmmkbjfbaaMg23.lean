import Derived.Test.YtnakkmmmkbjfbaaMg07
import Derived.Test.YtnakkmmmkbjfbaaMg09
import Derived.Test.YtnakkmmmkbjfbaaMg03
import Derived.Test.YtnakkmmmkbjfbaaMg22

/-
  CANDIES, BOTH WAYS: AreCandies and cyGood; evened and cyEven; the model's cyPass, cyStep, l1Same, cyRest; slices.Min, slices.Max, isLevel, isAtRest.
-/
namespace Go.Proofs.Ytnakkmmmkbjfbaa
open Go.RowKit Go.Deep

/-- The first k made even. -/
def emix (k : Nat) (zs : List Int) : List Int := (evens zs).take k ++ zs.drop k
theorem emix_zero (zs : List Int) : emix 0 zs = zs := by simp [emix]
theorem emix_all (zs : List Int) : emix zs.length zs = evens zs := by
  unfold emix
  rw [List.take_of_length_le (by rw [evens_length]; exact Nat.le_refl _)]; simp
theorem emix_length (k : Nat) (zs : List Int) (h : k ≤ zs.length) : (emix k zs).length = zs.length := by
  simp [emix, evens_length]; omega
theorem emix_at (k : Nat) (zs : List Int) (h : k < zs.length) : (emix k zs)[k]? = some zs[k] := by
  unfold emix
  rw [List.getElem?_append_right (by simp [evens_length]; omega), List.length_take, evens_length, Nat.min_eq_left (by omega), Nat.sub_self, List.getElem?_drop]
  simp [List.getElem?_eq_getElem h]
theorem emix_set (k : Nat) (zs : List Int) (h : k < zs.length) : (emix k zs).set k (zs[k] + zs[k] % 2) = emix (k + 1) zs := by
  have hl : ((evens zs).take k).length = k := by rw [List.length_take, evens_length]; omega
  unfold emix
  rw [List.set_append_right _ _ (by rw [hl]; exact Nat.le_refl _), hl, Nat.sub_self, List.drop_eq_getElem_cons h, List.set_cons_zero, evens_take_succ zs k h]
  simp

theorem leftOf_int (k n : Nat) (h : k < n) : ((k : Int) + (n : Int) - 1) % (n : Int) = ((leftOf k n : Nat) : Int) := by
  unfold leftOf
  rw [Int.natCast_emod]
  congr 1
  omega

end Go.Proofs.Ytnakkmmmkbjfbaa
