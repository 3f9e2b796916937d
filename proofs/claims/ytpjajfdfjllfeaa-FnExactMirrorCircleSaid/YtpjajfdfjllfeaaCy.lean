
/-
  CANDIES, BOTH WAYS: AreCandies and cyGood; evened and cyEven; the model's cyPass, cyStep, l1Same, cyRest; slices.Min, slices.Max, isLevel, isAtRest.
-/
import Derived.Test.YtpjajfdfjllfeaaGood
import Derived.Test.YtpjajfdfjllfeaaCopy
import Derived.Test.YtpjajfdfjllfeaaMark
import Derived.Test.YtpjajfdfjllfeaaCyP
namespace Go.Proofs.Ytpjajfdfjllfeaa
open Go.RowKit Go.Deep

/-- The program's AreCandies. -/
theorem AreCandies_any (A : Option Addr) (n c B : Nat) (zs : List Int) (w : World) (hr : Ints w B A n zs) (hn : n ≤ 17592186044416) :
    Calls Try.prog 12 #[.slice A n c] w fun e w' => e = .returned (.bool (cgood zs)) ∧ w = w' := by
  have hlen := hr.len
  by_cases h1 : 2 ≤ n
  · by_cases h2 : n ≤ 12
    · have hg := cgood_in (zs := zs) (by omega)
      have Hg := hide hg
      clear hg
      have hw := areWithin_any A n c B zs 0 200
      have Hw := hide hw
      clear hw
      go_enter Try.func12, Try.ntmps12
      go_wp2_with (go_at_call 16; refine (Hw.out _ hr hn).mono ?_; rintro e w' ⟨rfl, rfl⟩)
      go_ret
      exact ⟨by rw [Hg.out]; rfl, rfl⟩
    · have Hg := hide (cgood_out (zs := zs) (by omega))
      go_enter Try.func12, Try.ntmps12
      go_wp2_with fail
      go_ret
      exact ⟨by rw [Hg.out]; rfl, rfl⟩
  · have Hg := hide (cgood_out (zs := zs) (by omega))
    go_enter Try.func12, Try.ntmps12
    go_wp2_with fail
    go_ret
    exact ⟨by rw [Hg.out]; rfl, rfl⟩

/-- The model's cyGood. -/
theorem cyGood_any (A : Option Addr) (n c B : Nat) (zs : List Int) (w : World) (hr : Ints w B A n zs) (hn : n ≤ 17592186044416) :
    Calls Try.prog 10 #[.slice A n c] w fun e w' => e = .returned (.bool (cgood zs)) ∧ w = w' := by
  have hlen := hr.len
  by_cases h1 : 2 ≤ n ∧ n ≤ 12
  · have Hg := hide (cgood_in (zs := zs) (by omega))
    have hd : decide ((2 : Int) ≤ (n : Int) ∧ (n : Int) ≤ 12) = true := by simp; omega
    go_enter Try.func10, Try.ntmps10
    go_wp2_with fail
    refine (l1In_any _ _ _ _).mono ?_; rintro e w' ⟨rfl, rfl⟩; rw [hd]
    go_wp2_with fail
    refine (l1All_any _ _ _ _ _ _ _ _ hr hn).mono ?_; rintro e w' ⟨rfl, rfl⟩
    go_wp2_with fail
    go_ret
    exact ⟨by rw [Hg.out]; rfl, rfl⟩
  · have Hg := hide (cgood_out (zs := zs) (by omega))
    have hd : decide ((2 : Int) ≤ (n : Int) ∧ (n : Int) ≤ 12) = false := by simp; omega
    go_enter Try.func10, Try.ntmps10
    go_wp2_with fail
    refine (l1In_any _ _ _ _).mono ?_; rintro e w' ⟨rfl, rfl⟩; rw [hd]
    go_wp2_with fail
    go_ret
    exact ⟨by rw [Hg.out]; rfl, rfl⟩

/-- The first k made even. -/
def emix (k : Nat) (zs : List Int) : List Int := (evens zs).take k ++ zs.drop k
theorem emix_zero (zs : List Int) : emix 0 zs = zs := by simp [emix]
theorem emix_all (zs : List Int) : emix zs.length zs = evens zs := by
  unfold emix
  rw [List.take_of_length_le (by rw [evens_length]; exact Nat.le_refl _)]; simp
theorem emix_length (k : Nat) (zs : List Int) (h : k ≤ zs.length) : (emix k zs).length = zs.length := by
  simp [emix, evens_length]; omega
theorem emix_at (k : Nat) (zs : List Int) (h : k < zs.length) : (emix k zs)[k]? = some zs[k] := by
  unfold emix
  rw [List.getElem?_append_right (by simp [evens_length]; omega), List.length_take, evens_length, Nat.min_eq_left (by omega), Nat.sub_self, List.getElem?_drop]
  simp [List.getElem?_eq_getElem h]
theorem emix_set (k : Nat) (zs : List Int) (h : k < zs.length) : (emix k zs).set k (zs[k] + zs[k] % 2) = emix (k + 1) zs := by
  have hl : ((evens zs).take k).length = k := by rw [List.length_take, evens_length]; omega
  unfold emix
  rw [List.set_append_right _ _ (by rw [hl]; exact Nat.le_refl _), hl, Nat.sub_self, List.drop_eq_getElem_cons h, List.set_cons_zero, evens_take_succ zs k h]
  simp

theorem leftOf_int (k n : Nat) (h : k < n) : ((k : Int) + (n : Int) - 1) % (n : Int) = ((leftOf k n : Nat) : Int) := by
  unfold leftOf
  rw [Int.natCast_emod]
  congr 1
  omega

end Go.Proofs.Ytpjajfdfjllfeaa
