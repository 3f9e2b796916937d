
/-
  CHIPS, BOTH WAYS: AreChips and chGood, places, classes, chips that come again.
-/
import Derived.Test.YtbfkbmkikgmmcaaGood
import Derived.Test.YtbfkbmkikgmmcaaChP
namespace Go.Proofs.Ytbfkbmkikgmmcaa
open Go.RowKit Go.Deep

/-- The program's isNumberOfPlaces. -/
theorem isNumberOfPlaces_any (n : Int) (w : World) :
    Calls Try.prog 26 #[.int .i64 n] w fun e w' => e = .returned (.bool (isNum n)) ∧ w = w' := by
  by_cases h1 : 1 ≤ n
  · have e := isNum_yes h1
    have HE := hide e
    clear e
    go_enter Try.func26, Try.ntmps26
    go_wp2
    go_ret
    exact ⟨by rw [HE.out]; rfl, rfl⟩
  · have e := isNum_no h1
    have HE := hide e
    clear e
    go_enter Try.func26, Try.ntmps26
    go_wp2
    go_ret
    exact ⟨by rw [HE.out]; rfl, rfl⟩

/-- The program's isPlaceAmong. -/
theorem isPlaceAmong_any (n : Nat) (p : Int) (w : World) :
    Calls Try.prog 30 #[.int .i64 n, .int .i64 p] w fun e w' => e = .returned (.bool (isAt p n)) ∧ w = w' := by
  by_cases h1 : 0 ≤ p
  · have e : isAt p n = decide (p < (n : Int)) := by unfold isAt; simp [h1]
    have HE := hide e
    clear e
    go_enter Try.func30, Try.ntmps30
    go_wp2
    go_ret
    exact ⟨by rw [HE.out]; rfl, rfl⟩
  · have e : isAt p n = false := by unfold isAt; simp [h1]
    have HE := hide e
    clear e
    go_enter Try.func30, Try.ntmps30
    go_wp2
    go_ret
    exact ⟨by rw [HE.out]; rfl, rfl⟩

/-- The program's AreChips. -/
theorem AreChips_any (A : Option Addr) (n c B : Nat) (zs : List Int) (w : World) (hr : Ints w B A n zs) (hn : n ≤ 17592186044416) :
    Calls Try.prog 11 #[.slice A n c] w fun e w' => e = .returned (.bool (hgood zs)) ∧ w = w' := by
  have hlen := hr.len
  by_cases h1 : 1 ≤ n ∧ n ≤ 20
  · have Hg := hide (hgood_in (zs := zs) (by omega))
    have hd : isNum (n : Int) = true := isNum_in (by omega)
    go_enter Try.func11, Try.ntmps11
    go_wp2_with fail
    refine (isNumberOfPlaces_any _ _).mono ?_; rintro e w' ⟨rfl, rfl⟩; rw [hd]
    go_wp2_with fail
    refine (areWithin_any _ _ _ _ _ _ _ _ hr hn).mono ?_; rintro e w' ⟨rfl, rfl⟩
    go_wp2_with fail
    go_ret
    exact ⟨by rw [Hg.out]; rfl, rfl⟩
  · have Hg := hide (hgood_out (zs := zs) (by omega))
    have hd : isNum (n : Int) = false := isNum_out (by omega)
    go_enter Try.func11, Try.ntmps11
    go_wp2_with fail
    refine (isNumberOfPlaces_any _ _).mono ?_; rintro e w' ⟨rfl, rfl⟩; rw [hd]
    go_wp2_with fail
    go_ret
    exact ⟨by rw [Hg.out]; rfl, rfl⟩

/-- The model's chGood. -/
theorem chGood_any (A : Option Addr) (n c B : Nat) (zs : List Int) (w : World) (hr : Ints w B A n zs) (hn : n ≤ 17592186044416) :
    Calls Try.prog 25 #[.slice A n c] w fun e w' => e = .returned (.bool (hgood zs)) ∧ w = w' := by
  have hlen := hr.len
  by_cases h1 : 1 ≤ n ∧ n ≤ 20
  · have Hg := hide (hgood_in (zs := zs) (by omega))
    have hd : decide ((1 : Int) ≤ (n : Int) ∧ (n : Int) ≤ 20) = true := by simp; omega
    go_enter Try.func25, Try.ntmps25
    go_wp2_with fail
    refine (l1In_any _ _ _ _).mono ?_; rintro e w' ⟨rfl, rfl⟩; rw [hd]
    go_wp2_with fail
    refine (l1All_any _ _ _ _ _ _ _ _ hr hn).mono ?_; rintro e w' ⟨rfl, rfl⟩
    go_wp2_with fail
    go_ret
    exact ⟨by rw [Hg.out]; rfl, rfl⟩
  · have Hg := hide (hgood_out (zs := zs) (by omega))
    have hd : decide ((1 : Int) ≤ (n : Int) ∧ (n : Int) ≤ 20) = false := by simp; omega
    go_enter Try.func25, Try.ntmps25
    go_wp2_with fail
    refine (l1In_any _ _ _ _).mono ?_; rintro e w' ⟨rfl, rfl⟩; rw [hd]
    go_wp2_with fail
    go_ret
    exact ⟨by rw [Hg.out]; rfl, rfl⟩

/-- The model's AreChips. -/
theorem specAreChips_any (A : Option Addr) (n c B : Nat) (zs : List Int) (w : World) (hr : Ints w B A n zs) (hn : n ≤ 17592186044416) :
    Calls Try.prog 9 #[.slice A n c] w fun e w' => e = .returned (.bool (hgood zs)) ∧ w = w' := by
  go_enter Try.func9, Try.ntmps9
  go_wp2_with fail
  refine (chGood_any _ _ _ _ _ _ hr hn).mono ?_; rintro e w' ⟨rfl, rfl⟩
  go_wp2_with fail
  go_ret
  exact ⟨rfl, rfl⟩

/-- The model's chAsked. -/
theorem chAsked_any (A : Option Addr) (n c B : Nat) (zs : List Int) (p : Int) (w : World) (hr : Ints w B A n zs) (hn : n ≤ 17592186044416) :
    Calls Try.prog 28 #[.slice A n c, .int .i64 p] w fun e w' => e = .returned (.bool (hasked zs p)) ∧ w = w' := by
  obtain rfl := hr.len
  cases hg : hgood zs
  · have Hg := hide (show hasked zs p = false from by unfold hasked; simp [hg])
    go_enter Try.func28, Try.ntmps28
    go_wp2_with fail
    refine (chGood_any _ _ _ _ _ _ hr hn).mono ?_; rintro e w' ⟨rfl, rfl⟩; rw [hg]
    go_wp2_with fail
    go_ret
    exact ⟨by rw [Hg.out]; rfl, rfl⟩
  · have hb := (hgood_of hg).2.1
    have Hg := hide (show hasked zs p = (decide ((0 : Int) ≤ p) && decide (p ≤ ((zs.length : Int) - 1))) from by
      unfold hasked isAt; rw [hg, Bool.true_and, ← Bool.decide_and]; apply decide_eq_decide.2; omega)
    go_enter Try.func28, Try.ntmps28
    go_wp2_with fail
    refine (chGood_any _ _ _ _ _ _ hr hn).mono ?_; rintro e w' ⟨rfl, rfl⟩; rw [hg]
    go_wp2_with fail
    refine (l1In_any _ _ _ _).mono ?_; rintro e w' ⟨rfl, rfl⟩
    go_wp2_with fail
    go_ret
    exact ⟨by rw [Hg.out]; rfl, rfl⟩

/-- The model's CanFire. -/
theorem specCanFire_any (A : Option Addr) (n c B : Nat) (zs : List Int) (p : Int) (w : World) (hr : Ints w B A n zs) (hn : n ≤ 17592186044416) :
    Calls Try.prog 13 #[.slice A n c, .int .i64 p] w fun e w' => e = .returned (.tuple #[.bool (ableN zs p), .bool (hasked zs p)]) ∧ w = w' := by
  obtain rfl := hr.len
  cases hg : hasked zs p
  · have Hg := hide (ableN_no hg)
    go_enter Try.func13, Try.ntmps13
    go_wp2_with fail
    refine (chAsked_any _ _ _ _ _ _ _ hr hn).mono ?_; rintro e w' ⟨rfl, rfl⟩; rw [hg]
    go_wp2_with fail
    go_ret2
    exact ⟨by rw [Hg.out]; rfl, rfl⟩
  · obtain ⟨hgz, k, rfl, hk⟩ := hasked_of hg
    have Hg := hide (ableN_yes hk hg)
    obtain ⟨ad, rfl, hab, hcell⟩ := hr.at_ hk
    go_enter Try.func13, Try.ntmps13
    go_wp2_with fail
    refine (chAsked_any _ _ _ _ _ _ _ hr hn).mono ?_; rintro e w' ⟨rfl, rfl⟩; rw [hg]
    go_wp2_with fail
    go_ret2
    exact ⟨by rw [Hg.out]; rfl, rfl⟩

/-- The model's chClass. -/
theorem chClass_any (A : Option Addr) (n c B : Nat) (zs : List Int) (w : World) (hr : Ints w B A n zs) (hg : hgood zs = true) :
    Calls Try.prog 32 #[.slice A n c] w fun e w' => e = .returned (.int .i64 (clsOf zs)) ∧ w = w' := by
  obtain rfl := hr.len
  obtain ⟨hg1, hg2, _⟩ := hgood_of hg
  have HG := hide hg
  clear hg
  go_enter Try.func32, Try.ntmps32
  go_wp2
  go_loop [3, 8] (fun s i => ∃ k : Nat, k ≤ zs.length ∧ i = .int .i64 k ∧ s = .int .i64 (csumTo zs k))
    (fun _ i => zs.length - (intOf i).toNat)
  case atStart => exact ⟨0, Nat.zero_le _, rfl, rfl⟩
  case round =>
    obtain ⟨k, hk, rfl, rfl⟩ := hrel
    have hs := csumTo_bd HG.out k hk
    by_cases hlt : k < zs.length
    · have hs2 := csumTo_bd HG.out (k + 1) (by omega)
      have Hs := hide (show csumTo zs (k + 1) = csumTo zs k + zs.getD k 0 * ((k : Int) + 1) from rfl)
      have hk2 := hgood_getD HG.out k hlt
      obtain ⟨ad, rfl, hab, hcell⟩ := hr.at_ hlt
      rw [Hs.out] at hs2
      have hp1 : 0 ≤ zs.getD k 0 * ((k : Int) + 1) := Int.mul_nonneg hk2.1 (by omega)
      generalize zs.getD k 0 = a at *
      generalize csumTo zs k = b at *
      go_wp2
      go_round
      case rel => exact ⟨k + 1, by omega, by go_num, by rw [Hs.out]⟩
      case measure => simp [intOf]; omega
    · obtain rfl : k = zs.length := by omega
      have hc : clsOf zs = csumTo zs zs.length % ((zs.length : Int) + 1) := rfl
      have HC := hide hc
      clear hc
      generalize csumTo zs zs.length = b at *
      go_wp2
      go_ret
      exact ⟨ret_int (by rw [HC.out]), rfl⟩
end Go.Proofs.Ytbfkbmkikgmmcaa
