
/-
  CHIPS, BOTH WAYS: AreChips and chGood, places, classes, chips that come again.
-/
import Derived.Test.YtejffoalkhlcpaaGood
import Derived.Test.YtejffoalkhlcpaaChP
namespace Go.Proofs.Ytejffoalkhlcpaa
open Go.RowKit Go.Deep

/-- The program's isNumberOfPlaces. -/
theorem isNumberOfPlaces_any (n : Int) (w : World) :
    Calls Try.prog 14 #[.int .i64 n] w fun e w' => e = .returned (.bool (isNum n)) ∧ w = w' := by
  by_cases h1 : 1 ≤ n
  · have e := isNum_yes h1
    have HE := hide e
    clear e
    go_enter Try.func14, Try.ntmps14
    go_wp2
    go_ret
    exact ⟨by rw [HE.out]; rfl, rfl⟩
  · have e := isNum_no h1
    have HE := hide e
    clear e
    go_enter Try.func14, Try.ntmps14
    go_wp2
    go_ret
    exact ⟨by rw [HE.out]; rfl, rfl⟩

/-- The program's AreChips. -/
theorem AreChips_any (A : Option Addr) (n c B : Nat) (zs : List Int) (w : World) (hr : Ints w B A n zs) (hn : n ≤ 17592186044416) :
    Calls Try.prog 19 #[.slice A n c] w fun e w' => e = .returned (.bool (hgood zs)) ∧ w = w' := by
  have hlen := hr.len
  by_cases h1 : 1 ≤ n ∧ n ≤ 20
  · have Hg := hide (hgood_in (zs := zs) (by omega))
    have hd : isNum (n : Int) = true := isNum_in (by omega)
    go_enter Try.func19, Try.ntmps19
    go_wp2_with fail
    refine (isNumberOfPlaces_any _ _).mono ?_; rintro e w' ⟨rfl, rfl⟩; rw [hd]
    go_wp2_with fail
    refine (areWithin_any _ _ _ _ _ _ _ _ hr hn).mono ?_; rintro e w' ⟨rfl, rfl⟩
    go_wp2_with fail
    go_ret
    exact ⟨by rw [Hg.out]; rfl, rfl⟩
  · have Hg := hide (hgood_out (zs := zs) (by omega))
    have hd : isNum (n : Int) = false := isNum_out (by omega)
    go_enter Try.func19, Try.ntmps19
    go_wp2_with fail
    refine (isNumberOfPlaces_any _ _).mono ?_; rintro e w' ⟨rfl, rfl⟩; rw [hd]
    go_wp2_with fail
    go_ret
    exact ⟨by rw [Hg.out]; rfl, rfl⟩

/-- The model's chClass. -/
theorem chClass_any (A : Option Addr) (n c B : Nat) (zs : List Int) (w : World) (hr : Ints w B A n zs) (hg : hgood zs = true) :
    Calls Try.prog 17 #[.slice A n c] w fun e w' => e = .returned (.int .i64 (clsOf zs)) ∧ w = w' := by
  obtain rfl := hr.len
  obtain ⟨hg1, hg2, _⟩ := hgood_of hg
  have HG := hide hg
  clear hg
  go_enter Try.func17, Try.ntmps17
  go_wp2
  go_loop [3, 8] (fun s i => ∃ k : Nat, k ≤ zs.length ∧ i = .int .i64 k ∧ s = .int .i64 (csumTo zs k))
    (fun _ i => zs.length - (intOf i).toNat)
  case atStart => exact ⟨0, Nat.zero_le _, rfl, rfl⟩
  case round =>
    obtain ⟨k, hk, rfl, rfl⟩ := hrel
    have hs := csumTo_bd HG.out k hk
    by_cases hlt : k < zs.length
    · have hs2 := csumTo_bd HG.out (k + 1) (by omega)
      have Hs := hide (show csumTo zs (k + 1) = csumTo zs k + zs.getD k 0 * ((k : Int) + 1) from rfl)
      have hk2 := hgood_getD HG.out k hlt
      obtain ⟨ad, rfl, hab, hcell⟩ := hr.at_ hlt
      rw [Hs.out] at hs2
      have hp1 : 0 ≤ zs.getD k 0 * ((k : Int) + 1) := Int.mul_nonneg hk2.1 (by omega)
      generalize zs.getD k 0 = a at *
      generalize csumTo zs k = b at *
      go_wp2
      go_round
      case rel => exact ⟨k + 1, by omega, by go_num, by rw [Hs.out]⟩
      case measure => simp [intOf]; omega
    · obtain rfl : k = zs.length := by omega
      have hc : clsOf zs = csumTo zs zs.length % ((zs.length : Int) + 1) := rfl
      have HC := hide hc
      clear hc
      generalize csumTo zs zs.length = b at *
      go_wp2
      go_ret
      exact ⟨ret_int (by rw [HC.out]), rfl⟩
end Go.Proofs.Ytejffoalkhlcpaa
