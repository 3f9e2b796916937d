
/-
  WHAT HEAPS ARE, BOTH WAYS: the program's AreHeaps, areWithin and the model's hpGood, l1All, l1In answer alike.
-/
import Derived.Test.YtnakkmmmkbjfbaaBase
import Derived.Test.YtnakkmmmkbjfbaaPlain
namespace Go.Proofs.Ytnakkmmmkbjfbaa
open Go.RowKit Go.Deep

/-- The model's l1In. -/
theorem l1In_any (n lo hi : Int) (w : World) :
    Calls Try.prog 36 #[.int .i64 n, .int .i64 lo, .int .i64 hi] w fun e w' => e = .returned (.bool (decide (lo ≤ n ∧ n ≤ hi))) ∧ w = w' := by
  by_cases h1 : lo ≤ n
  · by_cases h2 : n ≤ hi
    all_goals
      go_enter Try.func36, Try.ntmps36
      go_wp2
      go_ret
      exact ⟨ret_bool (by simp; omega), rfl⟩
  · go_enter Try.func36, Try.ntmps36
    go_wp2
    go_ret
    exact ⟨ret_bool (by simp; omega), rfl⟩

/-- The program's areWithin. -/
theorem areWithin_any (A : Option Addr) (n c B : Nat) (zs : List Int) (lo hi : Int) (w : World) (hr : Ints w B A n zs) (hn : n ≤ 17592186044416) :
    Calls Try.prog 53 #[.slice A n c, .int .i64 lo, .int .i64 hi] w fun e w' => e = .returned (.bool (within lo hi zs)) ∧ w = w' := by
  have hlen := hr.len
  go_enter Try.func53, Try.ntmps53
  go_wp2
  go_loop [11] (fun i => ∃ k : Nat, k ≤ n ∧ i = .int .i64 k ∧ ∀ (j : Nat) (_ : j < zs.length), j < k → lo ≤ zs[j] ∧ zs[j] ≤ hi)
    (fun i => n - (intOf i).toNat)
  case atStart => exact ⟨0, Nat.zero_le _, rfl, fun j _ h => by omega⟩
  case round =>
    obtain ⟨k, hk, rfl, hall⟩ := hrel
    have Hall := hide hall
    clear hall
    by_cases hlt : k < n
    · have hkz : k < zs.length := by omega
      obtain ⟨ad, rfl, hab, hcell⟩ := hr.at_ hlt
      rw [show zs.getD k 0 = zs[k] from by simp [List.getD, List.getElem?_eq_getElem hkz]] at hcell
      by_cases h1 : lo ≤ zs[k]
      · by_cases h2 : zs[k] ≤ hi
        · go_wp2
          go_round
          case rel => exact ⟨k + 1, by omega, by go_num, fun j hj hjk => if e : j = k then by subst e; exact ⟨h1, h2⟩ else Hall.out j hj (by omega)⟩
          case measure => simp [intOf]; omega
        · have hw := within_not (lo := lo) (hi := hi) k hkz (fun h => h2 h.2)
          have Hw := hide hw
          clear hw
          go_wp2
          go_ret
          exact ⟨by rw [Hw.out]; rfl, rfl⟩
      · have hw := within_not (lo := lo) (hi := hi) k hkz (fun h => h1 h.1)
        have Hw := hide hw
        clear hw
        go_wp2
        go_ret
        exact ⟨by rw [Hw.out]; rfl, rfl⟩
    · go_wp2
      go_ret
      exact ⟨by rw [within_of (fun j hj => Hall.out j hj (by omega))]; rfl, rfl⟩

/-- The model's l1All. -/
theorem l1All_any (A : Option Addr) (n c B : Nat) (zs : List Int) (lo hi : Int) (w : World) (hr : Ints w B A n zs) (hn : n ≤ 17592186044416) :
    Calls Try.prog 47 #[.slice A n c, .int .i64 lo, .int .i64 hi] w fun e w' => e = .returned (.bool (within lo hi zs)) ∧ w = w' := by
  have hlen := hr.len
  go_enter Try.func47, Try.ntmps47
  go_wp2_with fail
  go_loop [11] (fun i => ∃ k : Nat, k ≤ n ∧ i = .int .i64 k ∧ ∀ (j : Nat) (_ : j < zs.length), j < k → lo ≤ zs[j] ∧ zs[j] ≤ hi)
    (fun i => n - (intOf i).toNat)
  case atStart => exact ⟨0, Nat.zero_le _, rfl, fun j _ h => by omega⟩
  case round =>
    obtain ⟨k, hk, rfl, hall⟩ := hrel
    have Hall := hide hall
    clear hall
    by_cases hlt : k < n
    · have hkz : k < zs.length := by omega
      obtain ⟨ad, rfl, hab, hcell⟩ := hr.at_ hlt
      rw [show zs.getD k 0 = zs[k] from by simp [List.getD, List.getElem?_eq_getElem hkz]] at hcell
      by_cases h1 : lo ≤ zs[k] ∧ zs[k] ≤ hi
      · have hd : decide (lo ≤ zs[k] ∧ zs[k] ≤ hi) = true := by simpa using h1
        go_wp2_with (go_at_call 36; refine (l1In_any _ _ _ _).mono ?_; rintro e w' ⟨rfl, rfl⟩; rw [hd])
        go_round
        case rel => exact ⟨k + 1, by omega, by go_num, fun j hj hjk => if e : j = k then by subst e; exact h1 else Hall.out j hj (by omega)⟩
        case measure => simp [intOf]; omega
      · have hd : decide (lo ≤ zs[k] ∧ zs[k] ≤ hi) = false := by simpa using h1
        have hw := within_not (lo := lo) (hi := hi) k hkz h1
        have Hw := hide hw
        clear hw h1
        go_wp2_with (go_at_call 36; refine (l1In_any _ _ _ _).mono ?_; rintro e w' ⟨rfl, rfl⟩; rw [hd])
        go_ret
        exact ⟨by rw [Hw.out]; rfl, rfl⟩
    · go_wp2_with fail
      go_ret
      exact ⟨by rw [within_of (fun j hj => Hall.out j hj (by omega))]; rfl, rfl⟩

theorem good_in {zs : List Int} (h : 1 ≤ zs.length ∧ zs.length ≤ 12) : good zs = within 0 1000 zs := by
  unfold good; simp [h]
theorem good_out {zs : List Int} (h : ¬ (1 ≤ zs.length ∧ zs.length ≤ 12)) : good zs = false := by
  unfold good; simp; omega

/-- The program's AreHeaps. -/
theorem AreHeaps_any (A : Option Addr) (n c B : Nat) (zs : List Int) (w : World) (hr : Ints w B A n zs) (hn : n ≤ 17592186044416) :
    Calls Try.prog 48 #[.slice A n c] w fun e w' => e = .returned (.bool (good zs)) ∧ w = w' := by
  have hlen := hr.len
  by_cases h1 : 1 ≤ n
  · by_cases h2 : n ≤ 12
    · have hg := good_in (zs := zs) (by omega)
      have Hg := hide hg
      clear hg
      have hw := areWithin_any A n c B zs 0 1000
      have Hw := hide hw
      clear hw
      go_enter Try.func48, Try.ntmps48
      go_wp2_with (go_at_call 53; refine (Hw.out _ hr hn).mono ?_; rintro e w' ⟨rfl, rfl⟩)
      go_ret
      exact ⟨by rw [Hg.out]; rfl, rfl⟩
    · have Hg := hide (good_out (zs := zs) (by omega))
      go_enter Try.func48, Try.ntmps48
      go_wp2_with fail
      go_ret
      exact ⟨by rw [Hg.out]; rfl, rfl⟩
  · have Hg := hide (good_out (zs := zs) (by omega))
    go_enter Try.func48, Try.ntmps48
    go_wp2_with fail
    go_ret
    exact ⟨by rw [Hg.out]; rfl, rfl⟩

/-- The model's hpGood. -/
theorem hpGood_any (A : Option Addr) (n c B : Nat) (zs : List Int) (w : World) (hr : Ints w B A n zs) (hn : n ≤ 17592186044416) :
    Calls Try.prog 37 #[.slice A n c] w fun e w' => e = .returned (.bool (good zs)) ∧ w = w' := by
  have hlen := hr.len
  by_cases h1 : 1 ≤ n ∧ n ≤ 12
  · have Hg := hide (good_in (zs := zs) (by omega))
    have hd : decide ((1 : Int) ≤ (n : Int) ∧ (n : Int) ≤ 12) = true := by simp; omega
    go_enter Try.func37, Try.ntmps37
    go_wp2_with fail
    refine (l1In_any _ _ _ _).mono ?_; rintro e w' ⟨rfl, rfl⟩; rw [hd]
    go_wp2_with fail
    refine (l1All_any _ _ _ _ _ _ _ _ hr hn).mono ?_; rintro e w' ⟨rfl, rfl⟩
    go_wp2_with fail
    go_ret
    exact ⟨by rw [Hg.out]; rfl, rfl⟩
  · have Hg := hide (good_out (zs := zs) (by omega))
    have hd : decide ((1 : Int) ≤ (n : Int) ∧ (n : Int) ≤ 12) = false := by simp; omega
    go_enter Try.func37, Try.ntmps37
    go_wp2_with fail
    refine (l1In_any _ _ _ _).mono ?_; rintro e w' ⟨rfl, rfl⟩; rw [hd]
    go_wp2_with fail
    go_ret
    exact ⟨by rw [Hg.out]; rfl, rfl⟩

end Go.Proofs.Ytnakkmmmkbjfbaa
