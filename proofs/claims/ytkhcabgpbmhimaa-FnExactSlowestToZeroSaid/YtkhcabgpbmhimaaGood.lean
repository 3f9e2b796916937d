
/-
  WHAT HEAPS ARE, BOTH WAYS: the program's AreHeaps, areWithin and the model's hpGood, l1All, l1In answer alike.
-/
import Derived.Test.YtkhcabgpbmhimaaBase
import Derived.Test.YtkhcabgpbmhimaaPlain
namespace Go.Proofs.Ytkhcabgpbmhimaa
open Go.RowKit Go.Deep

/-- The model's l1In. -/
theorem l1In_any (n lo hi : Int) (w : World) :
    Calls Try.prog 9 #[.int .i64 n, .int .i64 lo, .int .i64 hi] w fun e w' => e = .returned (.bool (decide (lo ≤ n ∧ n ≤ hi))) ∧ w = w' := by
  by_cases h1 : lo ≤ n
  · by_cases h2 : n ≤ hi
    all_goals
      go_enter Try.func9, Try.ntmps9
      go_wp2
      go_ret
      exact ⟨ret_bool (by simp; omega), rfl⟩
  · go_enter Try.func9, Try.ntmps9
    go_wp2
    go_ret
    exact ⟨ret_bool (by simp; omega), rfl⟩

/-- The program's areWithin. -/
theorem areWithin_any (A : Option Addr) (n c B : Nat) (zs : List Int) (lo hi : Int) (w : World) (hr : Ints w B A n zs) (hn : n ≤ 17592186044416) :
    Calls Try.prog 30 #[.slice A n c, .int .i64 lo, .int .i64 hi] w fun e w' => e = .returned (.bool (within lo hi zs)) ∧ w = w' := by
  have hlen := hr.len
  go_enter Try.func30, Try.ntmps30
  go_wp2
  go_loop [11] (fun i => ∃ k : Nat, k ≤ n ∧ i = .int .i64 k ∧ ∀ (j : Nat) (_ : j < zs.length), j < k → lo ≤ zs[j] ∧ zs[j] ≤ hi)
    (fun i => n - (intOf i).toNat)
  case atStart => exact ⟨0, Nat.zero_le _, rfl, fun j _ h => by omega⟩
  case round =>
    obtain ⟨k, hk, rfl, hall⟩ := hrel
    have Hall := hide hall
    clear hall
    by_cases hlt : k < n
    · have hkz : k < zs.length := by omega
      obtain ⟨ad, rfl, hab, hcell⟩ := hr.at_ hlt
      rw [show zs.getD k 0 = zs[k] from by simp [List.getD, List.getElem?_eq_getElem hkz]] at hcell
      by_cases h1 : lo ≤ zs[k]
      · by_cases h2 : zs[k] ≤ hi
        · go_wp2
          go_round
          case rel => exact ⟨k + 1, by omega, by go_num, fun j hj hjk => if e : j = k then by subst e; exact ⟨h1, h2⟩ else Hall.out j hj (by omega)⟩
          case measure => simp [intOf]; omega
        · have hw := within_not (lo := lo) (hi := hi) k hkz (fun h => h2 h.2)
          have Hw := hide hw
          clear hw
          go_wp2
          go_ret
          exact ⟨by rw [Hw.out]; rfl, rfl⟩
      · have hw := within_not (lo := lo) (hi := hi) k hkz (fun h => h1 h.1)
        have Hw := hide hw
        clear hw
        go_wp2
        go_ret
        exact ⟨by rw [Hw.out]; rfl, rfl⟩
    · go_wp2
      go_ret
      exact ⟨by rw [within_of (fun j hj => Hall.out j hj (by omega))]; rfl, rfl⟩

theorem good_in {zs : List Int} (h : 1 ≤ zs.length ∧ zs.length ≤ 12) : good zs = within 0 1000 zs := by
  unfold good; simp [h]
theorem good_out {zs : List Int} (h : ¬ (1 ≤ zs.length ∧ zs.length ≤ 12)) : good zs = false := by
  unfold good; simp; omega

end Go.Proofs.Ytkhcabgpbmhimaa
