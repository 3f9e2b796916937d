
/-
  THE GREATEST DIVISOR: the program's greatestDivisor.
-/
import Derived.Test.YtlempjfkgmlidaaDoorBase
import Derived.Deep.RegionWith
namespace Go.Proofs.YtlempjfkgmlidaaDoor
open Go.RowKit Go.Deep
set_option linter.unusedVariables false

theorem gcd_step (p q : Nat) : Nat.gcd q (p % q) = Nat.gcd p q := by rw [Nat.gcd_comm p q, Nat.gcd_rec q p, Nat.gcd_comm]
theorem tmod_nat (p q : Nat) : ((p : Int)).tmod (q : Int) = ((p % q : Nat) : Int) := by
  rw [Int.tmod_eq_emod_of_nonneg (by omega)]; omega

theorem greatestDivisor_any (a b : Nat) (ha : a ≤ 1000000000000) (hb : b ≤ 1000000000000) (w : World) :
    Calls Tryd.prog 50 #[.int .i64 (a : Int), .int .i64 (b : Int)] w fun e w' => e = .returned (.int .i64 ((Nat.gcd a b : Nat) : Int)) ∧ ∃ m, w' = w.drewN m := by
  go_enter Tryd.func50, Tryd.ntmps50
  go_wp2_with fail
  go_loopw [0, 1] (fun p q wr => ∃ x y : Nat, p = .int .i64 x ∧ q = .int .i64 y ∧ Nat.gcd x y = Nat.gcd a b ∧ x ≤ 1000000000000 ∧ y ≤ 1000000000000 ∧ ∃ m, wr = w.drewN m)
    (fun _ q _ => (intOf q).toNat)
  case atStart => exact ⟨a, b, rfl, rfl, rfl, by omega, by omega, 0, rfl⟩
  case round =>
    obtain ⟨x, y, rfl, rfl, hxy, hx, hy, m, rfl⟩ := hrel
    have HXY := hide hxy
    clear hxy
    by_cases hy0 : y = 0
    · subst hy0
      have hxg : x = Nat.gcd a b := by rw [← HXY.out]; simp
      have HXG := hide hxg
      clear hxg HXY
      go_wp2_with fail
      go_ret
      exact ⟨by rw [← HXG.out]; rfl, m, rfl⟩
    · have hy1 : 1 ≤ y := by omega
      have hy' : ((y : Int) != 0) = true := by simp; omega
      have hm : (x % y : Nat) < y := Nat.mod_lt _ (by omega)
      clear hy0
      go_wp2_with fail
      go_quiet (fail)
      go_wp2_with fail
      go_roundw
      case rel => exact ⟨y, x % y, rfl, by simp, by rw [gcd_step]; exact HXY.out, by omega, by omega, m + nq, by simp⟩
      case measure => simp [intOf]; omega
end Go.Proofs.YtlempjfkgmlidaaDoor
