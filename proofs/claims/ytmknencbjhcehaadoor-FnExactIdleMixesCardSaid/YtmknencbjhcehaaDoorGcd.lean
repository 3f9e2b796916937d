
/-
  THE GREATEST DIVISOR: the program's greatestDivisor.
-/
import Derived.Test.YtmknencbjhcehaaDoorBase
import Derived.Deep.RegionWith
namespace Go.Proofs.YtmknencbjhcehaaDoor
open Go.RowKit Go.Deep
set_option linter.unusedVariables false

theorem gcd_step (p q : Nat) : Nat.gcd q (p % q) = Nat.gcd p q := by rw [Nat.gcd_comm p q, Nat.gcd_rec q p, Nat.gcd_comm]
theorem tmod_nat (p q : Nat) : ((p : Int)).tmod (q : Int) = ((p % q : Nat) : Int) := by
  rw [Int.tmod_eq_emod_of_nonneg (by omega)]; omega

end Go.Proofs.YtmknencbjhcehaaDoor
