
/-
  SUMS AND SHARES, BOTH WAYS: hpSum, StonesOf, EqualShare, CanBeEqual, hpEqual, shareOfEach.
-/
import Derived.Test.YtkhcabgpbmhimaaGood
import Derived.Test.YtkhcabgpbmhimaaPlainB
namespace Go.Proofs.Ytkhcabgpbmhimaa
open Go.RowKit Go.Deep

theorem quiet_left {P : Program} {f : FuncId} {args : Array Value} {w : World} {n : Nat} {v : Value}
    (h : Calls P f args (w.drewN n) fun e w' => e = .returned v ∧ w.drewN n = w') : Calls P f args (w.drewN n) fun e w'' => e = .returned v ∧ ∃ m, w'' = w.drewN m :=
  h.mono fun _ _ ⟨he, hm⟩ => ⟨he, n, hm.symm⟩

end Go.Proofs.Ytkhcabgpbmhimaa
