
/-
  LOADS AND ENDS, BOTH WAYS: ldLoads, ldEnd, loadsOf; LoadsOf.
-/
import Derived.Test.YtaplnbjljgeakaaLd
import Derived.Test.YtaplnbjljgeakaaOwn
import Derived.Test.YtaplnbjljgeakaaCopy
import Derived.Test.YtaplnbjljgeakaaMark
namespace Go.Proofs.Ytaplnbjljgeakaa
open Go.RowKit Go.Deep

theorem loadsZ_succ (zs ps : List Int) (m k : Nat) {j : Nat} (hp : ps.getD k 0 = (j : Int)) (hj : j < m) : loadsZ zs ps m (k + 1) = (loadsZ zs ps m k).set j ((loadsZ zs ps m k).getD j 0 + zs.getD k 0) := by
  show addTo _ _ _ = _
  unfold addTo
  rw [hp]; rfl
theorem jboth_get {zs ps : List Int} {m : Nat} (h : jboth zs m ps = true) {k : Nat} (hk : k < ps.length) : ∃ j : Nat, ps.getD k 0 = (j : Int) ∧ j < m := by
  have h1 := within_get (jfit_of (jboth_of h).2).2 k hk
  rw [getD_at hk]
  exact ⟨(ps[k]).toNat, by omega, by omega⟩
theorem loadsZ_at {zs ps : List Int} {m : Nat} (h : jboth zs m ps = true) (k j : Nat) (hk : k ≤ ps.length) (hj : j < m) : 0 ≤ (loadsZ zs ps m k).getD j 0 ∧ (loadsZ zs ps m k).getD j 0 ≤ 9000 := by
  have h3 := jgood_of (jask_of (jboth_of h).1).1
  have h4 := (jfit_of (jboth_of h).2).1
  have h5 := within_get (loadsZ_bd ps m k (within_wide h3.2.2 (by omega) (by omega))) j (by rw [loadsZ_length]; exact hj)
  rw [getD_at (by rw [loadsZ_length]; exact hj)]
  omega

end Go.Proofs.Ytaplnbjljgeakaa
