
/-
  RINGS, BOTH WAYS: IsRing and riGood.
-/
import Derived.Test.YtkhcabgpbmhimaaGood
import Derived.Test.YtkhcabgpbmhimaaCyB
import Derived.Test.YtkhcabgpbmhimaaLaws0
import Derived.Test.YtkhcabgpbmhimaaRiP
namespace Go.Proofs.Ytkhcabgpbmhimaa
open Go.RowKit Go.Deep

theorem isRingSize_any (n : Int) (w : World) :
    Calls Try.prog 29 #[.int .i64 n] w fun e w' => e = .returned (.bool (rsize n)) ∧ w = w' := by
  by_cases h1 : 2 ≤ n
  · have HE := hide (show rsize n = decide (n ≤ 10) by unfold rsize; simp [h1])
    go_enter Try.func29, Try.ntmps29
    go_wp2
    go_ret
    exact ⟨by rw [HE.out]; rfl, rfl⟩
  · have HE := hide (show rsize n = false by unfold rsize; simp; omega)
    go_enter Try.func29, Try.ntmps29
    go_wp2
    go_ret
    exact ⟨by rw [HE.out]; rfl, rfl⟩
/-- The program's IsRing. -/
theorem IsRing_any (A : Option Addr) (n c B : Nat) (zs : List Int) (w : World) (hr : Ints w B A n zs) (hn : n ≤ 17592186044416) :
    Calls Try.prog 23 #[.slice A n c] w fun e w' => e = .returned (.bool (rgood zs)) ∧ w = w' := by
  have hlen := hr.len
  by_cases h1 : 2 ≤ n ∧ n ≤ 10
  · have Hg := hide (rgood_in (zs := zs) (by omega))
    have Hw := hide (areWithin_any A n c B zs 0 1000)
    have HS := hide (show rsize (n : Int) = true by unfold rsize; simp; omega)
    go_enter Try.func23, Try.ntmps23
    go_wp2_with fail
    refine (isRingSize_any _ _).mono ?_; rintro e w' ⟨rfl, rfl⟩; rw [HS.out]
    go_wp2_with fail
    refine (Hw.out _ hr hn).mono ?_; rintro e w' ⟨rfl, rfl⟩
    go_wp2_with fail
    go_ret
    exact ⟨by rw [Hg.out]; rfl, rfl⟩
  · have Hg := hide (rgood_out (zs := zs) (by omega))
    have HS := hide (show rsize (n : Int) = false by unfold rsize; simp; omega)
    go_enter Try.func23, Try.ntmps23
    go_wp2_with fail
    refine (isRingSize_any _ _).mono ?_; rintro e w' ⟨rfl, rfl⟩; rw [HS.out]
    go_wp2_with fail
    go_ret
    exact ⟨by rw [Hg.out]; rfl, rfl⟩

theorem IsRing_b (A : Option Addr) (n c : Nat) (zs : List Int) (w : World) (hr : Ints w w.heap.size A n zs) (hn : n ≤ 17592186044416) :
    Calls Try.prog 23 #[.slice A n c] w fun e w' => e = .returned (.bool (rgood zs)) ∧ Below w.heap.size w w' := to_below (IsRing_any A n c _ zs w hr hn)
end Go.Proofs.Ytkhcabgpbmhimaa
