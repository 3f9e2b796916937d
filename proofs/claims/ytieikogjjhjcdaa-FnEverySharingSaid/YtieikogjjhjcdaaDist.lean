
/-
  DISTANCES IN A ROW AND THE MOST THAT IS CARRIED, BOTH WAYS.
-/
import Derived.Test.YtieikogjjhjcdaaFlows
namespace Go.Proofs.Ytieikogjjhjcdaa
open Go.RowKit Go.Deep

/-- The program's LineDistance. -/
theorem LineDistance_any (A : Option Addr) (n c B : Nat) (zs : List Int) (w : World) (hr : Ints w B A n zs) (hB : B ≤ w.heap.size) (hn : n ≤ 17592186044416) :
    Calls Try.prog 10 #[.slice A n c] w fun e w' => e = .returned (.tuple #[.int .i64 (sizes (flowsR zs)), .bool (eqOk zs)]) ∧ Below w.heap.size w w' := by
  have HS := hide (flowsR_small zs)
  go_enter Try.func10, Try.ntmps10
  go_wp2_with fail
  refine (LineFlows_any _ _ _ _ _ _ hr hB hn).mono ?_
  rintro e w1 ⟨A', c', rfl, h1, h2, hown, hb⟩
  have hx := hown.ints
  have hl12 := HS.out.2
  go_wp2_with fail
  refine (sumOfSizes_any _ _ _ _ _ _ hx (by omega) HS.out.1).mono ?_; rintro e w' ⟨rfl, rfl⟩
  go_wp2_with fail
  go_ret2
  exact ⟨rfl, hb⟩

end Go.Proofs.Ytieikogjjhjcdaa
