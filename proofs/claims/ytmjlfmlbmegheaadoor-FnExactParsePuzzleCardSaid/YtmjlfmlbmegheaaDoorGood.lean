
/-
  WHAT HEAPS ARE, BOTH WAYS: the program's AreHeaps, areWithin and the model's hpGood, l1All, l1In answer alike.
-/
import Derived.Test.YtmjlfmlbmegheaaDoorBase
import Derived.Test.YtmjlfmlbmegheaaDoorPlain
namespace Go.Proofs.YtmjlfmlbmegheaaDoor
open Go.RowKit Go.Deep

/-- The model's l1In. -/
theorem l1In_any (n lo hi : Int) (w : World) :
    Calls Tryd.prog 46 #[.int .i64 n, .int .i64 lo, .int .i64 hi] w fun e w' => e = .returned (.bool (decide (lo ≤ n ∧ n ≤ hi))) ∧ w = w' := by
  by_cases h1 : lo ≤ n
  · by_cases h2 : n ≤ hi
    all_goals
      go_enter Tryd.func46, Tryd.ntmps46
      go_wp2
      go_ret
      exact ⟨ret_bool (by simp; omega), rfl⟩
  · go_enter Tryd.func46, Tryd.ntmps46
    go_wp2
    go_ret
    exact ⟨ret_bool (by simp; omega), rfl⟩

theorem good_in {zs : List Int} (h : 1 ≤ zs.length ∧ zs.length ≤ 12) : good zs = within 0 1000 zs := by
  unfold good; simp [h]
theorem good_out {zs : List Int} (h : ¬ (1 ≤ zs.length ∧ zs.length ≤ 12)) : good zs = false := by
  unfold good; simp; omega

end Go.Proofs.YtmjlfmlbmegheaaDoor
