
/-
  ONE AMONG SO MANY: the program's isOneAmong.
-/
import Derived.Test.YtnakkmmmkbjfbaaBase
namespace Go.Proofs.Ytnakkmmmkbjfbaa
open Go.RowKit Go.Deep

/-- One among n. -/
def isOne (n p : Int) : Bool := decide (0 ≤ p ∧ p < n)
theorem isOne_yes {n p : Int} (h : 0 ≤ p ∧ p < n) : isOne n p = true := decide_eq_true h
theorem isOne_no {n p : Int} (h : ¬ (0 ≤ p ∧ p < n)) : isOne n p = false := decide_eq_false h

theorem isOneAmong_any (n p : Int) (w : World) :
    Calls Try.prog 61 #[.int .i64 n, .int .i64 p] w fun e w' => e = .returned (.bool (isOne n p)) ∧ w = w' := by
  by_cases h1 : 0 ≤ p
  · have e : isOne n p = decide (p < n) := by unfold isOne; simp [h1]
    have HE := hide e
    clear e
    go_enter Try.func61, Try.ntmps61
    go_wp2
    go_ret
    exact ⟨by rw [HE.out]; rfl, rfl⟩
  · have HE := hide (isOne_no (n := n) (p := p) (by omega))
    go_enter Try.func61, Try.ntmps61
    go_wp2
    go_ret
    exact ⟨by rw [HE.out]; rfl, rfl⟩
end Go.Proofs.Ytnakkmmmkbjfbaa
