import Derived.Test.YtnakkmmmkbjfbaaMg01

/-
  ONE AMONG SO MANY: the program's isOneAmong.
-/
namespace Go.Proofs.Ytnakkmmmkbjfbaa
open Go.RowKit Go.Deep

/-- One among n. -/
def isOne (n p : Int) : Bool := decide (0 ≤ p ∧ p < n)
theorem isOne_yes {n p : Int} (h : 0 ≤ p ∧ p < n) : isOne n p = true := decide_eq_true h
theorem isOne_no {n p : Int} (h : ¬ (0 ≤ p ∧ p < n)) : isOne n p = false := decide_eq_false h

theorem isOneAmong_any (n p : Int) (w : World) :
    Calls Try.prog 61 #[.int .i64 n, .int .i64 p] w fun e w' => e = .returned (.bool (isOne n p)) ∧ w = w' := by
  by_cases h1 : 0 ≤ p
  · have e : isOne n p = decide (p < n) := by unfold isOne; simp [h1]
    have HE := hide e
    clear e
    go_enter Try.func61, Try.ntmps61
    go_wp2
    go_ret
    exact ⟨by rw [HE.out]; rfl, rfl⟩
  · have HE := hide (isOne_no (n := n) (p := p) (by omega))
    go_enter Try.func61, Try.ntmps61
    go_wp2
    go_ret
    exact ⟨by rw [HE.out]; rfl, rfl⟩
end Go.Proofs.Ytnakkmmmkbjfbaa

/-
  TWO AMONG SO MANY: the program's areTwoAmong.
-/
namespace Go.Proofs.Ytnakkmmmkbjfbaa
open Go.RowKit Go.Deep

/-- Two different ones among n. -/
def two (n f t : Int) : Bool := decide (0 ≤ f ∧ f < n ∧ 0 ≤ t ∧ t < n ∧ f ≠ t)
theorem two_yes {n f t : Int} (h : 0 ≤ f ∧ f < n ∧ 0 ≤ t ∧ t < n ∧ f ≠ t) : two n f t = true := decide_eq_true h
theorem two_no {n f t : Int} (h : ¬ (0 ≤ f ∧ f < n ∧ 0 ≤ t ∧ t < n ∧ f ≠ t)) : two n f t = false := decide_eq_false h
theorem two_bd {n f t : Int} (h : two n f t = true) : 0 ≤ f ∧ f < n ∧ 0 ≤ t ∧ t < n ∧ f ≠ t := of_decide_eq_true h

theorem areTwoAmong_any (n f t : Int) (w : World) :
    Calls Try.prog 60 #[.int .i64 n, .int .i64 f, .int .i64 t] w fun e w' => e = .returned (.bool (two n f t)) ∧ w = w' := by
  have HF := hide (isOneAmong_any n f)
  have HT := hide (isOneAmong_any n t)
  by_cases h1 : 0 ≤ f ∧ f < n
  · rw [isOne_yes h1] at HF
    by_cases h2 : 0 ≤ t ∧ t < n
    · rw [isOne_yes h2] at HT
      by_cases h5 : f = t
      · have h5' : (f != t) = false := by simpa using h5
        have H := hide (two_no (n := n) (f := f) (t := t) (by omega))
        clear h5
        go_enter Try.func60, Try.ntmps60
        go_wp2_with fail
        refine (HF.out _).mono ?_; rintro e w' ⟨rfl, rfl⟩
        go_wp2_with fail
        refine (HT.out _).mono ?_; rintro e w' ⟨rfl, rfl⟩
        go_wp2_with fail
        go_ret
        exact ⟨by rw [H.out]; rfl, rfl⟩
      · have h5' : (f != t) = true := by simpa using h5
        have H := hide (two_yes (n := n) (f := f) (t := t) (by omega))
        clear h5
        go_enter Try.func60, Try.ntmps60
        go_wp2_with fail
        refine (HF.out _).mono ?_; rintro e w' ⟨rfl, rfl⟩
        go_wp2_with fail
        refine (HT.out _).mono ?_; rintro e w' ⟨rfl, rfl⟩
        go_wp2_with fail
        go_ret
        exact ⟨by rw [H.out]; rfl, rfl⟩
    · rw [isOne_no h2] at HT
      have H := hide (two_no (n := n) (f := f) (t := t) (by omega))
      go_enter Try.func60, Try.ntmps60
      go_wp2_with fail
      refine (HF.out _).mono ?_; rintro e w' ⟨rfl, rfl⟩
      go_wp2_with fail
      refine (HT.out _).mono ?_; rintro e w' ⟨rfl, rfl⟩
      go_wp2_with fail
      go_ret
      exact ⟨by rw [H.out]; rfl, rfl⟩
  · rw [isOne_no h1] at HF
    have H := hide (two_no (n := n) (f := f) (t := t) (by omega))
    go_enter Try.func60, Try.ntmps60
    go_wp2_with fail
    refine (HF.out _).mono ?_; rintro e w' ⟨rfl, rfl⟩
    go_wp2_with fail
    go_ret
    exact ⟨by rw [H.out]; rfl, rfl⟩
end Go.Proofs.Ytnakkmmmkbjfbaa
