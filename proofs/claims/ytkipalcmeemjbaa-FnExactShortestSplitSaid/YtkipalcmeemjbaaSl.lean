
/-
  SPLITS, BOTH WAYS: heaps, rules, which splits of a heap can be made.
-/
import Derived.Test.YtkipalcmeemjbaaGood
import Derived.Test.YtkipalcmeemjbaaCopy
import Derived.Test.YtkipalcmeemjbaaMark
import Derived.Test.YtkipalcmeemjbaaOne
import Derived.Test.YtkipalcmeemjbaaSlQ
import Derived.Test.YtkipalcmeemjbaaBox
namespace Go.Proofs.Ytkipalcmeemjbaa
open Go.RowKit Go.Deep
set_option linter.unusedVariables false

theorem sgood_in {zs : List Int} (h : 1 ≤ zs.length ∧ zs.length ≤ 8) : sgood zs = within 1 60 zs := by unfold sgood; rw [decide_eq_true h]; rfl
theorem sgood_out {zs : List Int} (h : ¬ (1 ≤ zs.length ∧ zs.length ≤ 8)) : sgood zs = false := by unfold sgood; rw [decide_eq_false h]; rfl

theorem isSplitRule_any (r : Int) (w : World) :
    Calls Try.prog 19 #[.int .i64 r] w fun e w' => e = .returned (.bool (srule r)) ∧ w = w' := by
  by_cases h1 : 0 ≤ r
  · have HE := hide (show srule r = decide (r ≤ 2) from by unfold srule; simp [h1])
    go_enter Try.func19, Try.ntmps19
    go_wp2
    go_ret
    exact ⟨by rw [HE.out]; rfl, rfl⟩
  · have HE := hide (show srule r = false from by unfold srule; exact decide_eq_false (by omega))
    go_enter Try.func19, Try.ntmps19
    go_wp2
    go_ret
    exact ⟨by rw [HE.out]; rfl, rfl⟩

/-- One heap. -/
def sheap (h : Int) : Bool := decide (1 ≤ h ∧ h ≤ 60)
theorem isSplitHeap_any (h : Int) (w : World) :
    Calls Try.prog 28 #[.int .i64 h] w fun e w' => e = .returned (.bool (sheap h)) ∧ w = w' := by
  by_cases h1 : 1 ≤ h
  · have HE := hide (show sheap h = decide (h ≤ 60) from by unfold sheap; simp [h1])
    go_enter Try.func28, Try.ntmps28
    go_wp2
    go_ret
    exact ⟨by rw [HE.out]; rfl, rfl⟩
  · have HE := hide (show sheap h = false from by unfold sheap; exact decide_eq_false (by omega))
    go_enter Try.func28, Try.ntmps28
    go_wp2
    go_ret
    exact ⟨by rw [HE.out]; rfl, rfl⟩

/-- The least and the greatest part. -/
def leastP (r : Int) : Int := if r = 2 then 2 else 1
def mostP (r h : Int) : Int := if r = 0 then (h - 1) / 2 else h / 2
theorem scan_parts {r h p : Int} (hr : srule r = true) (hh : 1 ≤ h) : scan r h p = decide (leastP r ≤ p ∧ p ≤ mostP r h) := by
  have hr' := srule_of hr
  unfold scan leastP mostP
  refine decide_eq_decide.2 ?_
  split <;> split <;> omega

theorem tdiv2 (h : Int) (hh : 0 ≤ h) : h.tdiv 2 = h / 2 := Int.tdiv_eq_ediv_of_nonneg hh

theorem partsOf_any (r h : Int) (hr : srule r = true) (hh : 1 ≤ h) (h6 : h ≤ 60) (w : World) :
    Calls Try.prog 33 #[.int .i64 r, .int .i64 h] w fun e w' => e = .returned (.tuple #[.int .i64 (leastP r), .int .i64 (mostP r h)]) ∧ w = w' := by
  have hr' := srule_of hr
  have e1 : (h - 1).tdiv 2 = (h - 1) / 2 := Int.tdiv_eq_ediv_of_nonneg (by omega)
  have e2 : h.tdiv 2 = h / 2 := Int.tdiv_eq_ediv_of_nonneg (by omega)
  clear hr
  by_cases h0 : r = 0
  · subst h0
    have HE := hide (show leastP 0 = 1 ∧ mostP 0 h = (h - 1) / 2 from ⟨rfl, rfl⟩)
    clear hr'
    go_enter Try.func33, Try.ntmps33
    go_wp2
    go_ret2
    exact ⟨by rw [HE.out.1, HE.out.2]; rfl, rfl⟩
  · by_cases h2 : r = 2
    · subst h2
      have HE := hide (show leastP 2 = 2 ∧ mostP 2 h = h / 2 from ⟨rfl, rfl⟩)
      clear hr' h0
      go_enter Try.func33, Try.ntmps33
      go_wp2
      go_ret2
      exact ⟨by rw [HE.out.1, HE.out.2]; rfl, rfl⟩
    · obtain rfl : r = 1 := by omega
      have HE := hide (show leastP 1 = 1 ∧ mostP 1 h = h / 2 from ⟨rfl, rfl⟩)
      clear hr' h0 h2
      go_enter Try.func33, Try.ntmps33
      go_wp2
      go_ret2
      exact ⟨by rw [HE.out.1, HE.out.2]; rfl, rfl⟩

/-- The model's slCan. -/
theorem slCan_any (r h p : Int) (hr : srule r = true) (hh : 1 ≤ h) (h6 : h ≤ 60) (w : World) :
    Calls Try.prog 26 #[.int .i64 r, .int .i64 h, .int .i64 p] w fun e w' => e = .returned (.bool (scan r h p)) ∧ w = w' := by
  have hr' := srule_of hr
  have e2 : h.tdiv 2 = h / 2 := Int.tdiv_eq_ediv_of_nonneg (by omega)
  clear hr
  by_cases hp : 1 ≤ p
  · by_cases hq : p ≤ h / 2
    · by_cases h0 : r = 0
      · subst h0
        have HE := hide (show scan 0 h p = (2 * p != h) from by
          unfold scan
          by_cases e : 2 * p = h
          · rw [decide_eq_false (by omega)]; simp [e]
          · rw [decide_eq_true (by omega)]; simp [e])
        clear hr'
        go_enter Try.func26, Try.ntmps26
        go_wp2
        go_ret
        exact ⟨by rw [HE.out]; rfl, rfl⟩
      · by_cases h2 : r = 2
        · subst h2
          have HE := hide (show scan 2 h p = decide (1 < p) from by
            unfold scan
            by_cases e : 1 < p
            · rw [decide_eq_true (by omega), decide_eq_true e]
            · rw [decide_eq_false (by omega), decide_eq_false e])
          clear hr' h0
          go_enter Try.func26, Try.ntmps26
          go_wp2
          go_ret
          exact ⟨by rw [HE.out]; rfl, rfl⟩
        · obtain rfl : r = 1 := by omega
          have HE := hide (show scan 1 h p = true from decide_eq_true (by omega))
          clear hr' h0 h2
          go_enter Try.func26, Try.ntmps26
          go_wp2
          go_ret
          exact ⟨by rw [HE.out]; rfl, rfl⟩
    · have HE := hide (show scan r h p = false from decide_eq_false (by omega))
      go_enter Try.func26, Try.ntmps26
      go_wp2
      go_ret
      exact ⟨by rw [HE.out]; rfl, rfl⟩
  · have HE := hide (show scan r h p = false from decide_eq_false (by omega))
    go_enter Try.func26, Try.ntmps26
    go_wp2
    go_ret
    exact ⟨by rw [HE.out]; rfl, rfl⟩

end Go.Proofs.Ytkipalcmeemjbaa
