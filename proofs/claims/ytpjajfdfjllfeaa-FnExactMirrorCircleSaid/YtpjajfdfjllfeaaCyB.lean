
/-
  CANDIES, BOTH WAYS, THE SECOND PART: the model's cyStep, l1Same, cyRest; slices.Min, slices.Max, isLevel, isAtRest; MadeEven, IsResting.
-/
import Derived.Test.YtpjajfdfjllfeaaCy
import Derived.Test.YtpjajfdfjllfeaaFlows
namespace Go.Proofs.Ytpjajfdfjllfeaa
open Go.RowKit Go.Deep

theorem calm_evens {zs : List Int} {b : Int} (hb : b ≤ 999999) (h : within 0 b zs = true) : calm (evens zs) = true := within_of fun k hk => by
  have := within_get (evens_within h) k hk
  omega

theorem beq_false_at {zs ys : List Int} (k : Nat) (h1 : k < zs.length) (h2 : k < ys.length) (h : ¬ zs[k] = ys[k]) : (zs == ys) = false := by
  cases hc : zs == ys
  · rfl
  · have e : zs = ys := by simpa using hc
    subst e
    exact absurd rfl h
theorem beq_false_len {zs ys : List Int} (h : zs.length ≠ ys.length) : (zs == ys) = false := by
  cases hc : zs == ys
  · rfl
  · have e : zs = ys := by simpa using hc
    subst e
    exact absurd rfl h
theorem beq_true_of {zs ys : List Int} (hl : zs.length = ys.length) (h : ∀ (k : Nat) (h1 : k < zs.length) (h2 : k < ys.length), zs[k] = ys[k]) : (zs == ys) = true := by
  have e : zs = ys := List.ext_getElem hl h
  simp [e]

theorem level_eq (zs : List Int) : (mn zs == mx zs) = level zs := rfl
/-- What MadeEven tells. -/
def evenR (zs : List Int) : List Int := if cgood zs then evens zs else []
theorem evenR_short (zs : List Int) (h : zs.length ≤ 1048576) : (evenR zs).length ≤ 1048576 := by
  unfold evenR; split
  · rw [evens_length]; exact h
  · simp
theorem good_wide {zs : List Int} (h : cgood zs = true) : within 0 999999 zs = true := within_wide (cgood_of h).2.2 (by omega) (by omega)
theorem made1_R {zs ys : List Int} {w w' : World} {e : Ending} (hl : ys = zs) (h : Made1 zs w e w') : ∃ A c, e = .returned (.slice A ys.length c) ∧ ys.length ≤ c ∧ c ≤ maxLen ∧ Own w' w.heap.size 3 (.slice A ys.length c) ys ∧ Below w.heap.size w w' := by
  subst hl
  obtain ⟨g, c, rfl, _, _, h1, h2, h3, h4⟩ := h
  exact ⟨_, c, rfl, h1, h2, h3, h4⟩

/-- Are they candies at rest? -/
def restR (zs : List Int) : Bool := cgood zs && atRest zs

end Go.Proofs.Ytpjajfdfjllfeaa
