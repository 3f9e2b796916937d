
/-
  SPLITS OF HEAPS, plainly: heaps, rules, which splits can be made, the heaps behind one. No program is named here.
-/
import Derived.Test.YtkipalcmeemjbaaWords
import Derived.Test.YtkipalcmeemjbaaPlain
namespace Go.Proofs.Ytkipalcmeemjbaa
set_option linter.unusedVariables false

/-- Heaps of a game. -/
def sgood (zs : List Int) : Bool := decide (1 ≤ zs.length ∧ zs.length ≤ 8) && within 1 60 zs
theorem sgood_of {zs : List Int} (h : sgood zs = true) : 1 ≤ zs.length ∧ zs.length ≤ 8 ∧ within 1 60 zs = true := by
  unfold sgood at h
  simp at h
  exact ⟨by omega, h.1.2, h.2⟩
def srule (r : Int) : Bool := decide (0 ≤ r ∧ r ≤ 2)
theorem srule_of {r : Int} (h : srule r = true) : 0 ≤ r ∧ r ≤ 2 := by unfold srule at h; simpa using h
def sask (r : Int) (zs : List Int) : Bool := srule r && sgood zs
theorem sask_of {r : Int} {zs : List Int} (h : sask r zs = true) : srule r = true ∧ sgood zs = true := by unfold sask at h; simpa using h
/-- A heap can be split so. -/
def scan (r h p : Int) : Bool := decide (1 ≤ p ∧ 2 * p ≤ h ∧ (r = 0 → 2 * p ≠ h) ∧ (r = 2 → 2 ≤ p))
theorem scan_of {r h p : Int} (h' : scan r h p = true) : 1 ≤ p ∧ 2 * p ≤ h ∧ (r = 0 → 2 * p ≠ h) ∧ (r = 2 → 2 ≤ p) := of_decide_eq_true h'
/-- The split of a heap with an index can be made. -/
def smay (r : Int) (zs : List Int) (i p : Int) : Bool := decide (0 ≤ i ∧ i < zs.length) && scan r (zs.getD i.toNat 0) p
theorem smay_of {r i p : Int} {zs : List Int} (h : smay r zs i p = true) : 0 ≤ i ∧ i < zs.length ∧ scan r (zs.getD i.toNat 0) p = true := by
  unfold smay at h
  simp at h
  exact ⟨h.1.1, h.1.2, by simpa using h.2⟩
theorem smay_out {r i p : Int} {zs : List Int} (h : ¬ (0 ≤ i ∧ i < zs.length)) : smay r zs i p = false := by
  unfold smay; rw [decide_eq_false h]; rfl
theorem smay_in {r i p : Int} {zs : List Int} (h : 0 ≤ i ∧ i < zs.length) : smay r zs i p = scan r (zs.getD i.toNat 0) p := by
  unfold smay; rw [decide_eq_true h]; rfl
/-- The heaps behind it. -/
def smade (i : Nat) (p : Int) (zs : List Int) : List Int := (zs ++ [p]).set i (zs.getD i 0 - p)
theorem smade_length (i : Nat) (p : Int) (zs : List Int) : (smade i p zs).length = zs.length + 1 := by simp [smade]
/-- Numbers of stones as they are on the way. -/
def sbd (zs : List Int) : Prop := within 1 60 zs = true
theorem smade_bd {r i p : Int} {zs : List Int} (hz : within 1 60 zs = true) (h : smay r zs i p = true) : within 1 60 (smade i.toNat p zs) = true := by
  obtain ⟨h1, h2, h3⟩ := smay_of h
  have h4 := scan_of h3
  have hi : i.toNat < zs.length := by omega
  have h5 := within_get hz i.toNat hi
  have e : zs.getD i.toNat 0 = zs[i.toNat] := by simp [List.getD, hi]
  rw [e] at h4
  refine within_of fun k hk => ?_
  rw [smade_length] at hk
  have e2 : (smade i.toNat p zs)[k]'(by rw [smade_length]; exact hk) = if i.toNat = k then zs[i.toNat] - p else (zs ++ [p])[k]'(by simp; omega) := by
    unfold smade
    simp only [List.getElem_set, e]
  rw [e2]
  split
  · omega
  · by_cases hkz : k < zs.length
    · rw [List.getElem_append_left hkz]; exact within_get hz k hkz
    · rw [List.getElem_append_right (by omega)]
      simp
      omega
/-- Pairs of stones: n (n - 1) / 2. -/
def spairs (n : Int) : Int := n * (n - 1) / 2
end Go.Proofs.Ytkipalcmeemjbaa
