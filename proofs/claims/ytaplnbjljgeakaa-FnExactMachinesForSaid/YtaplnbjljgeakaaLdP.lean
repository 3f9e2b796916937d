
/-
  PLAIN FACTS FOR CHAPTER 6: jobs, plans, loads, ends. No program is named here.
-/
import Derived.Test.YtaplnbjljgeakaaPlainB
namespace Go.Proofs.Ytaplnbjljgeakaa

theorem getD_at {l : List Int} {k : Nat} (h : k < l.length) : l.getD k 0 = l[k] := by simp [List.getD, List.getElem?_eq_getElem h]
/-- Jobs. -/
def jgood (zs : List Int) : Bool := decide (1 ≤ zs.length ∧ zs.length ≤ 9) && within 1 1000 zs
theorem jgood_of {zs : List Int} (h : jgood zs = true) : 1 ≤ zs.length ∧ zs.length ≤ 9 ∧ within 1 1000 zs = true := by
  unfold jgood at h; simp at h; exact ⟨by omega, h.1.2, h.2⟩
theorem jgood_in {zs : List Int} (h : 1 ≤ zs.length ∧ zs.length ≤ 9) : jgood zs = within 1 1000 zs := by unfold jgood; simp [h]
theorem jgood_out {zs : List Int} (h : ¬ (1 ≤ zs.length ∧ zs.length ≤ 9)) : jgood zs = false := by unfold jgood; simp; omega
theorem jgood_get {zs : List Int} (h : jgood zs = true) (k : Nat) (hk : k < zs.length) : 1 ≤ zs[k] ∧ zs[k] ≤ 1000 := within_get (jgood_of h).2.2 k hk
theorem jgood_small {zs : List Int} (h : jgood zs = true) : within (-1000000000) 1000000000 zs = true := within_wide (jgood_of h).2.2 (by omega) (by omega)
theorem jgood_tot {zs : List Int} (h : jgood zs = true) : 1 ≤ tot zs ∧ tot zs ≤ 9000 := by
  obtain ⟨h1, h2, h3⟩ := jgood_of h
  have := tot_bd _ _ _ h3
  omega
/-- Jobs and machines. -/
def jask (zs : List Int) (m : Int) : Bool := jgood zs && decide (1 ≤ m ∧ m ≤ 4)
theorem jask_of {zs : List Int} {m : Int} (h : jask zs m = true) : jgood zs = true ∧ 1 ≤ m ∧ m ≤ 4 := by unfold jask at h; simpa using h
theorem jask_in {zs : List Int} {m : Int} (h : 1 ≤ m ∧ m ≤ 4) : jask zs m = jgood zs := by unfold jask; simp [h]
theorem jask_no {zs : List Int} {m : Int} (h : jgood zs = false) : jask zs m = false := by unfold jask; simp [h]
theorem jask_yes {zs : List Int} {m : Int} (h : jgood zs = true) : jask zs m = decide (1 ≤ m ∧ m ≤ 4) := by unfold jask; simp [h]
/-- A plan of them. -/
def jfit (zs : List Int) (m : Int) (ps : List Int) : Bool := decide (ps.length = zs.length) && within 0 (m - 1) ps
theorem jfit_of {zs ps : List Int} {m : Int} (h : jfit zs m ps = true) : ps.length = zs.length ∧ within 0 (m - 1) ps = true := by unfold jfit at h; simpa using h
def jboth (zs : List Int) (m : Int) (ps : List Int) : Bool := jask zs m && jfit zs m ps
theorem jboth_of {zs ps : List Int} {m : Int} (h : jboth zs m ps = true) : jask zs m = true ∧ jfit zs m ps = true := by unfold jboth at h; simpa using h
theorem jboth_no {zs ps : List Int} {m : Int} (h : jask zs m = false) : jboth zs m ps = false := by unfold jboth; simp [h]
theorem jboth_yes {zs ps : List Int} {m : Int} (h : jask zs m = true) : jboth zs m ps = jfit zs m ps := by unfold jboth; simp [h]

/-- The i-th one becomes greater by v. -/
def addTo (l : List Int) (i : Nat) (v : Int) : List Int := l.set i (l.getD i 0 + v)
theorem addTo_length (l : List Int) (i : Nat) (v : Int) : (addTo l i v).length = l.length := by simp [addTo]
/-- The loads behind the first k jobs. -/
def loadsZ (zs ps : List Int) (m : Nat) : Nat → List Int
  | 0 => List.replicate m 0
  | k + 1 => addTo (loadsZ zs ps m k) (ps.getD k 0).toNat (zs.getD k 0)
theorem loadsZ_length (zs ps : List Int) (m k : Nat) : (loadsZ zs ps m k).length = m := by
  induction k with
  | zero => simp [loadsZ]
  | succ k ih => simp [loadsZ, addTo_length, ih]
theorem within_set {lo hi : Int} {zs : List Int} (h : within lo hi zs = true) (i : Nat) (v : Int) (hv : lo ≤ v ∧ v ≤ hi) : within lo hi (zs.set i v) = true := by
  refine within_of fun k hk => ?_
  rw [List.getElem_set]
  split
  · exact hv
  · exact within_get h k (by simpa using hk)
theorem loadsZ_bd {zs : List Int} (ps : List Int) (m k : Nat) (h : within 0 1000 zs = true) : within 0 (1000 * k) (loadsZ zs ps m k) = true := by
  induction k with
  | zero =>
    refine within_of fun i hi => ?_
    simp [loadsZ]
  | succ k ih =>
    have hz : 0 ≤ zs.getD k 0 ∧ zs.getD k 0 ≤ 1000 := by
      by_cases hk : k < zs.length
      · rw [show zs.getD k 0 = zs[k] from by simp [List.getD, List.getElem?_eq_getElem hk]]; exact within_get h k hk
      · rw [show zs.getD k 0 = 0 from by simp [List.getD, List.getElem?_eq_none (by omega : zs.length ≤ k)]]; omega
    unfold loadsZ addTo
    by_cases hi : (ps.getD k 0).toNat < (loadsZ zs ps m k).length
    · refine within_set (within_wide ih (by omega) (by omega)) _ _ ?_
      have := within_get ih _ hi
      rw [getD_at hi]
      omega
    · rw [List.set_eq_of_length_le (by omega)]
      exact within_wide ih (by omega) (by omega)
/-- All loads. -/
def loadsA (zs ps : List Int) (m : Nat) : List Int := loadsZ zs ps m ps.length
def loadsR (zs : List Int) (m : Int) (ps : List Int) : List Int := if jboth zs m ps then loadsA zs ps m.toNat else []
theorem loadsR_yes {zs ps : List Int} {m : Int} (h : jboth zs m ps = true) : loadsR zs m ps = loadsA zs ps m.toNat := by simp [loadsR, h]
theorem loadsR_no {zs ps : List Int} {m : Int} (h : jboth zs m ps = false) : loadsR zs m ps = [] := by simp [loadsR, h]
theorem loadsA_length (zs ps : List Int) (m : Nat) : (loadsA zs ps m).length = m := loadsZ_length _ _ _ _
theorem jboth_m {zs ps : List Int} {m : Int} (h : jboth zs m ps = true) : 1 ≤ m ∧ m ≤ 4 := (jask_of (jboth_of h).1).2
theorem loadsR_short (zs : List Int) (m : Int) (ps : List Int) : (loadsR zs m ps).length ≤ 1048576 := by
  cases h : jboth zs m ps
  · rw [loadsR_no h]; simp
  · rw [loadsR_yes h, loadsA_length]; have := jboth_m h; omega
theorem loadsA_bd {zs ps : List Int} {m : Int} (h : jboth zs m ps = true) (k : Nat) : within 0 9000 (loadsA zs ps k) = true := by
  obtain ⟨h1, h2⟩ := jboth_of h
  have h3 := (jgood_of (jask_of h1).1)
  refine within_wide (loadsZ_bd ps k ps.length (within_wide h3.2.2 (by omega) (by omega))) (by omega) ?_
  have := (jfit_of h2).1
  omega
end Go.Proofs.Ytaplnbjljgeakaa
