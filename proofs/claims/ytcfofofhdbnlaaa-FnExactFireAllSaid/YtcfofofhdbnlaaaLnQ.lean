
/-
  PLAIN FACTS ON FIRINGS IN AN ORDER, ON ALL THAT CAN FIRE AT ONCE. No program is named here.
-/
import Derived.Test.YtcfofofhdbnlaaaLnP
namespace Go.Proofs.Ytcfofofhdbnlaaa

/-- Whether a place can fire. -/
def ableAt (zs ts : List Int) (p : Int) : Bool := isAt p zs.length && decide (2 ≤ rowAt zs ts (p.toNat + 1))
theorem ableAt_no {zs ts : List Int} {p : Int} (h : isAt p zs.length = false) : ableAt zs ts p = false := by unfold ableAt; rw [h]; rfl
theorem ableAt_yes {zs ts : List Int} {k : Nat} (h : k < zs.length) : ableAt zs ts (k : Int) = decide (2 ≤ rowAt zs ts (k + 1)) := by
  unfold ableAt isAt
  rw [Int.toNat_natCast, decide_eq_true (show (0 : Int) ≤ (k : Int) ∧ (k : Int) < (zs.length : Int) by omega), Bool.true_and]
theorem isAt_of {p : Int} {n : Nat} (h : isAt p n = true) : ∃ k : Nat, p = (k : Int) ∧ k < n := by
  unfold isAt at h
  simp at h
  exact ⟨p.toNat, by omega, by omega⟩
theorem isAt_in {k n : Nat} (h : k < n) : isAt (k : Int) n = true := by unfold isAt; simp; exact h
theorem ableAt_of {zs ts : List Int} {p : Int} (h : ableAt zs ts p = true) : ∃ k : Nat, p = (k : Int) ∧ k < zs.length ∧ 2 ≤ rowAt zs ts (k + 1) := by
  unfold ableAt at h
  rw [Bool.and_eq_true] at h
  obtain ⟨k, rfl, hk⟩ := isAt_of h.1
  refine ⟨k, rfl, hk, ?_⟩
  have := h.2
  rw [Int.toNat_natCast] at this
  simpa using this

/-- How often a place has fired: never less than 0, at most so often. -/
def upto (ts : List Int) (m : Int) : Prop := ∀ j : Nat, 0 ≤ ts.getD j 0 ∧ ts.getD j 0 ≤ m
theorem upto_noF (n : Nat) (m : Int) (h : 0 ≤ m) : upto (noF n) m := fun j => by rw [noF_getD]; omega
theorem upto_more {ts : List Int} {m : Int} (h : upto ts m) (p : Nat) (hp : p < ts.length) : upto (more ts p 1) (m + 1) := fun j => by
  rw [more_getD _ _ _ _ hp]
  have := h j
  split <;> omega
theorem upto_le {ts : List Int} {m m' : Int} (h : upto ts m) (hm : m ≤ m') : upto ts m' := fun j => by have := h j; omega

/-- Numbers of a modest size. -/
def mild (xs : List Int) : Prop := ∀ j : Nat, -1000000000 ≤ xs.getD j 0 ∧ xs.getD j 0 ≤ 1000000000
theorem rowAt_bd {zs ts : List Int} {m : Int} (hg : hgood zs = true) (h : upto ts m) (q : Nat) : -(2 * m) ≤ rowAt zs ts q ∧ rowAt zs ts q ≤ 60 + 2 * m := by
  have hz : ∀ j : Nat, 0 ≤ zs.getD j 0 ∧ zs.getD j 0 ≤ 60 := fun j => by
    by_cases hj : j < zs.length
    · exact hgood_getD hg j hj
    · rw [getD_over _ _ (by omega)]; omega
  cases q with
  | zero => rw [rowAt_zero]; have := h 0; omega
  | succ q =>
    rw [rowAt_succ]
    have h1 := hz q
    have h2 := h q
    have h3 := h (q + 1)
    cases q with
    | zero => rw [getD_consz]; omega
    | succ q => rw [getD_cons0]; have h4 := h q; omega
theorem mild_line {zs ts : List Int} {m : Int} (hg : hgood zs = true) (h : upto ts m) (hm : m ≤ 100000000) : mild (lineL zs ts) := fun j => by
  have h0 := h 0
  have h20 := (hgood_of hg).2.1
  cases j with
  | zero => rw [show (lineL zs ts).getD 0 0 = (zs.length : Int) from rfl]; omega
  | succ q =>
    by_cases hq : q < 22
    · rw [lineL_getD_row _ _ _ hq]; have := rowAt_bd hg h q; omega
    · by_cases h3 : q < 42
      · obtain ⟨j, rfl⟩ : ∃ j, q = j + 22 := ⟨q - 22, by omega⟩
        rw [show j + 22 + 1 = j + 23 from rfl, lineL_getD_fir _ _ _ (by omega)]
        have := h j; omega
      · rw [getD_over _ _ (by rw [lineL_length]; omega)]; omega

/-- Places that fire in an order. -/
def runF (zs : List Int) : List Int → List Int → Option (List Int)
  | ts, [] => some ts
  | ts, p :: ps => if ableAt zs ts p then runF zs (more ts p.toNat 1) ps else none
theorem runF_nil (zs ts : List Int) : runF zs ts [] = some ts := rfl
theorem runF_yes {zs ts : List Int} {p : Int} {ps : List Int} (h : ableAt zs ts p = true) : runF zs ts (p :: ps) = runF zs (more ts p.toNat 1) ps := by
  rw [runF, if_pos h]
theorem runF_no {zs ts : List Int} {p : Int} {ps : List Int} (h : ableAt zs ts p = false) : runF zs ts (p :: ps) = none := by
  rw [runF, if_neg (by rw [h]; simp)]
theorem runF_drop {zs ts os : List Int} {k : Nat} (h : k < os.length) : runF zs ts (os.drop k) = runF zs ts (os.getD k 0 :: os.drop (k + 1)) := by
  rw [List.drop_eq_getElem_cons h, getD_ge h]
/-- What firings in an order lead to. -/
def orderF (zs os : List Int) : Option (List Int) := if hgood zs = true ∧ os.length ≤ 100 then runF zs (noF zs.length) os else none
theorem orderF_no {zs os : List Int} (h : ¬ (hgood zs = true ∧ os.length ≤ 100)) : orderF zs os = none := by unfold orderF; rw [if_neg h]
theorem orderF_yes {zs os : List Int} (h1 : hgood zs = true) (h2 : os.length ≤ 100) : orderF zs os = runF zs (noF zs.length) os := by unfold orderF; rw [if_pos ⟨h1, h2⟩]
theorem runF_len {zs : List Int} : ∀ (os ts us : List Int), runF zs ts os = some us → us.length = ts.length
  | [], ts, us, h => by rw [runF] at h; injection h with h; rw [h]
  | p :: ps, ts, us, h => by
    rw [runF] at h
    split at h
    · rw [runF_len ps _ _ h, more_length]
    · cases h
theorem runF_upto {zs : List Int} : ∀ (os ts us : List Int) (m : Int), ts.length = zs.length → upto ts m → runF zs ts os = some us → upto us (m + os.length)
  | [], ts, us, m, hl, hu, h => by rw [runF] at h; injection h with h; subst h; simpa using hu
  | p :: ps, ts, us, m, hl, hu, h => by
    rw [runF] at h
    split at h
    · rename_i ha
      obtain ⟨k, rfl, hk, _⟩ := ableAt_of ha
      rw [Int.toNat_natCast] at h
      have := runF_upto ps _ _ (m + 1) (by rw [more_length]; exact hl) (upto_more hu k (by omega)) h
      refine upto_le this ?_
      simp
      omega
    · cases h

/-- Firings upon firings. -/
def plus (ts us : List Int) : List Int := (List.range ts.length).map fun i => ts.getD i 0 + us.getD i 0
theorem plus_length (ts us : List Int) : (plus ts us).length = ts.length := by simp [plus]
theorem plus_getD (ts us : List Int) (j : Nat) (h : us.length = ts.length) : (plus ts us).getD j 0 = ts.getD j 0 + us.getD j 0 := by
  by_cases hj : j < ts.length
  · unfold plus
    simp only [List.getD]
    rw [List.getElem?_map, List.getElem?_range hj]; rfl
  · rw [getD_over _ _ (by rw [plus_length]; omega), getD_over _ _ (by omega), getD_over _ _ (by omega)]; rfl
theorem cons_plus (ts us : List Int) (j : Nat) (h : us.length = ts.length) : (0 :: plus ts us : List Int).getD j 0 = (0 :: ts : List Int).getD j 0 + (0 :: us : List Int).getD j 0 := by
  cases j with
  | zero => rfl
  | succ j => rw [getD_cons0, getD_cons0, getD_cons0, plus_getD _ _ _ h]
theorem chipsOf_chipsOf (zs ts us : List Int) (h1 : ts.length = zs.length) (h2 : us.length = zs.length) : chipsOf (chipsOf zs ts) us = chipsOf zs (plus ts us) := by
  refine list_ext_getD (by rw [chipsOf_length, chipsOf_length, chipsOf_length]) fun j hj => ?_
  rw [chipsOf_length, chipsOf_length] at hj
  rw [chipsOf_getD _ _ _ (by rw [chipsOf_length]; exact hj), chipsOf_getD _ _ _ hj, rowAt_succ, rowAt_succ, chipsOf_getD _ _ _ hj, rowAt_succ,
    plus_getD _ _ _ (by omega), plus_getD _ _ _ (by omega), cons_plus _ _ _ (by omega)]
  omega
/-- One place fires once. -/
def once (n p : Nat) : List Int := (noF n).set p 1
theorem once_length (n p : Nat) : (once n p).length = n := by simp [once, noF]
theorem once_more (n p : Nat) : once n p = more (noF n) p 1 := by unfold once more; rw [noF_getD]; rfl
theorem plus_once (ts : List Int) (p : Nat) (hp : p < ts.length) : plus ts (once ts.length p) = more ts p 1 := by
  refine list_ext_getD (by rw [plus_length, more_length]) fun j hj => ?_
  rw [plus_getD _ _ _ (by rw [once_length]), more_getD _ _ _ _ hp, once_more, more_getD _ _ _ _ (by rw [noF_length]; exact hp), noF_getD]
  omega
end Go.Proofs.Ytcfofofhdbnlaaa
