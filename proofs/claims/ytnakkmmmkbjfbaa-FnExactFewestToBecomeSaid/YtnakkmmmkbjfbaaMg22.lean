import Derived.Test.YtnakkmmmkbjfbaaMg04

/-
  PLAIN FACTS FOR CHAPTER 3: candies, made even, passed on, least and greatest numbers, rest. No program is named here.
-/
namespace Go.Proofs.Ytnakkmmmkbjfbaa

/-- Candies. -/
def cgood (zs : List Int) : Bool := decide (2 ≤ zs.length ∧ zs.length ≤ 12) && within 0 200 zs
theorem cgood_of {zs : List Int} (h : cgood zs = true) : 2 ≤ zs.length ∧ zs.length ≤ 12 ∧ within 0 200 zs = true := by
  unfold cgood at h
  simp at h
  exact ⟨by omega, h.1.2, h.2⟩
theorem cgood_in {zs : List Int} (h : 2 ≤ zs.length ∧ zs.length ≤ 12) : cgood zs = within 0 200 zs := by
  unfold cgood; simp [h]
theorem cgood_out {zs : List Int} (h : ¬ (2 ≤ zs.length ∧ zs.length ≤ 12)) : cgood zs = false := by
  unfold cgood; simp; omega
theorem cgood_get {zs : List Int} (h : cgood zs = true) (k : Nat) (hk : k < zs.length) : 0 ≤ zs[k] ∧ zs[k] ≤ 200 := within_get (cgood_of h).2.2 k hk

/-- Numbers of a modest size, none less than 0. -/
def calm (zs : List Int) : Bool := within 0 1000000 zs
theorem calm_get {zs : List Int} (h : calm zs = true) (k : Nat) (hk : k < zs.length) : 0 ≤ zs[k] ∧ zs[k] ≤ 1000000 := within_get h k hk
theorem calm_of_good {zs : List Int} (h : cgood zs = true) : calm zs = true := within_of fun k hk => by
  have := cgood_get h k hk
  omega

/-- One made even; all made even. -/
def ev1 (n : Int) : Int := n + n % 2
theorem ev1_bd {n b : Int} (h : 0 ≤ n ∧ n ≤ b) : 0 ≤ ev1 n ∧ ev1 n ≤ b + 1 := by unfold ev1; omega
def evens (zs : List Int) : List Int := zs.map ev1
theorem evens_length (zs : List Int) : (evens zs).length = zs.length := by simp [evens]
theorem evens_get (zs : List Int) (k : Nat) (hk : k < zs.length) : (evens zs)[k]'(by rw [evens_length]; exact hk) = ev1 zs[k] := by simp [evens]
theorem evens_take_succ (zs : List Int) (k : Nat) (hk : k < zs.length) : (evens zs).take (k + 1) = (evens zs).take k ++ [zs[k] + zs[k] % 2] := by
  rw [List.take_succ_eq_append_getElem (by rw [evens_length]; exact hk), evens_get zs k hk]; rfl
theorem evens_within {zs : List Int} {b : Int} (h : within 0 b zs = true) : within 0 (b + 1) (evens zs) = true := within_of fun k hk => by
  rw [evens_length] at hk
  rw [evens_get zs k hk]
  exact ev1_bd (within_get h k hk)

/-- Who is at the left of k in a circle of n. -/
def leftOf (k n : Nat) : Nat := (k + n - 1) % n
theorem leftOf_lt {k n : Nat} (h : k < n) : leftOf k n < n := Nat.mod_lt _ (by omega)
theorem leftOf_zero {n : Nat} (h : 0 < n) : leftOf 0 n = n - 1 := by unfold leftOf; rw [Nat.zero_add, Nat.mod_eq_of_lt (by omega)]
theorem leftOf_succ {k n : Nat} (h : k + 1 < n) : leftOf (k + 1) n = k := by
  unfold leftOf
  rw [show k + 1 + n - 1 = k + n from by omega, Nat.add_mod_right, Nat.mod_eq_of_lt (by omega)]
/-- Halves passed to the right. -/
def pass1 (es : List Int) (k : Nat) : Int := es.getD k 0 / 2 + es.getD (leftOf k es.length) 0 / 2
def pass (es : List Int) : List Int := (List.range es.length).map (pass1 es)
theorem pass_length (es : List Int) : (pass es).length = es.length := by simp [pass]
theorem pass_get (es : List Int) (k : Nat) (hk : k < es.length) : (pass es)[k]'(by rw [pass_length]; exact hk) = pass1 es k := by simp [pass]
theorem pass_take_succ (es : List Int) (k : Nat) (hk : k < es.length) : (pass es).take (k + 1) = (pass es).take k ++ [pass1 es k] := by
  rw [List.take_succ_eq_append_getElem (by rw [pass_length]; exact hk), pass_get es k hk]
theorem pass1_eq (es : List Int) (k : Nat) (hk : k < es.length) : pass1 es k = es[k] / 2 + (es[leftOf k es.length]'(leftOf_lt hk)) / 2 := by
  unfold pass1
  rw [getD_get hk, getD_get (leftOf_lt hk)]
/-- A step. -/
def cstep (zs : List Int) : List Int := pass (evens zs)
theorem cstep_length (zs : List Int) : (cstep zs).length = zs.length := by unfold cstep; rw [pass_length, evens_length]
theorem cstep_get (zs : List Int) (k : Nat) (hk : k < zs.length) :
    (cstep zs)[k]'(by rw [cstep_length]; exact hk) = ev1 zs[k] / 2 + ev1 (zs[leftOf k zs.length]'(leftOf_lt hk)) / 2 := by
  unfold cstep
  rw [pass_get _ k (by rw [evens_length]; exact hk), pass1_eq _ k (by rw [evens_length]; exact hk)]
  have h1 := evens_get zs k hk
  have h2 := evens_get zs (leftOf k zs.length) (leftOf_lt hk)
  simp only [evens_length]
  rw [h1, h2]
def crest (zs : List Int) : Bool := cstep zs == zs

/-- The least and the greatest number. -/
def mn (zs : List Int) : Int := zs.foldl min (zs.headD 0)
def mx (zs : List Int) : Int := zs.foldl max (zs.headD 0)
theorem headD_take (zs : List Int) (k : Nat) (h : 0 < k) : (zs.take k).headD 0 = zs.headD 0 := by
  cases zs with
  | nil => simp
  | cons x xs => cases k with
    | zero => omega
    | succ k => simp
theorem mn_one (zs : List Int) (h : 0 < zs.length) : mn (zs.take 1) = zs[0] := by
  cases zs with
  | nil => simp at h
  | cons x xs => simp [mn]
theorem mx_one (zs : List Int) (h : 0 < zs.length) : mx (zs.take 1) = zs[0] := by
  cases zs with
  | nil => simp at h
  | cons x xs => simp [mx]
theorem mn_take_succ (zs : List Int) (k : Nat) (h0 : 0 < k) (hk : k < zs.length) : mn (zs.take (k + 1)) = min (mn (zs.take k)) zs[k] := by
  unfold mn
  rw [headD_take _ _ (by omega), headD_take _ _ h0, List.take_succ_eq_append_getElem hk, List.foldl_append]; rfl
theorem mx_take_succ (zs : List Int) (k : Nat) (h0 : 0 < k) (hk : k < zs.length) : mx (zs.take (k + 1)) = max (mx (zs.take k)) zs[k] := by
  unfold mx
  rw [headD_take _ _ (by omega), headD_take _ _ h0, List.take_succ_eq_append_getElem hk, List.foldl_append]; rfl
theorem foldl_min_le (zs : List Int) (a : Int) : zs.foldl min a ≤ a ∧ (∀ z ∈ zs, zs.foldl min a ≤ z) ∧ (zs.foldl min a = a ∨ zs.foldl min a ∈ zs) := by
  induction zs generalizing a with
  | nil => simp
  | cons x xs ih =>
    obtain ⟨h1, h2, h3⟩ := ih (min a x)
    simp only [List.foldl_cons, List.mem_cons]
    refine ⟨by omega, fun z hz => ?_, ?_⟩
    · rcases hz with rfl | hz
      · omega
      · exact h2 z hz
    · rcases h3 with h3 | h3
      · rw [h3]
        rcases Int.le_total a x with h | h
        · left; omega
        · right; left; omega
      · exact .inr (.inr h3)
theorem foldl_max_le (zs : List Int) (a : Int) : a ≤ zs.foldl max a ∧ (∀ z ∈ zs, z ≤ zs.foldl max a) ∧ (zs.foldl max a = a ∨ zs.foldl max a ∈ zs) := by
  induction zs generalizing a with
  | nil => simp
  | cons x xs ih =>
    obtain ⟨h1, h2, h3⟩ := ih (max a x)
    simp only [List.foldl_cons, List.mem_cons]
    refine ⟨by omega, fun z hz => ?_, ?_⟩
    · rcases hz with rfl | hz
      · omega
      · exact h2 z hz
    · rcases h3 with h3 | h3
      · rw [h3]
        rcases Int.le_total a x with h | h
        · right; left; omega
        · left; omega
      · exact .inr (.inr h3)
theorem mn_le {zs : List Int} {z : Int} (h : z ∈ zs) : mn zs ≤ z := (foldl_min_le zs _).2.1 z h
theorem le_mx {zs : List Int} {z : Int} (h : z ∈ zs) : z ≤ mx zs := (foldl_max_le zs _).2.1 z h
theorem headD_mem {zs : List Int} (h : 0 < zs.length) : zs.headD 0 ∈ zs := by cases zs <;> simp at h ⊢
theorem mn_mem {zs : List Int} (h : 0 < zs.length) : mn zs ∈ zs := by
  rcases (foldl_min_le zs (zs.headD 0)).2.2 with h1 | h1
  · show zs.foldl min (zs.headD 0) ∈ zs
    rw [h1]; exact headD_mem h
  · exact h1
theorem mx_mem {zs : List Int} (h : 0 < zs.length) : mx zs ∈ zs := by
  rcases (foldl_max_le zs (zs.headD 0)).2.2 with h1 | h1
  · show zs.foldl max (zs.headD 0) ∈ zs
    rw [h1]; exact headD_mem h
  · exact h1
/-- All alike. -/
def level (zs : List Int) : Bool := mn zs == mx zs
def first (zs : List Int) : Int := zs.headD 0
def atRest (zs : List Int) : Bool := level zs && (first zs % 2 == 0)
theorem level_all {zs : List Int} (h : level zs = true) (z : Int) (hz : z ∈ zs) : z = first zs := by
  have h1 := mn_le hz
  have h2 := le_mx hz
  have h3 : 0 < zs.length := by
    cases zs with
    | nil => simp at hz
    | cons => simp
  have h4 := mn_le (headD_mem h3)
  have h5 := le_mx (headD_mem h3)
  unfold level at h
  simp at h
  unfold first
  omega
theorem level_of {zs : List Int} (h0 : 0 < zs.length) (c : Int) (h : ∀ z ∈ zs, z = c) : level zs = true := by
  unfold level
  rw [h _ (mn_mem h0), h _ (mx_mem h0)]
  simp
theorem rest_of_level {zs : List Int} (h : atRest zs = true) : cstep zs = zs := by
  unfold atRest at h
  simp only [Bool.and_eq_true, beq_iff_eq] at h
  apply List.ext_getElem
  · rw [cstep_length]
  · intro k h1 h2
    rw [cstep_get zs k h2, level_all h.1 _ (List.getElem_mem h2), level_all h.1 _ (List.getElem_mem (leftOf_lt h2))]
    have := h.2
    unfold ev1
    omega
theorem level_of_rest {zs : List Int} (h0 : 0 < zs.length) (h : cstep zs = zs) : atRest zs = true := by
  have hk : ∀ (k : Nat) (hk : k < zs.length), zs[k] = ev1 zs[k] / 2 + ev1 (zs[leftOf k zs.length]'(leftOf_lt hk)) / 2 := by
    intro k hk
    have := cstep_get zs k hk
    simp only [h] at this
    exact this
  have hm : ∀ (k : Nat) (hk : k < zs.length), mn zs ≤ zs[k] := fun k hk => mn_le (List.getElem_mem hk)
  obtain ⟨i, hi, hmi⟩ := List.getElem_of_mem (mn_mem h0)
  generalize mn zs = m at *
  -- the least number is even, and who is at its left has it too
  have hstep : ∀ (k : Nat) (hk' : k < zs.length), zs[k] = m → m % 2 = 0 ∧ zs[leftOf k zs.length]'(leftOf_lt hk') = m := by
    intro k hk' e
    have h1 := hk k hk'
    have h2 := hm _ (leftOf_lt hk')
    rw [e] at h1
    unfold ev1 at h1
    omega
  have hdown : ∀ (d k : Nat) (hk' : k + d < zs.length), zs[k + d] = m → zs[k]'(by omega) = m := by
    intro d
    induction d with
    | zero => intro k hk' e; exact e
    | succ d ih =>
      intro k hk' e
      refine ih k (by omega) ?_
      have h1 := (hstep _ hk' e).2
      have h2 : leftOf (k + (d + 1)) zs.length = k + d := leftOf_succ (k := k + d) hk'
      simp only [h2] at h1
      exact h1
  have hz : zs[0] = m := hdown i 0 (by omega) (by simpa using hmi)
  have hlast : zs[zs.length - 1]'(by omega) = m := by
    have h1 := (hstep 0 h0 hz).2
    simp only [leftOf_zero h0] at h1
    exact h1
  have hall : ∀ z ∈ zs, z = m := by
    intro z hz'
    obtain ⟨k, hk', rfl⟩ := List.getElem_of_mem hz'
    have e : k + (zs.length - 1 - k) = zs.length - 1 := by omega
    exact hdown (zs.length - 1 - k) k (by omega) (by simp only [e]; exact hlast)
  have he := (hstep 0 h0 hz).1
  unfold atRest
  rw [level_of h0 m hall, show first zs = m from by unfold first; rw [← hz]; cases zs <;> simp at h0 ⊢]
  simp [he]
theorem crest_eq {zs : List Int} (h0 : 0 < zs.length) : crest zs = atRest zs := by
  unfold crest
  rw [Bool.eq_iff_iff]
  constructor
  · intro h; exact level_of_rest h0 (by simpa using h)
  · intro h; simpa using rest_of_level h
theorem first_get {zs : List Int} (h : 0 < zs.length) : first zs = zs[0] := by cases zs <;> simp [first] at h ⊢
end Go.Proofs.Ytnakkmmmkbjfbaa
