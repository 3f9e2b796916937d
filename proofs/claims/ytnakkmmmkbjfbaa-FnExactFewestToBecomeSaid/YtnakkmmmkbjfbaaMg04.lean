

/-
  PLAIN FACTS ON LISTS OF NUMBERS. No program is named here.
-/
namespace Go.Proofs.Ytnakkmmmkbjfbaa
/-- Numbers between two bounds. -/
def within (lo hi : Int) (zs : List Int) : Bool := zs.all fun n => decide (lo ≤ n ∧ n ≤ hi)
theorem within_get {lo hi : Int} {zs : List Int} (h : within lo hi zs = true) (k : Nat) (hk : k < zs.length) : lo ≤ zs[k] ∧ zs[k] ≤ hi := by
  unfold within at h
  have := List.all_eq_true.1 h zs[k] (List.getElem_mem hk)
  simpa using this
theorem within_of {lo hi : Int} {zs : List Int} (h : ∀ (k : Nat) (_ : k < zs.length), lo ≤ zs[k] ∧ zs[k] ≤ hi) : within lo hi zs = true := by
  unfold within
  rw [List.all_eq_true]
  intro x hx
  obtain ⟨k, hk, rfl⟩ := List.getElem_of_mem hx
  simpa using h k hk
theorem within_not {lo hi : Int} {zs : List Int} (k : Nat) (hk : k < zs.length) (h : ¬ (lo ≤ zs[k] ∧ zs[k] ≤ hi)) : within lo hi zs = false := by
  cases hw : within lo hi zs
  · rfl
  · exact absurd (within_get hw k hk) h
/-- Heaps. -/
def good (zs : List Int) : Bool := decide (1 ≤ zs.length ∧ zs.length ≤ 12) && within 0 1000 zs
theorem good_of {zs : List Int} (h : good zs = true) : 1 ≤ zs.length ∧ zs.length ≤ 12 ∧ within 0 1000 zs = true := by
  unfold good at h
  simp at h
  exact ⟨by omega, h.1.2, h.2⟩
theorem good_get {zs : List Int} (h : good zs = true) (k : Nat) (hk : k < zs.length) : 0 ≤ zs[k] ∧ zs[k] ≤ 1000 := within_get (good_of h).2.2 k hk
/-- The sum. -/
def tot : List Int → Int
  | [] => 0
  | x :: xs => x + tot xs
theorem tot_append (a b : List Int) : tot (a ++ b) = tot a + tot b := by
  induction a with
  | nil => simp [tot]
  | cons x xs ih => simp [tot, ih]; omega
theorem tot_take_succ (zs : List Int) (k : Nat) (hk : k < zs.length) : tot (zs.take (k + 1)) = tot (zs.take k) + zs[k] := by
  rw [List.take_succ_eq_append_getElem hk, tot_append]; simp [tot]
theorem tot_bd (lo hi : Int) (zs : List Int) (h : within lo hi zs = true) : lo * zs.length ≤ tot zs ∧ tot zs ≤ hi * zs.length := by
  induction zs with
  | nil => simp [tot]
  | cons x xs ih =>
    have h0 := within_get h 0 (by simp)
    have h1 : within lo hi xs = true := by unfold within at h ⊢; simp at h ⊢; exact h.2
    have := ih h1
    simp [tot, Int.mul_add] at *
    omega
end Go.Proofs.Ytnakkmmmkbjfbaa

/-
  FEW HEAPS AND DOUBLINGS, plainly. No program is named here.
-/
namespace Go.Proofs.Ytnakkmmmkbjfbaa

/-- The stones of heap k, -1 behind the last one. -/
def pd (zs : List Int) (k : Nat) : Int := zs.getD k (-1)
theorem pd_lt {zs : List Int} {k : Nat} (h : k < zs.length) : pd zs k = zs[k] := by simp [pd, List.getD, h]
theorem pd_ge {zs : List Int} {k : Nat} (h : zs.length ≤ k) : pd zs k = -1 := by simp [pd, List.getD, List.getElem?_eq_none h]

/-- A doubling that can be made. -/
def canD (zs : List Int) (f t : Int) : Bool := decide (0 ≤ f ∧ f < zs.length ∧ 0 ≤ t ∧ t < zs.length ∧ f ≠ t ∧ 0 < zs.getD t.toNat 0 ∧ zs.getD t.toNat 0 ≤ zs.getD f.toNat 0)
theorem canD_bd {zs : List Int} {f t : Int} (h : canD zs f t = true) : 0 ≤ f ∧ f < zs.length ∧ 0 ≤ t ∧ t < zs.length ∧ f ≠ t ∧ 0 < zs.getD t.toNat 0 ∧ zs.getD t.toNat 0 ≤ zs.getD f.toNat 0 := of_decide_eq_true h
theorem canD_yes {zs : List Int} {f t : Int} (h : 0 ≤ f ∧ f < zs.length ∧ 0 ≤ t ∧ t < zs.length ∧ f ≠ t ∧ 0 < zs.getD t.toNat 0 ∧ zs.getD t.toNat 0 ≤ zs.getD f.toNat 0) : canD zs f t = true := decide_eq_true h
theorem canD_no {zs : List Int} {f t : Int} (h : ¬ (0 ≤ f ∧ f < zs.length ∧ 0 ≤ t ∧ t < zs.length ∧ f ≠ t ∧ 0 < zs.getD t.toNat 0 ∧ zs.getD t.toNat 0 ≤ zs.getD f.toNat 0)) : canD zs f t = false := decide_eq_false h

/-- The heaps behind a doubling. -/
def dmade (i j : Nat) (zs : List Int) : List Int := (zs.set i (zs.getD i 0 - zs.getD j 0)).set j (2 * zs.getD j 0)
theorem dmade_length (i j : Nat) (zs : List Int) : (dmade i j zs).length = zs.length := by simp [dmade]

/-- What few heaps are. -/
def few (zs : List Int) : Bool := good zs && decide (2 ≤ zs.length ∧ zs.length ≤ 4) && decide (1 ≤ tot zs ∧ tot zs ≤ 40)
theorem few_no1 {zs : List Int} (h : good zs = false) : few zs = false := by unfold few; rw [h]; rfl
theorem few_no2 {zs : List Int} (h : ¬ (2 ≤ zs.length ∧ zs.length ≤ 4)) : few zs = false := by unfold few; rw [decide_eq_false h]; simp
theorem few_no3 {zs : List Int} (h : ¬ (1 ≤ tot zs ∧ tot zs ≤ 40)) : few zs = false := by unfold few; rw [decide_eq_false h]; simp
theorem few_yes {zs : List Int} (h1 : good zs = true) (h2 : 2 ≤ zs.length ∧ zs.length ≤ 4) (h3 : 1 ≤ tot zs ∧ tot zs ≤ 40) : few zs = true := by unfold few; rw [h1, decide_eq_true h2, decide_eq_true h3]; rfl
theorem tot_sum : ∀ zs : List Int, tot zs = zs.sum
  | [] => rfl
  | x :: xs => by have := tot_sum xs; simp [tot, this]

/-- All in 0..40, together at most 40. -/
def small (zs : List Int) : Prop := (∀ x ∈ zs, 0 ≤ x) ∧ zs.sum ≤ 40
theorem sum_nonneg : ∀ {zs : List Int}, (∀ x ∈ zs, (0 : Int) ≤ x) → 0 ≤ zs.sum
  | [], _ => by simp
  | x :: xs, h => by
    have h1 := h x (by simp)
    have h2 := sum_nonneg (zs := xs) (fun y hy => h y (by simp [hy]))
    simp; omega
theorem get_le_sum : ∀ {zs : List Int}, (∀ x ∈ zs, (0 : Int) ≤ x) → ∀ (k : Nat) (h : k < zs.length), zs[k] ≤ zs.sum
  | [], _, k, h => by simp at h
  | x :: xs, hx, 0, h => by
    have h2 := sum_nonneg (zs := xs) (fun y hy => hx y (by simp [hy]))
    simp; omega
  | x :: xs, hx, k + 1, h => by
    have h1 := hx x (by simp)
    have h2 := get_le_sum (zs := xs) (fun y hy => hx y (by simp [hy])) k (by simpa using h)
    simp; omega
theorem sum_set : ∀ (zs : List Int) (k : Nat) (h : k < zs.length) (v : Int), (zs.set k v).sum = zs.sum - zs[k] + v
  | [], k, h, _ => by simp at h
  | x :: xs, 0, _, v => by simp; omega
  | x :: xs, k + 1, h, v => by
    have := sum_set xs k (by simpa using h) v
    simp [this]; omega
theorem small_get {zs : List Int} (h : small zs) (k : Nat) (hk : k < zs.length) : 0 ≤ zs[k] ∧ zs[k] ≤ 40 := by
  have h1 := h.1 _ (List.getElem_mem hk)
  have h2 := get_le_sum h.1 k hk
  exact ⟨h1, by have := h.2; omega⟩
theorem getD_get {zs : List Int} {k : Nat} (h : k < zs.length) : zs.getD k 0 = zs[k] := by simp [List.getD, h]
theorem dmade_sum {i j : Nat} {zs : List Int} (hi : i < zs.length) (hj : j < zs.length) (hij : i ≠ j) : (dmade i j zs).sum = zs.sum := by
  unfold dmade
  rw [getD_get hi, getD_get hj, sum_set _ j (by simpa using hj), sum_set _ i hi]
  rw [List.getElem_set_ne hij]
  omega
theorem dmade_small {i j : Nat} {zs : List Int} (h : small zs) (hi : i < zs.length) (hj : j < zs.length) (hij : i ≠ j) (hle : zs[j] ≤ zs[i]) : small (dmade i j zs) := by
  refine ⟨fun x hx => ?_, by rw [dmade_sum hi hj hij]; exact h.2⟩
  have zi := small_get h i hi
  have zj := small_get h j hj
  unfold dmade at hx
  rw [getD_get hi, getD_get hj] at hx
  rcases List.mem_or_eq_of_mem_set hx with hx | rfl
  · rcases List.mem_or_eq_of_mem_set hx with hx | rfl
    · exact h.1 x hx
    · omega
  · omega
theorem few_small {zs : List Int} (h : few zs = true) : small zs ∧ 2 ≤ zs.length ∧ zs.length ≤ 4 ∧ good zs = true := by
  unfold few at h
  simp at h
  obtain ⟨⟨h1, h2, h3⟩, h4, h5⟩ := h
  exact ⟨⟨fun x hx => by obtain ⟨k, hk, rfl⟩ := List.getElem_of_mem hx; exact (good_get h1 k hk).1, by rw [← tot_sum]; exact h5⟩, h2, h3, h1⟩
end Go.Proofs.Ytnakkmmmkbjfbaa
