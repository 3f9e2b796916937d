
/-
  PLAIN FACTS ON ROUNDS: how often all that can fire do so until rest. No program is named here.
-/
import Derived.Test.YtcfofofhdbnlaaaLnV
namespace Go.Proofs.Ytcfofofhdbnlaaa

/-- The firings behind so many rounds. -/
def seqF (zs : List Int) : Nat → List Int
  | 0 => noF zs.length
  | r + 1 => plus (seqF zs r) (readyF zs (seqF zs r))
theorem seqF_length (zs : List Int) (r : Nat) : (seqF zs r).length = zs.length := by
  induction r with
  | zero => exact noF_length _
  | succ r ih => unfold seqF; rw [plus_length]; exact ih
def restAt (zs : List Int) (r : Nat) : Bool := rested (chipsOf zs (seqF zs r))
theorem seqF_getD (zs : List Int) (r j : Nat) : (seqF zs (r + 1)).getD j 0 = (seqF zs r).getD j 0 + (readyF zs (seqF zs r)).getD j 0 := by
  show (plus (seqF zs r) (readyF zs (seqF zs r))).getD j 0 = _
  rw [plus_getD _ _ _ (by rw [readyF_length, seqF_length])]
theorem chips_next (zs : List Int) (r : Nat) : chipsOf (chipsOf zs (seqF zs r)) (readyF zs (seqF zs r)) = chipsOf zs (seqF zs (r + 1)) :=
  chipsOf_chipsOf zs _ _ (seqF_length _ _) (by rw [readyF_length])

/-- No place has less than none. -/
theorem seq_pos {zs : List Int} (hg : hgood zs = true) : ∀ (r j : Nat), 0 ≤ (chipsOf zs (seqF zs r)).getD j 0
  | 0, j => by
    show 0 ≤ (chipsOf zs (noF zs.length)).getD j 0
    rw [chipsOf_noF]
    by_cases hj : j < zs.length
    · exact (hgood_getD hg j hj).1
    · rw [getD_over _ _ (by omega)]; omega
  | r + 1, j => by
    by_cases hj : j < zs.length
    · rw [← chips_next, chipsOf_getD _ _ _ (by rw [chipsOf_length]; exact hj), rowAt_succ]
      have ih := seq_pos hg r j
      have h1 : (readyF zs (seqF zs r)).getD j 0 = if 1 < (chipsOf zs (seqF zs r)).getD j 0 then 1 else 0 := readyL_getD _ _
      have hu : upto (readyF zs (seqF zs r)) 1 := readyL_upto _
      have h2 := hu (j + 1)
      have h3 : 0 ≤ (0 :: readyF zs (seqF zs r) : List Int).getD j 0 := by
        cases j with
        | zero => exact Int.le_refl _
        | succ j => rw [getD_cons0]; exact (hu j).1
      generalize (readyF zs (seqF zs r)).getD j 0 = a at *
      generalize (chipsOf zs (seqF zs r)).getD j 0 = c at *
      split at h1 <;> omega
    · rw [getD_over _ _ (by rw [chipsOf_length]; omega)]; omega

/-- Sums of the first. -/
def sumTo (f : Nat → Int) : Nat → Int
  | 0 => 0
  | k + 1 => sumTo f k + f k
theorem sumTo_le (f g : Nat → Int) (k : Nat) (h : ∀ j, j < k → f j ≤ g j) : sumTo f k ≤ sumTo g k := by
  induction k with
  | zero => exact Int.le_refl _
  | succ k ih => unfold sumTo; have h1 := ih (fun j hj => h j (by omega)); have h2 := h k (by omega); omega
theorem sumTo_lt (f g : Nat → Int) (k j : Nat) (h : ∀ j, j < k → f j ≤ g j) (hj : j < k) (hs : f j < g j) : sumTo f k < sumTo g k := by
  induction k with
  | zero => omega
  | succ k ih =>
    unfold sumTo
    by_cases e : j = k
    · subst e; have := sumTo_le f g j (fun i hi => h i (by omega)); omega
    · have h1 := ih (fun i hi => h i (by omega)) (by omega); have h2 := h k (by omega); omega
theorem sumTo_ge (f : Nat → Int) (k j : Nat) (h : ∀ j, j < k → 0 ≤ f j) (hj : j < k) : f j ≤ sumTo f k := by
  induction k with
  | zero => omega
  | succ k ih =>
    have hp : 0 ≤ sumTo f k := by
      have := sumTo_le (fun _ => 0) f k (fun i hi => h i (by omega))
      have hz : sumTo (fun _ => 0) k = 0 := by
        clear this ih h hj
        induction k with
        | zero => rfl
        | succ k ih => unfold sumTo; rw [ih]; rfl
      omega
    unfold sumTo
    by_cases e : j = k
    · subst e; omega
    · have h1 := ih (fun i hi => h i (by omega)) (by omega); have h2 := h k (by omega); omega
/-- How heavy a place is: least at the ends. -/
def wt (n : Nat) (j : Nat) : Int := ((j : Int) + 1) * ((n : Int) - (j : Int))
theorem wt_step (n j : Nat) : wt n (j + 2) + wt n j = 2 * wt n (j + 1) - 2 := by
  unfold wt
  push_cast
  simp only [Int.add_mul, Int.mul_sub, Int.mul_add, Int.sub_mul, Int.mul_one, Int.one_mul]
  omega
theorem wt_first (n : Nat) : wt n 1 = 2 * wt n 0 - 2 := by
  unfold wt; push_cast; omega
/-- The weight of the chips: each firing makes it less by 2. -/
theorem weight (zs ts : List Int) (n : Nat) : ∀ k : Nat, sumTo (fun j => wt n j * rowAt zs ts (j + 1)) (k + 1) =
    sumTo (fun j => wt n j * zs.getD j 0) (k + 1) - 2 * sumTo (fun j => ts.getD j 0) (k + 1) + (wt n k * ts.getD (k + 1) 0 - wt n (k + 1) * ts.getD k 0)
  | 0 => by
    have h1 := congrArg (· * ts.getD 0 0) (wt_first n)
    simp only [Int.sub_mul, Int.mul_assoc] at h1
    simp only [sumTo, rowAt_succ, getD_consz, Nat.zero_add, Int.mul_add, Int.mul_sub, Int.mul_zero]
    rw [Int.mul_left_comm (wt n 0) 2 (ts.getD 0 0)]
    omega
  | k + 1 => by
    have ih := weight zs ts n k
    have h1 := congrArg (· * ts.getD (k + 1) 0) (wt_step n k)
    simp only [Int.add_mul, Int.sub_mul, Int.mul_assoc] at h1
    have e1 : sumTo (fun j => wt n j * rowAt zs ts (j + 1)) (k + 1 + 1) = sumTo (fun j => wt n j * rowAt zs ts (j + 1)) (k + 1) + wt n (k + 1) * rowAt zs ts (k + 1 + 1) := rfl
    have e2 : sumTo (fun j => wt n j * zs.getD j 0) (k + 1 + 1) = sumTo (fun j => wt n j * zs.getD j 0) (k + 1) + wt n (k + 1) * zs.getD (k + 1) 0 := rfl
    have e3 : sumTo (fun j => ts.getD j 0) (k + 1 + 1) = sumTo (fun j => ts.getD j 0) (k + 1) + ts.getD (k + 1) 0 := rfl
    rw [e1, e2, e3, ih, rowAt_succ, getD_cons0, Int.mul_add, Int.mul_add, Int.mul_sub, Int.mul_left_comm (wt n (k + 1)) 2 (ts.getD (k + 1) 0)]
    simp only [show k + 1 + 1 = k + 2 from rfl] at *
    omega

/-- So many firings at most. -/
theorem wt_pos {n j : Nat} (h : j < n) : 0 ≤ wt n j := by unfold wt; exact Int.mul_nonneg (by omega) (by omega)
theorem wt_small : ∀ n : Fin 21, ∀ j : Fin 21, j.val < n.val → wt n.val j.val ≤ 110 := by decide +kernel
theorem sum_bd {zs : List Int} (hg : hgood zs = true) (r : Nat) : sumTo (fun j => (seqF zs r).getD j 0) zs.length ≤ 66000 := by
  obtain ⟨h1, h20, _⟩ := hgood_of hg
  obtain ⟨k, hk⟩ : ∃ k, zs.length = k + 1 := ⟨zs.length - 1, by omega⟩
  have hw := weight zs (seqF zs r) zs.length k
  have hz : wt zs.length (k + 1) = 0 := by unfold wt; rw [hk]; push_cast; simp
  have he : (seqF zs r).getD (k + 1) 0 = 0 := getD_over _ _ (by rw [seqF_length]; omega)
  rw [hz, he, ← hk] at hw
  have hp : 0 ≤ sumTo (fun j => wt zs.length j * rowAt zs (seqF zs r) (j + 1)) zs.length := by
    have h0 : sumTo (fun _ => 0) zs.length = 0 := by
      generalize zs.length = n
      induction n with
      | zero => rfl
      | succ n ih => unfold sumTo; rw [ih]; rfl
    have := sumTo_le (fun _ => 0) (fun j => wt zs.length j * rowAt zs (seqF zs r) (j + 1)) zs.length (fun j hj => by
      have hc := seq_pos hg r j
      rw [chipsOf_getD _ _ _ hj] at hc
      exact Int.mul_nonneg (wt_pos hj) hc)
    omega
  have hs : sumTo (fun j => wt zs.length j * zs.getD j 0) zs.length ≤ 132000 := by
    have h0 : ∀ n : Nat, sumTo (fun _ => 6600) n = 6600 * (n : Int) := fun n => by
      induction n with
      | zero => rfl
      | succ n ih => unfold sumTo; rw [ih]; push_cast; omega
    have := sumTo_le (fun j => wt zs.length j * zs.getD j 0) (fun _ => 6600) zs.length (fun j hj => by
      have hc := hgood_getD hg j hj
      have hw1 := wt_pos hj
      have hw2 := wt_small ⟨zs.length, by omega⟩ ⟨j, by omega⟩ hj
      simp only at hw2
      exact Int.le_trans (Int.mul_le_mul hw2 hc.2 hc.1 (by omega)) (by omega))
    rw [h0] at this
    omega
  simp only [Int.mul_zero, Int.zero_mul, Int.sub_zero] at hw
  omega
theorem seq_ready_pos (zs : List Int) (r j : Nat) : 0 ≤ (readyF zs (seqF zs r)).getD j 0 := (readyL_upto _ j).1
theorem seq_upto {zs : List Int} (hg : hgood zs = true) (r : Nat) : upto (seqF zs r) 66000 := fun j => by
  have hpos : ∀ (r j : Nat), 0 ≤ (seqF zs r).getD j 0 := fun r => by
    induction r with
    | zero => intro j; show 0 ≤ (noF zs.length).getD j 0; rw [noF_getD]; exact Int.le_refl _
    | succ r ih => intro j; rw [seqF_getD]; have h1 := ih j; have h2 := seq_ready_pos zs r j; omega
  refine ⟨hpos r j, ?_⟩
  by_cases hj : j < zs.length
  · exact Int.le_trans (sumTo_ge (fun j => (seqF zs r).getD j 0) zs.length j (fun i _ => hpos r i) hj) (sum_bd hg r)
  · rw [getD_over _ _ (by rw [seqF_length]; omega)]; omega
theorem rested_find {ys : List Int} (h : rested ys = false) : ∃ j, j < ys.length ∧ 1 < ys.getD j 0 := by
  cases e : decide (∃ j : Fin ys.length, 1 < ys.getD j.val 0) with
  | true => obtain ⟨j, hj⟩ := of_decide_eq_true e; exact ⟨j.val, j.isLt, hj⟩
  | false =>
    have hn := of_decide_eq_false e
    have := rested_of (zs := ys) (fun k hk => by
      by_cases h2 : ys.getD k 0 ≤ 1
      · exact h2
      · exact absurd ⟨⟨k, hk⟩, by simpa using (show 1 < ys.getD k 0 by omega)⟩ hn)
    rw [h] at this; cases this
theorem sum_grows {zs : List Int} (r : Nat) (h : restAt zs r = false) : sumTo (fun j => (seqF zs r).getD j 0) zs.length < sumTo (fun j => (seqF zs (r + 1)).getD j 0) zs.length := by
  obtain ⟨j, hj, h1⟩ := rested_find h
  rw [chipsOf_length] at hj
  refine sumTo_lt _ _ _ j (fun i _ => ?_) hj ?_
  · show (seqF zs r).getD i 0 ≤ (seqF zs (r + 1)).getD i 0
    rw [seqF_getD]; have := seq_ready_pos zs r i; omega
  · show (seqF zs r).getD j 0 < (seqF zs (r + 1)).getD j 0
    rw [seqF_getD]
    have h2 : (readyF zs (seqF zs r)).getD j 0 = 1 := by rw [show readyF zs (seqF zs r) = readyL (chipsOf zs (seqF zs r)) from rfl, readyL_getD, if_pos h1]
    omega
/-- Rest is come to. -/
theorem rounds_le {zs : List Int} (hg : hgood zs = true) (r : Nat) (h : ∀ i, i < r → restAt zs i = false) : (r : Int) ≤ sumTo (fun j => (seqF zs r).getD j 0) zs.length := by
  induction r with
  | zero =>
    have h0 : ∀ n : Nat, sumTo (fun j => (noF zs.length).getD j 0) n = 0 := fun n => by
      induction n with
      | zero => rfl
      | succ n ih => unfold sumTo; rw [ih, noF_getD]; rfl
    show (0 : Int) ≤ sumTo (fun j => (noF zs.length).getD j 0) zs.length
    rw [h0]; exact Int.le_refl _
  | succ r ih =>
    have h1 := ih (fun i hi => h i (by omega))
    have h2 := sum_grows r (h r (by omega))
    push_cast
    omega
theorem rounds_bd {zs : List Int} (hg : hgood zs = true) (r : Nat) (h : ∀ i, i < r → restAt zs i = false) : r ≤ 66000 := by
  have h1 := rounds_le hg r h
  have h2 := sum_bd hg r
  omega
/-- How often all fire until rest. -/
def rndFrom (zs : List Int) : Nat → Nat → Nat
  | 0, r => r
  | f + 1, r => if restAt zs r then r else rndFrom zs f (r + 1)
def rounds (zs : List Int) : Nat := rndFrom zs 66001 0
theorem rndFrom_of (zs : List Int) (R : Nat) (hR : restAt zs R = true) : ∀ (f r : Nat), R - r ≤ f → r ≤ R → (∀ i, r ≤ i → i < R → restAt zs i = false) → rndFrom zs f r = R
  | 0, r, h1, h2, _ => by rw [rndFrom]; omega
  | f + 1, r, h1, h2, h3 => by
    rw [rndFrom]
    by_cases e : r = R
    · subst e; rw [if_pos hR]
    · rw [if_neg (by rw [h3 r (Nat.le_refl _) (by omega)]; simp)]
      exact rndFrom_of zs R hR f (r + 1) (by omega) (by omega) (fun i h4 h5 => h3 i (by omega) h5)
theorem rounds_of {zs : List Int} (hg : hgood zs = true) (r : Nat) (hr : restAt zs r = true) (h : ∀ i, i < r → restAt zs i = false) : rounds zs = r :=
  rndFrom_of zs r hr _ 0 (by have := rounds_bd hg r h; omega) (Nat.zero_le _) (fun i _ hi => h i hi)
def roundsN (zs : List Int) : Int := if hgood zs then (rounds zs : Int) else 0
theorem roundsN_no {zs : List Int} (h : hgood zs = false) : roundsN zs = 0 := by unfold roundsN; rw [h]; rfl
theorem roundsN_yes {zs : List Int} (h : hgood zs = true) : roundsN zs = (rounds zs : Int) := by unfold roundsN; rw [h]; rfl
end Go.Proofs.Ytcfofofhdbnlaaa
