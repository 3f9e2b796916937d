
/-
  GROUPS OF HEAPS WHOSE OWN STONES ARE JUST THEIRS: the table over all sets of heaps, plainly. No program is named here.
-/
namespace Go.Proofs.Ytfabhpejknpapaa

/-- What the heaps of set s below the k-th have too many, together. -/
def sm (D : List Int) (s : Nat) : Nat → Int
  | 0 => 0
  | k + 1 => if s.testBit k then sm D s k + D.getD k 0 else sm D s k
/-- The greatest number for s less one of its heaps below the k-th, at least 0. -/
def pm (T : Nat → Int) (s : Nat) : Nat → Int
  | 0 => 0
  | k + 1 => if s.testBit k then max (pm T s k) (T (s - 2 ^ k)) else pm T s k
def pf (D : List Int) (n : Nat) : Nat → Nat → Int
  | 0, _ => 0
  | m + 1, s => if s = 0 then 0 else pm (pf D n m) s n + (if sm D s n = 0 then 1 else 0)
theorem bit_le {s k : Nat} (h : s.testBit k = true) : 2 ^ k ≤ s := Nat.ge_two_pow_of_testBit h
theorem pm_congr {T T' : Nat → Int} {s : Nat} (h : ∀ k, s.testBit k = true → T (s - 2 ^ k) = T' (s - 2 ^ k)) (n : Nat) : pm T s n = pm T' s n := by
  induction n with
  | zero => rfl
  | succ k ih =>
    unfold pm
    split
    · rename_i hb; rw [ih, h k hb]
    · exact ih
theorem pf_same (D : List Int) (n : Nat) : ∀ (m m' s : Nat), s ≤ m → s ≤ m' → pf D n m s = pf D n m' s := by
  intro m
  induction m with
  | zero =>
    intro m' s h h'
    obtain rfl : s = 0 := by omega
    cases m' <;> simp [pf]
  | succ m ih =>
    intro m' s h h'
    cases m' with
    | zero =>
      obtain rfl : s = 0 := by omega
      simp [pf]
    | succ m' =>
      unfold pf
      by_cases h0 : s = 0
      · rw [if_pos h0, if_pos h0]
      · rw [if_neg h0, if_neg h0]
        congr 1
        refine pm_congr (fun k hb => ?_) n
        have := bit_le hb
        have := Nat.two_pow_pos k
        exact ih m' _ (by omega) (by omega)
def pt (D : List Int) (n s : Nat) : Int := pf D n s s
theorem pt_zero (D : List Int) (n : Nat) : pt D n 0 = 0 := rfl
theorem pt_succ (D : List Int) (n s : Nat) (h : 0 < s) : pt D n s = pm (pt D n) s n + (if sm D s n = 0 then 1 else 0) := by
  obtain ⟨m, rfl⟩ : ∃ m, s = m + 1 := ⟨s - 1, by omega⟩
  unfold pt
  rw [pf, if_neg (by omega)]
  congr 1
  refine pm_congr (fun k hb => ?_) n
  have := bit_le hb
  have := Nat.two_pow_pos k
  exact pf_same D n _ _ _ (by omega) (Nat.le_refl _)
theorem pm_bd {T : Nat → Int} {s : Nat} {b : Int} (hb : 0 ≤ b) (h : ∀ j, j < s → 0 ≤ T j ∧ T j ≤ b) (n : Nat) : 0 ≤ pm T s n ∧ pm T s n ≤ b := by
  induction n with
  | zero => exact ⟨Int.le_refl _, hb⟩
  | succ k ih =>
    unfold pm
    split
    · rename_i hk
      have := bit_le hk
      have := Nat.two_pow_pos k
      have := h (s - 2 ^ k) (by omega)
      omega
    · exact ih
theorem pt_bd (D : List Int) (n : Nat) : ∀ s, 0 ≤ pt D n s ∧ pt D n s ≤ s := by
  intro s
  induction s using Nat.strongRecOn with
  | ind s ih =>
    by_cases h0 : s = 0
    · subst h0; rw [pt_zero]; omega
    · rw [pt_succ D n s (by omega)]
      have := pm_bd (T := pt D n) (s := s) (b := (s : Int) - 1) (by omega) (fun j hj => by have := ih j hj; omega) n
      split <;> omega
theorem sm_bd {D : List Int} {b : Int} (hb : 0 ≤ b) (h : ∀ i (hi : i < D.length), -b ≤ D[i] ∧ D[i] ≤ b) (s : Nat) (k : Nat) : -(b * k) ≤ sm D s k ∧ sm D s k ≤ b * k := by
  induction k with
  | zero => simp [sm]
  | succ k ih =>
    have h1 : -b ≤ D.getD k 0 ∧ D.getD k 0 ≤ b := by
      by_cases hk : k < D.length
      · simp [List.getD, hk]; exact h k hk
      · simp [List.getD, hk]; omega
    have e : b * ((k + 1 : Nat) : Int) = b * k + b := by rw [Int.natCast_add, Int.mul_add]; simp
    unfold sm
    split <;> omega
end Go.Proofs.Ytfabhpejknpapaa
