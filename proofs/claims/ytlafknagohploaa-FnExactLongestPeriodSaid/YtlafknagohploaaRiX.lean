
/-
  PLAIN FACTS FOR CHAPTER 7: rings of zeros and ones as masks; their periods; how many come again themselves. No program is named here.
-/
import Derived.Test.YtlafknagohploaaRiS
namespace Go.Proofs.Ytlafknagohploaa

/-- The ring of zeros and ones with a number. -/
def bitsL (n x : Nat) : List Int := (List.range n).map fun i => ((x / 2 ^ i % 2 : Nat) : Int)
theorem bitsL_length (n x : Nat) : (bitsL n x).length = n := by simp [bitsL]
theorem bitsL_getD (n x i : Nat) (h : i < n) : (bitsL n x).getD i 0 = ((x / 2 ^ i % 2 : Nat) : Int) := by
  simp [bitsL, List.getD, h]
theorem bitsL_within (n x : Nat) : within 0 1 (bitsL n x) = true := within_of fun k hk => by
  rw [bitsL_length] at hk
  have := bitsL_getD n x k hk
  rw [rget (by rw [bitsL_length]; exact hk)] at this
  rw [this]
  omega
theorem bitsL_good {n x : Nat} (h1 : 2 ≤ n) (h2 : n ≤ 10) : rgood (bitsL n x) = true := by
  rw [rgood_in (by rw [bitsL_length]; omega)]
  exact within_wide (bitsL_within n x) (by omega) (by omega)
/-- A step of a mask. -/
def stepM (n x : Nat) : Nat := Nat.xor x (x / 2 + x % 2 * 2 ^ (n - 1))
def itM (n x : Nat) : Nat → Nat
  | 0 => x
  | t + 1 => stepM n (itM n x t)
/-- All bits of two numbers below 2 to the n are differently told only by different numbers. -/
theorem bitsL_inj {n x y : Nat} (hx : x < 2 ^ n) (hy : y < 2 ^ n) (h : bitsL n x = bitsL n y) : x = y := by
  apply Nat.eq_of_testBit_eq
  intro i
  by_cases hi : i < n
  · have h1 := bitsL_getD n x i hi
    rw [h, bitsL_getD n y i hi] at h1
    have h2 : y / 2 ^ i % 2 = x / 2 ^ i % 2 := by omega
    rw [Nat.testBit_eq_decide_div_mod_eq, Nat.testBit_eq_decide_div_mod_eq, h2]
  · rw [Nat.testBit_lt_two_pow (Nat.lt_of_lt_of_le hx (Nat.pow_le_pow_right (by omega) (by omega))), Nat.testBit_lt_two_pow (Nat.lt_of_lt_of_le hy (Nat.pow_le_pow_right (by omega) (by omega)))]
theorem rot_bit {n x : Nat} (hn : 1 ≤ n) (hx : x < 2 ^ n) (i : Nat) (hi : i < n) : (x / 2 + x % 2 * 2 ^ (n - 1)) / 2 ^ i % 2 = x / 2 ^ (nextOf i n) % 2 := by
  have hp : 2 ^ n = 2 * 2 ^ (n - 1) := by
    obtain ⟨m, rfl⟩ : ∃ m, n = m + 1 := ⟨n - 1, by omega⟩
    rw [Nat.pow_succ, Nat.add_sub_cancel, Nat.mul_comm]
  have hq : x / 2 < 2 ^ (n - 1) := by omega
  by_cases h : i + 1 = n
  · rw [nextOf_end h, Nat.pow_zero, Nat.div_one, show i = n - 1 by omega, Nat.add_mul_div_right _ _ (Nat.two_pow_pos _), Nat.div_eq_of_lt hq, Nat.zero_add]
    omega
  · have hin : i + 1 < n := by omega
    rw [nextOf_in hin]
    obtain ⟨d, hd⟩ : ∃ d, n - 1 = i + (d + 1) := ⟨n - 1 - i - 1, by omega⟩
    rw [hd, Nat.pow_add, Nat.mul_comm (2 ^ i), ← Nat.mul_assoc, Nat.add_mul_div_right _ _ (Nat.two_pow_pos _), Nat.pow_succ, Nat.mul_comm (2 ^ d), ← Nat.mul_assoc, Nat.mul_comm (x % 2) 2, Nat.mul_assoc, Nat.add_mul_mod_self_left, Nat.div_div_eq_div_mul, ← Nat.pow_succ']
theorem stepM_lt {n x : Nat} (hn : 1 ≤ n) (hx : x < 2 ^ n) : stepM n x < 2 ^ n := by
  have hp : 2 ^ n = 2 * 2 ^ (n - 1) := by
    obtain ⟨m, rfl⟩ : ∃ m, n = m + 1 := ⟨n - 1, by omega⟩
    rw [Nat.pow_succ, Nat.add_sub_cancel, Nat.mul_comm]
  refine Nat.xor_lt_two_pow hx ?_
  have : x % 2 * 2 ^ (n - 1) ≤ 1 * 2 ^ (n - 1) := Nat.mul_le_mul_right _ (by omega)
  omega
theorem itM_lt {n x : Nat} (hn : 1 ≤ n) (hx : x < 2 ^ n) (t : Nat) : itM n x t < 2 ^ n := by
  induction t with
  | zero => exact hx
  | succ t ih => exact stepM_lt hn ih
theorem xor_bit (a b i : Nat) : Nat.xor a b / 2 ^ i % 2 = (a / 2 ^ i % 2 + b / 2 ^ i % 2) % 2 := by
  have h := Nat.testBit_xor a b i
  rw [Nat.testBit_eq_decide_div_mod_eq, Nat.testBit_eq_decide_div_mod_eq, Nat.testBit_eq_decide_div_mod_eq] at h
  change (decide (Nat.xor a b / 2 ^ i % 2 = 1)) = _ at h
  have h1 : a / 2 ^ i % 2 < 2 := Nat.mod_lt _ (by omega)
  have h2 : b / 2 ^ i % 2 < 2 := Nat.mod_lt _ (by omega)
  have h3 : Nat.xor a b / 2 ^ i % 2 < 2 := Nat.mod_lt _ (by omega)
  generalize a / 2 ^ i % 2 = p at *
  generalize b / 2 ^ i % 2 = q at *
  generalize Nat.xor a b / 2 ^ i % 2 = r at *
  have hp : p = 0 ∨ p = 1 := by omega
  have hq : q = 0 ∨ q = 1 := by omega
  have hr : r = 0 ∨ r = 1 := by omega
  rcases hp with rfl | rfl <;> rcases hq with rfl | rfl <;> rcases hr with rfl | rfl <;> simp at h ⊢
theorem rstep_bits {n x : Nat} (hn : 1 ≤ n) (hx : x < 2 ^ n) : rstep (bitsL n x) = bitsL n (stepM n x) := by
  apply List.ext_getElem
  · rw [rstep_length, bitsL_length, bitsL_length]
  · intro k h1 h2
    rw [bitsL_length] at h2
    have hk : k < (bitsL n x).length := by rw [bitsL_length]; exact h2
    rw [rstep_get _ k hk]
    have e := bitsL_getD n (stepM n x) k h2
    rw [rget (by rw [bitsL_length]; exact h2)] at e
    rw [e]
    unfold rstep1
    rw [bitsL_length, bitsL_getD n x k h2, bitsL_getD n x _ (nextOf_lt h2)]
    unfold stepM
    rw [xor_bit, rot_bit hn hx k h2]
    have h3 : x / 2 ^ k % 2 < 2 := Nat.mod_lt _ (by omega)
    have h4 : x / 2 ^ nextOf k n % 2 < 2 := Nat.mod_lt _ (by omega)
    generalize x / 2 ^ k % 2 = p at *
    generalize x / 2 ^ nextOf k n % 2 = q at *
    unfold dif
    omega
theorem rit_bits {n x : Nat} (hn : 1 ≤ n) (hx : x < 2 ^ n) (t : Nat) : rit (bitsL n x) t = bitsL n (itM n x t) := by
  induction t with
  | zero => rfl
  | succ t ih => rw [rit, ih, rstep_bits hn (itM_lt hn hx t)]; rfl
theorem bits_again {n x : Nat} (hn : 1 ≤ n) (hx : x < 2 ^ n) (i j : Nat) : rit (bitsL n x) i = rit (bitsL n x) j ↔ itM n x i = itM n x j := by
  rw [rit_bits hn hx, rit_bits hn hx]
  exact ⟨fun h => bitsL_inj (itM_lt hn hx i) (itM_lt hn hx j) h, fun h => by rw [h]⟩

/-- The period of all, behind 8 steps. -/
def allP : Nat → Nat
  | 3 => 3 | 5 => 15 | 6 => 6 | 7 => 7 | 9 => 63 | 10 => 30 | _ => 1
def runs (n x : Nat) : Nat → Nat
  | 0 => x
  | k + 1 => runs n (stepM n x) k
theorem runs_it (n : Nat) : ∀ k x, runs n x k = itM n x k := by
  have h : ∀ k x, itM n (stepM n x) k = stepM n (itM n x k) := by
    intro k
    induction k with
    | zero => intro x; rfl
    | succ k ih => intro x; show stepM n (itM n (stepM n x) k) = _; rw [ih]; rfl
  intro k
  induction k with
  | zero => intro x; rfl
  | succ k ih => intro x; show runs n (stepM n x) k = _; rw [ih, h]; rfl
/-- For every number below k: behind 8 steps it comes again behind allP. -/
def allAgain (n : Nat) : Nat → Bool
  | 0 => true
  | k + 1 => (runs n (runs n k 8) (allP n) == runs n k 8) && allAgain n k
theorem allAgain_at {n : Nat} : ∀ {k : Nat}, allAgain n k = true → ∀ x, x < k → runs n (runs n x 8) (allP n) = runs n x 8
  | 0, _, x, h => by omega
  | k + 1, hk, x, h => by
    unfold allAgain at hk
    rw [Bool.and_eq_true, beq_iff_eq] at hk
    by_cases e : x = k
    · subst e; exact hk.1
    · exact allAgain_at hk.2 x (by omega)
theorem again2 : allAgain 2 4 = true := by decide +kernel
theorem again3 : allAgain 3 8 = true := by decide +kernel
theorem again4 : allAgain 4 16 = true := by decide +kernel
theorem again5 : allAgain 5 32 = true := by decide +kernel
theorem again6 : allAgain 6 64 = true := by decide +kernel
theorem again7 : allAgain 7 128 = true := by decide +kernel
theorem again8 : allAgain 8 256 = true := by decide +kernel
theorem again9 : allAgain 9 512 = true := by decide +kernel
theorem again10 : allAgain 10 1024 = true := by decide +kernel
theorem allP_all {n : Nat} (h1 : 2 ≤ n) (h2 : n ≤ 10) : allAgain n (2 ^ n) = true := by
  have : n = 2 ∨ n = 3 ∨ n = 4 ∨ n = 5 ∨ n = 6 ∨ n = 7 ∨ n = 8 ∨ n = 9 ∨ n = 10 := by omega
  rcases this with rfl | rfl | rfl | rfl | rfl | rfl | rfl | rfl | rfl
  · exact again2
  · exact again3
  · exact again4
  · exact again5
  · exact again6
  · exact again7
  · exact again8
  · exact again9
  · exact again10
theorem allP_pos (n : Nat) : 1 ≤ allP n := by unfold allP; split <;> omega
theorem bits_period {n x : Nat} (h1 : 2 ≤ n) (h2 : n ≤ 10) (hx : x < 2 ^ n) : perF (bitsL n x) ∣ allP n := by
  have h := allAgain_at (allP_all h1 h2) x hx
  rw [runs_it, runs_it] at h
  have e : itM n x (8 + allP n) = itM n x 8 := by
    have : ∀ k y j, itM n (itM n y j) k = itM n y (j + k) := by
      intro k
      induction k with
      | zero => intro y j; rfl
      | succ k ih => intro y j; show stepM n (itM n (itM n y j) k) = _; rw [ih]; rfl
    rw [← this]; exact h
  have hc := cycF (bitsL_good (x := x) h1 h2)
  exact ((hc.1.iff (rit_told _) 8 (allP n) (allP_pos n)).1 ((bits_again (by omega) hx _ _).2 e)).2
/-- It comes again itself just where it does behind allP. -/
theorem bits_lead {n x : Nat} (h1 : 2 ≤ n) (h2 : n ≤ 10) (hx : x < 2 ^ n) : (leadF (bitsL n x) = 0) ↔ runs n x (allP n) = x := by
  have hc := cycF (bitsL_good (x := x) h1 h2)
  have hd := bits_period h1 h2 hx
  have hi := hc.1.iff (rit_told _) 0 (allP n) (allP_pos n)
  rw [Nat.zero_add, bits_again (by omega) hx] at hi
  rw [runs_it]
  constructor
  · intro h; exact hi.2 ⟨by omega, hd⟩
  · intro h; have := (hi.1 h).1; omega
/-- How many come again themselves, of the first k. -/
def cycN (n : Nat) : Nat → Nat
  | 0 => 0
  | k + 1 => cycN n k + if runs n k (allP n) = k then 1 else 0
def cycC (n : Nat) : Nat → Nat → Nat
  | 0, acc => acc
  | k + 1, acc => cycC n k (acc + if runs n k (allP n) == k then 1 else 0)
theorem cycC_eq (n : Nat) : ∀ k acc, cycC n k acc = acc + cycN n k
  | 0, acc => rfl
  | k + 1, acc => by
    unfold cycC cycN
    rw [cycC_eq n k]
    by_cases h : runs n k (allP n) = k <;> simp [h] <;> omega
def inter : Nat → Nat
  | 2 => 2 | 4 => 4 | 6 => 2 | 8 => 8 | 10 => 2 | _ => 1
theorem cyc2 : cycC 2 4 0 = 2 ^ (2 - inter 2) := by decide +kernel
theorem cyc3 : cycC 3 8 0 = 2 ^ (3 - inter 3) := by decide +kernel
theorem cyc4 : cycC 4 16 0 = 2 ^ (4 - inter 4) := by decide +kernel
theorem cyc5 : cycC 5 32 0 = 2 ^ (5 - inter 5) := by decide +kernel
theorem cyc6 : cycC 6 64 0 = 2 ^ (6 - inter 6) := by decide +kernel
theorem cyc7 : cycC 7 128 0 = 2 ^ (7 - inter 7) := by decide +kernel
theorem cyc8 : cycC 8 256 0 = 2 ^ (8 - inter 8) := by decide +kernel
theorem cyc9 : cycC 9 512 0 = 2 ^ (9 - inter 9) := by decide +kernel
theorem cyc10 : cycC 10 1024 0 = 2 ^ (10 - inter 10) := by decide +kernel
theorem cyc_all {n : Nat} (h1 : 2 ≤ n) (h2 : n ≤ 10) : cycN n (2 ^ n) = 2 ^ (n - inter n) := by
  have h : cycC n (2 ^ n) 0 = 2 ^ (n - inter n) := by
    have : n = 2 ∨ n = 3 ∨ n = 4 ∨ n = 5 ∨ n = 6 ∨ n = 7 ∨ n = 8 ∨ n = 9 ∨ n = 10 := by omega
    rcases this with rfl | rfl | rfl | rfl | rfl | rfl | rfl | rfl | rfl
    · exact cyc2
    · exact cyc3
    · exact cyc4
    · exact cyc5
    · exact cyc6
    · exact cyc7
    · exact cyc8
    · exact cyc9
    · exact cyc10
  rw [cycC_eq, Nat.zero_add] at h
  exact h
/-- A single 1 does not come again sooner. -/
def noEarly (n : Nat) : Nat → Bool
  | 0 => true
  | k + 1 => (runs n (runs n 1 8) (k + 1) != runs n 1 8) && noEarly n k
theorem noEarly_at {n : Nat} : ∀ {k : Nat}, noEarly n k = true → ∀ q, 1 ≤ q → q ≤ k → runs n (runs n 1 8) q ≠ runs n 1 8
  | 0, _, q, h1, h2 => by omega
  | k + 1, hk, q, h1, h2 => by
    unfold noEarly at hk
    rw [Bool.and_eq_true, bne_iff_ne] at hk
    by_cases e : q = k + 1
    · subst e; exact hk.1
    · exact noEarly_at hk.2 q h1 (by omega)
theorem early_all {n : Nat} (h1 : 2 ≤ n) (h2 : n ≤ 10) : noEarly n (allP n - 1) = true := by
  have : n = 2 ∨ n = 3 ∨ n = 4 ∨ n = 5 ∨ n = 6 ∨ n = 7 ∨ n = 8 ∨ n = 9 ∨ n = 10 := by omega
  rcases this with rfl | rfl | rfl | rfl | rfl | rfl | rfl | rfl | rfl <;> decide +kernel
theorem it_it (n : Nat) : ∀ k y j, itM n (itM n y j) k = itM n y (j + k) := by
  intro k
  induction k with
  | zero => intro y j; rfl
  | succ k ih => intro y j; show stepM n (itM n (itM n y j) k) = _; rw [ih]; rfl
theorem single_period {n : Nat} (h1 : 2 ≤ n) (h2 : n ≤ 10) : perF (bitsL n 1) = allP n := by
  have hx : 1 < 2 ^ n := Nat.one_lt_two_pow (by omega)
  have hd := bits_period (x := 1) h1 h2 hx
  have hc := cycF (bitsL_good (x := 1) h1 h2)
  have hle := Nat.le_of_dvd (allP_pos n) hd
  have h := allAgain_at (allP_all h1 h2) 1 hx
  rw [runs_it, runs_it, it_it] at h
  have hm := ((hc.1.iff (rit_told _) 8 (allP n) (allP_pos n)).1 ((bits_again (by omega) hx _ _).2 h)).1
  have hp := hc.1.round (rit_told _) 8 hm
  rw [bits_again (by omega) hx] at hp
  rcases Nat.lt_or_ge (perF (bitsL n 1)) (allP n) with hlt | hge
  · exfalso
    have := noEarly_at (early_all h1 h2) (perF (bitsL n 1)) hc.1.pos (by omega)
    rw [runs_it, runs_it, it_it] at this
    exact this hp
  · omega
/-- The greatest period of the first k. -/
def maxP (n : Nat) : Nat → Int
  | 0 => 0
  | k + 1 => max (maxP n k) (perF (bitsL n k) : Int)
theorem maxP_le {n : Nat} (h1 : 2 ≤ n) (h2 : n ≤ 10) : ∀ k, k ≤ 2 ^ n → 0 ≤ maxP n k ∧ maxP n k ≤ allP n
  | 0, _ => ⟨Int.le_refl _, Int.natCast_nonneg _⟩
  | k + 1, hk => by
    have ih := maxP_le h1 h2 k (by omega)
    have hd := Nat.le_of_dvd (allP_pos n) (bits_period (x := k) h1 h2 (by omega))
    unfold maxP
    omega
theorem maxP_has {n : Nat} (h1 : 2 ≤ n) (h2 : n ≤ 10) : ∀ k, 2 ≤ k → k ≤ 2 ^ n → (allP n : Int) ≤ maxP n k
  | 0, h, _ => by omega
  | 1, h, _ => by omega
  | k + 2, _, hk => by
    unfold maxP
    cases k with
    | zero => rw [single_period h1 h2]; omega
    | succ k => have h : (allP n : Int) ≤ maxP n (k + 1 + 1) := maxP_has h1 h2 (k + 2) (by omega) (by omega)
                omega
theorem maxP_all {n : Nat} (h1 : 2 ≤ n) (h2 : n ≤ 10) : maxP n (2 ^ n) = allP n := by
  have hp : 4 ≤ 2 ^ n := by
    have := Nat.pow_le_pow_right (show 0 < 2 by omega) h1
    omega
  have a := (maxP_le h1 h2 (2 ^ n) (Nat.le_refl _)).2
  have b := maxP_has h1 h2 (2 ^ n) (by omega) (Nat.le_refl _)
  omega
end Go.Proofs.Ytlafknagohploaa
