
/-
  PAIRS, PLAINLY: the orbit of a heap of a pair, its lead and its period. No program is named here.
-/

namespace Go.Proofs.YtmknencbjhcehaaDoor

/-- One heap of a pair of s stones together behind a step. -/
def pf (s x : Nat) : Nat := if x < s - x then 2 * x else 2 * x - s
/-- .. behind k steps. -/
def orb (s x : Nat) : Nat → Nat
  | 0 => x
  | k + 1 => pf s (orb s x k)

theorem pf_le {s x : Nat} (h : x ≤ s) : pf s x ≤ s := by unfold pf; split <;> omega
theorem orb_le {s x : Nat} (h : x ≤ s) (k : Nat) : orb s x k ≤ s := by
  induction k with
  | zero => exact h
  | succ k ih => exact pf_le ih
theorem pf_two {s x : Nat} (h : x ≤ s) : pf s x = 2 * x ∨ (pf s x + s = 2 * x) := by unfold pf; split <;> omega
theorem orb_add (s x k : Nat) : ∀ j, orb s x (k + j) = orb s (orb s x k) j
  | 0 => rfl
  | j + 1 => by rw [← Nat.add_assoc]; show pf s _ = pf s _; rw [orb_add s x k j]

/-- Behind k more steps x is one that comes again. -/
def comes (s x k : Nat) : Prop := ∃ m, m % 2 = 1 ∧ s ∣ 2 ^ k * x * m
theorem comes_pf {s x : Nat} (h : x ≤ s) (k : Nat) : comes s (pf s x) k ↔ comes s x (k + 1) := by
  have key : ∀ m, (s ∣ 2 ^ k * pf s x * m ↔ s ∣ 2 ^ (k + 1) * x * m) := by
    intro m
    have e : 2 ^ (k + 1) * x * m = 2 ^ k * (2 * x) * m := by rw [Nat.pow_succ]; simp [Nat.mul_assoc]
    rcases pf_two h with h1 | h1
    · rw [e, h1]
    · rw [e, ← h1, Nat.mul_add, Nat.add_mul]
      exact (Nat.dvd_add_iff_left (by rw [Nat.mul_assoc, Nat.mul_left_comm]; exact ⟨2 ^ k * m, rfl⟩))
  exact ⟨fun ⟨m, h1, h2⟩ => ⟨m, h1, (key m).1 h2⟩, fun ⟨m, h1, h2⟩ => ⟨m, h1, (key m).2 h2⟩⟩
theorem comes_orb {s x : Nat} (h : x ≤ s) (k : Nat) : ∀ j, comes s (orb s x k) j ↔ comes s x (k + j) := by
  induction k with
  | zero => intro j; rw [Nat.zero_add]; exact Iff.rfl
  | succ k ih => intro j; rw [show orb s x (k + 1) = pf s (orb s x k) from rfl, comes_pf (orb_le h k), ih (j + 1), show k + (j + 1) = k + 1 + j from by omega]
theorem comes_mono {s x k j : Nat} (h : comes s x k) (hj : k ≤ j) : comes s x j := by
  obtain ⟨m, h1, h2⟩ := h
  refine ⟨m, h1, ?_⟩
  rw [show j = (j - k) + k from by omega, Nat.pow_add, Nat.mul_assoc, Nat.mul_assoc, ← Nat.mul_assoc (2 ^ k)]
  exact Nat.dvd_trans h2 ⟨_, Nat.mul_comm _ _⟩
theorem pf_inj {s x y : Nat} (hx : x ≤ s) (hy : y ≤ s) (hs : 1 ≤ s) (cx : comes s x 0) (cy : comes s y 0) (h : pf s x = pf s y) : x = y := by
  have key : ∀ x y, x ≤ s → y ≤ s → comes s x 0 → comes s y 0 → 2 * x + s = 2 * y → False := by
    intro x y hx hy ⟨m, m1, m2⟩ ⟨n, n1, n2⟩ h
    rw [Nat.pow_zero, Nat.one_mul] at m2 n2
    obtain ⟨d, hd⟩ : ∃ d, s = 2 * d := ⟨y - x, by omega⟩
    have hyx : y = x + d := by omega
    have d1 : s ∣ x * (m * n) := by rw [← Nat.mul_assoc]; exact Nat.dvd_trans m2 ⟨n, rfl⟩
    have d2 : s ∣ y * (m * n) := by rw [Nat.mul_comm m n, ← Nat.mul_assoc]; exact Nat.dvd_trans n2 ⟨m, rfl⟩
    rw [hyx, Nat.add_mul] at d2
    have d3 : s ∣ d * (m * n) := (Nat.dvd_add_iff_right d1).2 d2
    obtain ⟨t, ht⟩ := d3
    rw [hd, Nat.mul_comm 2 d, Nat.mul_assoc] at ht
    have hmn : m * n = 2 * t := Nat.eq_of_mul_eq_mul_left (by omega) ht
    have : (m * n) % 2 = 1 := by rw [Nat.mul_mod, m1, n1]
    omega
  have e1 := pf_two hx
  have e2 := pf_two hy
  rcases e1 with e1 | e1 <;> rcases e2 with e2 | e2
  · omega
  · exact absurd (by omega) (key x y hx hy cx cy)
  · exact absurd (by omega) (key y x hy hx cy cx)
  · omega

/-- How often a number can be halved. -/
def tz : Nat → Nat → Nat
  | 0, _ => 0
  | f + 1, n => if n % 2 = 0 then tz f (n / 2) + 1 else 0
theorem tz_spec : ∀ (f n : Nat), 0 < n → n < 2 ^ f → ∃ o, o % 2 = 1 ∧ n = 2 ^ (tz f n) * o
  | 0, n, h0, h => by simp at h; omega
  | f + 1, n, h0, h => by
    unfold tz
    by_cases e : n % 2 = 0
    · rw [if_pos e]
      obtain ⟨o, h1, h2⟩ := tz_spec f (n / 2) (by omega) (by rw [Nat.pow_succ] at h; omega)
      refine ⟨o, h1, ?_⟩
      rw [Nat.pow_succ, Nat.mul_comm _ 2, Nat.mul_assoc, ← h2]; omega
    · rw [if_neg e]
      exact ⟨n, by omega, by simp⟩
theorem pow_dvd_odd {k j m : Nat} (hm : m % 2 = 1) (h : 2 ^ k ∣ 2 ^ j * m) : k ≤ j := by
  rcases Nat.lt_or_ge j k with hlt | hle
  · exfalso
    rw [show k = j + (k - j - 1 + 1) from by omega, Nat.pow_add] at h
    obtain ⟨t, ht⟩ := h
    rw [Nat.mul_assoc] at ht
    have := Nat.eq_of_mul_eq_mul_left (Nat.two_pow_pos j) ht
    rw [Nat.pow_succ, Nat.mul_comm _ 2, Nat.mul_assoc] at this
    omega
  · exact hle

/-- The lead of a heap x of s stones. -/
def leadN (s x : Nat) : Nat := tz 64 (s / Nat.gcd x s)
theorem comes_iff {s x : Nat} (hs : 1 ≤ s) (hs1 : s < 2 ^ 64) (k : Nat) : comes s x k ↔ leadN s x ≤ k := by
  have hg : 0 < Nat.gcd x s := Nat.gcd_pos_of_pos_right _ hs
  have hq : s = Nat.gcd x s * (s / Nat.gcd x s) := (Nat.mul_div_cancel' (Nat.gcd_dvd_right x s)).symm
  have hx : x = Nat.gcd x s * (x / Nat.gcd x s) := (Nat.mul_div_cancel' (Nat.gcd_dvd_left x s)).symm
  have hc : Nat.Coprime (x / Nat.gcd x s) (s / Nat.gcd x s) := Nat.coprime_div_gcd_div_gcd hg
  unfold leadN
  generalize Nat.gcd x s = g at *
  generalize s / g = q at *
  generalize x / g = x' at *
  have hq0 : 0 < q := Nat.pos_of_ne_zero (fun h => by rw [h] at hq; omega)
  have hq1 : q < 2 ^ 64 := Nat.lt_of_le_of_lt (by rw [hq]; exact Nat.le_mul_of_pos_left q hg) hs1
  obtain ⟨o, ho, hqo⟩ := tz_spec 64 q hq0 hq1
  generalize tz 64 q = L at *
  have red : ∀ m, (s ∣ 2 ^ k * x * m ↔ q ∣ 2 ^ k * m) := by
    intro m
    rw [hq, hx, show 2 ^ k * (g * x') * m = g * (x' * (2 ^ k * m)) from by
      rw [Nat.mul_assoc, Nat.mul_assoc, Nat.mul_left_comm, Nat.mul_left_comm (2 ^ k) x']]
    rw [Nat.mul_dvd_mul_iff_left hg]
    exact ⟨fun h => Nat.Coprime.dvd_of_dvd_mul_left hc.symm h, fun h => Nat.dvd_trans h ⟨x', Nat.mul_comm _ _⟩⟩
  constructor
  · rintro ⟨m, h1, h2⟩
    rw [red, hqo] at h2
    exact pow_dvd_odd h1 (Nat.dvd_trans ⟨o, rfl⟩ h2)
  · intro h
    refine ⟨o, ho, ?_⟩
    rw [red, hqo, show k = L + (k - L) from by omega, Nat.pow_add, Nat.mul_right_comm]
    exact ⟨2 ^ (k - L), rfl⟩

/-- The first N numbers of an orbit are different, and the next one is the i-th. -/
def first (s x i N : Nat) : Prop := i < N ∧ orb s x i = orb s x N ∧ ∀ a b, a < b → b < N → orb s x a ≠ orb s x b

theorem orb_turn {s x i N : Nat} (h : i ≤ N) (e : orb s x i = orb s x N) : ∀ n, orb s x (i + n * (N - i)) = orb s x i
  | 0 => by simp
  | n + 1 => by
    rw [Nat.succ_mul, ← Nat.add_assoc, orb_add, orb_turn h e n, ← orb_add, show i + (N - i) = N from by omega, ← e]
theorem first_lead {s x i N : Nat} (hs : 1 ≤ s) (hs1 : s < 2 ^ 64) (hx : x ≤ s) (h : first s x i N) : i = leadN s x := by
  obtain ⟨hi, he, hd⟩ := h
  have c : ∀ k, comes s (orb s x k) 0 ↔ leadN s x ≤ k := fun k => by rw [comes_orb hx k 0, comes_iff hs hs1]; simp
  rcases Nat.lt_trichotomy i (leadN s x) with hlt | heq | hgt
  · exfalso
    have h1 := orb_turn (by omega) he (leadN s x)
    have h2 : comes s (orb s x (i + leadN s x * (N - i))) 0 := (c _).2 (by
      have : leadN s x * 1 ≤ leadN s x * (N - i) := Nat.mul_le_mul_left _ (by omega)
      omega)
    rw [h1] at h2
    have := (c i).1 h2
    omega
  · exact heq
  · exfalso
    refine hd (i - 1) (N - 1) (by omega) (by omega) ?_
    refine pf_inj (orb_le hx _) (orb_le hx _) hs ((c _).2 (by omega)) ((c _).2 (by omega)) ?_
    show orb s x (i - 1 + 1) = orb s x (N - 1 + 1)
    rw [show i - 1 + 1 = i from by omega, show N - 1 + 1 = N from by omega, he]

theorem pigeon : ∀ (m n : Nat) (g : Nat → Nat), (∀ i, i < n → g i < m) → (∀ i j, i < j → j < n → g i ≠ g j) → n ≤ m
  | 0, n, g, h, _ => by
    rcases Nat.eq_zero_or_pos n with e | e
    · omega
    · exact absurd (h 0 e) (by omega)
  | m + 1, n, g, h, hd => by
    rcases Nat.eq_zero_or_pos n with e | e
    · omega
    · -- the last one's place is taken by whoever had m
      have := pigeon m (n - 1) (fun i => if g i = m then g (n - 1) else g i)
        (fun i hi => by
          show (if g i = m then g (n - 1) else g i) < m
          have a := h i (by omega)
          have b := h (n - 1) (by omega)
          have c := hd i (n - 1) (by omega) (by omega)
          split <;> omega)
        (fun i j hij hj => by
          show (if g i = m then g (n - 1) else g i) ≠ (if g j = m then g (n - 1) else g j)
          have a := hd i j hij (by omega)
          have b := hd i (n - 1) (by omega) (by omega)
          have c := hd j (n - 1) (by omega) (by omega)
          split <;> split <;> omega)
      omega
theorem different_le {s x n : Nat} (hx : x ≤ s) (hd : ∀ a b, a < b → b < n → orb s x a ≠ orb s x b) : n ≤ s + 1 :=
  pigeon (s + 1) n (orb s x) (fun i _ => by have := orb_le hx i; omega) hd

/-- There is a first one that comes again. -/
theorem first_some {s x : Nat} (hx : x ≤ s) : ∃ i N, first s x i N := by
  have key : ∀ k n, n + k = s + 2 → (∀ a b, a < b → b < n → orb s x a ≠ orb s x b) → ∃ i N, first s x i N := by
    intro k
    induction k with
    | zero => intro n hn hd; have := different_le hx hd; omega
    | succ k ih =>
      intro n hn hd
      by_cases h : ∃ i, i < n ∧ orb s x i = orb s x n
      · obtain ⟨i, h1, h2⟩ := h
        exact ⟨i, n, h1, h2, hd⟩
      · refine ih (n + 1) (by omega) (fun a b hab hb e => ?_)
        rcases Nat.lt_or_ge b n with hbn | hbn
        · exact hd a b hab hbn e
        · exact h ⟨a, by omega, by rw [e, show b = n from by omega]⟩
  exact key (s + 2) 0 (by omega) (fun a b _ hb => by omega)

/-- The least number from k on behind which y comes again, sought for f rounds. -/
def perF : Nat → Nat → Nat → Nat → Nat
  | 0, _, _, k => k
  | f + 1, s, y, k => if orb s y k = y then k else perF f s y (k + 1)
theorem perF_eq (s y n : Nat) (hn : orb s y n = y) : ∀ (f k : Nat), k ≤ n → n < k + f → (∀ j, k ≤ j → j < n → orb s y j ≠ y) → perF f s y k = n
  | 0, k, h1, h2, _ => by omega
  | f + 1, k, h1, h2, h3 => by
    unfold perF
    by_cases e : k = n
    · rw [e, if_pos hn]
    · rw [if_neg (h3 k (Nat.le_refl _) (by omega))]
      exact perF_eq s y n hn f (k + 1) (by omega) (by omega) (fun j h4 h5 => h3 j (by omega) h5)
/-- The period. -/
def perN (s x : Nat) : Nat := perF (s + 2) s (orb s x (leadN s x)) 1
theorem first_per {s x : Nat} (hs : 1 ≤ s) (hs1 : s < 2 ^ 64) (hx : x ≤ s) : 1 ≤ perN s x ∧ first s x (leadN s x) (leadN s x + perN s x) := by
  obtain ⟨i, N, h⟩ := first_some hx
  have hi := first_lead hs hs1 hx h
  rw [hi] at h
  have hle := different_le hx h.2.2
  have hlt := h.1
  have e : perN s x = N - leadN s x := by
    unfold perN
    refine perF_eq _ _ _ ?_ _ _ (by omega) (by omega) (fun j h1 h2 h3 => ?_)
    · rw [← orb_add, show leadN s x + (N - leadN s x) = N from by omega, ← h.2.1]
    · rw [← orb_add] at h3
      exact h.2.2 (leadN s x) (leadN s x + j) (by omega) (by omega) h3.symm
  exact ⟨by omega, by rw [e, show leadN s x + (N - leadN s x) = N from by omega]; exact h⟩
theorem first_unique {s x i N i' N' : Nat} (h : first s x i N) (h' : first s x i' N') : N = N' := by
  rcases Nat.lt_trichotomy N N' with hlt | heq | hgt
  · exact absurd h.2.1 (h'.2.2 i N h.1 hlt)
  · exact heq
  · exact absurd h'.2.1 (h.2.2 i' N' h'.1 hgt)
theorem per_of_first {s x i N : Nat} (hs : 1 ≤ s) (hs1 : s < 2 ^ 64) (hx : x ≤ s) (h : first s x i N) : i = leadN s x ∧ N - i = perN s x := by
  have h1 := first_lead hs hs1 hx h
  have h2 := first_per hs hs1 hx
  have h3 := first_unique h h2.2
  exact ⟨h1, by omega⟩

/-- A heap of the pair is empty. -/
def emp (s x : Nat) : Prop := x = 0 ∨ x = s
theorem emp_pf {s x : Nat} (hx : x ≤ s) (h : emp s x) : pf s x = x := by
  unfold emp at h; unfold pf; split <;> omega
theorem emp_stays {s x k : Nat} (hx : x ≤ s) (h : emp s (orb s x k)) : ∀ j, orb s x (k + j) = orb s x k
  | 0 => rfl
  | j + 1 => by
    have ih := emp_stays hx h j
    rw [← Nat.add_assoc]
    show pf s (orb s x (k + j)) = _
    rw [ih, emp_pf (orb_le hx _) h]
theorem emp_comes {s x : Nat} (h : emp s x) : comes s x 0 := by
  refine ⟨1, rfl, ?_⟩
  rcases h with rfl | rfl
  · simp
  · simp
/-- If a heap is empty at some time, it is so just from the lead on. -/
theorem emp_lead {s x k : Nat} (hs : 1 ≤ s) (hs1 : s < 2 ^ 64) (hx : x ≤ s) (h : emp s (orb s x k)) : leadN s x ≤ k ∧ emp s (orb s x (leadN s x)) := by
  have c : ∀ k, comes s (orb s x k) 0 ↔ leadN s x ≤ k := fun k => by rw [comes_orb hx k 0, comes_iff hs hs1]; simp
  have h1 := (c k).1 (emp_comes h)
  refine ⟨h1, ?_⟩
  -- it comes again, and so it is that one
  obtain ⟨hp, hf⟩ := first_per hs hs1 hx
  have ht := orb_turn (by omega) hf.2.1 k
  have hk : leadN s x + k * (leadN s x + perN s x - leadN s x) = k + (leadN s x + k * (leadN s x + perN s x - leadN s x) - k) := by
    have : k * 1 ≤ k * (leadN s x + perN s x - leadN s x) := Nat.mul_le_mul_left _ (by omega)
    omega
  rw [hk, emp_stays hx h] at ht
  rw [← ht]; exact h
theorem tz_le : ∀ (f n : Nat), tz f n ≤ f
  | 0, _ => Nat.le_refl _
  | f + 1, n => by
    unfold tz
    split
    · have := tz_le f (n / 2); omega
    · omega
theorem leadN_le (s x : Nat) : leadN s x ≤ 64 := tz_le _ _

end Go.Proofs.YtmknencbjhcehaaDoor
