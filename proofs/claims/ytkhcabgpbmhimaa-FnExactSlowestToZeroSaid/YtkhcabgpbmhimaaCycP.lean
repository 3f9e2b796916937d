
/-
  PLAIN FACTS: what comes again behind a lead by a period. The hare and the tortoise, one that waits, two a period apart. No program is named here.
-/
namespace Go.Proofs.Ytkhcabgpbmhimaa

/-- The least of those that there are. -/
theorem least_of {P : Nat → Prop} (n : Nat) (h : P n) : ∃ m, m ≤ n ∧ P m ∧ ∀ k, k < m → ¬ P k := by
  induction n using Nat.strongRecOn with
  | _ n ih =>
    by_cases he : ∃ k, k < n ∧ P k
    · obtain ⟨k, hk, hp⟩ := he
      obtain ⟨m, h1, h2, h3⟩ := ih k hk hp
      exact ⟨m, by omega, h2, h3⟩
    · exact ⟨n, Nat.le_refl _, h, fun k hk hp => he ⟨k, hk, hp⟩⟩

section
variable {α : Type} {s : Nat → α}
/-- Each is told by the one before. -/
def Told (s : Nat → α) : Prop := ∀ i j, s i = s j → s (i + 1) = s (j + 1)
theorem Told.add (h : Told s) {i j : Nat} (e : s i = s j) (k : Nat) : s (i + k) = s (j + k) := by
  induction k with
  | zero => exact e
  | succ k ih => exact h _ _ ih
/-- The lead is m, the period p. -/
structure Cyc (s : Nat → α) (m p : Nat) : Prop where
  pos : 1 ≤ p
  again : s (m + p) = s m
  lead : ∀ i, i < m → ∀ q, 1 ≤ q → s (i + q) ≠ s i
  least : ∀ q, 1 ≤ q → q < p → s (m + q) ≠ s m
theorem Cyc.there (ht : Told s) {i q : Nat} (hq : 1 ≤ q) (h : s (i + q) = s i) : ∃ m p, m ≤ i ∧ p ≤ q ∧ Cyc s m p := by
  obtain ⟨m, hm, ⟨q', hq', h'⟩, hl⟩ := least_of (P := fun i => ∃ q, 1 ≤ q ∧ s (i + q) = s i) i ⟨q, hq, h⟩
  have hmq : s (m + q) = s m := by
    -- from i on it comes again behind q; and it comes from m to i' > i by rounds of q'
    have h1 : ∀ k, s (m + k * q') = s m := by
      intro k
      induction k with
      | zero => simp
      | succ k ih => rw [Nat.succ_mul, ← Nat.add_assoc, ht.add ih q', h']
    have hb : i ≤ m + i * q' := by
      have : i * 1 ≤ i * q' := Nat.mul_le_mul_left _ hq'
      omega
    have h2 : s (m + i * q' + q) = s (m + i * q') := by
      have := ht.add h (m + i * q' - i)
      rw [show i + q + (m + i * q' - i) = m + i * q' + q by omega, show i + (m + i * q' - i) = m + i * q' by omega] at this
      exact this
    rw [← ht.add (h1 i) q, h2, h1 i]
  obtain ⟨p, hp, ⟨hp1, hp2⟩, hpl⟩ := least_of (P := fun p => 1 ≤ p ∧ s (m + p) = s m) q ⟨hq, hmq⟩
  exact ⟨m, p, hm, hp, hp1, hp2, fun i hi q hq e => hl i hi ⟨q, hq, e⟩, fun q hq hlt e => hpl q hlt ⟨hq, e⟩⟩
variable {m p : Nat}
theorem Cyc.round (h : Cyc s m p) (ht : Told s) (i : Nat) (hi : m ≤ i) : s (i + p) = s i := by
  have := ht.add h.again (i - m)
  rw [show m + p + (i - m) = i + p by omega, show m + (i - m) = i by omega] at this
  exact this
theorem Cyc.rounds (h : Cyc s m p) (ht : Told s) (i k : Nat) (hi : m ≤ i) : s (i + k * p) = s i := by
  induction k with
  | zero => simp
  | succ k ih => rw [Nat.succ_mul, ← Nat.add_assoc, h.round ht _ (by omega), ih]
theorem Cyc.back (h : Cyc s m p) (ht : Told s) {i q : Nat} (hi : m ≤ i) (e : s (i + q) = s i) : s (m + q) = s m := by
  have h1 := h.rounds ht m i (Nat.le_refl _)
  have hp := h.pos
  have hb : i ≤ m + i * p := by
    have : i * 1 ≤ i * p := Nat.mul_le_mul_left _ hp
    omega
  have h2 : s (m + i * p + q) = s (m + i * p) := by
    have := ht.add e (m + i * p - i)
    rw [show i + q + (m + i * p - i) = m + i * p + q by omega, show i + (m + i * p - i) = m + i * p by omega] at this
    exact this
  rw [← ht.add h1 q, h2, h1]
theorem Cyc.dvd (h : Cyc s m p) (ht : Told s) {i q : Nat} (hi : m ≤ i) (e : s (i + q) = s i) : p ∣ q := by
  have h1 := h.back ht hi e
  have hp := h.pos
  have h2 : s (m + q % p) = s m := by
    have h3 := h.rounds ht (m + q % p) (q / p) (by omega)
    rw [show m + q % p + q / p * p = m + q by have := Nat.div_add_mod q p; rw [Nat.mul_comm] at this; omega] at h3
    rw [← h3, h1]
  rcases Nat.eq_zero_or_pos (q % p) with h0 | h0
  · exact Nat.dvd_of_mod_eq_zero h0
  · exact absurd h2 (h.least _ h0 (Nat.mod_lt _ hp))
/-- When is it the same? -/
theorem Cyc.iff (h : Cyc s m p) (ht : Told s) (i q : Nat) (hq : 1 ≤ q) : s (i + q) = s i ↔ m ≤ i ∧ p ∣ q := by
  constructor
  · intro e
    have hi : m ≤ i := by
      rcases Nat.lt_or_ge i m with h1 | h1
      · exact absurd e (h.lead i h1 q hq)
      · exact h1
    exact ⟨hi, h.dvd ht hi e⟩
  · rintro ⟨hi, k, rfl⟩
    rw [Nat.mul_comm]
    exact h.rounds ht i k hi
theorem Cyc.unique (ht : Told s) {m' p' : Nat} (h : Cyc s m p) (h' : Cyc s m' p') : m = m' ∧ p = p' := by
  have a := (h.iff ht m' p' h'.pos).1 h'.again
  have b := (h'.iff ht m p h.pos).1 h.again
  exact ⟨by omega, Nat.dvd_antisymm a.2 b.2⟩
theorem Cyc.same_mod (h : Cyc s m p) (ht : Told s) (n : Nat) (hn : m ≤ n) : s n = s (m + (n - m) % p) := by
  have h3 := h.rounds ht (m + (n - m) % p) ((n - m) / p) (by omega)
  rw [show m + (n - m) % p + (n - m) / p * p = n by have := Nat.div_add_mod (n - m) p; rw [Nat.mul_comm] at this; omega] at h3
  exact h3

/-- The hare and the tortoise meet. -/
theorem Cyc.meet (h : Cyc s m p) (ht : Told s) (t : Nat) (h1 : 1 ≤ t) : s t = s (2 * t) ↔ m ≤ t ∧ p ∣ t := by
  rw [show 2 * t = t + t by omega, eq_comm]
  exact h.iff ht t t h1
theorem Cyc.meeting (h : Cyc s m p) (ht : Told s) : ∃ t, 1 ≤ t ∧ t ≤ m + p ∧ s t = s (2 * t) := by
  have hp := h.pos
  refine ⟨(m / p + 1) * p, ?_, ?_, ?_⟩
  · rw [Nat.succ_mul]; omega
  · rw [Nat.succ_mul]
    have := Nat.div_mul_le_self m p
    omega
  · rw [h.meet ht _ (by rw [Nat.succ_mul]; omega)]
    refine ⟨?_, Nat.dvd_mul_left _ _⟩
    rw [Nat.succ_mul]
    have h1 := Nat.div_add_mod m p
    have h2 := Nat.mod_lt m (show 0 < p from hp)
    rw [Nat.mul_comm] at h1
    omega
theorem Cyc.not_yet (h : Cyc s m p) (ht : Told s) (t : Nat) (hu : ∀ u, 1 ≤ u → u ≤ t → s u ≠ s (2 * u)) : t < m + p := by
  obtain ⟨T, h1, h2, h3⟩ := h.meeting ht
  rcases Nat.lt_or_ge t T with h4 | h4
  · omega
  · exact absurd h3 (hu T h1 h4)
/-- From the beginning on, one a meeting ahead: the lead. -/
theorem Cyc.ahead (h : Cyc s m p) (ht : Told s) (T l : Nat) (h1 : 1 ≤ T) (hT : p ∣ T) : s l = s (l + T) ↔ m ≤ l := by
  rw [eq_comm, h.iff ht l T h1]
  exact ⟨fun h => h.1, fun h => ⟨h, hT⟩⟩
/-- One waits. -/
theorem Cyc.waited (h : Cyc s m p) (ht : Told s) (a q : Nat) (h1 : 1 ≤ q) (he : s (a + q) = s a) (hl : ∀ r, 1 ≤ r → r < q → s (a + r) ≠ s a) : q = p := by
  have h2 := (h.iff ht a q h1).1 he
  rcases Nat.lt_or_ge p q with h3 | h3
  · exact absurd ((h.iff ht a p h.pos).2 ⟨h2.1, Nat.dvd_refl _⟩) (hl p h.pos h3)
  · have := Nat.le_of_dvd (by omega) h2.2
    omega
/-- One that waited in vain. -/
theorem Cyc.in_vain (h : Cyc s m p) (ht : Told s) (a P : Nat) (ha : a + 1 = P) (hl : ∀ r, 1 ≤ r → r ≤ P → s (a + r) ≠ s a) : P ≤ m + p := by
  rcases Nat.lt_or_ge a m with h1 | h1
  · omega
  · rcases Nat.lt_or_ge P p with h2 | h2
    · omega
    · exact absurd ((h.iff ht a p h.pos).2 ⟨h1, Nat.dvd_refl _⟩) (hl p h.pos h2)
end

/-- The pigeons. -/
theorem pigeons (N : Nat) : ∀ f : Nat → Nat, (∀ i, i ≤ N → f i < N) → ∃ i j, i < j ∧ j ≤ N ∧ f i = f j := by
  induction N with
  | zero => intro f h; exact absurd (h 0 (Nat.le_refl _)) (by omega)
  | succ N ih =>
    intro f h
    by_cases he : ∃ i, i < N + 1 ∧ f i = f (N + 1)
    · obtain ⟨i, hi, e⟩ := he
      exact ⟨i, N + 1, by omega, Nat.le_refl _, e⟩
    · -- the last one's hole is closed: the last hole moves there
      have hf := h (N + 1) (Nat.le_refl _)
      have hne : ∀ i, i < N + 1 → f i ≠ f (N + 1) := fun i hi e => he ⟨i, hi, e⟩
      obtain ⟨i, j, hij, hj, e⟩ := ih (fun i => if f i = N then f (N + 1) else f i) (fun i hi => by
        have h1 := h i (by omega)
        have h2 := hne i (by omega)
        show (if f i = N then f (N + 1) else f i) < N
        split <;> omega)
      refine ⟨i, j, hij, by omega, ?_⟩
      have h1 := hne i (by omega)
      have h2 := hne j (by omega)
      split at e <;> split at e <;> omega
end Go.Proofs.Ytkhcabgpbmhimaa
