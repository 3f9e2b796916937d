

/-
  PLAIN FACTS ON LISTS OF NUMBERS. No program is named here.
-/
namespace Go.Proofs.Ytcbcgapnoompbaa
/-- Numbers between two bounds. -/
def within (lo hi : Int) (zs : List Int) : Bool := zs.all fun n => decide (lo ≤ n ∧ n ≤ hi)
theorem within_get {lo hi : Int} {zs : List Int} (h : within lo hi zs = true) (k : Nat) (hk : k < zs.length) : lo ≤ zs[k] ∧ zs[k] ≤ hi := by
  unfold within at h
  have := List.all_eq_true.1 h zs[k] (List.getElem_mem hk)
  simpa using this
theorem within_of {lo hi : Int} {zs : List Int} (h : ∀ (k : Nat) (_ : k < zs.length), lo ≤ zs[k] ∧ zs[k] ≤ hi) : within lo hi zs = true := by
  unfold within
  rw [List.all_eq_true]
  intro x hx
  obtain ⟨k, hk, rfl⟩ := List.getElem_of_mem hx
  simpa using h k hk
theorem within_not {lo hi : Int} {zs : List Int} (k : Nat) (hk : k < zs.length) (h : ¬ (lo ≤ zs[k] ∧ zs[k] ≤ hi)) : within lo hi zs = false := by
  cases hw : within lo hi zs
  · rfl
  · exact absurd (within_get hw k hk) h
/-- Heaps. -/
def good (zs : List Int) : Bool := decide (1 ≤ zs.length ∧ zs.length ≤ 12) && within 0 1000 zs
theorem good_of {zs : List Int} (h : good zs = true) : 1 ≤ zs.length ∧ zs.length ≤ 12 ∧ within 0 1000 zs = true := by
  unfold good at h
  simp at h
  exact ⟨by omega, h.1.2, h.2⟩
theorem good_get {zs : List Int} (h : good zs = true) (k : Nat) (hk : k < zs.length) : 0 ≤ zs[k] ∧ zs[k] ≤ 1000 := within_get (good_of h).2.2 k hk
/-- The sum. -/
def tot : List Int → Int
  | [] => 0
  | x :: xs => x + tot xs
theorem tot_append (a b : List Int) : tot (a ++ b) = tot a + tot b := by
  induction a with
  | nil => simp [tot]
  | cons x xs ih => simp [tot, ih]; omega
theorem tot_take_succ (zs : List Int) (k : Nat) (hk : k < zs.length) : tot (zs.take (k + 1)) = tot (zs.take k) + zs[k] := by
  rw [List.take_succ_eq_append_getElem hk, tot_append]; simp [tot]
theorem tot_bd (lo hi : Int) (zs : List Int) (h : within lo hi zs = true) : lo * zs.length ≤ tot zs ∧ tot zs ≤ hi * zs.length := by
  induction zs with
  | nil => simp [tot]
  | cons x xs ih =>
    have h0 := within_get h 0 (by simp)
    have h1 : within lo hi xs = true := by unfold within at h ⊢; simp at h ⊢; exact h.2
    have := ih h1
    simp [tot, Int.mul_add] at *
    omega
end Go.Proofs.Ytcbcgapnoompbaa

/-
  PLAIN FACTS FOR CHAPTER 1, THE SECOND PART: sums and shares. No program is named here.
-/
namespace Go.Proofs.Ytcbcgapnoompbaa

theorem within_take {lo hi : Int} {zs : List Int} (h : within lo hi zs = true) (k : Nat) : within lo hi (zs.take k) = true := by
  unfold within at h ⊢
  rw [List.all_eq_true] at h ⊢
  exact fun x hx => h x (List.mem_of_mem_take hx)
theorem within_wide {lo hi lo' hi' : Int} {zs : List Int} (h : within lo hi zs = true) (hl : lo' ≤ lo) (hh : hi ≤ hi') : within lo' hi' zs = true := by
  unfold within at h ⊢
  rw [List.all_eq_true] at h ⊢
  intro x hx
  have := h x hx
  simp at this ⊢
  omega
/-- Numbers of modest size: their partial sums do not wrap. -/
theorem tot_small {zs : List Int} (h : within (-1000000000) 1000000000 zs = true) (hn : zs.length ≤ 1000000) (k : Nat) :
    -1000000000000000 ≤ tot (zs.take k) ∧ tot (zs.take k) ≤ 1000000000000000 := by
  have := tot_bd _ _ _ (within_take h k)
  have hl : (zs.take k).length ≤ 1000000 := by rw [List.length_take]; omega
  omega
theorem good_small {zs : List Int} (h : good zs = true) : within (-1000000000) 1000000000 zs = true := within_wide (good_of h).2.2 (by omega) (by omega)
theorem good_tot {zs : List Int} (h : good zs = true) : 0 ≤ tot zs ∧ tot zs ≤ 12000 := by
  obtain ⟨_, h2, h3⟩ := good_of h
  have := tot_bd _ _ _ h3
  omega
theorem tot_all (zs : List Int) : tot (zs.take zs.length) = tot zs := by rw [List.take_length]

/-- How many stones there are; 0 where there are no heaps. -/
def stonesN (zs : List Int) : Int := if good zs then tot zs else 0
/-- Can they be shared equally? -/
def eqOk (zs : List Int) : Bool := good zs && decide (tot zs % zs.length = 0)
def shareN (zs : List Int) : Int := if good zs then tot zs / zs.length else 0
def leftN (zs : List Int) : Int := if good zs then tot zs % zs.length else 0
/-- The share of each, of heaps that can be made equal. -/
def shareEq (zs : List Int) : Int := if eqOk zs then tot zs / zs.length else 0
theorem stonesN_yes {zs : List Int} (h : good zs = true) : stonesN zs = tot zs := by simp [stonesN, h]
theorem stonesN_no {zs : List Int} (h : good zs = false) : stonesN zs = 0 := by simp [stonesN, h]
theorem shareN_yes {zs : List Int} (h : good zs = true) : shareN zs = tot zs / zs.length := by simp [shareN, h]
theorem shareN_no {zs : List Int} (h : good zs = false) : shareN zs = 0 := by simp [shareN, h]
theorem leftN_yes {zs : List Int} (h : good zs = true) : leftN zs = tot zs % zs.length := by simp [leftN, h]
theorem leftN_no {zs : List Int} (h : good zs = false) : leftN zs = 0 := by simp [leftN, h]
theorem eqOk_yes {zs : List Int} (h : good zs = true) : eqOk zs = (tot zs % zs.length == 0) := by
  unfold eqOk; rw [h, Bool.true_and, Bool.eq_iff_iff]; simp
theorem eqOk_no {zs : List Int} (h : good zs = false) : eqOk zs = false := by simp [eqOk, h]
theorem eqOk_good {zs : List Int} (h : eqOk zs = true) : good zs = true := by
  unfold eqOk at h; simp at h; exact h.1
theorem shareEq_yes {zs : List Int} (h : eqOk zs = true) : shareEq zs = tot zs / zs.length := by simp [shareEq, h]
theorem shareEq_no {zs : List Int} (h : eqOk zs = false) : shareEq zs = 0 := by simp [shareEq, h]
end Go.Proofs.Ytcbcgapnoompbaa

/-
  PLAIN FACTS FOR CHAPTER 7: rings, their steps. No program is named here.
-/
namespace Go.Proofs.Ytcbcgapnoompbaa

/-- Rings. -/
def rgood (zs : List Int) : Bool := decide (2 ≤ zs.length ∧ zs.length ≤ 10) && within 0 1000 zs
theorem rgood_of {zs : List Int} (h : rgood zs = true) : 2 ≤ zs.length ∧ zs.length ≤ 10 ∧ within 0 1000 zs = true := by
  unfold rgood at h
  simp at h
  exact ⟨by omega, h.1.2, h.2⟩
theorem rgood_in {zs : List Int} (h : 2 ≤ zs.length ∧ zs.length ≤ 10) : rgood zs = within 0 1000 zs := by
  unfold rgood; simp [h]
theorem rgood_out {zs : List Int} (h : ¬ (2 ≤ zs.length ∧ zs.length ≤ 10)) : rgood zs = false := by
  unfold rgood; simp; omega
theorem rgood_get {zs : List Int} (h : rgood zs = true) (k : Nat) (hk : k < zs.length) : 0 ≤ zs[k] ∧ zs[k] ≤ 1000 := within_get (rgood_of h).2.2 k hk
/-- A size of rings. -/
def rsize (n : Int) : Bool := decide (2 ≤ n ∧ n ≤ 10)

/-- The difference of two numbers. -/
def dif (a b : Int) : Int := max (a - b) (-(a - b))
theorem dif_bd {a b hi : Int} (ha : 0 ≤ a ∧ a ≤ hi) (hb : 0 ≤ b ∧ b ≤ hi) : 0 ≤ dif a b ∧ dif a b ≤ hi := by unfold dif; omega
/-- Who is behind k in a ring of n. -/
def nextOf (k n : Nat) : Nat := (k + 1) % n
theorem nextOf_lt {k n : Nat} (h : k < n) : nextOf k n < n := Nat.mod_lt _ (by omega)
theorem nextOf_in {k n : Nat} (h : k + 1 < n) : nextOf k n = k + 1 := Nat.mod_eq_of_lt h
theorem nextOf_end {k n : Nat} (h : k + 1 = n) : nextOf k n = 0 := by unfold nextOf; rw [h]; exact Nat.mod_self n
/-- A step. -/
def rstep1 (zs : List Int) (k : Nat) : Int := dif (zs.getD k 0) (zs.getD (nextOf k zs.length) 0)
def rstep (zs : List Int) : List Int := (List.range zs.length).map (rstep1 zs)
theorem rstep_length (zs : List Int) : (rstep zs).length = zs.length := by simp [rstep]
theorem rstep_get (zs : List Int) (k : Nat) (hk : k < zs.length) : (rstep zs)[k]'(by rw [rstep_length]; exact hk) = rstep1 zs k := by simp [rstep]
theorem rget {zs : List Int} {k : Nat} (hk : k < zs.length) : zs.getD k 0 = zs[k] := by simp [List.getD, List.getElem?_eq_getElem hk]
theorem rstep1_eq (zs : List Int) (k : Nat) (hk : k < zs.length) : rstep1 zs k = dif zs[k] (zs[nextOf k zs.length]'(nextOf_lt hk)) := by
  unfold rstep1
  rw [rget hk, rget (nextOf_lt hk)]
theorem rstep_take_succ (zs : List Int) (k : Nat) (hk : k < zs.length) : (rstep zs).take (k + 1) = (rstep zs).take k ++ [rstep1 zs k] := by
  rw [List.take_succ_eq_append_getElem (by rw [rstep_length]; exact hk), rstep_get zs k hk]
theorem rstep_within {zs : List Int} {b : Int} (h : within 0 b zs = true) : within 0 b (rstep zs) = true := within_of fun k hk => by
  rw [rstep_length] at hk
  rw [rstep_get zs k hk, rstep1_eq zs k hk]
  exact dif_bd (within_get h k hk) (within_get h _ (nextOf_lt hk))
theorem rstep_good {zs : List Int} (h : rgood zs = true) : rgood (rstep zs) = true := by
  obtain ⟨h1, h2, h3⟩ := rgood_of h
  rw [rgood_in (by rw [rstep_length]; exact ⟨h1, h2⟩)]
  exact rstep_within h3

/-- The ring behind so many steps. -/
def rit (zs : List Int) : Nat → List Int
  | 0 => zs
  | t + 1 => rstep (rit zs t)
theorem rit_length (zs : List Int) (t : Nat) : (rit zs t).length = zs.length := by
  induction t with
  | zero => rfl
  | succ t ih => rw [rit, rstep_length, ih]
theorem rit_within {zs : List Int} {b : Int} (h : within 0 b zs = true) (t : Nat) : within 0 b (rit zs t) = true := by
  induction t with
  | zero => exact h
  | succ t ih => exact rstep_within ih
theorem rit_good {zs : List Int} (h : rgood zs = true) (t : Nat) : rgood (rit zs t) = true := by
  induction t with
  | zero => exact h
  | succ t ih => exact rstep_good ih
theorem rit_add (zs : List Int) (s t : Nat) : rit zs (s + t) = rit (rit zs s) t := by
  induction t with
  | zero => rfl
  | succ t ih => rw [Nat.add_succ, rit, ih, rit]

/-- What RingStep tells, what MirrorRing tells, what TurnRing tells. -/
def rstepR (zs : List Int) : List Int := if rgood zs then rstep zs else []
theorem rstepR_short (zs : List Int) (h : zs.length ≤ 1048576) : (rstepR zs).length ≤ 1048576 := by
  unfold rstepR; split
  · rw [rstep_length]; exact h
  · simp
def rmirR (zs : List Int) : List Int := if rgood zs then zs.reverse else []
theorem rmirR_short (zs : List Int) (h : zs.length ≤ 1048576) : (rmirR zs).length ≤ 1048576 := by
  unfold rmirR; split
  · rw [List.length_reverse]; exact h
  · simp
def rturnOk (zs : List Int) (b : Int) : Bool := rgood zs && decide (0 ≤ b ∧ b < zs.length)
def rturnR (zs : List Int) (b : Int) : List Int := if rturnOk zs b then zs.drop b.toNat ++ zs.take b.toNat else []
theorem rturnR_short (zs : List Int) (b : Int) (h : zs.length ≤ 1048576) : (rturnR zs b).length ≤ 1048576 := by
  unfold rturnR; split
  · rw [List.length_append, List.length_drop, List.length_take]; omega
  · simp
/-- Each number so many times as great, and more: what LiftRing and ScaleRing tell. -/
def rmap (t m : Int) (zs : List Int) : List Int := zs.map fun n => n * t + m
theorem rmap_length (t m : Int) (zs : List Int) : (rmap t m zs).length = zs.length := by simp [rmap]
theorem rmap_get (t m : Int) (zs : List Int) (k : Nat) (hk : k < zs.length) : (rmap t m zs)[k]'(by rw [rmap_length]; exact hk) = zs[k] * t + m := by simp [rmap]
theorem rmap_take_succ (t m : Int) (zs : List Int) (k : Nat) (hk : k < zs.length) : (rmap t m zs).take (k + 1) = (rmap t m zs).take k ++ [zs[k] * t + m] := by
  rw [List.take_succ_eq_append_getElem (by rw [rmap_length]; exact hk), rmap_get t m zs k hk]
def rmapOk (t m b : Int) (zs : List Int) : Bool := rgood zs && decide (0 ≤ b ∧ b ≤ 1000) && rgood (rmap t m zs)
def rmapR (t m b : Int) (zs : List Int) : List Int := if rmapOk t m b zs then rmap t m zs else []
theorem rmapR_short (t m b : Int) (zs : List Int) (h : zs.length ≤ 1048576) : (rmapR t m b zs).length ≤ 1048576 := by
  unfold rmapR; split
  · rw [rmap_length]; exact h
  · simp
def liftR (zs : List Int) (b : Int) : List Int := rmapR 1 b b zs
def liftOk (zs : List Int) (b : Int) : Bool := rmapOk 1 b b zs
theorem liftR_short (zs : List Int) (b : Int) (h : zs.length ≤ 1048576) : (liftR zs b).length ≤ 1048576 := rmapR_short _ _ _ zs h
def scaleR (zs : List Int) (b : Int) : List Int := rmapR b 0 b zs
def scaleOk (zs : List Int) (b : Int) : Bool := rmapOk b 0 b zs
theorem scaleR_short (zs : List Int) (b : Int) (h : zs.length ≤ 1048576) : (scaleR zs b).length ≤ 1048576 := rmapR_short _ _ _ zs h
end Go.Proofs.Ytcbcgapnoompbaa


/-
  PLAIN FACTS: what comes again behind a lead by a period. The hare and the tortoise, one that waits, two a period apart. No program is named here.
-/
namespace Go.Proofs.Ytcbcgapnoompbaa

/-- The least of those that there are. -/
theorem least_of {P : Nat → Prop} (n : Nat) (h : P n) : ∃ m, m ≤ n ∧ P m ∧ ∀ k, k < m → ¬ P k := by
  induction n using Nat.strongRecOn with
  | _ n ih =>
    by_cases he : ∃ k, k < n ∧ P k
    · obtain ⟨k, hk, hp⟩ := he
      obtain ⟨m, h1, h2, h3⟩ := ih k hk hp
      exact ⟨m, by omega, h2, h3⟩
    · exact ⟨n, Nat.le_refl _, h, fun k hk hp => he ⟨k, hk, hp⟩⟩

section
variable {α : Type} {s : Nat → α}
/-- Each is told by the one before. -/
def Told (s : Nat → α) : Prop := ∀ i j, s i = s j → s (i + 1) = s (j + 1)
theorem Told.add (h : Told s) {i j : Nat} (e : s i = s j) (k : Nat) : s (i + k) = s (j + k) := by
  induction k with
  | zero => exact e
  | succ k ih => exact h _ _ ih
/-- The lead is m, the period p. -/
structure Cyc (s : Nat → α) (m p : Nat) : Prop where
  pos : 1 ≤ p
  again : s (m + p) = s m
  lead : ∀ i, i < m → ∀ q, 1 ≤ q → s (i + q) ≠ s i
  least : ∀ q, 1 ≤ q → q < p → s (m + q) ≠ s m
theorem Cyc.there (ht : Told s) {i q : Nat} (hq : 1 ≤ q) (h : s (i + q) = s i) : ∃ m p, m ≤ i ∧ p ≤ q ∧ Cyc s m p := by
  obtain ⟨m, hm, ⟨q', hq', h'⟩, hl⟩ := least_of (P := fun i => ∃ q, 1 ≤ q ∧ s (i + q) = s i) i ⟨q, hq, h⟩
  have hmq : s (m + q) = s m := by
    -- from i on it comes again behind q; and it comes from m to i' > i by rounds of q'
    have h1 : ∀ k, s (m + k * q') = s m := by
      intro k
      induction k with
      | zero => simp
      | succ k ih => rw [Nat.succ_mul, ← Nat.add_assoc, ht.add ih q', h']
    have hb : i ≤ m + i * q' := by
      have : i * 1 ≤ i * q' := Nat.mul_le_mul_left _ hq'
      omega
    have h2 : s (m + i * q' + q) = s (m + i * q') := by
      have := ht.add h (m + i * q' - i)
      rw [show i + q + (m + i * q' - i) = m + i * q' + q by omega, show i + (m + i * q' - i) = m + i * q' by omega] at this
      exact this
    rw [← ht.add (h1 i) q, h2, h1 i]
  obtain ⟨p, hp, ⟨hp1, hp2⟩, hpl⟩ := least_of (P := fun p => 1 ≤ p ∧ s (m + p) = s m) q ⟨hq, hmq⟩
  exact ⟨m, p, hm, hp, hp1, hp2, fun i hi q hq e => hl i hi ⟨q, hq, e⟩, fun q hq hlt e => hpl q hlt ⟨hq, e⟩⟩
variable {m p : Nat}
theorem Cyc.round (h : Cyc s m p) (ht : Told s) (i : Nat) (hi : m ≤ i) : s (i + p) = s i := by
  have := ht.add h.again (i - m)
  rw [show m + p + (i - m) = i + p by omega, show m + (i - m) = i by omega] at this
  exact this
theorem Cyc.rounds (h : Cyc s m p) (ht : Told s) (i k : Nat) (hi : m ≤ i) : s (i + k * p) = s i := by
  induction k with
  | zero => simp
  | succ k ih => rw [Nat.succ_mul, ← Nat.add_assoc, h.round ht _ (by omega), ih]
theorem Cyc.back (h : Cyc s m p) (ht : Told s) {i q : Nat} (hi : m ≤ i) (e : s (i + q) = s i) : s (m + q) = s m := by
  have h1 := h.rounds ht m i (Nat.le_refl _)
  have hp := h.pos
  have hb : i ≤ m + i * p := by
    have : i * 1 ≤ i * p := Nat.mul_le_mul_left _ hp
    omega
  have h2 : s (m + i * p + q) = s (m + i * p) := by
    have := ht.add e (m + i * p - i)
    rw [show i + q + (m + i * p - i) = m + i * p + q by omega, show i + (m + i * p - i) = m + i * p by omega] at this
    exact this
  rw [← ht.add h1 q, h2, h1]
theorem Cyc.dvd (h : Cyc s m p) (ht : Told s) {i q : Nat} (hi : m ≤ i) (e : s (i + q) = s i) : p ∣ q := by
  have h1 := h.back ht hi e
  have hp := h.pos
  have h2 : s (m + q % p) = s m := by
    have h3 := h.rounds ht (m + q % p) (q / p) (by omega)
    rw [show m + q % p + q / p * p = m + q by have := Nat.div_add_mod q p; rw [Nat.mul_comm] at this; omega] at h3
    rw [← h3, h1]
  rcases Nat.eq_zero_or_pos (q % p) with h0 | h0
  · exact Nat.dvd_of_mod_eq_zero h0
  · exact absurd h2 (h.least _ h0 (Nat.mod_lt _ hp))
/-- When is it the same? -/
theorem Cyc.iff (h : Cyc s m p) (ht : Told s) (i q : Nat) (hq : 1 ≤ q) : s (i + q) = s i ↔ m ≤ i ∧ p ∣ q := by
  constructor
  · intro e
    have hi : m ≤ i := by
      rcases Nat.lt_or_ge i m with h1 | h1
      · exact absurd e (h.lead i h1 q hq)
      · exact h1
    exact ⟨hi, h.dvd ht hi e⟩
  · rintro ⟨hi, k, rfl⟩
    rw [Nat.mul_comm]
    exact h.rounds ht i k hi
theorem Cyc.unique (ht : Told s) {m' p' : Nat} (h : Cyc s m p) (h' : Cyc s m' p') : m = m' ∧ p = p' := by
  have a := (h.iff ht m' p' h'.pos).1 h'.again
  have b := (h'.iff ht m p h.pos).1 h.again
  exact ⟨by omega, Nat.dvd_antisymm a.2 b.2⟩
theorem Cyc.same_mod (h : Cyc s m p) (ht : Told s) (n : Nat) (hn : m ≤ n) : s n = s (m + (n - m) % p) := by
  have h3 := h.rounds ht (m + (n - m) % p) ((n - m) / p) (by omega)
  rw [show m + (n - m) % p + (n - m) / p * p = n by have := Nat.div_add_mod (n - m) p; rw [Nat.mul_comm] at this; omega] at h3
  exact h3

/-- The hare and the tortoise meet. -/
theorem Cyc.meet (h : Cyc s m p) (ht : Told s) (t : Nat) (h1 : 1 ≤ t) : s t = s (2 * t) ↔ m ≤ t ∧ p ∣ t := by
  rw [show 2 * t = t + t by omega, eq_comm]
  exact h.iff ht t t h1
theorem Cyc.meeting (h : Cyc s m p) (ht : Told s) : ∃ t, 1 ≤ t ∧ t ≤ m + p ∧ s t = s (2 * t) := by
  have hp := h.pos
  refine ⟨(m / p + 1) * p, ?_, ?_, ?_⟩
  · rw [Nat.succ_mul]; omega
  · rw [Nat.succ_mul]
    have := Nat.div_mul_le_self m p
    omega
  · rw [h.meet ht _ (by rw [Nat.succ_mul]; omega)]
    refine ⟨?_, Nat.dvd_mul_left _ _⟩
    rw [Nat.succ_mul]
    have h1 := Nat.div_add_mod m p
    have h2 := Nat.mod_lt m (show 0 < p from hp)
    rw [Nat.mul_comm] at h1
    omega
theorem Cyc.not_yet (h : Cyc s m p) (ht : Told s) (t : Nat) (hu : ∀ u, 1 ≤ u → u ≤ t → s u ≠ s (2 * u)) : t < m + p := by
  obtain ⟨T, h1, h2, h3⟩ := h.meeting ht
  rcases Nat.lt_or_ge t T with h4 | h4
  · omega
  · exact absurd h3 (hu T h1 h4)
/-- From the beginning on, one a meeting ahead: the lead. -/
theorem Cyc.ahead (h : Cyc s m p) (ht : Told s) (T l : Nat) (h1 : 1 ≤ T) (hT : p ∣ T) : s l = s (l + T) ↔ m ≤ l := by
  rw [eq_comm, h.iff ht l T h1]
  exact ⟨fun h => h.1, fun h => ⟨h, hT⟩⟩
/-- One waits. -/
theorem Cyc.waited (h : Cyc s m p) (ht : Told s) (a q : Nat) (h1 : 1 ≤ q) (he : s (a + q) = s a) (hl : ∀ r, 1 ≤ r → r < q → s (a + r) ≠ s a) : q = p := by
  have h2 := (h.iff ht a q h1).1 he
  rcases Nat.lt_or_ge p q with h3 | h3
  · exact absurd ((h.iff ht a p h.pos).2 ⟨h2.1, Nat.dvd_refl _⟩) (hl p h.pos h3)
  · have := Nat.le_of_dvd (by omega) h2.2
    omega
/-- One that waited in vain. -/
theorem Cyc.in_vain (h : Cyc s m p) (ht : Told s) (a P : Nat) (ha : a + 1 = P) (hl : ∀ r, 1 ≤ r → r ≤ P → s (a + r) ≠ s a) : P ≤ m + p := by
  rcases Nat.lt_or_ge a m with h1 | h1
  · omega
  · rcases Nat.lt_or_ge P p with h2 | h2
    · omega
    · exact absurd ((h.iff ht a p h.pos).2 ⟨h1, Nat.dvd_refl _⟩) (hl p h.pos h2)
end

/-- The pigeons. -/
theorem pigeons (N : Nat) : ∀ f : Nat → Nat, (∀ i, i ≤ N → f i < N) → ∃ i j, i < j ∧ j ≤ N ∧ f i = f j := by
  induction N with
  | zero => intro f h; exact absurd (h 0 (Nat.le_refl _)) (by omega)
  | succ N ih =>
    intro f h
    by_cases he : ∃ i, i < N + 1 ∧ f i = f (N + 1)
    · obtain ⟨i, hi, e⟩ := he
      exact ⟨i, N + 1, by omega, Nat.le_refl _, e⟩
    · -- the last one's hole is closed: the last hole moves there
      have hf := h (N + 1) (Nat.le_refl _)
      have hne : ∀ i, i < N + 1 → f i ≠ f (N + 1) := fun i hi e => he ⟨i, hi, e⟩
      obtain ⟨i, j, hij, hj, e⟩ := ih (fun i => if f i = N then f (N + 1) else f i) (fun i hi => by
        have h1 := h i (by omega)
        have h2 := hne i (by omega)
        show (if f i = N then f (N + 1) else f i) < N
        split <;> omega)
      refine ⟨i, j, hij, by omega, ?_⟩
      have h1 := hne i (by omega)
      have h2 := hne j (by omega)
      split at e <;> split at e <;> omega
end Go.Proofs.Ytcbcgapnoompbaa

/-
  PLAIN FACTS FOR CHAPTER 7: every ring comes again, soon. No program is named here.
-/
namespace Go.Proofs.Ytcbcgapnoompbaa

theorem rit_told (zs : List Int) : Told (rit zs) := fun i j e => by
  show rstep (rit zs i) = rstep (rit zs j)
  rw [e]

/-- A ring told on and on. -/
def onR (zs : List Int) (j : Nat) : Int := zs.getD (j % zs.length) 0
theorem dif_zero_M {a b M : Int} (ha : a = 0 ∨ a = M) (hb : b = 0 ∨ b = M) (hM : 0 ≤ M) : dif a b = 0 ∨ dif a b = M := by
  unfold dif; rcases ha with rfl | rfl <;> rcases hb with rfl | rfl <;> omega
theorem onR_step (zs : List Int) (h0 : 0 < zs.length) (j : Nat) : onR (rstep zs) j = dif (onR zs j) (onR zs (j + 1)) := by
  unfold onR
  have hlt : j % zs.length < zs.length := Nat.mod_lt _ h0
  rw [rstep_length, rget (by rw [rstep_length]; exact hlt), rstep_get zs _ hlt]
  unfold rstep1 nextOf
  rw [show (j % zs.length + 1) % zs.length = (j + 1) % zs.length by rw [Nat.add_mod, Nat.mod_mod, ← Nat.add_mod]]
theorem onR_within {zs : List Int} {M : Int} (h : within 0 M zs = true) (h0 : 0 < zs.length) (j : Nat) : 0 ≤ onR zs j ∧ onR zs j ≤ M := by
  have hlt : j % zs.length < zs.length := Nat.mod_lt _ h0
  unfold onR
  rw [rget hlt]
  exact within_get h _ hlt
/-- Where the greatest number stays there are zeros and greatest numbers alone. -/
theorem stays {M : Int} (hM : 0 < M) (k : Nat) : ∀ (zs : List Int) (i : Nat), 0 < zs.length → within 0 M zs = true → onR (rit zs k) i = M →
    (∀ d, d ≤ k → onR zs (i + d) = 0 ∨ onR zs (i + d) = M) ∧ ∃ d, d ≤ k ∧ onR zs (i + d) = M := by
  induction k with
  | zero =>
    intro zs i h0 hw he
    refine ⟨fun d hd => .inr ?_, 0, Nat.le_refl _, he⟩
    rw [show d = 0 by omega]; exact he
  | succ k ih =>
    intro zs i h0 hw he
    have he' : onR (rit (rstep zs) k) i = M := by
      rw [show k + 1 = 1 + k by omega, rit_add] at he
      exact he
    obtain ⟨h1, d0, hd0, h2⟩ := ih (rstep zs) i (by rw [rstep_length]; exact h0) (rstep_within hw) he'
    have hs : ∀ d, onR (rstep zs) (i + d) = dif (onR zs (i + d)) (onR zs (i + d + 1)) := fun d => onR_step zs h0 (i + d)
    have hb : ∀ j, 0 ≤ onR zs j ∧ onR zs j ≤ M := fun j => onR_within hw h0 j
    -- the two that differ by M
    have h3 : (onR zs (i + d0) = 0 ∧ onR zs (i + d0 + 1) = M) ∨ (onR zs (i + d0) = M ∧ onR zs (i + d0 + 1) = 0) := by
      have a := hb (i + d0)
      have b := hb (i + d0 + 1)
      rw [hs] at h2
      unfold dif at h2
      omega
    have good_next : ∀ d, d ≤ k → (onR zs (i + d) = 0 ∨ onR zs (i + d) = M) → (onR zs (i + d + 1) = 0 ∨ onR zs (i + d + 1) = M) := by
      intro d hd hg
      have a := hb (i + d)
      have b := hb (i + d + 1)
      have c := h1 d hd
      rw [hs] at c
      unfold dif at c
      omega
    have good_last : ∀ d, d ≤ k → (onR zs (i + d + 1) = 0 ∨ onR zs (i + d + 1) = M) → (onR zs (i + d) = 0 ∨ onR zs (i + d) = M) := by
      intro d hd hg
      have a := hb (i + d)
      have b := hb (i + d + 1)
      have c := h1 d hd
      rw [hs] at c
      unfold dif at c
      omega
    have hup : ∀ e, d0 + e ≤ k + 1 → onR zs (i + (d0 + e)) = 0 ∨ onR zs (i + (d0 + e)) = M := by
      intro e
      induction e with
      | zero => intro _; rw [Nat.add_zero]; omega
      | succ e ihe => intro hle; exact good_next (d0 + e) (by omega) (ihe (by omega))
    have hdn : ∀ e, e ≤ d0 → onR zs (i + (d0 - e)) = 0 ∨ onR zs (i + (d0 - e)) = M := by
      intro e
      induction e with
      | zero => intro _; rw [Nat.sub_zero]; omega
      | succ e ihe =>
        intro hle
        refine good_last (d0 - (e + 1)) (by omega) ?_
        have := ihe (by omega)
        rw [show i + (d0 - e) = i + (d0 - (e + 1)) + 1 by omega] at this
        exact this
    refine ⟨fun d hd => ?_, ?_⟩
    · rcases Nat.lt_or_ge d d0 with h4 | h4
      · have := hdn (d0 - d) (by omega)
        rw [show d0 - (d0 - d) = d by omega] at this
        exact this
      · have := hup (d - d0) (by omega)
        rw [show d0 + (d - d0) = d by omega] at this
        exact this
    · rcases h3 with h3 | h3
      · exact ⟨d0 + 1, by omega, h3.2⟩
      · exact ⟨d0, by omega, h3.1⟩

/-- Zeros and greatest numbers alone. -/
def two (M : Int) (zs : List Int) : Bool := zs.all fun z => decide (z = 0 ∨ z = M)
theorem two_get {M : Int} {zs : List Int} (h : two M zs = true) (k : Nat) (hk : k < zs.length) : zs[k] = 0 ∨ zs[k] = M := by
  unfold two at h
  have := List.all_eq_true.1 h zs[k] (List.getElem_mem hk)
  simpa using this
theorem two_of {M : Int} {zs : List Int} (h : ∀ (k : Nat) (_ : k < zs.length), zs[k] = 0 ∨ zs[k] = M) : two M zs = true := by
  unfold two
  rw [List.all_eq_true]
  intro x hx
  obtain ⟨k, hk, rfl⟩ := List.getElem_of_mem hx
  simpa using h k hk
theorem two_step {M : Int} {zs : List Int} (hM : 0 ≤ M) (h : two M zs = true) : two M (rstep zs) = true := two_of fun k hk => by
  rw [rstep_length] at hk
  rw [rstep_get zs k hk, rstep1_eq zs k hk]
  exact dif_zero_M (two_get h k hk) (two_get h _ (nextOf_lt hk)) hM
theorem two_it {M : Int} {zs : List Int} (hM : 0 ≤ M) (h : two M zs = true) (t : Nat) : two M (rit zs t) = true := by
  induction t with
  | zero => exact h
  | succ t ih => exact two_step hM ih
/-- A code of such a ring. -/
def code (M : Int) : List Int → Nat
  | [] => 0
  | z :: zs => 2 * code M zs + if z = M then 1 else 0
theorem code_lt (M : Int) (zs : List Int) : code M zs < 2 ^ zs.length := by
  induction zs with
  | nil => simp [code]
  | cons z zs ih =>
    rw [code, List.length_cons, Nat.pow_succ]
    split <;> omega
theorem code_inj {M : Int} (hM : 0 < M) : ∀ {xs ys : List Int}, xs.length = ys.length → two M xs = true → two M ys = true → code M xs = code M ys → xs = ys
  | [], [], _, _, _, _ => rfl
  | [], _ :: _, h, _, _, _ => by simp at h
  | _ :: _, [], h, _, _, _ => by simp at h
  | x :: xs, y :: ys, h, h1, h2, e => by
    have hx := two_get h1 0 (by simp)
    have hy := two_get h2 0 (by simp)
    have h1' : two M xs = true := by unfold two at h1 ⊢; simp at h1 ⊢; exact h1.2
    have h2' : two M ys = true := by unfold two at h2 ⊢; simp at h2 ⊢; exact h2.2
    rw [code, code] at e
    simp only [List.getElem_cons_zero] at hx hy
    have hxy : x = y ∧ code M xs = code M ys := by
      split at e <;> split at e <;> omega
    rw [hxy.1, code_inj hM (by simpa using h) h1' h2' hxy.2]

theorem again_two {M : Int} (hM : 0 < M) {zs : List Int} (h10 : zs.length ≤ 10) (h : two M zs = true) : ∃ i j, i < j ∧ j ≤ 1024 ∧ rit zs i = rit zs j := by
  obtain ⟨i, j, hij, hj, e⟩ := pigeons 1024 (fun t => code M (rit zs t)) (fun t _ => by
    have h1 := code_lt M (rit zs t)
    have h2 : 2 ^ (rit zs t).length ≤ 2 ^ 10 := Nat.pow_le_pow_right (by omega) (by rw [rit_length]; exact h10)
    show code M (rit zs t) < 1024
    omega)
  exact ⟨i, j, hij, hj, code_inj hM (by rw [rit_length, rit_length]) (two_it (by omega) h i) (two_it (by omega) h j) e⟩
theorem two_of_on {M : Int} {zs : List Int} (i : Nat) (h : ∀ d, d ≤ zs.length - 1 → onR zs (i + d) = 0 ∨ onR zs (i + d) = M) : two M zs = true := two_of fun k hk => by
  -- k is (i + d) % n for some d < n
  have h0 : 0 < zs.length := by omega
  have h1 := h ((k + (zs.length - i % zs.length)) % zs.length) (by have := Nat.mod_lt (k + (zs.length - i % zs.length)) h0; omega)
  have h2 : onR zs (i + (k + (zs.length - i % zs.length)) % zs.length) = zs[k] := by
    unfold onR
    have hi := Nat.mod_lt i h0
    rw [show (i + (k + (zs.length - i % zs.length)) % zs.length) % zs.length = k by
      rw [Nat.add_mod, Nat.mod_mod, ← Nat.add_mod]
      have e1 := Nat.div_add_mod i zs.length
      rw [show i + (k + (zs.length - i % zs.length)) = k + zs.length * (i / zs.length + 1) by rw [Nat.mul_add]; omega, Nat.add_mul_mod_self_left, Nat.mod_eq_of_lt hk], rget hk]
  rw [h2] at h1
  exact h1
theorem again_bound (M : Nat) : ∀ zs : List Int, 2 ≤ zs.length → zs.length ≤ 10 → within 0 (M : Int) zs = true → ∃ i j, i < j ∧ j ≤ 1024 + 9 * M ∧ rit zs i = rit zs j := by
  induction M with
  | zero =>
    intro zs h2 h10 hw
    obtain ⟨i, j, h1, h3, h4⟩ := again_two (M := 1) (by omega) h10 (two_of fun k hk => by have := within_get hw k hk; omega)
    exact ⟨i, j, h1, by omega, h4⟩
  | succ M ih =>
    intro zs h2 h10 hw
    by_cases ht : two ((M + 1 : Nat) : Int) zs = true
    · obtain ⟨i, j, h1, h3, h4⟩ := again_two (by omega) h10 ht
      exact ⟨i, j, h1, by omega, h4⟩
    · have hw' : within 0 (M : Int) (rit zs (zs.length - 1)) = true := within_of fun k hk => by
        have h1 := within_get (rit_within hw (zs.length - 1)) k hk
        by_cases e : (rit zs (zs.length - 1))[k] = ((M + 1 : Nat) : Int)
        · exfalso
          apply ht
          have hk' : k < zs.length := by rw [rit_length] at hk; exact hk
          refine two_of_on k (stays (by omega) (zs.length - 1) zs k (by omega) hw ?_).1
          unfold onR
          rw [rit_length, Nat.mod_eq_of_lt hk', rget hk]
          exact e
        · omega
      obtain ⟨i, j, h1, h3, h4⟩ := ih _ (by rw [rit_length]; exact h2) (by rw [rit_length]; exact h10) hw'
      refine ⟨zs.length - 1 + i, zs.length - 1 + j, by omega, by omega, ?_⟩
      rw [rit_add, rit_add, h4]

/-- The lead and the period of a ring: the least ones. -/
def cycOk (zs : List Int) (x : Nat × Nat) : Bool := decide (1 ≤ x.2) && (rit zs (x.1 + x.2) == rit zs x.1)
theorem ring_cyc {zs : List Int} (h : rgood zs = true) : ∃ m p, m + p ≤ 10024 ∧ Cyc (rit zs) m p := by
  obtain ⟨h2, h10, hw⟩ := rgood_of h
  obtain ⟨i, j, hij, hj, e⟩ := again_bound 1000 zs h2 h10 hw
  obtain ⟨m, p, hm, hp, hc⟩ := Cyc.there (rit_told zs) (i := i) (q := j - i) (by omega) (by rw [show i + (j - i) = j by omega]; exact e.symm)
  exact ⟨m, p, by omega, hc⟩
end Go.Proofs.Ytcbcgapnoompbaa

/-
  PLAIN FACTS FOR CHAPTER 3: candies, made even, passed on, least and greatest numbers, rest. No program is named here.
-/
namespace Go.Proofs.Ytcbcgapnoompbaa

/-- Candies. -/
def cgood (zs : List Int) : Bool := decide (2 ≤ zs.length ∧ zs.length ≤ 12) && within 0 200 zs
theorem cgood_of {zs : List Int} (h : cgood zs = true) : 2 ≤ zs.length ∧ zs.length ≤ 12 ∧ within 0 200 zs = true := by
  unfold cgood at h
  simp at h
  exact ⟨by omega, h.1.2, h.2⟩
theorem cgood_in {zs : List Int} (h : 2 ≤ zs.length ∧ zs.length ≤ 12) : cgood zs = within 0 200 zs := by
  unfold cgood; simp [h]
theorem cgood_out {zs : List Int} (h : ¬ (2 ≤ zs.length ∧ zs.length ≤ 12)) : cgood zs = false := by
  unfold cgood; simp; omega
theorem cgood_get {zs : List Int} (h : cgood zs = true) (k : Nat) (hk : k < zs.length) : 0 ≤ zs[k] ∧ zs[k] ≤ 200 := within_get (cgood_of h).2.2 k hk

/-- Numbers of a modest size, none less than 0. -/
def calm (zs : List Int) : Bool := within 0 1000000 zs
theorem calm_get {zs : List Int} (h : calm zs = true) (k : Nat) (hk : k < zs.length) : 0 ≤ zs[k] ∧ zs[k] ≤ 1000000 := within_get h k hk
theorem calm_of_good {zs : List Int} (h : cgood zs = true) : calm zs = true := within_of fun k hk => by
  have := cgood_get h k hk
  omega

/-- One made even; all made even. -/
def ev1 (n : Int) : Int := n + n % 2
theorem ev1_bd {n b : Int} (h : 0 ≤ n ∧ n ≤ b) : 0 ≤ ev1 n ∧ ev1 n ≤ b + 1 := by unfold ev1; omega
def evens (zs : List Int) : List Int := zs.map ev1
theorem evens_length (zs : List Int) : (evens zs).length = zs.length := by simp [evens]
theorem evens_get (zs : List Int) (k : Nat) (hk : k < zs.length) : (evens zs)[k]'(by rw [evens_length]; exact hk) = ev1 zs[k] := by simp [evens]
theorem evens_take_succ (zs : List Int) (k : Nat) (hk : k < zs.length) : (evens zs).take (k + 1) = (evens zs).take k ++ [zs[k] + zs[k] % 2] := by
  rw [List.take_succ_eq_append_getElem (by rw [evens_length]; exact hk), evens_get zs k hk]; rfl
theorem evens_within {zs : List Int} {b : Int} (h : within 0 b zs = true) : within 0 (b + 1) (evens zs) = true := within_of fun k hk => by
  rw [evens_length] at hk
  rw [evens_get zs k hk]
  exact ev1_bd (within_get h k hk)

/-- Who is at the left of k in a circle of n. -/
def leftOf (k n : Nat) : Nat := (k + n - 1) % n
theorem leftOf_lt {k n : Nat} (h : k < n) : leftOf k n < n := Nat.mod_lt _ (by omega)
theorem leftOf_zero {n : Nat} (h : 0 < n) : leftOf 0 n = n - 1 := by unfold leftOf; rw [Nat.zero_add, Nat.mod_eq_of_lt (by omega)]
theorem leftOf_succ {k n : Nat} (h : k + 1 < n) : leftOf (k + 1) n = k := by
  unfold leftOf
  rw [show k + 1 + n - 1 = k + n from by omega, Nat.add_mod_right, Nat.mod_eq_of_lt (by omega)]
/-- Halves passed to the right. -/
def pass1 (es : List Int) (k : Nat) : Int := es.getD k 0 / 2 + es.getD (leftOf k es.length) 0 / 2
def pass (es : List Int) : List Int := (List.range es.length).map (pass1 es)
theorem pass_length (es : List Int) : (pass es).length = es.length := by simp [pass]
theorem pass_get (es : List Int) (k : Nat) (hk : k < es.length) : (pass es)[k]'(by rw [pass_length]; exact hk) = pass1 es k := by simp [pass]
theorem pass_take_succ (es : List Int) (k : Nat) (hk : k < es.length) : (pass es).take (k + 1) = (pass es).take k ++ [pass1 es k] := by
  rw [List.take_succ_eq_append_getElem (by rw [pass_length]; exact hk), pass_get es k hk]
theorem getD_get {zs : List Int} {k : Nat} (hk : k < zs.length) : zs.getD k 0 = zs[k] := by simp [List.getD, List.getElem?_eq_getElem hk]
theorem pass1_eq (es : List Int) (k : Nat) (hk : k < es.length) : pass1 es k = es[k] / 2 + (es[leftOf k es.length]'(leftOf_lt hk)) / 2 := by
  unfold pass1
  rw [getD_get hk, getD_get (leftOf_lt hk)]
/-- A step. -/
def cstep (zs : List Int) : List Int := pass (evens zs)
theorem cstep_length (zs : List Int) : (cstep zs).length = zs.length := by unfold cstep; rw [pass_length, evens_length]
theorem cstep_get (zs : List Int) (k : Nat) (hk : k < zs.length) :
    (cstep zs)[k]'(by rw [cstep_length]; exact hk) = ev1 zs[k] / 2 + ev1 (zs[leftOf k zs.length]'(leftOf_lt hk)) / 2 := by
  unfold cstep
  rw [pass_get _ k (by rw [evens_length]; exact hk), pass1_eq _ k (by rw [evens_length]; exact hk)]
  have h1 := evens_get zs k hk
  have h2 := evens_get zs (leftOf k zs.length) (leftOf_lt hk)
  simp only [evens_length]
  rw [h1, h2]
def crest (zs : List Int) : Bool := cstep zs == zs

/-- The least and the greatest number. -/
def mn (zs : List Int) : Int := zs.foldl min (zs.headD 0)
def mx (zs : List Int) : Int := zs.foldl max (zs.headD 0)
theorem headD_take (zs : List Int) (k : Nat) (h : 0 < k) : (zs.take k).headD 0 = zs.headD 0 := by
  cases zs with
  | nil => simp
  | cons x xs => cases k with
    | zero => omega
    | succ k => simp
theorem mn_one (zs : List Int) (h : 0 < zs.length) : mn (zs.take 1) = zs[0] := by
  cases zs with
  | nil => simp at h
  | cons x xs => simp [mn]
theorem mx_one (zs : List Int) (h : 0 < zs.length) : mx (zs.take 1) = zs[0] := by
  cases zs with
  | nil => simp at h
  | cons x xs => simp [mx]
theorem mn_take_succ (zs : List Int) (k : Nat) (h0 : 0 < k) (hk : k < zs.length) : mn (zs.take (k + 1)) = min (mn (zs.take k)) zs[k] := by
  unfold mn
  rw [headD_take _ _ (by omega), headD_take _ _ h0, List.take_succ_eq_append_getElem hk, List.foldl_append]; rfl
theorem mx_take_succ (zs : List Int) (k : Nat) (h0 : 0 < k) (hk : k < zs.length) : mx (zs.take (k + 1)) = max (mx (zs.take k)) zs[k] := by
  unfold mx
  rw [headD_take _ _ (by omega), headD_take _ _ h0, List.take_succ_eq_append_getElem hk, List.foldl_append]; rfl
theorem foldl_min_le (zs : List Int) (a : Int) : zs.foldl min a ≤ a ∧ (∀ z ∈ zs, zs.foldl min a ≤ z) ∧ (zs.foldl min a = a ∨ zs.foldl min a ∈ zs) := by
  induction zs generalizing a with
  | nil => simp
  | cons x xs ih =>
    obtain ⟨h1, h2, h3⟩ := ih (min a x)
    simp only [List.foldl_cons, List.mem_cons]
    refine ⟨by omega, fun z hz => ?_, ?_⟩
    · rcases hz with rfl | hz
      · omega
      · exact h2 z hz
    · rcases h3 with h3 | h3
      · rw [h3]
        rcases Int.le_total a x with h | h
        · left; omega
        · right; left; omega
      · exact .inr (.inr h3)
theorem foldl_max_le (zs : List Int) (a : Int) : a ≤ zs.foldl max a ∧ (∀ z ∈ zs, z ≤ zs.foldl max a) ∧ (zs.foldl max a = a ∨ zs.foldl max a ∈ zs) := by
  induction zs generalizing a with
  | nil => simp
  | cons x xs ih =>
    obtain ⟨h1, h2, h3⟩ := ih (max a x)
    simp only [List.foldl_cons, List.mem_cons]
    refine ⟨by omega, fun z hz => ?_, ?_⟩
    · rcases hz with rfl | hz
      · omega
      · exact h2 z hz
    · rcases h3 with h3 | h3
      · rw [h3]
        rcases Int.le_total a x with h | h
        · right; left; omega
        · left; omega
      · exact .inr (.inr h3)
theorem mn_le {zs : List Int} {z : Int} (h : z ∈ zs) : mn zs ≤ z := (foldl_min_le zs _).2.1 z h
theorem le_mx {zs : List Int} {z : Int} (h : z ∈ zs) : z ≤ mx zs := (foldl_max_le zs _).2.1 z h
theorem headD_mem {zs : List Int} (h : 0 < zs.length) : zs.headD 0 ∈ zs := by cases zs <;> simp at h ⊢
theorem mn_mem {zs : List Int} (h : 0 < zs.length) : mn zs ∈ zs := by
  rcases (foldl_min_le zs (zs.headD 0)).2.2 with h1 | h1
  · show zs.foldl min (zs.headD 0) ∈ zs
    rw [h1]; exact headD_mem h
  · exact h1
theorem mx_mem {zs : List Int} (h : 0 < zs.length) : mx zs ∈ zs := by
  rcases (foldl_max_le zs (zs.headD 0)).2.2 with h1 | h1
  · show zs.foldl max (zs.headD 0) ∈ zs
    rw [h1]; exact headD_mem h
  · exact h1
/-- All alike. -/
def level (zs : List Int) : Bool := mn zs == mx zs
def first (zs : List Int) : Int := zs.headD 0
def atRest (zs : List Int) : Bool := level zs && (first zs % 2 == 0)
theorem level_all {zs : List Int} (h : level zs = true) (z : Int) (hz : z ∈ zs) : z = first zs := by
  have h1 := mn_le hz
  have h2 := le_mx hz
  have h3 : 0 < zs.length := by
    cases zs with
    | nil => simp at hz
    | cons => simp
  have h4 := mn_le (headD_mem h3)
  have h5 := le_mx (headD_mem h3)
  unfold level at h
  simp at h
  unfold first
  omega
theorem level_of {zs : List Int} (h0 : 0 < zs.length) (c : Int) (h : ∀ z ∈ zs, z = c) : level zs = true := by
  unfold level
  rw [h _ (mn_mem h0), h _ (mx_mem h0)]
  simp
theorem rest_of_level {zs : List Int} (h : atRest zs = true) : cstep zs = zs := by
  unfold atRest at h
  simp only [Bool.and_eq_true, beq_iff_eq] at h
  apply List.ext_getElem
  · rw [cstep_length]
  · intro k h1 h2
    rw [cstep_get zs k h2, level_all h.1 _ (List.getElem_mem h2), level_all h.1 _ (List.getElem_mem (leftOf_lt h2))]
    have := h.2
    unfold ev1
    omega
theorem level_of_rest {zs : List Int} (h0 : 0 < zs.length) (h : cstep zs = zs) : atRest zs = true := by
  have hk : ∀ (k : Nat) (hk : k < zs.length), zs[k] = ev1 zs[k] / 2 + ev1 (zs[leftOf k zs.length]'(leftOf_lt hk)) / 2 := by
    intro k hk
    have := cstep_get zs k hk
    simp only [h] at this
    exact this
  have hm : ∀ (k : Nat) (hk : k < zs.length), mn zs ≤ zs[k] := fun k hk => mn_le (List.getElem_mem hk)
  obtain ⟨i, hi, hmi⟩ := List.getElem_of_mem (mn_mem h0)
  generalize mn zs = m at *
  -- the least number is even, and who is at its left has it too
  have hstep : ∀ (k : Nat) (hk' : k < zs.length), zs[k] = m → m % 2 = 0 ∧ zs[leftOf k zs.length]'(leftOf_lt hk') = m := by
    intro k hk' e
    have h1 := hk k hk'
    have h2 := hm _ (leftOf_lt hk')
    rw [e] at h1
    unfold ev1 at h1
    omega
  have hdown : ∀ (d k : Nat) (hk' : k + d < zs.length), zs[k + d] = m → zs[k]'(by omega) = m := by
    intro d
    induction d with
    | zero => intro k hk' e; exact e
    | succ d ih =>
      intro k hk' e
      refine ih k (by omega) ?_
      have h1 := (hstep _ hk' e).2
      have h2 : leftOf (k + (d + 1)) zs.length = k + d := leftOf_succ (k := k + d) hk'
      simp only [h2] at h1
      exact h1
  have hz : zs[0] = m := hdown i 0 (by omega) (by simpa using hmi)
  have hlast : zs[zs.length - 1]'(by omega) = m := by
    have h1 := (hstep 0 h0 hz).2
    simp only [leftOf_zero h0] at h1
    exact h1
  have hall : ∀ z ∈ zs, z = m := by
    intro z hz'
    obtain ⟨k, hk', rfl⟩ := List.getElem_of_mem hz'
    have e : k + (zs.length - 1 - k) = zs.length - 1 := by omega
    exact hdown (zs.length - 1 - k) k (by omega) (by simp only [e]; exact hlast)
  have he := (hstep 0 h0 hz).1
  unfold atRest
  rw [level_of h0 m hall, show first zs = m from by unfold first; rw [← hz]; cases zs <;> simp at h0 ⊢]
  simp [he]
theorem crest_eq {zs : List Int} (h0 : 0 < zs.length) : crest zs = atRest zs := by
  unfold crest
  rw [Bool.eq_iff_iff]
  constructor
  · intro h; exact level_of_rest h0 (by simpa using h)
  · intro h; simpa using rest_of_level h
theorem first_get {zs : List Int} (h : 0 < zs.length) : first zs = zs[0] := by cases zs <;> simp [first] at h ⊢
end Go.Proofs.Ytcbcgapnoompbaa

/-
  PLAIN FACTS FOR CHAPTER 7: the lead and the period as functions; what comes at last. No program is named here.
-/
namespace Go.Proofs.Ytcbcgapnoompbaa

/-- The first number of which P holds, out of k from i on. -/
def firstN (P : Nat → Bool) : Nat → Nat → Nat
  | 0, i => i
  | k + 1, i => if P i = true then i else firstN P k (i + 1)
theorem firstN_spec (P : Nat → Bool) : ∀ k i j, i ≤ j → j < i + k → P j = true → P (firstN P k i) = true ∧ i ≤ firstN P k i ∧ firstN P k i ≤ j
  | 0, i, j, h1, h2, _ => by omega
  | k + 1, i, j, h1, h2, h3 => by
    unfold firstN
    by_cases h : P i = true
    · rw [if_pos h]; exact ⟨h, Nat.le_refl _, h1⟩
    · rw [if_neg h]
      have hne : i ≠ j := fun e => by subst e; exact h h3
      obtain ⟨a, b, c⟩ := firstN_spec P k (i + 1) j (by omega) (by omega) h3
      exact ⟨a, by omega, c⟩
def manyN : Nat := 10025
def comesB (zs : List Int) (i : Nat) : Bool := (List.range manyN).any fun q => rit zs (i + (q + 1)) == rit zs i
/-- The lead and the period. -/
def leadF (zs : List Int) : Nat := firstN (comesB zs) manyN 0
def perF (zs : List Int) : Nat := firstN (fun q => rit zs (leadF zs + q) == rit zs (leadF zs)) manyN 1
theorem cycF {zs : List Int} (h : rgood zs = true) : Cyc (rit zs) (leadF zs) (perF zs) ∧ leadF zs + perF zs ≤ 10024 := by
  obtain ⟨m, p, hmp, hc⟩ := ring_cyc h
  have hp := hc.pos
  have hm : leadF zs = m := by
    have h1 : comesB zs m = true := by
      unfold comesB
      rw [List.any_eq_true]
      refine ⟨p - 1, List.mem_range.2 (by unfold manyN; omega), ?_⟩
      rw [show m + (p - 1 + 1) = m + p by omega, hc.again]; simp
    obtain ⟨a, _, c⟩ := firstN_spec (comesB zs) manyN 0 m (by omega) (by unfold manyN; omega) h1
    have a' : comesB zs (leadF zs) = true := a
    unfold comesB at a'
    rw [List.any_eq_true] at a'
    obtain ⟨q, _, hq⟩ := a'
    have := ((hc.iff (rit_told zs) (leadF zs) (q + 1) (by omega)).1 (by simpa using hq)).1
    have c' : leadF zs ≤ m := c
    omega
  have hpp : perF zs = p := by
    obtain ⟨a, b, c⟩ := firstN_spec (fun q => rit zs (leadF zs + q) == rit zs (leadF zs)) manyN 1 p hp (by unfold manyN; omega) (by rw [hm, hc.again]; simp)
    have a' : rit zs (leadF zs + perF zs) = rit zs (leadF zs) := beq_iff_eq.1 a
    rw [hm] at a'
    have := (hc.iff (rit_told zs) m (perF zs) b).1 a'
    have c' : perF zs ≤ p := c
    have := Nat.le_of_dvd b this.2
    unfold perF at *
    omega
  rw [hm, hpp]
  exact ⟨hc, hmp⟩

def leadR (zs : List Int) : Int := if rgood zs then (leadF zs : Int) else 0
def perR (zs : List Int) : Int := if rgood zs then (perF zs : Int) else 0
/-- Steps that lead to the same ring, not far. -/
def aftN (zs : List Int) (b : Nat) : Nat := if leadF zs < b then leadF zs + (b - leadF zs) % perF zs else b
def aftOk (zs : List Int) (b : Int) : Bool := rgood zs && decide (0 ≤ b ∧ b ≤ 1000000000)
def aftR (zs : List Int) (b : Int) : List Int := if aftOk zs b then rit zs (aftN zs b.toNat) else []
theorem aftR_short (zs : List Int) (b : Int) (h : zs.length ≤ 1048576) : (aftR zs b).length ≤ 1048576 := by
  unfold aftR; split
  · rw [rit_length]; exact h
  · simp
/-- The first ring that comes again. -/
def lastF (zs : List Int) : List Int := rit zs (leadF zs)
theorem lastF_length (zs : List Int) : (lastF zs).length = zs.length := rit_length _ _
def galR (zs : List Int) : Int := if rgood zs then mx (lastF zs) else 0
def ctzR (zs : List Int) : Bool := rgood zs && (mx (lastF zs) == 0)
def stzR (zs : List Int) : Int := if ctzR zs then (leadF zs : Int) else 0

theorem mx_bd {zs : List Int} {b : Int} (h0 : 0 < zs.length) (h : within 0 b zs = true) : 0 ≤ mx zs ∧ mx zs ≤ b := by
  obtain ⟨k, hk, e⟩ := List.getElem_of_mem (mx_mem h0)
  rw [← e]
  exact within_get h k hk
theorem within_mx {zs : List Int} (h : within 0 1000 zs = true) : within 0 (mx zs) zs = true := within_of fun k hk => ⟨(within_get h k hk).1, le_mx (List.getElem_mem hk)⟩
theorem mx_step {zs : List Int} (h0 : 0 < zs.length) (h : within 0 1000 zs = true) : mx (rstep zs) ≤ mx zs :=
  (mx_bd (by rw [rstep_length]; exact h0) (rstep_within (within_mx h))).2
theorem mx_it {zs : List Int} (h0 : 0 < zs.length) (h : within 0 1000 zs = true) (i k : Nat) : mx (rit zs (i + k)) ≤ mx (rit zs i) := by
  induction k with
  | zero => exact Int.le_refl _
  | succ k ih => exact Int.le_trans (mx_step (zs := rit zs (i + k)) (by rw [rit_length]; exact h0) (rit_within h _)) ih
/-- The greatest number stays, at last. -/
theorem mx_last {zs : List Int} (h : rgood zs = true) (t : Nat) : mx (rit zs (leadF zs + t)) = mx (lastF zs) := by
  obtain ⟨h1, _, h3⟩ := rgood_of h
  obtain ⟨hc, _⟩ := cycF h
  have hp := hc.pos
  have a := mx_it (zs := zs) (by omega) h3 (leadF zs) t
  have hle : t ≤ t * perF zs := by have := Nat.mul_le_mul_left t hp; omega
  have b := mx_it (zs := zs) (by omega) h3 (leadF zs + t) (t * perF zs - t)
  rw [show leadF zs + t + (t * perF zs - t) = leadF zs + t * perF zs by omega, hc.rounds (rit_told zs) _ _ (Nat.le_refl _)] at b
  unfold lastF
  omega
theorem mx_zeros {zs : List Int} (h0 : 0 < zs.length) (h : within 0 1000 zs = true) : mx zs = 0 ↔ zs = List.replicate zs.length 0 := by
  constructor
  · intro e
    have hw := within_mx h
    rw [e] at hw
    apply List.ext_getElem
    · simp
    · intro k h1 h2
      have := within_get hw k h1
      simp
      omega
  · intro e
    have := mx_mem h0
    rw [e] at this
    have := List.eq_of_mem_replicate (by rw [← e] at this; rw [e] at this; exact this)
    rw [e]; exact this
end Go.Proofs.Ytcbcgapnoompbaa

/-
  RINGS TURNED, LIFTED, SCALED: they step alike, and come again alike. No program is named here.
-/
namespace Go.Proofs.Ytcbcgapnoompbaa

theorem on_ext {xs ys : List Int} (hl : xs.length = ys.length) (h : ∀ j, j < xs.length → onR xs j = onR ys j) : xs = ys := by
  apply List.ext_getElem hl
  intro k h1 h2
  have := h k h1
  unfold onR at this
  rw [Nat.mod_eq_of_lt h1, Nat.mod_eq_of_lt h2, rget h1, rget h2] at this
  exact this
theorem on_get {xs : List Int} {k : Nat} (h : k < xs.length) : onR xs k = xs[k] := by
  unfold onR; rw [Nat.mod_eq_of_lt h, rget h]
theorem on_again (xs : List Int) (j : Nat) : onR xs (j % xs.length) = onR xs j := by unfold onR; rw [Nat.mod_mod]
theorem on_far (xs : List Int) (j : Nat) : onR xs (j + xs.length) = onR xs j := by unfold onR; rw [Nat.add_mod_right]
/-- Turned by t. -/
def turnL (zs : List Int) (t : Nat) : List Int := zs.drop t ++ zs.take t
theorem turnL_length (zs : List Int) (t : Nat) : (turnL zs t).length = zs.length := by unfold turnL; rw [List.length_append, List.length_drop, List.length_take]; omega
theorem on_turn {zs : List Int} {t : Nat} (ht : t < zs.length) (j : Nat) : onR (turnL zs t) j = onR zs (j + t) := by
  have hl := turnL_length zs t
  have main : ∀ j, j < zs.length → onR (turnL zs t) j = onR zs (j + t) := fun j hj => by
    rw [on_get (by rw [hl]; exact hj)]
    unfold turnL
    by_cases h : j < zs.length - t
    · rw [List.getElem_append_left (by rw [List.length_drop]; exact h), List.getElem_drop, Nat.add_comm j t, on_get (by omega)]
    · rw [List.getElem_append_right (by rw [List.length_drop]; omega), List.getElem_take]
      have e : j + t = (j - (zs.length - t)) + zs.length := by omega
      rw [e, on_far, on_get (by omega)]
      simp [List.length_drop]
  have h0 : 0 < zs.length := by omega
  rw [← on_again (turnL zs t), hl, main _ (Nat.mod_lt _ h0)]
  unfold onR
  rw [Nat.mod_add_mod]
theorem step_turn {zs : List Int} {t : Nat} (ht : t < zs.length) : rstep (turnL zs t) = turnL (rstep zs) t := by
  have h0 : 0 < zs.length := by omega
  refine on_ext (by rw [rstep_length, turnL_length, turnL_length, rstep_length]) fun j _ => ?_
  rw [onR_step _ (by rw [turnL_length]; exact h0), on_turn ht, on_turn ht, on_turn (by rw [rstep_length]; exact ht), onR_step _ h0, show j + 1 + t = j + t + 1 from by omega]
theorem it_turn {zs : List Int} {t : Nat} (ht : t < zs.length) : ∀ i, rit (turnL zs t) i = turnL (rit zs i) t
  | 0 => rfl
  | i + 1 => by
    show rstep (rit (turnL zs t) i) = turnL (rstep (rit zs i)) t
    rw [it_turn ht i, step_turn (by rw [rit_length]; exact ht)]
theorem turn_inj {xs ys : List Int} {t : Nat} (hl : xs.length = ys.length) (ht : t < xs.length) (h : turnL xs t = turnL ys t) : xs = ys := by
  refine on_ext hl fun j hj => ?_
  have a := on_turn ht (j + (xs.length - t))
  have b := on_turn (zs := ys) (show t < ys.length by omega) (j + (xs.length - t))
  rw [h] at a
  rw [a, show j + (xs.length - t) + t = j + xs.length from by omega, on_far] at b
  rw [hl, on_far] at b
  exact b
theorem cyc_map {α β : Type} {s : Nat → α} {s' : Nat → β} {m p : Nat} (h : ∀ i j, s' i = s' j ↔ s i = s j) (hc : Cyc s m p) : Cyc s' m p :=
  ⟨hc.pos, (h _ _).2 hc.again, fun i hi q hq e => hc.lead i hi q hq ((h _ _).1 e), fun q h1 h2 e => hc.least q h1 h2 ((h _ _).1 e)⟩
theorem per_turn {zs : List Int} {t : Nat} (hg : rgood zs = true) (hg' : rgood (turnL zs t) = true) (ht : t < zs.length) : perF (turnL zs t) = perF zs ∧ leadF (turnL zs t) = leadF zs := by
  have h1 := (cycF hg).1
  have h2 := (cycF hg').1
  have h3 : Cyc (rit (turnL zs t)) (leadF zs) (perF zs) := cyc_map (fun i j => by
    rw [it_turn ht i, it_turn ht j]
    exact ⟨fun e => turn_inj (by rw [rit_length, rit_length]) (by rw [rit_length]; exact ht) e, fun e => by rw [e]⟩) h1
  have := Cyc.unique (rit_told _) h2 h3
  exact ⟨this.2, this.1⟩
theorem on_map (t m : Int) {zs : List Int} (h0 : 0 < zs.length) (j : Nat) : onR (rmap t m zs) j = onR zs j * t + m := by
  have hlt : j % zs.length < zs.length := Nat.mod_lt _ h0
  unfold onR
  rw [rmap_length, rget (by rw [rmap_length]; exact hlt), rmap_get t m zs _ hlt, rget hlt]
theorem step_lift (b : Int) (zs : List Int) : rstep (rmap 1 b zs) = rstep zs := by
  refine on_ext (by rw [rstep_length, rmap_length, rstep_length]) fun j hj => ?_
  have h0 : 0 < zs.length := by rw [rstep_length, rmap_length] at hj; omega
  rw [onR_step _ (by rw [rmap_length]; exact h0), onR_step _ h0, on_map 1 b h0, on_map 1 b h0]
  unfold dif
  omega
theorem step_scale {b : Int} (hb : 0 ≤ b) (zs : List Int) (j : Nat) (h0 : 0 < zs.length) : onR (rstep (rmap b 0 zs)) j = onR (rstep zs) j * b := by
  rw [onR_step _ (by rw [rmap_length]; exact h0), onR_step _ h0, on_map b 0 h0, on_map b 0 h0]
  generalize onR zs j = x
  generalize onR zs (j + 1) = y
  unfold dif
  have e : x * b + 0 - (y * b + 0) = (x - y) * b := by rw [Int.sub_mul]; omega
  rw [e]
  rcases Int.le_total 0 (x - y) with h | h
  · have h1 := Int.mul_nonneg h hb
    rw [Int.max_eq_left (by omega), Int.max_eq_left (by omega)]
  · have h1 := Int.mul_nonneg (show 0 ≤ -(x - y) by omega) hb
    rw [Int.neg_mul] at h1
    rw [Int.max_eq_right (by omega), Int.max_eq_right (by omega), Int.neg_mul]
end Go.Proofs.Ytcbcgapnoompbaa

/-
  RINGS MIRRORED: where a ring is zero at last, its mirror is so behind as many steps. No program is named here.
-/
namespace Go.Proofs.Ytcbcgapnoompbaa

theorem on_mirror {zs : List Int} (j : Nat) (hj : j < zs.length) : onR zs.reverse j = onR zs (zs.length - 1 - j) := by
  rw [on_get (by rw [List.length_reverse]; exact hj), on_get (by omega), List.getElem_reverse]
theorem step_mirror {zs : List Int} (h2 : 2 ≤ zs.length) : rstep zs.reverse = turnL (rstep zs).reverse 1 := by
  have hl : (rstep zs).reverse.length = zs.length := by rw [List.length_reverse, rstep_length]
  refine on_ext (by rw [rstep_length, List.length_reverse, turnL_length, hl]) fun j hj => ?_
  rw [rstep_length, List.length_reverse] at hj
  rw [onR_step _ (by rw [List.length_reverse]; omega), on_turn (by rw [hl]; omega), on_mirror j hj]
  have sym : ∀ a b : Int, dif a b = dif b a := fun a b => by unfold dif; omega
  by_cases h : j + 1 < zs.length
  · rw [on_mirror (j + 1) h, on_mirror (zs := rstep zs) (j + 1) (by rw [rstep_length]; exact h), rstep_length, onR_step _ (by omega), sym]
    rw [show zs.length - 1 - (j + 1) + 1 = zs.length - 1 - j from by omega]
  · have e : j + 1 = 0 + zs.length := by omega
    have a := on_far zs.reverse 0
    have b := on_far (rstep zs).reverse 0
    rw [List.length_reverse] at a
    rw [hl] at b
    rw [e, a, b, on_mirror 0 (by omega), on_mirror (zs := rstep zs) 0 (by rw [rstep_length]; omega), rstep_length, onR_step _ (by omega), sym]
    rw [show zs.length - 1 - 0 + 1 = 0 + zs.length from by omega, on_far, show zs.length - 1 - j = 0 from by omega]
theorem turn_turn {zs : List Int} {s t : Nat} (hs : s < zs.length) (ht : t < zs.length) : turnL (turnL zs s) t = turnL zs ((s + t) % zs.length) := by
  have h0 : 0 < zs.length := by omega
  refine on_ext (by rw [turnL_length, turnL_length, turnL_length]) fun j _ => ?_
  rw [on_turn (by rw [turnL_length]; exact ht), on_turn hs, on_turn (Nat.mod_lt _ h0)]
  unfold onR
  rw [Nat.add_mod_mod, show j + t + s = j + (s + t) from by omega]
theorem it_mirror {zs : List Int} (h2 : 2 ≤ zs.length) : ∀ i, ∃ t, t < zs.length ∧ rit zs.reverse i = turnL (rit zs i).reverse t
  | 0 => ⟨0, by omega, by show zs.reverse = turnL zs.reverse 0; simp [turnL]⟩
  | i + 1 => by
    obtain ⟨t, ht, e⟩ := it_mirror h2 i
    refine ⟨(1 + t) % zs.length, Nat.mod_lt _ (by omega), ?_⟩
    show rstep (rit zs.reverse i) = turnL (rstep (rit zs i)).reverse _
    have hl : (rit zs i).length = zs.length := rit_length zs i
    rw [e, step_turn (by rw [List.length_reverse, hl]; exact ht), step_mirror (by rw [hl]; exact h2)]
    have hr : (rstep (rit zs i)).reverse.length = zs.length := by rw [List.length_reverse, rstep_length, hl]
    rw [turn_turn (by rw [hr]; omega) (by rw [hr]; exact ht), hr]
def zeros (zs : List Int) : Prop := ∀ x ∈ zs, x = 0
theorem zeros_eq {xs ys : List Int} (h : xs.length = ys.length) (hx : zeros xs) (hy : zeros ys) : xs = ys := by
  apply List.ext_getElem h
  intro k h1 h2
  rw [hx _ (List.getElem_mem h1), hy _ (List.getElem_mem h2)]
theorem zeros_turn (zs : List Int) (t : Nat) : zeros (turnL zs.reverse t) ↔ zeros zs := by
  have : ∀ x, x ∈ turnL zs.reverse t ↔ x ∈ zs := fun x => by
    unfold turnL
    rw [List.mem_append, Or.comm, ← List.mem_append, List.take_append_drop, List.mem_reverse]
  unfold zeros
  exact ⟨fun h x hx => h x ((this x).2 hx), fun h x hx => h x ((this x).1 hx)⟩
theorem zeros_step {zs : List Int} (h : zeros zs) : zeros (rstep zs) := fun x hx => by
  obtain ⟨k, hk, rfl⟩ := List.getElem_of_mem hx
  have hk' : k < zs.length := by rw [rstep_length] at hk; exact hk
  rw [rstep_get zs k hk', rstep1_eq zs k hk', h _ (List.getElem_mem _), h _ (List.getElem_mem _)]
  rfl
theorem zeros_it {zs : List Int} {i : Nat} (h : zeros (rit zs i)) : ∀ k, zeros (rit zs (i + k))
  | 0 => h
  | k + 1 => zeros_step (zeros_it h k)
/-- A ring that steps to itself is zero. -/
theorem fixed_zero {zs : List Int} (h0 : 0 < zs.length) (hw : ∀ j, 0 ≤ onR zs j) (h : rstep zs = zs) : ∀ (N : Nat) (j : Nat), onR zs j = (N : Int) → N = 0 := by
  intro N
  induction N using Nat.strongRecOn with
  | _ N ih =>
    intro j hj
    apply Classical.byContradiction
    intro hN
    have hs := onR_step zs h0 (j + (zs.length - 1))
    rw [h, show j + (zs.length - 1) + 1 = j + zs.length from by omega, on_far, hj] at hs
    have hx := hw (j + (zs.length - 1))
    have hlt : onR zs (j + (zs.length - 1)) < N ∧ 2 * onR zs (j + (zs.length - 1)) = N := by
      unfold dif at hs
      omega
    have := ih (onR zs (j + (zs.length - 1))).toNat (by omega) (j + (zs.length - 1)) (by omega)
    omega
theorem mirror_lead {zs : List Int} (hg : rgood zs = true) (hg' : rgood zs.reverse = true) (h1 : perF zs = 1) : perF zs.reverse = 1 ∧ leadF zs.reverse = leadF zs := by
  obtain ⟨g1, _, _⟩ := rgood_of hg
  have hc := (cycF hg).1
  have hc' := (cycF hg').1
  rw [h1] at hc
  generalize leadF zs = m at *
  have hfix : rstep (rit zs m) = rit zs m := hc.again
  have hz : zeros (rit zs m) := fun x hx => by
    obtain ⟨k, hk, rfl⟩ := List.getElem_of_mem hx
    have hgm := rit_good hg m
    have hw : ∀ j, 0 ≤ onR (rit zs m) j := fun j => (onR_within (rgood_of hgm).2.2 (by have := (rgood_of hgm).1; omega) j).1
    have h0 := hw k
    have := fixed_zero (by omega) hw hfix (onR (rit zs m) k).toNat k (by omega)
    rw [on_get hk] at this h0
    omega
  have hiff : ∀ i, zeros (rit zs.reverse i) ↔ zeros (rit zs i) := fun i => by
    obtain ⟨t, _, e⟩ := it_mirror g1 i
    rw [e]; exact zeros_turn _ t
  have hcm : Cyc (rit zs.reverse) m 1 := by
    refine ⟨Nat.le_refl _, ?_, fun i hi q hq e => ?_, fun q h1 h2 => by omega⟩
    · have a : zeros (rit zs.reverse m) := (hiff m).2 hz
      exact zeros_eq (by rw [rit_length, rit_length]) (zeros_it a 1) a
    · have hk : ∀ k, rit zs.reverse (i + k * q) = rit zs.reverse i := fun k => by
        induction k with
        | zero => rw [Nat.zero_mul]; rfl
        | succ k ih =>
          have := (rit_told zs.reverse).add e (k * q)
          rw [show i + (k + 1) * q = i + q + k * q from by rw [Nat.add_mul]; omega, this, ih]
      have hfar : zeros (rit zs.reverse (i + m * q)) := by
        have hmq : m ≤ m * q := Nat.le_mul_of_pos_right m hq
        have := zeros_it ((hiff m).2 hz) (i + m * q - m)
        rw [show m + (i + m * q - m) = i + m * q from by omega] at this
        exact this
      rw [hk m] at hfar
      have hzi := (hiff i).1 hfar
      exact hc.lead i hi 1 (Nat.le_refl _) (zeros_eq (by rw [rit_length, rit_length]) (zeros_it hzi 1) hzi)
  have := Cyc.unique (rit_told _) hc' hcm
  exact ⟨this.2, this.1⟩
end Go.Proofs.Ytcbcgapnoompbaa

/-
  FnRingsBefore: plain facts for its parts. No program is named here.
-/
namespace Go.Proofs.Ytcbcgapnoompbaa

theorem within_mem {a b : Int} {zs : List Int} : within a b zs = true ↔ ∀ x ∈ zs, a ≤ x ∧ x ≤ b := by
  constructor
  · intro h x hx
    obtain ⟨k, hk, rfl⟩ := List.getElem_of_mem hx
    exact within_get h k hk
  · intro h
    unfold within
    simp only [List.all_eq_true, decide_eq_true_eq, Bool.and_eq_true]
    exact h
theorem rgood_iff {zs : List Int} : rgood zs = true ↔ (2 ≤ zs.length ∧ zs.length ≤ 10) ∧ ∀ x ∈ zs, 0 ≤ x ∧ x ≤ 1000 := by
  constructor
  · intro h
    obtain ⟨h1, h2, h3⟩ := rgood_of h
    exact ⟨⟨h1, h2⟩, within_mem.1 h3⟩
  · intro ⟨h1, h2⟩
    rw [rgood_in h1]
    exact within_mem.2 h2
theorem turn_good {zs : List Int} {t : Nat} (h : rgood zs = true) : rgood (turnL zs t) = true := by
  obtain ⟨h1, h2⟩ := rgood_iff.1 h
  refine rgood_iff.2 ⟨by rw [turnL_length]; exact h1, fun x hx => ?_⟩
  unfold turnL at hx
  rcases List.mem_append.1 hx with hx | hx
  · exact h2 x (List.mem_of_mem_drop hx)
  · exact h2 x (List.mem_of_mem_take hx)
theorem mir_good {zs : List Int} (h : rgood zs = true) : rgood zs.reverse = true := by
  obtain ⟨h1, h2⟩ := rgood_iff.1 h
  exact rgood_iff.2 ⟨by rw [List.length_reverse]; exact h1, fun x hx => h2 x (List.mem_reverse.1 hx)⟩
theorem rstepR_yes {zs : List Int} (h : rgood zs = true) : rstepR zs = rstep zs := by unfold rstepR; rw [if_pos h]
theorem rstepR_no {zs : List Int} (h : rgood zs = false) : rstepR zs = [] := by unfold rstepR; rw [if_neg (by rw [h]; simp)]
theorem rturn_of {zs : List Int} {b : Int} (h : rturnOk zs b = true) : rgood zs = true ∧ 0 ≤ b ∧ b < zs.length ∧ rturnR zs b = turnL zs b.toNat := by
  have h' := h
  unfold rturnOk at h'
  simp at h'
  refine ⟨h'.1, h'.2.1, h'.2.2, ?_⟩
  unfold rturnR; rw [if_pos h]; rfl
/-- What is known of a turned ring. -/
theorem turned_all {zs : List Int} {b : Int} (h : rturnOk zs b = true) : rgood zs = true ∧ rgood (rturnR zs b) = true ∧ rturnOk (rstepR zs) b = true ∧ rturnR (rstepR zs) b = rstepR (rturnR zs b) ∧ perR (rturnR zs b) = perR zs ∧ (rturnR zs b).length = zs.length ∧ (rstepR zs).length = zs.length := by
  obtain ⟨hg, h0, hl, he⟩ := rturn_of h
  have hl' : b.toNat < zs.length := by omega
  have hg2 := turn_good (t := b.toNat) hg
  have hgs := rstep_good hg
  have hok : rturnOk (rstepR zs) b = true := by
    rw [rstepR_yes hg]; unfold rturnOk; rw [hgs, rstep_length, decide_eq_true ⟨h0, hl⟩]; rfl
  obtain ⟨_, _, _, he2⟩ := rturn_of hok
  refine ⟨hg, by rw [he]; exact hg2, hok, ?_, ?_, by rw [he, turnL_length], by rw [rstepR_yes hg, rstep_length]⟩
  · rw [he2, he, rstepR_yes hg2, rstepR_yes hg, step_turn hl']
  · rw [he]; unfold perR; rw [if_pos hg, if_pos hg2, (per_turn hg hg2 hl').1]
theorem rmap_of {t m b : Int} {zs : List Int} (h : rmapOk t m b zs = true) : rgood zs = true ∧ 0 ≤ b ∧ b ≤ 1000 ∧ rgood (rmap t m zs) = true ∧ rmapR t m b zs = rmap t m zs := by
  have h' := h
  unfold rmapOk at h'
  simp at h'
  refine ⟨h'.1.1, h'.1.2.1, h'.1.2.2, h'.2, ?_⟩
  unfold rmapR; rw [if_pos h]
theorem lift_all {zs : List Int} {b : Int} (h : liftOk zs b = true) : rgood zs = true ∧ rgood (liftR zs b) = true ∧ rstepR (liftR zs b) = rstepR zs ∧ (liftR zs b).length = zs.length ∧ (rstepR zs).length = zs.length := by
  obtain ⟨h1, _, _, h2, h3⟩ := rmap_of h
  have e : liftR zs b = rmap 1 b zs := h3
  rw [e]
  exact ⟨h1, h2, by rw [rstepR_yes h2, rstepR_yes h1, step_lift], rmap_length _ _ _, by rw [rstepR_yes h1, rstep_length]⟩
theorem scale_all {zs : List Int} {b : Int} (h : scaleOk zs b = true) : rgood zs = true ∧ rgood (scaleR zs b) = true ∧ (scaleR zs b).length = zs.length ∧ (rstepR zs).length = zs.length ∧ (rstepR (scaleR zs b)).length = zs.length ∧
    (∀ k, k < zs.length → (rstepR (scaleR zs b)).getD k 0 = (rstepR zs).getD k 0 * b) ∧ (∀ k, k < zs.length → 0 ≤ (rstepR zs).getD k 0 ∧ (rstepR zs).getD k 0 ≤ 1000) ∧ 0 ≤ b ∧ b ≤ 1000 := by
  obtain ⟨h1, hb0, hb1, h2, h3⟩ := rmap_of h
  have e : scaleR zs b = rmap b 0 zs := h3
  have hl := rgood_iff.1 h1
  rw [e]
  refine ⟨h1, h2, rmap_length _ _ _, by rw [rstepR_yes h1, rstep_length], by rw [rstepR_yes h2, rstep_length, rmap_length], fun k hk => ?_, fun k hk => ?_, hb0, hb1⟩
  · rw [rstepR_yes h2, rstepR_yes h1]
    have := step_scale hb0 zs k (by omega)
    unfold onR at this
    rw [rstep_length, rstep_length, rmap_length, Nat.mod_eq_of_lt hk] at this
    exact this
  · rw [rstepR_yes h1]
    have hg := rgood_iff.1 (rstep_good h1)
    have hk' : k < (rstep zs).length := by rw [rstep_length]; exact hk
    rw [show (rstep zs).getD k 0 = (rstep zs)[k] from by simp [List.getD, hk']]
    exact hg.2 _ (List.getElem_mem hk')
theorem fmx_le {l : List Int} {a b : Int} (ha : a ≤ b) (h : ∀ x ∈ l, x ≤ b) : l.foldl max a ≤ b := by
  induction l generalizing a with
  | nil => exact ha
  | cons y l ih =>
    have hy := h y (by simp)
    exact ih (a := max a y) (by omega) (fun x hx => h x (by simp [hx]))
theorem le_fmx {l : List Int} {a x : Int} : (x ≤ a ∨ x ∈ l) → x ≤ l.foldl max a := by
  induction l generalizing a with
  | nil => intro h; rcases h with h | h; exact h; simp at h
  | cons y l ih =>
    intro h
    refine ih (a := max a y) ?_
    rcases h with h | h
    · exact .inl (by omega)
    · rcases List.mem_cons.1 h with rfl | h
      · exact .inl (by omega)
      · exact .inr h
def mostL (zs : List Int) : Int := zs.foldl max (zs.getD 0 0)
theorem step_most {zs : List Int} (hg : rgood zs = true) : mostL (rstep zs) ≤ mostL zs := by
  obtain ⟨⟨h1, _⟩, h2⟩ := rgood_iff.1 hg
  have hw : within 0 (mostL zs) zs = true := within_mem.2 fun x hx => ⟨(h2 x hx).1, le_fmx (.inr hx)⟩
  have hs := within_mem.1 (rstep_within hw)
  refine fmx_le ?_ (fun x hx => (hs x hx).2)
  have h0 : 0 < (rstep zs).length := by rw [rstep_length]; omega
  rw [show (rstep zs).getD 0 0 = (rstep zs)[0] from by simp [List.getD, h0]]
  exact (hs _ (List.getElem_mem h0)).2
theorem mir_all {zs : List Int} (h : rgood zs = true) : rgood (rmirR zs) = true ∧ rmirR (rmirR zs) = zs ∧ (perR zs = 1 → perR (rmirR zs) = 1 ∧ leadR (rmirR zs) = leadR zs) ∧ (rstepR zs).length = zs.length ∧ mostL (rstepR zs) ≤ mostL zs ∧ 2 ≤ zs.length ∧ zs.length ≤ 10 ∧ (rmirR zs).length = zs.length := by
  have e : rmirR zs = zs.reverse := by unfold rmirR; rw [if_pos h]
  have hg := mir_good h
  obtain ⟨h2, h10, _⟩ := rgood_of h
  rw [e]
  refine ⟨hg, by unfold rmirR; rw [if_pos hg, List.reverse_reverse], fun h1 => ?_, by rw [rstepR_yes h, rstep_length], by rw [rstepR_yes h]; exact step_most h, h2, h10, List.length_reverse⟩
  unfold perR at h1 ⊢
  unfold leadR
  rw [if_pos h] at h1
  rw [if_pos h, if_pos hg, if_pos hg]
  obtain ⟨a, b⟩ := mirror_lead h hg (by omega)
  rw [a, b]
  exact ⟨rfl, rfl⟩
end Go.Proofs.Ytcbcgapnoompbaa
