
/-
  PLAIN FACTS FOR CHAPTER 7: the lead and the period as functions; what comes at last. No program is named here.
-/
import Derived.Test.YtkhcabgpbmhimaaRiQ
import Derived.Test.YtkhcabgpbmhimaaCyP
namespace Go.Proofs.Ytkhcabgpbmhimaa

/-- The first number of which P holds, out of k from i on. -/
def firstN (P : Nat → Bool) : Nat → Nat → Nat
  | 0, i => i
  | k + 1, i => if P i = true then i else firstN P k (i + 1)
theorem firstN_spec (P : Nat → Bool) : ∀ k i j, i ≤ j → j < i + k → P j = true → P (firstN P k i) = true ∧ i ≤ firstN P k i ∧ firstN P k i ≤ j
  | 0, i, j, h1, h2, _ => by omega
  | k + 1, i, j, h1, h2, h3 => by
    unfold firstN
    by_cases h : P i = true
    · rw [if_pos h]; exact ⟨h, Nat.le_refl _, h1⟩
    · rw [if_neg h]
      have hne : i ≠ j := fun e => by subst e; exact h h3
      obtain ⟨a, b, c⟩ := firstN_spec P k (i + 1) j (by omega) (by omega) h3
      exact ⟨a, by omega, c⟩
def manyN : Nat := 10025
def comesB (zs : List Int) (i : Nat) : Bool := (List.range manyN).any fun q => rit zs (i + (q + 1)) == rit zs i
/-- The lead and the period. -/
def leadF (zs : List Int) : Nat := firstN (comesB zs) manyN 0
def perF (zs : List Int) : Nat := firstN (fun q => rit zs (leadF zs + q) == rit zs (leadF zs)) manyN 1
theorem cycF {zs : List Int} (h : rgood zs = true) : Cyc (rit zs) (leadF zs) (perF zs) ∧ leadF zs + perF zs ≤ 10024 := by
  obtain ⟨m, p, hmp, hc⟩ := ring_cyc h
  have hp := hc.pos
  have hm : leadF zs = m := by
    have h1 : comesB zs m = true := by
      unfold comesB
      rw [List.any_eq_true]
      refine ⟨p - 1, List.mem_range.2 (by unfold manyN; omega), ?_⟩
      rw [show m + (p - 1 + 1) = m + p by omega, hc.again]; simp
    obtain ⟨a, _, c⟩ := firstN_spec (comesB zs) manyN 0 m (by omega) (by unfold manyN; omega) h1
    have a' : comesB zs (leadF zs) = true := a
    unfold comesB at a'
    rw [List.any_eq_true] at a'
    obtain ⟨q, _, hq⟩ := a'
    have := ((hc.iff (rit_told zs) (leadF zs) (q + 1) (by omega)).1 (by simpa using hq)).1
    have c' : leadF zs ≤ m := c
    omega
  have hpp : perF zs = p := by
    obtain ⟨a, b, c⟩ := firstN_spec (fun q => rit zs (leadF zs + q) == rit zs (leadF zs)) manyN 1 p hp (by unfold manyN; omega) (by rw [hm, hc.again]; simp)
    have a' : rit zs (leadF zs + perF zs) = rit zs (leadF zs) := beq_iff_eq.1 a
    rw [hm] at a'
    have := (hc.iff (rit_told zs) m (perF zs) b).1 a'
    have c' : perF zs ≤ p := c
    have := Nat.le_of_dvd b this.2
    unfold perF at *
    omega
  rw [hm, hpp]
  exact ⟨hc, hmp⟩

def leadR (zs : List Int) : Int := if rgood zs then (leadF zs : Int) else 0
def perR (zs : List Int) : Int := if rgood zs then (perF zs : Int) else 0
/-- Steps that lead to the same ring, not far. -/
def aftN (zs : List Int) (b : Nat) : Nat := if leadF zs < b then leadF zs + (b - leadF zs) % perF zs else b
def aftOk (zs : List Int) (b : Int) : Bool := rgood zs && decide (0 ≤ b ∧ b ≤ 1000000000)
def aftR (zs : List Int) (b : Int) : List Int := if aftOk zs b then rit zs (aftN zs b.toNat) else []
theorem aftR_short (zs : List Int) (b : Int) (h : zs.length ≤ 1048576) : (aftR zs b).length ≤ 1048576 := by
  unfold aftR; split
  · rw [rit_length]; exact h
  · simp
/-- The first ring that comes again. -/
def lastF (zs : List Int) : List Int := rit zs (leadF zs)
theorem lastF_length (zs : List Int) : (lastF zs).length = zs.length := rit_length _ _
def galR (zs : List Int) : Int := if rgood zs then mx (lastF zs) else 0
def ctzR (zs : List Int) : Bool := rgood zs && (mx (lastF zs) == 0)
def stzR (zs : List Int) : Int := if ctzR zs then (leadF zs : Int) else 0

theorem mx_bd {zs : List Int} {b : Int} (h0 : 0 < zs.length) (h : within 0 b zs = true) : 0 ≤ mx zs ∧ mx zs ≤ b := by
  obtain ⟨k, hk, e⟩ := List.getElem_of_mem (mx_mem h0)
  rw [← e]
  exact within_get h k hk
theorem within_mx {zs : List Int} (h : within 0 1000 zs = true) : within 0 (mx zs) zs = true := within_of fun k hk => ⟨(within_get h k hk).1, le_mx (List.getElem_mem hk)⟩
theorem mx_step {zs : List Int} (h0 : 0 < zs.length) (h : within 0 1000 zs = true) : mx (rstep zs) ≤ mx zs :=
  (mx_bd (by rw [rstep_length]; exact h0) (rstep_within (within_mx h))).2
theorem mx_it {zs : List Int} (h0 : 0 < zs.length) (h : within 0 1000 zs = true) (i k : Nat) : mx (rit zs (i + k)) ≤ mx (rit zs i) := by
  induction k with
  | zero => exact Int.le_refl _
  | succ k ih => exact Int.le_trans (mx_step (zs := rit zs (i + k)) (by rw [rit_length]; exact h0) (rit_within h _)) ih
/-- The greatest number stays, at last. -/
theorem mx_last {zs : List Int} (h : rgood zs = true) (t : Nat) : mx (rit zs (leadF zs + t)) = mx (lastF zs) := by
  obtain ⟨h1, _, h3⟩ := rgood_of h
  obtain ⟨hc, _⟩ := cycF h
  have hp := hc.pos
  have a := mx_it (zs := zs) (by omega) h3 (leadF zs) t
  have hle : t ≤ t * perF zs := by have := Nat.mul_le_mul_left t hp; omega
  have b := mx_it (zs := zs) (by omega) h3 (leadF zs + t) (t * perF zs - t)
  rw [show leadF zs + t + (t * perF zs - t) = leadF zs + t * perF zs by omega, hc.rounds (rit_told zs) _ _ (Nat.le_refl _)] at b
  unfold lastF
  omega
theorem mx_zeros {zs : List Int} (h0 : 0 < zs.length) (h : within 0 1000 zs = true) : mx zs = 0 ↔ zs = List.replicate zs.length 0 := by
  constructor
  · intro e
    have hw := within_mx h
    rw [e] at hw
    apply List.ext_getElem
    · simp
    · intro k h1 h2
      have := within_get hw k h1
      simp
      omega
  · intro e
    have := mx_mem h0
    rw [e] at this
    have := List.eq_of_mem_replicate (by rw [← e] at this; rw [e] at this; exact this)
    rw [e]; exact this
end Go.Proofs.Ytkhcabgpbmhimaa
