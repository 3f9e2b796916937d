
/-
  LEAST SUMS OF ENDS, PLAINLY: the longest jobs last, machine after machine. No program is named here.
-/
import Derived.Test.YtbefffknedimhaaSoeP
namespace Go.Proofs.Ytbefffknedimhaa

/-- The sum that the model tells, along an order. -/
def lsZ (zs os : List Int) (M : Nat) : Nat → Int
  | 0 => 0
  | k + 1 => lsZ zs os M k + vat zs (os.getD k 0) * ((k : Int) / (M : Int) + 1)
/-- The plan that the program makes. -/
def leastP (n : Nat) (os : List Int) (M : Nat) : Nat → List Int
  | 0 => List.replicate n 0
  | k + 1 => (leastP n os M k).set (os.getD k 0).toNat ((k : Int) % (M : Int))
theorem leastP_length (n : Nat) (os : List Int) (M : Nat) : ∀ k, (leastP n os M k).length = n
  | 0 => by simp [leastP]
  | k + 1 => by rw [leastP, List.length_set, leastP_length n os M k]
theorem leastP_in (n : Nat) (os : List Int) {M : Nat} (hM : 1 ≤ M) : ∀ k, within 0 ((M : Int) - 1) (leastP n os M k) = true
  | 0 => by
    refine within_of fun i hi => ?_
    simp [leastP]; omega
  | k + 1 => by
    rw [leastP]
    refine within_set (leastP_in n os hM k) _ _ ⟨Int.emod_nonneg _ (by omega), ?_⟩
    have := Int.emod_lt_of_pos (k : Int) (show (0 : Int) < (M : Int) by omega)
    omega
theorem leastP_at (n : Nat) (os : List Int) (M : Nat) (hn : os.length = n) (hp : os.Perm (rng n)) : ∀ k, k ≤ n → ∀ j, j < k → vat (leastP n os M k) (os.getD j 0) = (j : Int) % (M : Int)
  | 0, _, j, h => by omega
  | k + 1, hk, j, hj => by
    have hmem : ∀ i, i < n → ∃ q : Nat, os.getD i 0 = (q : Int) ∧ q < n := by
      intro i hi
      have hi' : i < os.length := by omega
      have hm : os[i] ∈ rng n := hp.subset (List.getElem_mem hi')
      rw [getD_at hi']
      obtain ⟨q, hq, he⟩ := List.getElem_of_mem hm
      rw [rng_length] at hq
      rw [rng_get hq] at he
      exact ⟨q, he.symm, hq⟩
    have hnd : os.Nodup := by
      refine hp.nodup_iff.2 ?_
      unfold rng
      rw [List.nodup_iff_pairwise_ne, List.pairwise_map]
      exact (List.nodup_iff_pairwise_ne.1 List.nodup_range).imp (fun h e => h (by omega))
    obtain ⟨q, hq, hqn⟩ := hmem k (by omega)
    obtain ⟨q2, hq2, hqn2⟩ := hmem j (by omega)
    rw [leastP, hq, hq2]
    unfold vat
    simp only [Int.toNat_natCast]
    have hl := leastP_length n os M k
    by_cases e : j = k
    · subst e
      obtain rfl : q = q2 := by omega
      rw [getD_at (by rw [List.length_set]; omega), List.getElem_set_self]
    · have hne : q ≠ q2 := by
        intro hqq
        subst hqq
        have h1 : j < os.length := by omega
        have h2 : k < os.length := by omega
        rw [getD_at h2] at hq
        rw [getD_at h1] at hq2
        exact e ((List.getElem_inj hnd (h₀ := h1) (h₁ := h2)).1 (by rw [hq, hq2]))
      have ih := leastP_at n os M hn hp k (by omega) j (by omega)
      rw [hq2] at ih
      unfold vat at ih
      simp only [Int.toNat_natCast] at ih
      rw [← ih, getD_at (by rw [List.length_set]; omega), getD_at (by omega), List.getElem_set_ne hne]
theorem cnt_range (ps os : List Int) (M : Nat) (n : Nat) (hn : os.length = n) (h : ∀ j, j < n → vat ps (os.getD j 0) = (j : Int) % (M : Int)) (mm : Nat) :
    ∀ k, k ≤ n → cntM ps (os.take k) (mm : Int) = ((List.range k).filter fun j => decide (j % M = mm)).length
  | 0, _ => by simp [cntM]
  | k + 1, hk => by
    have hlt : k < os.length := by omega
    have e := List.take_succ_eq_append_getElem hlt
    rw [e, cntM_snoc, cnt_range ps os M n hn h mm k (by omega), List.range_succ, List.filter_append, List.length_append]
    have := h k (by omega)
    rw [getD_at hlt] at this
    rw [this]
    by_cases hm : k % M = mm
    · rw [if_pos (by omega)]; simp [hm]
    · rw [if_neg (by omega)]; simp [hm]
theorem cnt_few : ∀ M, M < 5 → 0 < M → ∀ k, k < 9 → ((List.range (k + 1)).filter fun j => decide (j % M = k % M)).length = k / M + 1 := by decide +kernel
theorem least_eq (zs os : List Int) (M : Nat) (h0 : 0 < M) (h4 : M < 5) (hn : os.length = zs.length) (h9 : zs.length ≤ 9) (hp : os.Perm (rng zs.length)) :
    ∀ k, k ≤ zs.length → soeS zs (leastP zs.length os M zs.length) os k = lsZ zs os M k
  | 0, _ => rfl
  | k + 1, hk => by
    have hA := leastP_at zs.length os M hn hp zs.length (Nat.le_refl _)
    have hk2 := hA k (by omega)
    rw [soeS, lsZ, least_eq zs os M h0 h4 hn h9 hp k (by omega), hk2]
    have := cnt_range (leastP zs.length os M zs.length) os M zs.length hn (fun j hj => hA j hj) (k % M) (k + 1) hk
    rw [show ((k : Int) % (M : Int)) = ((k % M : Nat) : Int) by omega, this, cnt_few M h4 h0 k (by omega), Int.mul_comm]
    congr 1
theorem lsZ_bd {zs : List Int} (os : List Int) {M : Nat} (hw : within 1 1000 zs = true) : ∀ k : Nat, k ≤ 9 → 0 ≤ lsZ zs os M k ∧ lsZ zs os M k ≤ 10000 * k
  | 0, _ => by simp [lsZ]
  | k + 1, hk => by
    have ih := lsZ_bd (M := M) os hw k (by omega)
    have hv : 0 ≤ vat zs (os.getD k 0) ∧ vat zs (os.getD k 0) ≤ 1000 := by
      unfold vat
      by_cases h : (os.getD k 0).toNat < zs.length
      · rw [getD_at h]; have := within_get hw _ h; omega
      · rw [List.getD, List.getElem?_eq_none (by omega)]; simp
    have hq : 0 ≤ (k : Int) / (M : Int) ∧ (k : Int) / (M : Int) ≤ 9 := ⟨Int.ediv_nonneg (by omega) (by omega), Int.le_trans (Int.ediv_le_self _ (by omega)) (by omega)⟩
    have hb : 0 ≤ vat zs (os.getD k 0) * ((k : Int) / (M : Int) + 1) ∧ vat zs (os.getD k 0) * ((k : Int) / (M : Int) + 1) ≤ 10000 :=
      ⟨Int.mul_nonneg hv.1 (by omega), by
        have := Int.mul_le_mul hv.2 (show (k : Int) / (M : Int) + 1 ≤ 10 by omega) (by omega) (by omega); omega⟩
    rw [lsZ]
    omega
def lsN (zs : List Int) (m : Int) : Int := if jask zs m then lsZ zs (ordA true zs) m.toNat zs.length else 0
theorem lsN_yes {zs : List Int} {m : Int} (h : jask zs m = true) : lsN zs m = lsZ zs (ordA true zs) m.toNat zs.length := by simp [lsN, h]
theorem lsN_no {zs : List Int} {m : Int} (h : jask zs m = false) : lsN zs m = 0 := by simp [lsN, h]
end Go.Proofs.Ytbefffknedimhaa
