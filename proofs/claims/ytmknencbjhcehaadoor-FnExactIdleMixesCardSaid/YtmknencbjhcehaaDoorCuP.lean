
/-
  CUPS, PLAINLY: cups, common twos, contents. No program is named here.
-/
import Derived.Test.YtmknencbjhcehaaDoorBit
import Derived.Test.YtmknencbjhcehaaDoorTz
import Derived.Test.YtmknencbjhcehaaDoorPlainB
namespace Go.Proofs.YtmknencbjhcehaaDoor
open Go.RowKit Go.Deep

/-- All numbers' bits together. -/
def orAll (u : Nat) (zs : List Int) : Nat := zs.foldl (fun a z => a ||| z.toNat) u
theorem orAll_take (u : Nat) (zs : List Int) (k : Nat) (hk : k < zs.length) : orAll u (zs.take (k + 1)) = orAll u (zs.take k) ||| zs[k].toNat := by
  unfold orAll; rw [List.take_succ_eq_append_getElem hk, List.foldl_append]; rfl
theorem or_dvd (k a b : Nat) : 2 ^ k ∣ (a ||| b) ↔ 2 ^ k ∣ a ∧ 2 ^ k ∣ b := by
  rw [Nat.dvd_iff_mod_eq_zero, Nat.dvd_iff_mod_eq_zero, Nat.dvd_iff_mod_eq_zero, Nat.or_mod_two_pow, Nat.or_eq_zero_iff]
theorem orAll_dvd (k : Nat) (zs : List Int) : ∀ u, 2 ^ k ∣ orAll u zs ↔ 2 ^ k ∣ u ∧ ∀ z ∈ zs, 2 ^ k ∣ z.toNat := by
  induction zs with
  | nil => intro u; simp [orAll]
  | cons z zs ih =>
    intro u
    show 2 ^ k ∣ orAll (u ||| z.toNat) zs ↔ _
    rw [ih, or_dvd, List.forall_mem_cons, and_assoc]
theorem orAll_lt (b : Nat) (zs : List Int) (h : ∀ z ∈ zs, z.toNat < 2 ^ b) : ∀ u, u < 2 ^ b → orAll u zs < 2 ^ b := by
  induction zs with
  | nil => intro u hu; exact hu
  | cons z zs ih =>
    intro u hu
    show orAll (u ||| z.toNat) zs < _
    exact ih (fun y hy => h y (List.mem_cons_of_mem _ hy)) _ (Nat.or_lt_two_pow hu (h z (List.mem_cons_self ..)))
theorem orAll_ge (zs : List Int) : ∀ u, u ≤ orAll u zs := by
  induction zs with
  | nil => intro u; exact Nat.le_refl _
  | cons z zs ih =>
    intro u
    show u ≤ orAll (u ||| z.toNat) zs
    exact Nat.le_trans Nat.left_le_or (ih _)

/-- How often all can be halved together. -/
def twos (u : Nat) (zs : List Int) : Nat := Lib.ctz 64 (orAll u zs)
theorem twos_spec (u : Nat) (zs : List Int) (hu : 1 ≤ u) (h : orAll u zs < 2 ^ 62) : 2 ^ twos u zs ∣ orAll u zs ∧ ¬ 2 ^ (twos u zs + 1) ∣ orAll u zs := by
  have h0 : 0 < orAll u zs := Nat.lt_of_lt_of_le hu (orAll_ge zs u)
  obtain ⟨m, h1, h2⟩ := Lib.ctzFrom_spec 64 (orAll u zs) h0 (Nat.lt_trans h (by decide))
  have e : twos u zs = Lib.ctzFrom 64 (orAll u zs) := by unfold twos Lib.ctz; rw [if_neg (by omega)]
  rw [e]
  clear e h2
  generalize Lib.ctzFrom 64 (orAll u zs) = t at *
  refine ⟨⟨2 * m + 1, h1⟩, ?_⟩
  rintro ⟨q, hq⟩
  rw [h1, Nat.pow_succ, Nat.mul_assoc] at hq
  have := Nat.eq_of_mul_eq_mul_left (Nat.two_pow_pos _) hq
  omega
theorem twos_all (u : Nat) (zs : List Int) (hu : 1 ≤ u) (h : orAll u zs < 2 ^ 62) : (2 ^ twos u zs ∣ u ∧ ∀ z ∈ zs, 2 ^ twos u zs ∣ z.toNat) ∧ ¬ (2 ^ (twos u zs + 1) ∣ u ∧ ∀ z ∈ zs, 2 ^ (twos u zs + 1) ∣ z.toNat) := by
  have h1 := twos_spec u zs hu h
  rw [orAll_dvd, orAll_dvd] at h1
  exact h1

/-- Some number is odd. -/
def anyOdd (zs : List Int) : Bool := zs.any fun z => z % 2 == 1
theorem anyOdd_of {zs : List Int} (h : anyOdd zs = true) : ∃ z ∈ zs, z % 2 = 1 := by
  unfold anyOdd at h
  obtain ⟨z, hz, e⟩ := List.any_eq_true.1 h
  exact ⟨z, hz, by simpa using e⟩
theorem anyOdd_no {zs : List Int} (h : anyOdd zs = false) : ∀ z ∈ zs, z % 2 = 0 := by
  intro z hz
  unfold anyOdd at h
  have := List.any_eq_false.1 h z hz
  simp at this; omega
theorem anyOdd_take (zs : List Int) (k : Nat) (hk : k < zs.length) : anyOdd (zs.take (k + 1)) = (anyOdd (zs.take k) || (zs[k] % 2 == 1)) := by
  unfold anyOdd; rw [List.take_succ_eq_append_getElem hk, List.any_append]; simp

/-- Cups. -/
def cuOk (zs : List Int) (u : Int) : Bool := decide (2 ≤ zs.length ∧ zs.length ≤ 6) && isU u && within 0 (1000 * u) zs && (u == 1 || anyOdd zs)
theorem cuOk_of {zs : List Int} {u : Int} (h : cuOk zs u = true) : 2 ≤ zs.length ∧ zs.length ≤ 6 ∧ isU u = true ∧ within 0 (1000 * u) zs = true ∧ (u == 1 || anyOdd zs) = true := by
  unfold cuOk at h
  simp only [Bool.and_eq_true, decide_eq_true_eq] at h
  exact ⟨h.1.1.1.1, h.1.1.1.2, h.1.1.2, h.1.2, h.2⟩
theorem within_toNat {hi : Int} {zs : List Int} (h : within 0 hi zs = true) : ∀ z ∈ zs, 0 ≤ z ∧ z ≤ hi := by
  intro z hz
  obtain ⟨k, hk, rfl⟩ := List.getElem_of_mem hz
  exact within_get h k hk
theorem twos_zero (u : Int) (zs : List Int) (hu : isU u = true) (h : within 0 (1000 * u) zs = true) : (twos u.toNat zs == 0) = (u == 1 || anyOdd zs) := by
  have hb := isU_bd hu
  have hz := within_toNat h
  have hlt : orAll u.toNat zs < 2 ^ 62 := orAll_lt 62 zs (fun z hz' => by have := hz z hz'; omega) _ (by omega)
  obtain ⟨⟨h1, h2⟩, h3⟩ := twos_all u.toNat zs (by omega) hlt
  by_cases ht : twos u.toNat zs = 0
  · rw [ht, Nat.zero_add, Nat.pow_one] at h3
    rw [ht]
    cases hr : (u == 1 || anyOdd zs)
    · exfalso
      rw [Bool.or_eq_false_iff] at hr
      refine h3 ⟨?_, fun z hz' => ?_⟩
      · obtain ⟨k, hk, rfl⟩ := isU_of hu
        rcases Nat.eq_zero_or_pos k with rfl | hk0
        · simp at hr
        · rw [Int.toNat_natCast]
          exact ⟨2 ^ (k - 1), by rw [← Nat.pow_succ']; congr 1; omega⟩
      · have := anyOdd_no hr.2 z hz'
        have := hz z hz'
        omega
    · rfl
  · have hd : ∀ x : Nat, 2 ^ twos u.toNat zs ∣ x → x % 2 = 0 := by
      rintro x ⟨q, rfl⟩
      rw [show twos u.toNat zs = twos u.toNat zs - 1 + 1 from by omega, Nat.pow_succ, Nat.mul_comm _ 2, Nat.mul_assoc]; omega
    rw [beq_false_of_ne ht]
    symm
    rw [Bool.or_eq_false_iff]
    constructor
    · apply beq_false_of_ne
      rintro rfl
      have := hd _ h1
      exact absurd this (by decide)
    · cases ho : anyOdd zs
      · rfl
      · obtain ⟨z, hz', e⟩ := anyOdd_of ho
        have := hd _ (h2 z hz')
        have := hz z hz'
        omega
end Go.Proofs.YtmknencbjhcehaaDoor
