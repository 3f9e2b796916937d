
/-
  THE LEAST UNIT BY HALVING, plainly. No program is named here.
-/
import Derived.Test.YtjfkadmmmhefbaaDoorCuP
import Derived.Test.YtjfkadmmmhefbaaDoorMapP
namespace Go.Proofs.YtjfkadmmmhefbaaDoor
open Go.RowKit Go.Deep

/-- The same contents with the least unit. -/
def redZ (u : Nat) (zs : List Int) : List Int := zs.map fun z => z / ((2 ^ twos u zs : Nat) : Int)
def redU (u : Nat) (zs : List Int) : Nat := u / 2 ^ twos u zs
/-- .. k halvings. -/
def halfZ (k : Nat) (zs : List Int) : List Int := zs.map fun z => z / ((2 ^ k : Nat) : Int)
theorem halfZ_zero (zs : List Int) : halfZ 0 zs = zs := by
  unfold halfZ; conv => rhs; rw [← List.map_id zs]
  apply List.map_congr_left; intro z _; simp
theorem halfZ_length (k : Nat) (zs : List Int) : (halfZ k zs).length = zs.length := by simp [halfZ]
theorem halfZ_succ (k : Nat) (zs : List Int) : (halfZ k zs).map (· / 2) = halfZ (k + 1) zs := by
  unfold halfZ; rw [List.map_map]
  apply List.map_congr_left; intro z _
  show z / ((2 ^ k : Nat) : Int) / 2 = z / ((2 ^ (k + 1) : Nat) : Int)
  rw [Int.ediv_ediv_of_nonneg (Int.natCast_nonneg _), Nat.pow_succ, Int.natCast_mul]; rfl
theorem half_dvd {k x : Nat} (h : 2 ^ k ∣ x) : 2 ^ (k + 1) ∣ x ↔ x / 2 ^ k % 2 = 0 := by
  obtain ⟨q, rfl⟩ := h
  rw [Nat.mul_div_cancel_left _ (Nat.two_pow_pos k), Nat.pow_succ]
  constructor
  · rintro ⟨r, hr⟩
    rw [Nat.mul_assoc] at hr
    have := Nat.eq_of_mul_eq_mul_left (Nat.two_pow_pos k) hr
    omega
  · intro h
    exact ⟨q / 2, by rw [Nat.mul_assoc]; congr 1; omega⟩
theorem nat_div_int (z : Int) (h : 0 ≤ z) (k : Nat) : z / ((2 ^ k : Nat) : Int) = ((z.toNat / 2 ^ k : Nat) : Int) := by
  rw [Int.natCast_ediv, Int.toNat_of_nonneg h]
/-- Of what can be halved k times together, the last halving: nothing is odd, and the unit is more than 1. -/
theorem twos_step {u : Nat} {zs : List Int} (j : Nat) (huj : u = 2 ^ j) (hz : ∀ z ∈ zs, 0 ≤ z) (hlt : orAll u zs < 2 ^ 62) (k : Nat) (hk : k ≤ twos u zs) :
    (k < twos u zs) ↔ (1 < u / 2 ^ k ∧ anyOdd (halfZ k zs) = false) := by
  have hu : 1 ≤ u := by rw [huj]; exact Nat.one_le_two_pow
  obtain ⟨⟨h1, h2⟩, h3⟩ := twos_all u zs hu hlt
  have d : ∀ x, 2 ^ twos u zs ∣ x → 2 ^ k ∣ x := fun x hx => Nat.dvd_trans (Nat.pow_dvd_pow 2 hk) hx
  constructor
  · intro hlt'
    have d' : ∀ x, 2 ^ twos u zs ∣ x → 2 ^ (k + 1) ∣ x := fun x hx => Nat.dvd_trans (Nat.pow_dvd_pow 2 hlt') hx
    constructor
    · have := (half_dvd (d u h1)).1 (d' u h1)
      have hp : 0 < u / 2 ^ k := Nat.div_pos (Nat.le_of_dvd (by omega) (d u h1)) (Nat.two_pow_pos k)
      omega
    · cases ho : anyOdd (halfZ k zs)
      · rfl
      · obtain ⟨y, hy, e⟩ := anyOdd_of ho
        unfold halfZ at hy
        obtain ⟨z, hz', rfl⟩ := List.mem_map.1 hy
        rw [nat_div_int z (hz z hz')] at e
        have := (half_dvd (d _ (h2 z hz'))).1 (d' _ (h2 z hz'))
        omega
  · rintro ⟨g1, g2⟩
    apply Nat.lt_of_not_le
    intro hle
    have hkt : k = twos u zs := by omega
    apply h3
    rw [← hkt]
    refine ⟨(half_dvd (d u h1)).2 ?_, fun z hz' => (half_dvd (d _ (h2 z hz'))).2 ?_⟩
    · rw [huj] at g1 ⊢
      have hkj : k ≤ j := by
        apply Nat.le_of_not_lt
        intro hc
        rw [Nat.div_eq_of_lt (Nat.pow_lt_pow_right (by decide) hc)] at g1
        omega
      rw [Nat.pow_div hkj (by decide)] at g1 ⊢
      obtain ⟨i, hi⟩ : ∃ i, j - k = i + 1 := ⟨j - k - 1, by
        have : j - k ≠ 0 := by intro h; rw [h] at g1; simp at g1
        omega⟩
      rw [hi, Nat.pow_succ]; omega
    · have := anyOdd_no g2 (z / ((2 ^ k : Nat) : Int)) (List.mem_map.2 ⟨z, hz', rfl⟩)
      rw [nat_div_int z (hz z hz')] at this
      omega
end Go.Proofs.YtjfkadmmmhefbaaDoor
