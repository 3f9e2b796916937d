
/-
  TWICE AS MUCH, plainly. No program is named here.
-/
import Derived.Test.YtjfkadmmmhefbaaDoorCuQP
namespace Go.Proofs.YtjfkadmmmhefbaaDoor
open Go.RowKit Go.Deep

/-- Behind the halvings the unit is 1, or something is odd; the unit is a power of two still. -/
theorem red_ok {u : Nat} {zs : List Int} (j : Nat) (huj : u = 2 ^ j) (hz : ∀ z ∈ zs, 0 ≤ z) (hlt : orAll u zs < 2 ^ 62) :
    twos u zs ≤ j ∧ redU u zs = 2 ^ (j - twos u zs) ∧ ((redU u zs : Int) == 1 || anyOdd (redZ u zs)) = true := by
  have hu : 1 ≤ u := by rw [huj]; exact Nat.one_le_two_pow
  have h1 := (twos_all u zs hu hlt).1.1
  have htj : twos u zs ≤ j := by
    apply Nat.le_of_not_lt
    intro h
    have := Nat.le_of_dvd (by omega) h1
    have h2 := Nat.pow_lt_pow_right (a := 2) (by decide) h
    omega
  have hr : redU u zs = 2 ^ (j - twos u zs) := by
    unfold redU
    generalize twos u zs = t at *
    rw [huj, Nat.pow_div htj (by decide)]
  refine ⟨htj, hr, ?_⟩
  cases ho : anyOdd (redZ u zs)
  · have h3 := (twos_step j huj hz hlt (twos u zs) (Nat.le_refl _))
    have h4 : ¬ (1 < u / 2 ^ twos u zs) := fun h => by
      have := h3.2 ⟨h, ho⟩
      omega
    have h5 : 1 ≤ redU u zs := by rw [hr]; exact Nat.one_le_two_pow
    have h6 : redU u zs = u / 2 ^ twos u zs := rfl
    have : redU u zs = 1 := by omega
    rw [this]; rfl
  · simp
theorem redZ_length (u : Nat) (zs : List Int) : (redZ u zs).length = zs.length := by unfold redZ; simp
theorem redZ_pos {u : Nat} {zs : List Int} (hz : ∀ z ∈ zs, 0 ≤ z ∧ z ≤ 1099511627775) : ∀ z ∈ redZ u zs, 0 ≤ z ∧ z ≤ 1099511627775 := by
  intro y hy
  unfold redZ at hy
  obtain ⟨z, hz', rfl⟩ := List.mem_map.1 hy
  have h1 := hz z hz'
  rw [nat_div_int z h1.1]
  have h2 := Nat.div_le_self z.toNat (2 ^ twos u zs)
  generalize z.toNat / 2 ^ twos u zs = q at *
  omega

def dZ (zs : List Int) (u : Int) : List Int := redZ u.toNat (zs.map (2 * ·))
def dU (zs : List Int) (u : Int) : Int := (redU u.toNat (zs.map (2 * ·)) : Nat)
def dOk (zs : List Int) (u : Int) : Bool := cuOk zs u && within 0 (1000 * dU zs u) (dZ zs u)
def dL (zs : List Int) (u : Int) : List Int := if dOk zs u then dZ zs u else []
def dV (zs : List Int) (u : Int) : Int := if dOk zs u then dU zs u else 0
theorem dL_no {zs : List Int} {u : Int} (h : dOk zs u = false) : dL zs u = [] := by unfold dL; rw [h]; rfl
theorem dV_no {zs : List Int} {u : Int} (h : dOk zs u = false) : dV zs u = 0 := by unfold dV; rw [h]; rfl
theorem dL_yes {zs : List Int} {u : Int} (h : dOk zs u = true) : dL zs u = dZ zs u := by unfold dL; rw [h]; rfl
theorem dV_yes {zs : List Int} {u : Int} (h : dOk zs u = true) : dV zs u = dU zs u := by unfold dV; rw [h]; rfl
theorem dbl_facts {zs : List Int} {u : Int} (h : cuOk zs u = true) : within 0 1099511627775 (zs.map (2 * ·)) = true ∧ (∀ z ∈ zs.map (2 * ·), 0 ≤ z ∧ z ≤ 1099511627775) ∧ orAll u.toNat (zs.map (2 * ·)) < 2 ^ 62 ∧
    (∃ j, j ≤ 20 ∧ u.toNat = 2 ^ j) ∧ cuOk (dZ zs u) (dU zs u) = within 0 (1000 * dU zs u) (dZ zs u) ∧ 0 ≤ dU zs u ∧ dU zs u ≤ 1048576 ∧ (dZ zs u).length = zs.length := by
  obtain ⟨h2, h6, hu, hw, _⟩ := cuOk_of h
  have hub := isU_bd hu
  obtain ⟨j, hj, huj⟩ := isU_of hu
  have hwz := within_toNat hw
  have ha : ∀ z ∈ zs.map (2 * ·), 0 ≤ z ∧ z ≤ 1099511627775 := by
    intro y hy
    obtain ⟨z, hz, rfl⟩ := List.mem_map.1 hy
    have := hwz z hz
    show 0 ≤ 2 * z ∧ 2 * z ≤ _; omega
  have hlt : orAll u.toNat (zs.map (2 * ·)) < 2 ^ 62 := orAll_lt 62 _ (fun z hz => by have := ha z hz; omega) _ (by omega)
  have huj' : u.toNat = 2 ^ j := by rw [huj]; exact Int.toNat_natCast _
  obtain ⟨r1, r2, r3⟩ := red_ok j huj' (fun z hz => (ha z hz).1) hlt
  have hdu : isU (dU zs u) = true := by unfold dU; rw [r2]; exact isU_mk _ (by omega)
  have hdub := isU_bd hdu
  have hl : (dZ zs u).length = zs.length := by unfold dZ; rw [redZ_length]; simp
  refine ⟨within_of (fun k hk => ha _ (List.getElem_mem hk)), ha, hlt, ⟨j, hj, huj'⟩, ?_, by omega, hdub.2, hl⟩
  unfold cuOk
  rw [hdu, show (dU zs u == 1 || anyOdd (dZ zs u)) = true from r3, hl, decide_eq_true ⟨h2, h6⟩]
  simp
end Go.Proofs.YtjfkadmmmhefbaaDoor
