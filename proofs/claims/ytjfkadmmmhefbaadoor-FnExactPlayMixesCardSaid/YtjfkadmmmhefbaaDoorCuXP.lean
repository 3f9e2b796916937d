
/-
  PLAYS OF MIXES, plainly. No program is named here.
-/
import Derived.Test.YtjfkadmmmhefbaaDoorCuDP
import Derived.Test.YtjfkadmmmhefbaaDoorCuM
namespace Go.Proofs.YtjfkadmmmhefbaaDoor
open Go.RowKit
set_option linter.unusedVariables false

/-- The reduced unit is a power of two; the contents keep within it. -/
theorem redZ_le {U : Nat} {zs : List Int} {M : Int} (j : Nat) (hU : U = 2 ^ j) (hz : ∀ z ∈ zs, 0 ≤ z) (hM : 0 ≤ M) (hlt : orAll U zs < 2 ^ 62) (h : ∀ z ∈ zs, z ≤ M * U) : ∀ z ∈ redZ U zs, 0 ≤ z ∧ z ≤ M * redU U zs := by
  obtain ⟨h1, h2, _⟩ := red_ok j hU hz hlt
  intro y hy
  unfold redZ at hy
  obtain ⟨z, hz', rfl⟩ := List.mem_map.1 hy
  have e : (U : Int) = (redU U zs : Nat) * ((2 ^ twos U zs : Nat) : Int) := by
    rw [h2, hU]
    have : (2 : Nat) ^ j = 2 ^ (j - twos (2 ^ j) zs) * 2 ^ twos (2 ^ j) zs := by
      rw [← Nat.pow_add]; congr 1; rw [hU] at h1; omega
    exact_mod_cast this
  have hp : (0 : Int) < ((2 ^ twos U zs : Nat) : Int) := by have := Nat.two_pow_pos (twos U zs); omega
  refine ⟨Int.ediv_nonneg (hz z hz') (by omega), ?_⟩
  apply Int.ediv_le_of_le_mul hp
  have := h z hz'
  rw [e, ← Int.mul_assoc] at this
  exact this

theorem mix_facts {zs : List Int} {u : Nat} {a b : Nat} (hc : cuOk zs (u : Int) = true) (ha : a < zs.length) (hb : b < zs.length) :
    isU (mixU zs u a b : Nat) = decide (mixU zs u a b ≤ 1048576) ∧ (isU (mixU zs u a b : Nat) = true → cuOk (mixZ zs u a b) (mixU zs u a b : Nat) = true) ∧ (mixZ zs u a b).length = zs.length := by
  obtain ⟨h2, h6, hu, hw, _⟩ := cuOk_of hc
  have hub := isU_bd hu
  obtain ⟨j, hj, huj⟩ := isU_of hu
  have huj' : u = 2 ^ j := by exact_mod_cast huj
  have hwz := within_toNat hw
  have h2u : 2 * u = 2 ^ (j + 1) := by rw [huj', Nat.pow_succ]; omega
  have hm : ∀ z ∈ mixL zs a b, 0 ≤ z ∧ z ≤ 1000 * ((2 * u : Nat) : Int) := by
    have hga : zs.getD a 0 = zs[a] := by simp [List.getD, ha]
    have hgb : zs.getD b 0 = zs[b] := by simp [List.getD, hb]
    have h1 := hwz zs[a] (List.getElem_mem ha)
    have h3 := hwz zs[b] (List.getElem_mem hb)
    intro z hz
    unfold mixL at hz
    rw [hga, hgb] at hz
    rcases List.mem_or_eq_of_mem_set hz with hz | rfl
    · rcases List.mem_or_eq_of_mem_set hz with hz | rfl
      · obtain ⟨y, hy, rfl⟩ := List.mem_map.1 hz
        have := hwz y hy
        show 0 ≤ 2 * y ∧ 2 * y ≤ _
        omega
      · omega
    · omega
  have hlt : orAll (2 * u) (mixL zs a b) < 2 ^ 62 := orAll_lt 62 _ (fun z hz => by have := hm z hz; omega) _ (by omega)
  obtain ⟨r1, r2, r3⟩ := red_ok (j + 1) h2u (fun z hz => (hm z hz).1) hlt
  have hU2 : mixU zs u a b = 2 ^ (j + 1 - twos (2 * u) (mixL zs a b)) := r2
  have hl : (mixZ zs u a b).length = zs.length := by unfold mixZ; rw [redZ_length, mixL_length]
  have hle := redZ_le (j + 1) h2u (fun z hz => (hm z hz).1) (by omega : (0 : Int) ≤ 1000) hlt (fun z hz => (hm z hz).2)
  refine ⟨?_, fun hi => ?_, hl⟩
  · by_cases hk : mixU zs u a b ≤ 1048576
    · rw [decide_eq_true hk]
      rw [hU2] at hk ⊢
      have : j + 1 - twos (2 * u) (mixL zs a b) ≤ 20 := by
        apply Nat.le_of_not_lt
        intro h
        have := Nat.pow_lt_pow_right (a := 2) (by decide) h
        omega
      exact isU_mk _ this
    · rw [decide_eq_false hk]
      cases h : isU (mixU zs u a b : Nat)
      · rfl
      · have := isU_bd h; omega
  · unfold cuOk
    rw [hi, hl, decide_eq_true ⟨h2, h6⟩]
    have hw2 : within 0 (1000 * ((mixU zs u a b : Nat) : Int)) (mixZ zs u a b) = true := within_of fun k hk => hle _ (List.getElem_mem hk)
    rw [hw2, show (((mixU zs u a b : Nat) : Int) == 1 || anyOdd (mixZ zs u a b)) = true from r3]
    rfl

/-- A mix that can be made: two numbers of cups, the less first. -/
def mixable (n : Nat) (m : List Int) : Bool := decide (m.length = 2 ∧ 0 ≤ m.getD 0 0 ∧ m.getD 0 0 < m.getD 1 0 ∧ m.getD 1 0 < n)
theorem mixable_of {n : Nat} {m : List Int} (h : mixable n m = true) : ∃ a b : Nat, m = [(a : Int), (b : Int)] ∧ a < b ∧ b < n := by
  obtain ⟨h1, h2, h3, h4⟩ : m.length = 2 ∧ 0 ≤ m.getD 0 0 ∧ m.getD 0 0 < m.getD 1 0 ∧ m.getD 1 0 < n := of_decide_eq_true h
  match m, h1 with
  | [x, y], _ =>
    have h2' : 0 ≤ x := h2
    have h3' : x < y := h3
    have h4' : y < n := h4
    obtain ⟨a, rfl⟩ := Int.eq_ofNat_of_zero_le h2'
    obtain ⟨b, rfl⟩ := Int.eq_ofNat_of_zero_le (show 0 ≤ y by omega)
    exact ⟨a, b, rfl, by omega, by omega⟩
theorem mixable_two {n : Nat} {x y : Int} : mixable n [x, y] = decide (0 ≤ x ∧ x < y ∧ y < n) := by
  unfold mixable
  refine decide_eq_decide.2 ⟨fun h => h.2, fun h => ⟨rfl, h⟩⟩
/-- The cups behind mixes, one after the other. -/
def pmix (zs : List Int) (u : Nat) : List (List Int) → Option (List Int × Nat)
  | [] => some (zs, u)
  | m :: ms => if mixable zs.length m && isU (mixU zs u (m.getD 0 0).toNat (m.getD 1 0).toNat : Nat) then pmix (mixZ zs u (m.getD 0 0).toNat (m.getD 1 0).toNat) (mixU zs u (m.getD 0 0).toNat (m.getD 1 0).toNat) ms else none
theorem pmix_append (zs : List Int) (u : Nat) (p q : List (List Int)) : pmix zs u (p ++ q) = (pmix zs u p).bind fun s => pmix s.1 s.2 q := by
  induction p generalizing zs u with
  | nil => simp [pmix]
  | cons m ms ih =>
    simp only [List.cons_append, pmix]
    split
    · exact ih _ _
    · rfl
theorem pmix_succ {zs : List Int} {u : Nat} {ms : List (List Int)} {k : Nat} (hk : k < ms.length) {ys : List Int} {v : Nat} (h : pmix zs u (ms.take k) = some (ys, v)) :
    pmix zs u (ms.take (k + 1)) = if mixable ys.length ms[k] && isU (mixU ys v (ms[k].getD 0 0).toNat (ms[k].getD 1 0).toNat : Nat) then some (mixZ ys v (ms[k].getD 0 0).toNat (ms[k].getD 1 0).toNat, mixU ys v (ms[k].getD 0 0).toNat (ms[k].getD 1 0).toNat) else none := by
  rw [List.take_succ_eq_append_getElem hk, pmix_append, h]
  simp [pmix]
theorem pmix_stuck {zs : List Int} {u : Nat} {ms : List (List Int)} {k : Nat} (h : pmix zs u (ms.take k) = none) : pmix zs u ms = none := by
  have := pmix_append zs u (ms.take k) (ms.drop k)
  rw [List.take_append_drop, h] at this
  simpa using this
theorem pmix_ok {zs : List Int} {u : Nat} {ms : List (List Int)} {ys : List Int} {v : Nat} (hc : cuOk zs (u : Int) = true) (h : pmix zs u ms = some (ys, v)) : cuOk ys (v : Int) = true ∧ ys.length = zs.length := by
  induction ms generalizing zs u with
  | nil => simp [pmix] at h; obtain ⟨rfl, rfl⟩ := h; exact ⟨hc, rfl⟩
  | cons m ms ih =>
    simp only [pmix] at h
    split at h
    · rename_i hm
      simp only [Bool.and_eq_true] at hm
      obtain ⟨a, b, rfl, hab, hb⟩ := mixable_of hm.1
      have hf := mix_facts (a := a) (b := b) hc (by omega) hb
      have e0 : (([(a : Int), (b : Int)] : List Int).getD 0 0).toNat = a := by simp
      have e1 : (([(a : Int), (b : Int)] : List Int).getD 1 0).toNat = b := by simp
      rw [e0, e1] at h hm
      have := ih (hf.2.1 hm.2) h
      exact ⟨this.1, by rw [this.2, hf.2.2]⟩
    · cases h
/-- What is told of a play. -/
def pmAsk (zs : List Int) (u : Int) (ms : List (List Int)) : Bool := cuOk zs u && decide (ms.length ≤ 50)
def pmOk (zs : List Int) (u : Int) (ms : List (List Int)) : Bool := pmAsk zs u ms && (pmix zs u.toNat ms).isSome
def pmL (zs : List Int) (u : Int) (ms : List (List Int)) : List Int := if pmOk zs u ms then ((pmix zs u.toNat ms).getD ([], 0)).1 else []
def pmU (zs : List Int) (u : Int) (ms : List (List Int)) : Int := if pmOk zs u ms then ((pmix zs u.toNat ms).getD ([], 0)).2 else 0
theorem pm_no {zs : List Int} {u : Int} {ms : List (List Int)} (h : pmOk zs u ms = false) : pmL zs u ms = [] ∧ pmU zs u ms = 0 := by unfold pmL pmU; rw [h]; exact ⟨rfl, rfl⟩
theorem pm_bad {zs : List Int} {u : Int} {ms : List (List Int)} (h : pmAsk zs u ms = false) : pmOk zs u ms = false := by unfold pmOk; rw [h]; rfl
theorem pm_stuck {zs : List Int} {u : Int} {ms : List (List Int)} (h : pmix zs u.toNat ms = none) : pmOk zs u ms = false := by unfold pmOk; rw [h]; simp
theorem pm_yes {zs : List Int} {u : Nat} {ms : List (List Int)} {ys : List Int} {v : Nat} (ha : pmAsk zs (u : Int) ms = true) (h : pmix zs u ms = some (ys, v)) : pmOk zs (u : Int) ms = true ∧ pmL zs (u : Int) ms = ys ∧ pmU zs (u : Int) ms = (v : Int) := by
  have e : pmOk zs (u : Int) ms = true := by unfold pmOk; rw [ha, Int.toNat_natCast, h]; rfl
  refine ⟨e, ?_, ?_⟩
  · unfold pmL; rw [e, if_pos rfl, Int.toNat_natCast, h]; rfl
  · unfold pmU; rw [e, if_pos rfl, Int.toNat_natCast, h]; rfl
end Go.Proofs.YtjfkadmmmhefbaaDoor
