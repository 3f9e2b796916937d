
/-
  ALL LISTS OF SO MANY NUMBERS, IN ORDER, PLAINLY: digits; the next list. No program is named here.
-/
import Derived.Test.YtkhcabgpbmhimaaRws
namespace Go.Proofs.Ytkhcabgpbmhimaa

/-- The list number q of s numbers less than b. -/
def dg (b : Nat) : Nat → Nat → List Int
  | 0, _ => []
  | s + 1, q => dg b s (q / b) ++ [((q % b : Nat) : Int)]
theorem dg_length (b : Nat) : ∀ s q, (dg b s q).length = s
  | 0, _ => rfl
  | s + 1, q => by rw [dg, List.length_append, dg_length b s]; rfl
theorem dg_zero (b : Nat) : ∀ s, dg b s 0 = List.replicate s 0
  | 0 => rfl
  | s + 1 => by rw [dg, Nat.zero_div, Nat.zero_mod, dg_zero b s, List.replicate_succ']; rfl
theorem dg_mem {b : Nat} (hb : 0 < b) : ∀ (s q : Nat) (x : Int), x ∈ dg b s q → 0 ≤ x ∧ x < b
  | 0, _, x, h => by simp [dg] at h
  | s + 1, q, x, h => by
    rw [dg, List.mem_append, List.mem_singleton] at h
    rcases h with h | h
    · exact dg_mem hb s _ x h
    · have := Nat.mod_lt q hb; omega
/-- All of them, in order. -/
def rowsD (b s : Nat) : List (List Int) := (List.range (b ^ s)).map (dg b s)
theorem rowsD_length (b s : Nat) : (rowsD b s).length = b ^ s := by simp [rowsD]
theorem rowsD_zero (b : Nat) : rowsD b 0 = [[]] := rfl
theorem range_mul (b : Nat) : ∀ a, List.range (a * b) = (List.range a).flatMap fun i => (List.range b).map fun n => i * b + n
  | 0 => by simp
  | a + 1 => by
    rw [Nat.add_mul, Nat.one_mul, List.range_add, range_mul b a, List.range_succ, List.flatMap_append]
    simp
theorem rowsD_succ {b : Nat} (hb : 0 < b) (s : Nat) : rowsD b (s + 1) = (rowsD b s).flatMap fun l => (List.range b).map fun n => l ++ [((n : Nat) : Int)] := by
  unfold rowsD
  rw [Nat.pow_succ, range_mul, List.map_flatMap, List.flatMap_map]
  congr 1
  funext i
  rw [List.map_map]
  refine List.map_congr_left fun n hn => ?_
  have hn' : n < b := List.mem_range.1 hn
  show dg b (s + 1) (i * b + n) = dg b s i ++ [(n : Int)]
  rw [dg]
  congr 2
  · rw [Nat.mul_comm, Nat.mul_add_div hb, Nat.div_eq_of_lt hn', Nat.add_zero]
  · rw [Nat.mul_comm, Nat.mul_add_mod, Nat.mod_eq_of_lt hn']
/-- The next list, from place k down. -/
def nxD (m : Int) : List Int → Nat → List Int × Bool
  | l, 0 => (l, false)
  | l, k + 1 => if l.getD k 0 < m then (l.set k (l.getD k 0 + 1), true) else nxD m (l.set k 0) k
theorem nxD_dg {b : Nat} (hb : 0 < b) : ∀ (s q : Nat) (t : List Int), q < b ^ s →
    nxD ((b : Int) - 1) (dg b s q ++ t) s = ((if q + 1 < b ^ s then dg b s (q + 1) else List.replicate s 0) ++ t, decide (q + 1 < b ^ s))
  | 0, q, t, hq => by
    have : q = 0 := by simpa using hq
    subst this
    simp [nxD, dg]
  | s + 1, q, t, hq => by
    have hl := dg_length b s (q / b)
    have hm := Nat.mod_lt q hb
    have hdm := Nat.div_add_mod q b
    have hqs : q / b < b ^ s := Nat.div_lt_of_lt_mul (by rw [Nat.pow_succ] at hq; rw [Nat.mul_comm]; exact hq)
    have e : dg b (s + 1) q ++ t = dg b s (q / b) ++ ((q % b : Nat) : Int) :: t := by rw [dg, List.append_assoc]; rfl
    have hg : (dg b s (q / b) ++ ((q % b : Nat) : Int) :: t).getD s 0 = ((q % b : Nat) : Int) := by
      simp [List.getD, List.getElem?_append_right, hl]
    have hset : ∀ y, (dg b s (q / b) ++ ((q % b : Nat) : Int) :: t).set s y = dg b s (q / b) ++ y :: t := fun y => by
      rw [List.set_append_right _ _ (by omega), hl, Nat.sub_self]; rfl
    rw [e, nxD, hg]
    by_cases h : q % b + 1 < b
    · have h1 : (q + 1) / b = q / b := by
        rw [show q + 1 = b * (q / b) + (q % b + 1) by omega, Nat.mul_add_div hb, Nat.div_eq_of_lt h, Nat.add_zero]
      have h2 : (q + 1) % b = q % b + 1 := by
        rw [show q + 1 = b * (q / b) + (q % b + 1) by omega, Nat.mul_add_mod, Nat.mod_eq_of_lt h]
      have hlt : q + 1 < b ^ (s + 1) := by
        have a1 : b * (q / b + 1) ≤ b * b ^ s := Nat.mul_le_mul_left _ hqs
        rw [Nat.pow_succ, Nat.mul_comm]
        rw [Nat.mul_add, Nat.mul_one] at a1
        omega
      rw [if_pos (by omega), hset, if_pos hlt, decide_eq_true hlt, dg, h1, h2, List.append_assoc]
      simp
    · have hb1 : q % b + 1 = b := by omega
      have hq1 : q + 1 = b * (q / b + 1) := by rw [Nat.mul_add, Nat.mul_one]; omega
      have h1 : (q + 1) / b = q / b + 1 := by rw [hq1, Nat.mul_div_cancel_left _ hb]
      have h2 : (q + 1) % b = 0 := by rw [hq1, Nat.mul_mod_right]
      have hiff : q + 1 < b ^ (s + 1) ↔ q / b + 1 < b ^ s := by
        rw [hq1, Nat.pow_succ, Nat.mul_comm (b ^ s) b]
        exact Nat.mul_lt_mul_left hb
      rw [if_neg (by omega), hset, nxD_dg hb s (q / b) (0 :: t) hqs]
      by_cases hc : q / b + 1 < b ^ s
      · rw [if_pos hc, if_pos (hiff.2 hc), decide_eq_true hc, decide_eq_true (hiff.2 hc), dg, h1, h2, List.append_assoc]; rfl
      · rw [if_neg hc, if_neg (fun h => hc (hiff.1 h)), decide_eq_false hc, decide_eq_false (fun h => hc (hiff.1 h)), List.replicate_succ', List.append_assoc]; rfl
end Go.Proofs.Ytkhcabgpbmhimaa
