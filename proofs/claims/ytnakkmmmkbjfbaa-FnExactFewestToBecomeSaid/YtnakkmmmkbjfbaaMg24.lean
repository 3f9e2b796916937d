import Derived.Test.YtnakkmmmkbjfbaaMg08

/-
  PLAIN FACTS FOR CHAPTER 1, THE THIRD PART: what is over, flows, sums of sizes. No program is named here.
-/
namespace Go.Proofs.Ytnakkmmmkbjfbaa

/-- What each has more than its share. -/
def over (zs : List Int) : List Int := zs.map fun n => n - tot zs / zs.length
theorem over_length (zs : List Int) : (over zs).length = zs.length := by simp [over]
theorem over_get (zs : List Int) (k : Nat) (hk : k < zs.length) : (over zs)[k]'(by rw [over_length]; exact hk) = zs[k] - tot zs / zs.length := by simp [over]
theorem over_take_succ (zs : List Int) (k : Nat) (hk : k < zs.length) : (over zs).take (k + 1) = (over zs).take k ++ [zs[k] - tot zs / zs.length] := by
  rw [List.take_succ_eq_append_getElem (by rw [over_length]; exact hk), over_get zs k hk]
theorem share_bd {zs : List Int} (h : good zs = true) : 0 ≤ tot zs / zs.length ∧ tot zs / zs.length ≤ 12000 := by
  obtain ⟨h1, h2, _⟩ := good_of h
  have ht := good_tot h
  refine ⟨Int.ediv_nonneg (by omega) (by omega), ?_⟩
  exact Int.le_trans (Int.ediv_le_self _ (by omega)) (by omega)
theorem over_within {zs : List Int} (h : good zs = true) : within (-12000) 1000 (over zs) = true := by
  have hs := share_bd h
  refine within_of fun k hk => ?_
  have hk' : k < zs.length := by rw [over_length] at hk; exact hk
  have := good_get h k hk'
  rw [over_get zs k hk']
  omega

/-- The sum of sizes. -/
def size1 (n : Int) : Int := if 0 ≤ n then n else -n
def sizes : List Int → Int
  | [] => 0
  | x :: xs => size1 x + sizes xs
theorem size1_bd {n b : Int} (h : -b ≤ n ∧ n ≤ b) : 0 ≤ size1 n ∧ size1 n ≤ b := by unfold size1; split <;> omega
theorem sizes_append (a b : List Int) : sizes (a ++ b) = sizes a + sizes b := by
  induction a with
  | nil => simp [sizes]
  | cons x xs ih => simp [sizes, ih]; omega
theorem sizes_take_succ (zs : List Int) (k : Nat) (hk : k < zs.length) : sizes (zs.take (k + 1)) = sizes (zs.take k) + size1 zs[k] := by
  rw [List.take_succ_eq_append_getElem hk, sizes_append]; simp [sizes]
theorem sizes_bd (b : Int) (_hb : 0 ≤ b) (zs : List Int) (h : within (-b) b zs = true) : 0 ≤ sizes zs ∧ sizes zs ≤ b * zs.length := by
  induction zs with
  | nil => simp [sizes]
  | cons x xs ih =>
    have h0 := size1_bd (within_get h 0 (by simp))
    have h1 : within (-b) b xs = true := by unfold within at h ⊢; simp at h ⊢; exact h.2
    have := ih h1
    simp [sizes, Int.mul_add] at *
    omega
theorem sizes_small {zs : List Int} (h : within (-1000000000) 1000000000 zs = true) (hn : zs.length ≤ 1000000) (k : Nat) :
    0 ≤ sizes (zs.take k) ∧ sizes (zs.take k) ≤ 1000000000000000 := by
  have := sizes_bd 1000000000 (by omega) _ (within_take h k)
  have hl : (zs.take k).length ≤ 1000000 := by rw [List.length_take]; omega
  omega

/-- The greatest size. -/
def most : List Int → Int
  | [] => 0
  | x :: xs => max (size1 x) (most xs)
theorem most_append (a b : List Int) : most (a ++ b) = max (most a) (most b) := by
  induction a with
  | nil =>
    have : 0 ≤ most b := by
      induction b with
      | nil => simp [most]
      | cons x xs ih => simp only [most]; omega
    simp [most]; omega
  | cons x xs ih => simp only [List.cons_append, most, ih]; omega
theorem size1_nonneg (n : Int) : 0 ≤ size1 n := by unfold size1; split <;> omega
theorem most_nonneg (b : List Int) : 0 ≤ most b := by
  induction b with
  | nil => simp [most]
  | cons x xs ih => simp only [most]; omega
theorem most_take_succ (zs : List Int) (k : Nat) (hk : k < zs.length) : most (zs.take (k + 1)) = max (most (zs.take k)) (size1 zs[k]) := by
  rw [List.take_succ_eq_append_getElem hk, most_append]
  have := size1_nonneg zs[k]
  simp [most]; omega
theorem most_bd (b : Int) (hb : 0 ≤ b) (zs : List Int) (h : within (-b) b zs = true) : most zs ≤ b := by
  induction zs with
  | nil => simpa [most] using hb
  | cons x xs ih =>
    have h0 := size1_bd (within_get h 0 (by simp))
    have h1 : within (-b) b xs = true := by unfold within at h ⊢; simp at h ⊢; exact h.2
    have := ih h1
    simp [most] at *
    omega

/-- What flows from each to the next one: partial sums of what is over. -/
def flows (zs : List Int) : List Int := (List.range (zs.length - 1)).map fun k => tot ((over zs).take (k + 1))
theorem flows_length (zs : List Int) : (flows zs).length = zs.length - 1 := by simp [flows]
theorem flows_get (zs : List Int) (k : Nat) (hk : k < zs.length - 1) : (flows zs)[k]'(by rw [flows_length]; exact hk) = tot ((over zs).take (k + 1)) := by simp [flows]
theorem flows_take_succ (zs : List Int) (k : Nat) (hk : k < zs.length - 1) : (flows zs).take (k + 1) = (flows zs).take k ++ [tot ((over zs).take (k + 1))] := by
  rw [List.take_succ_eq_append_getElem (by rw [flows_length]; exact hk), flows_get zs k hk]
theorem over_tot_bd {zs : List Int} (h : good zs = true) (k : Nat) : -144000 ≤ tot ((over zs).take k) ∧ tot ((over zs).take k) ≤ 12000 := by
  have h0 := tot_bd _ _ _ (within_take (over_within h) k)
  have hl : ((over zs).take k).length ≤ 12 := by
    rw [List.length_take, over_length]
    have := (good_of h).2.1
    omega
  omega
theorem over_tot_succ (zs : List Int) (k : Nat) (hk : k < zs.length) : tot ((over zs).take (k + 1)) = tot ((over zs).take k) + (zs[k] - tot zs / zs.length) := by
  rw [over_take_succ zs k hk, tot_append]; simp [tot]
theorem flows_within {zs : List Int} (h : good zs = true) : within (-144000) 12000 (flows zs) = true := by
  refine within_of fun k hk => ?_
  rw [flows_length] at hk
  rw [flows_get zs k hk]
  exact over_tot_bd h _
theorem flows_small {zs : List Int} (h : good zs = true) : within (-1000000000) 1000000000 (flows zs) = true := within_wide (flows_within h) (by omega) (by omega)
/-- What is told of flows: only of heaps that can be made equal. -/
def flowsR (zs : List Int) : List Int := if eqOk zs then flows zs else []
theorem flowsR_yes {zs : List Int} (h : eqOk zs = true) : flowsR zs = flows zs := by simp [flowsR, h]
theorem flowsR_no {zs : List Int} (h : eqOk zs = false) : flowsR zs = [] := by simp [flowsR, h]
theorem flowsR_small (zs : List Int) : within (-1000000000) 1000000000 (flowsR zs) = true ∧ (flowsR zs).length ≤ 12 := by
  cases h : eqOk zs
  · rw [flowsR_no h]; simp [within]
  · rw [flowsR_yes h]
    have hg := eqOk_good h
    have := (good_of hg).2.1
    exact ⟨flows_small hg, by rw [flows_length]; omega⟩
theorem flowsR_short (zs : List Int) (_ : zs.length ≤ 1048576) : (flowsR zs).length ≤ 1048576 := by
  have := (flowsR_small zs).2; omega
end Go.Proofs.Ytnakkmmmkbjfbaa
