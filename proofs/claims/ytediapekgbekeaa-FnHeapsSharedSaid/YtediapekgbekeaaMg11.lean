import Derived.Test.YtediapekgbekeaaMg10
import Derived.Test.YtediapekgbekeaaMg08

/-
  MOVES THAT MAKE HEAPS EQUAL, plainly: again and again the first number above 0 gives to the first below 0; the same as the model's two loops. No program is named here.
-/
namespace Go.Proofs.Ytediapekgbekeaa

def movedE (i j : Nat) (c : Int) (E : List Int) : List Int := (E.set i (E.getD i 0 - c)).set j (E.getD j 0 + c)
/-- The first one above 0, and the first one below 0. -/
def fpos (E : List Int) : Nat := E.findIdx fun x => decide (0 < x)
def fneg (E : List Int) : Nat := E.findIdx fun x => decide (x < 0)
def hasPos (E : List Int) : Bool := E.any fun x => decide (0 < x)
def amount (E : List Int) : Int := min (E.getD (fpos E) 0) (-(E.getD (fneg E) 0))
/-- The moves that are still to be made, f of them at most. -/
def rest : Nat → List Int → List Mo
  | 0, _ => []
  | f + 1, E => if hasPos E then ⟨(fpos E : Nat), (fneg E : Nat), amount E⟩ :: rest f (movedE (fpos E) (fneg E) (amount E) E) else []
/-- How many are not 0. -/
def nz : List Int → Nat
  | [] => 0
  | x :: xs => (if x = 0 then 0 else 1) + nz xs
theorem nz_le : ∀ E, nz E ≤ E.length
  | [] => Nat.le_refl _
  | x :: xs => by have := nz_le xs; simp only [nz, List.length_cons]; split <;> omega
theorem nz_set : ∀ (E : List Int) (i : Nat) (v : Int) (h : i < E.length), nz (E.set i v) + (if E[i] = 0 then 0 else 1) = nz E + (if v = 0 then 0 else 1)
  | [], i, _, h => by simp at h
  | x :: xs, 0, v, _ => by simp only [List.set_cons_zero, nz, List.getElem_cons_zero]; omega
  | x :: xs, i + 1, v, h => by
    have := nz_set xs i v (by simpa using h)
    simp only [List.set_cons_succ, nz, List.getElem_cons_succ]; omega
theorem sumE_set : ∀ (E : List Int) (k : Nat) (h : k < E.length) (v : Int), (E.set k v).sum = E.sum - E[k] + v
  | [], k, h, _ => by simp at h
  | x :: xs, 0, _, v => by simp; omega
  | x :: xs, k + 1, h, v => by
    have := sumE_set xs k (by simpa using h) v
    simp [this]; omega
theorem gd {E : List Int} {k : Nat} (h : k < E.length) : E.getD k 0 = E[k] := by simp [List.getD, h]
theorem movedE_length (i j : Nat) (c : Int) (E : List Int) : (movedE i j c E).length = E.length := by simp [movedE]
theorem movedE_get {i j : Nat} {c : Int} {E : List Int} (hij : i ≠ j) (hi : i < E.length) (hj : j < E.length) (k : Nat) (hk : k < E.length) :
    (movedE i j c E)[k]'(by rw [movedE_length]; exact hk) = if k = j then E[j] + c else if k = i then E[i] - c else E[k] := by
  unfold movedE
  simp only [gd hi, gd hj, List.getElem_set]
  by_cases h1 : k = j
  · subst h1; simp
  · rw [if_neg (Ne.symm h1), if_neg h1]
    by_cases h2 : k = i
    · subst h2; simp
    · rw [if_neg (Ne.symm h2), if_neg h2]
theorem movedE_sum {i j : Nat} {c : Int} {E : List Int} (hij : i ≠ j) (hi : i < E.length) (hj : j < E.length) : (movedE i j c E).sum = E.sum := by
  unfold movedE
  rw [gd hi, gd hj, sumE_set _ j (by simpa using hj), sumE_set _ i hi, List.getElem_set_ne hij]
  omega
theorem sum_le_zero : ∀ (E : List Int), (∀ x ∈ E, x ≤ 0) → E.sum ≤ 0 ∧ (E.sum = 0 → ∀ x ∈ E, x = 0)
  | [], _ => by simp
  | x :: xs, h => by
    obtain ⟨h1, h2⟩ := sum_le_zero xs (fun y hy => h y (by simp [hy]))
    have hx := h x (by simp)
    refine ⟨by simp; omega, fun hs => ?_⟩
    simp at hs
    intro y hy
    rcases List.mem_cons.1 hy with rfl | hy
    · omega
    · exact h2 (by omega) y hy
theorem sum_ge_zero : ∀ (E : List Int), (∀ x ∈ E, 0 ≤ x) → 0 ≤ E.sum ∧ (E.sum = 0 → ∀ x ∈ E, x = 0)
  | [], _ => by simp
  | x :: xs, h => by
    obtain ⟨h1, h2⟩ := sum_ge_zero xs (fun y hy => h y (by simp [hy]))
    have hx := h x (by simp)
    refine ⟨by simp; omega, fun hs => ?_⟩
    simp at hs
    intro y hy
    rcases List.mem_cons.1 hy with rfl | hy
    · omega
    · exact h2 (by omega) y hy
/-- The pair that is next. -/
theorem next_pair {E : List Int} (h0 : E.sum = 0) (hp : hasPos E = true) : ∃ (hi : fpos E < E.length) (hj : fneg E < E.length), 0 < E[fpos E] ∧ E[fneg E] < 0 ∧ fpos E ≠ fneg E := by
  have hi : fpos E < E.length := by
    unfold fpos
    rw [List.findIdx_lt_length]
    unfold hasPos at hp
    exact List.any_eq_true.1 hp
  have hpi : 0 < E[fpos E] := by
    have := List.findIdx_getElem (w := hi)
    exact of_decide_eq_true this
  have hj : fneg E < E.length := by
    unfold fneg
    rw [List.findIdx_lt_length]
    apply Classical.byContradiction
    intro hno
    have hall : ∀ x ∈ E, 0 ≤ x := fun x hx => by
      apply Classical.byContradiction
      intro h
      exact hno ⟨x, hx, by simp; omega⟩
    have := (sum_ge_zero E hall).2 h0 _ (List.getElem_mem hi)
    omega
  have hnj : E[fneg E] < 0 := by
    have := List.findIdx_getElem (w := hj)
    exact of_decide_eq_true this
  refine ⟨hi, hj, hpi, hnj, fun e => ?_⟩
  have : E[fpos E] = E[fneg E] := by congr 1
  omega
theorem amount_eq {E : List Int} (hi : fpos E < E.length) (hj : fneg E < E.length) : amount E = min E[fpos E] (-E[fneg E]) := by
  unfold amount; rw [gd hi, gd hj]
/-- A move settles one. -/
theorem nz_moved {E : List Int} (h0 : E.sum = 0) (hp : hasPos E = true) : nz (movedE (fpos E) (fneg E) (amount E) E) < nz E := by
  obtain ⟨hi, hj, h1, h2, hij⟩ := next_pair h0 hp
  have ha := amount_eq hi hj
  have e1 := nz_set E (fpos E) (E[fpos E] - amount E) hi
  have e2 := nz_set (E.set (fpos E) (E[fpos E] - amount E)) (fneg E) (E[fneg E] + amount E) (by simpa using hj)
  rw [List.getElem_set_ne hij, if_neg (by omega)] at e2
  rw [if_neg (by omega)] at e1
  unfold movedE
  rw [gd hi, gd hj]
  by_cases hc : E[fpos E] ≤ -E[fneg E]
  · rw [ha, Int.min_eq_left hc] at e1 e2 ⊢
    rw [if_pos (by omega)] at e1
    split at e2 <;> omega
  · rw [ha, Int.min_eq_right (by omega)] at e1 e2 ⊢
    rw [if_pos (show E[fneg E] + -E[fneg E] = 0 by omega)] at e2
    split at e1 <;> omega
theorem rest_fuel : ∀ (f f' : Nat) (E : List Int), E.sum = 0 → nz E ≤ f → nz E ≤ f' → rest f E = rest f' E
  | 0, f', E, h0, h1, h2 => by
    cases f' with
    | zero => rfl
    | succ f' =>
      unfold rest
      cases hp : hasPos E
      · rfl
      · have := nz_moved h0 hp; omega
  | f + 1, 0, E, h0, h1, h2 => by
    unfold rest
    cases hp : hasPos E
    · rfl
    · have := nz_moved h0 hp; omega
  | f + 1, f' + 1, E, h0, h1, h2 => by
    unfold rest
    cases hp : hasPos E
    · rfl
    · obtain ⟨hi, hj, _, _, hij⟩ := next_pair h0 hp
      have hm := nz_moved h0 hp
      rw [if_pos rfl, if_pos rfl, rest_fuel f f' _ (by rw [movedE_sum hij hi hj]; exact h0) (by omega) (by omega)]
/-- All moves. -/
def moves (E : List Int) : List Mo := rest E.length E
theorem moves_no {E : List Int} (hp : hasPos E = false) : moves E = [] := by
  unfold moves
  cases E.length with
  | zero => rfl
  | succ n => unfold rest; rw [hp]; rfl
theorem moves_yes {E : List Int} (h0 : E.sum = 0) (hp : hasPos E = true) : moves E = ⟨(fpos E : Nat), (fneg E : Nat), amount E⟩ :: moves (movedE (fpos E) (fneg E) (amount E) E) := by
  obtain ⟨hi, hj, _, _, hij⟩ := next_pair h0 hp
  have hm := nz_moved h0 hp
  have hl := nz_le E
  unfold moves
  obtain ⟨n, hn⟩ : ∃ n, E.length = n + 1 := ⟨E.length - 1, by omega⟩
  rw [movedE_length, hn]
  conv => lhs; unfold rest
  rw [if_pos hp, rest_fuel n (n + 1) _ (by rw [movedE_sum hij hi hj]; exact h0) (by omega) (by omega)]
theorem moves_len (E : List Int) : (moves E).length ≤ E.length := by
  have : ∀ f E, (rest f E).length ≤ f := by
    intro f
    induction f with
    | zero => intro E; simp [rest]
    | succ f ih =>
      intro E
      unfold rest
      split
      · have := ih (movedE (fpos E) (fneg E) (amount E) E); simp; omega
      · simp
  exact this _ _

/-- THE MODEL's TWO LOOPS, at the pair (i, j). -/
def at_ (E : List Int) (i j : Nat) : Prop := E.sum = 0 ∧ (∀ (k : Nat) (_ : k < E.length), k < i → E[k] ≤ 0) ∧ (∀ (_ : i < E.length), E[i] ≤ 0 ∨ ∀ (k : Nat) (_ : k < E.length), k < j → 0 ≤ E[k])
theorem at_start {E : List Int} (h : E.sum = 0) : at_ E 0 0 := ⟨h, fun _ _ h => by omega, fun _ => .inr fun _ _ h => by omega⟩
theorem at_skip {E : List Int} {i j : Nat} (h : at_ E i j) (hi : i < E.length) (hj : j < E.length) (hn : ¬ (0 < E[i] ∧ E[j] < 0)) : at_ E i (j + 1) := by
  refine ⟨h.1, h.2.1, fun _ => ?_⟩
  rcases h.2.2 hi with h1 | h1
  · exact .inl h1
  · by_cases h2 : E[i] ≤ 0
    · exact .inl h2
    · refine .inr fun k hk hkj => ?_
      rcases Nat.lt_or_ge k j with h3 | h3
      · exact h1 k hk h3
      · have e : k = j := by omega
        subst e; omega
theorem at_pair {E : List Int} {i j : Nat} (h : at_ E i j) (hi : i < E.length) (hj : j < E.length) (h1 : 0 < E[i]) (h2 : E[j] < 0) : hasPos E = true ∧ fpos E = i ∧ fneg E = j := by
  refine ⟨?_, ?_, ?_⟩
  · unfold hasPos
    rw [List.any_eq_true]
    exact ⟨E[i], List.getElem_mem hi, by simpa using h1⟩
  · unfold fpos
    rw [List.findIdx_eq hi]
    exact ⟨by simpa using h1, fun k hk => by have := h.2.1 k (by omega) hk; simp; omega⟩
  · unfold fneg
    rw [List.findIdx_eq hj]
    refine ⟨by simpa using h2, fun k hk => ?_⟩
    rcases h.2.2 hi with h3 | h3
    · omega
    · have := h3 k (by omega) hk; simp; omega
theorem at_take {E : List Int} {i j : Nat} (h : at_ E i j) (hi : i < E.length) (hj : j < E.length) (h1 : 0 < E[i]) (h2 : E[j] < 0) : at_ (movedE i j (min E[i] (-E[j])) E) i (j + 1) := by
  have hij : i ≠ j := fun e => by subst e; omega
  refine ⟨by rw [movedE_sum hij hi hj]; exact h.1, fun k hk hki => ?_, fun hi' => ?_⟩
  · rw [movedE_length] at hk
    rw [movedE_get hij hi hj k hk]
    by_cases e : k = j
    · rw [if_pos e]; omega
    · rw [if_neg e, if_neg (by omega)]; exact h.2.1 k hk hki
  · have hr : ∀ (k : Nat) (_ : k < E.length), k < j → 0 ≤ E[k] := by
      rcases h.2.2 hi with h3 | h3
      · omega
      · exact h3
    by_cases hc : E[i] ≤ -E[j]
    · left
      rw [movedE_get hij hi hj i hi, if_neg hij, if_pos rfl, Int.min_eq_left hc]; omega
    · right
      intro k hk hkj
      rw [movedE_length] at hk
      rw [movedE_get hij hi hj k hk, Int.min_eq_right (by omega)]
      by_cases e : k = j
      · rw [if_pos e]; omega
      · rw [if_neg e]
        by_cases e2 : k = i
        · rw [if_pos e2]; omega
        · rw [if_neg e2]; exact hr k hk (by omega)
theorem at_next {E : List Int} {i j : Nat} (h : at_ E i j) (hi : i < E.length) (hj : ¬ j < E.length) : at_ E (i + 1) 0 := by
  refine ⟨h.1, fun k hk hki => ?_, fun _ => .inr fun _ _ h => by omega⟩
  rcases Nat.lt_or_ge k i with h1 | h1
  · exact h.2.1 k hk h1
  · have e : k = i := by omega
    subst e
    rcases h.2.2 hk with h2 | h2
    · exact h2
    · have hall : ∀ x ∈ E, 0 ≤ x := fun x hx => by obtain ⟨m, hm, rfl⟩ := List.getElem_of_mem hx; exact h2 m hm (by omega)
      have := (sum_ge_zero E hall).2 h.1 _ (List.getElem_mem hk)
      omega
theorem at_end {E : List Int} {i j : Nat} (h : at_ E i j) (hi : ¬ i < E.length) : moves E = [] := by
  refine moves_no ?_
  unfold hasPos
  rw [List.any_eq_false]
  intro x hx
  obtain ⟨m, hm, rfl⟩ := List.getElem_of_mem hx
  have := h.2.1 m hm (by omega)
  simp; omega
end Go.Proofs.Ytediapekgbekeaa

/-
  PLAIN FACTS FOR CHAPTER 1, THE THIRD PART: what is over, flows, sums of sizes. No program is named here.
-/
namespace Go.Proofs.Ytediapekgbekeaa

/-- What each has more than its share. -/
def over (zs : List Int) : List Int := zs.map fun n => n - tot zs / zs.length
theorem over_length (zs : List Int) : (over zs).length = zs.length := by simp [over]
theorem over_get (zs : List Int) (k : Nat) (hk : k < zs.length) : (over zs)[k]'(by rw [over_length]; exact hk) = zs[k] - tot zs / zs.length := by simp [over]
theorem over_take_succ (zs : List Int) (k : Nat) (hk : k < zs.length) : (over zs).take (k + 1) = (over zs).take k ++ [zs[k] - tot zs / zs.length] := by
  rw [List.take_succ_eq_append_getElem (by rw [over_length]; exact hk), over_get zs k hk]
theorem share_bd {zs : List Int} (h : good zs = true) : 0 ≤ tot zs / zs.length ∧ tot zs / zs.length ≤ 12000 := by
  obtain ⟨h1, h2, _⟩ := good_of h
  have ht := good_tot h
  refine ⟨Int.ediv_nonneg (by omega) (by omega), ?_⟩
  exact Int.le_trans (Int.ediv_le_self _ (by omega)) (by omega)
theorem over_within {zs : List Int} (h : good zs = true) : within (-12000) 1000 (over zs) = true := by
  have hs := share_bd h
  refine within_of fun k hk => ?_
  have hk' : k < zs.length := by rw [over_length] at hk; exact hk
  have := good_get h k hk'
  rw [over_get zs k hk']
  omega

/-- The sum of sizes. -/
def size1 (n : Int) : Int := if 0 ≤ n then n else -n
def sizes : List Int → Int
  | [] => 0
  | x :: xs => size1 x + sizes xs
theorem size1_bd {n b : Int} (h : -b ≤ n ∧ n ≤ b) : 0 ≤ size1 n ∧ size1 n ≤ b := by unfold size1; split <;> omega
theorem sizes_append (a b : List Int) : sizes (a ++ b) = sizes a + sizes b := by
  induction a with
  | nil => simp [sizes]
  | cons x xs ih => simp [sizes, ih]; omega
theorem sizes_take_succ (zs : List Int) (k : Nat) (hk : k < zs.length) : sizes (zs.take (k + 1)) = sizes (zs.take k) + size1 zs[k] := by
  rw [List.take_succ_eq_append_getElem hk, sizes_append]; simp [sizes]
theorem sizes_bd (b : Int) (_hb : 0 ≤ b) (zs : List Int) (h : within (-b) b zs = true) : 0 ≤ sizes zs ∧ sizes zs ≤ b * zs.length := by
  induction zs with
  | nil => simp [sizes]
  | cons x xs ih =>
    have h0 := size1_bd (within_get h 0 (by simp))
    have h1 : within (-b) b xs = true := by unfold within at h ⊢; simp at h ⊢; exact h.2
    have := ih h1
    simp [sizes, Int.mul_add] at *
    omega
theorem sizes_small {zs : List Int} (h : within (-1000000000) 1000000000 zs = true) (hn : zs.length ≤ 1000000) (k : Nat) :
    0 ≤ sizes (zs.take k) ∧ sizes (zs.take k) ≤ 1000000000000000 := by
  have := sizes_bd 1000000000 (by omega) _ (within_take h k)
  have hl : (zs.take k).length ≤ 1000000 := by rw [List.length_take]; omega
  omega

/-- The greatest size. -/
def most : List Int → Int
  | [] => 0
  | x :: xs => max (size1 x) (most xs)
theorem most_append (a b : List Int) : most (a ++ b) = max (most a) (most b) := by
  induction a with
  | nil =>
    have : 0 ≤ most b := by
      induction b with
      | nil => simp [most]
      | cons x xs ih => simp only [most]; omega
    simp [most]; omega
  | cons x xs ih => simp only [List.cons_append, most, ih]; omega
theorem size1_nonneg (n : Int) : 0 ≤ size1 n := by unfold size1; split <;> omega
theorem most_nonneg (b : List Int) : 0 ≤ most b := by
  induction b with
  | nil => simp [most]
  | cons x xs ih => simp only [most]; omega
theorem most_take_succ (zs : List Int) (k : Nat) (hk : k < zs.length) : most (zs.take (k + 1)) = max (most (zs.take k)) (size1 zs[k]) := by
  rw [List.take_succ_eq_append_getElem hk, most_append]
  have := size1_nonneg zs[k]
  simp [most]; omega
theorem most_bd (b : Int) (hb : 0 ≤ b) (zs : List Int) (h : within (-b) b zs = true) : most zs ≤ b := by
  induction zs with
  | nil => simpa [most] using hb
  | cons x xs ih =>
    have h0 := size1_bd (within_get h 0 (by simp))
    have h1 : within (-b) b xs = true := by unfold within at h ⊢; simp at h ⊢; exact h.2
    have := ih h1
    simp [most] at *
    omega

/-- What flows from each to the next one: partial sums of what is over. -/
def flows (zs : List Int) : List Int := (List.range (zs.length - 1)).map fun k => tot ((over zs).take (k + 1))
theorem flows_length (zs : List Int) : (flows zs).length = zs.length - 1 := by simp [flows]
theorem flows_get (zs : List Int) (k : Nat) (hk : k < zs.length - 1) : (flows zs)[k]'(by rw [flows_length]; exact hk) = tot ((over zs).take (k + 1)) := by simp [flows]
theorem flows_take_succ (zs : List Int) (k : Nat) (hk : k < zs.length - 1) : (flows zs).take (k + 1) = (flows zs).take k ++ [tot ((over zs).take (k + 1))] := by
  rw [List.take_succ_eq_append_getElem (by rw [flows_length]; exact hk), flows_get zs k hk]
theorem over_tot_bd {zs : List Int} (h : good zs = true) (k : Nat) : -144000 ≤ tot ((over zs).take k) ∧ tot ((over zs).take k) ≤ 12000 := by
  have h0 := tot_bd _ _ _ (within_take (over_within h) k)
  have hl : ((over zs).take k).length ≤ 12 := by
    rw [List.length_take, over_length]
    have := (good_of h).2.1
    omega
  omega
theorem over_tot_succ (zs : List Int) (k : Nat) (hk : k < zs.length) : tot ((over zs).take (k + 1)) = tot ((over zs).take k) + (zs[k] - tot zs / zs.length) := by
  rw [over_take_succ zs k hk, tot_append]; simp [tot]
theorem flows_within {zs : List Int} (h : good zs = true) : within (-144000) 12000 (flows zs) = true := by
  refine within_of fun k hk => ?_
  rw [flows_length] at hk
  rw [flows_get zs k hk]
  exact over_tot_bd h _
theorem flows_small {zs : List Int} (h : good zs = true) : within (-1000000000) 1000000000 (flows zs) = true := within_wide (flows_within h) (by omega) (by omega)
/-- What is told of flows: only of heaps that can be made equal. -/
def flowsR (zs : List Int) : List Int := if eqOk zs then flows zs else []
theorem flowsR_yes {zs : List Int} (h : eqOk zs = true) : flowsR zs = flows zs := by simp [flowsR, h]
theorem flowsR_no {zs : List Int} (h : eqOk zs = false) : flowsR zs = [] := by simp [flowsR, h]
theorem flowsR_small (zs : List Int) : within (-1000000000) 1000000000 (flowsR zs) = true ∧ (flowsR zs).length ≤ 12 := by
  cases h : eqOk zs
  · rw [flowsR_no h]; simp [within]
  · rw [flowsR_yes h]
    have hg := eqOk_good h
    have := (good_of hg).2.1
    exact ⟨flows_small hg, by rw [flows_length]; omega⟩
theorem flowsR_short (zs : List Int) (_ : zs.length ≤ 1048576) : (flowsR zs).length ≤ 1048576 := by
  have := (flowsR_small zs).2; omega
end Go.Proofs.Ytediapekgbekeaa
