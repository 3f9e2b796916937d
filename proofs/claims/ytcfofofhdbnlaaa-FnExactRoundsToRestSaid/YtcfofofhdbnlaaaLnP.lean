
/-
  PLAIN FACTS ON A LINE OF CHIPS THAT FIRE: zs are the chips at first, ts how often each place has fired. No program is named here.
-/
import Derived.Test.YtcfofofhdbnlaaaChP
namespace Go.Proofs.Ytcfofofhdbnlaaa

/-- What lies at a position of the row: 0 is left of the first place, the place i is at i + 1. -/
def rowAt (zs ts : List Int) (q : Nat) : Int := (0 :: zs).getD q 0 - 2 * (0 :: ts).getD q 0 + ts.getD q 0 + (0 :: 0 :: ts).getD q 0
/-- The chips behind the firings. -/
def chipsOf (zs ts : List Int) : List Int := (List.range zs.length).map fun i => rowAt zs ts (i + 1)
/-- The line's cells. -/
def lineL (zs ts : List Int) : List Int := (zs.length : Int) :: ((List.range 22).map (rowAt zs ts) ++ (List.range 20).map fun j => ts.getD j 0)
theorem lineL_length (zs ts : List Int) : (lineL zs ts).length = 43 := by simp [lineL]
theorem lineL_zero (zs ts : List Int) : (lineL zs ts)[0]? = some (zs.length : Int) := rfl
theorem lineL_row (zs ts : List Int) (q : Nat) (h : q < 22) : (lineL zs ts)[q + 1]? = some (rowAt zs ts q) := by
  unfold lineL
  rw [List.getElem?_cons_succ, List.getElem?_append_left (by simpa using h), List.getElem?_map, List.getElem?_range h]; rfl
theorem lineL_fir (zs ts : List Int) (j : Nat) (h : j < 20) : (lineL zs ts)[j + 23]? = some (ts.getD j 0) := by
  unfold lineL
  rw [show j + 23 = (j + 22) + 1 from rfl, List.getElem?_cons_succ, List.getElem?_append_right (by simp), List.getElem?_map]
  simp [h]
theorem chipsOf_length (zs ts : List Int) : (chipsOf zs ts).length = zs.length := by simp [chipsOf]
theorem chipsOf_get (zs ts : List Int) (i : Nat) (h : i < zs.length) : (chipsOf zs ts)[i]? = some (rowAt zs ts (i + 1)) := by
  unfold chipsOf
  rw [List.getElem?_map, List.getElem?_range h]; rfl
theorem chipsOf_getD (zs ts : List Int) (i : Nat) (h : i < zs.length) : (chipsOf zs ts).getD i 0 = rowAt zs ts (i + 1) := by
  rw [List.getD, chipsOf_get zs ts i h]; rfl

theorem getD_cons0 (xs : List Int) (q : Nat) : (0 :: xs : List Int).getD (q + 1) 0 = xs.getD q 0 := by simp [List.getD]
theorem getD_consz (xs : List Int) : (0 :: xs : List Int).getD 0 0 = 0 := rfl
theorem getD_set (ts : List Int) (p j : Nat) (v : Int) (h : p < ts.length) : (ts.set p v).getD j 0 = if p = j then v else ts.getD j 0 := by
  simp only [List.getD, List.getElem?_set]
  by_cases e : p = j
  · subst e; simp [h]
  · simp [e]
theorem rowAt_succ (zs ts : List Int) (i : Nat) : rowAt zs ts (i + 1) = zs.getD i 0 - 2 * ts.getD i 0 + ts.getD (i + 1) 0 + (0 :: ts).getD i 0 := by
  unfold rowAt
  rw [getD_cons0, getD_cons0, getD_cons0]
theorem rowAt_zero (zs ts : List Int) : rowAt zs ts 0 = ts.getD 0 0 := by
  unfold rowAt
  rw [getD_consz, getD_consz, getD_consz]; omega
theorem getD_over (ts : List Int) (j : Nat) (h : ts.length ≤ j) : ts.getD j 0 = 0 := by simp [List.getD, List.getElem?_eq_none h]
theorem rowAt_end (zs ts : List Int) (h0 : 0 < zs.length) (h : ts.length = zs.length) : rowAt zs ts (zs.length + 1) = ts.getD (zs.length - 1) 0 := by
  rw [rowAt_succ, getD_over zs _ (Nat.le_refl _), getD_over ts _ (by omega), getD_over ts _ (by omega)]
  cases e : zs.length with
  | zero => omega
  | succ m => rw [getD_cons0, Nat.add_sub_cancel]; omega

/-- A place fires v times more. -/
def more (ts : List Int) (p : Nat) (v : Int) : List Int := ts.set p (ts.getD p 0 + v)
theorem more_length (ts : List Int) (p : Nat) (v : Int) : (more ts p v).length = ts.length := by simp [more]
theorem more_getD (ts : List Int) (p j : Nat) (v : Int) (h : p < ts.length) : (more ts p v).getD j 0 = ts.getD j 0 + if p = j then v else 0 := by
  unfold more
  rw [getD_set _ _ _ _ h]
  by_cases e : p = j
  · subst e; simp
  · simp [e]
theorem rowAt_more (zs ts : List Int) (p q : Nat) (v : Int) (h : p < ts.length) :
    rowAt zs (more ts p v) q = rowAt zs ts q + (if q = p then v else 0) - (if q = p + 1 then 2 * v else 0) + (if q = p + 2 then v else 0) := by
  cases q with
  | zero =>
    rw [rowAt_zero, rowAt_zero, more_getD _ _ _ _ h]
    by_cases e : p = 0
    · subst e; simp
    · rw [if_neg e, if_neg (by omega), if_neg (by omega), if_neg (by omega)]; omega
  | succ q =>
    rw [rowAt_succ, rowAt_succ, more_getD _ _ _ _ h, more_getD _ _ _ _ h]
    cases q with
    | zero =>
      rw [getD_consz, getD_consz]
      split <;> split <;> split <;> split <;> split <;> omega
    | succ q =>
      rw [getD_cons0, getD_cons0, more_getD _ _ _ _ h]
      split <;> split <;> split <;> split <;> split <;> split <;> omega

/-- What firing writes into the line's cells. -/
def fireL (xs : List Int) (p : Nat) (v : Int) : List Int := more (more (more (more xs (p + 1) v) (p + 2) (-(2 * v))) (p + 3) v) (p + 23) v
theorem fireL_length (xs : List Int) (p : Nat) (v : Int) : (fireL xs p v).length = xs.length := by unfold fireL; rw [more_length, more_length, more_length, more_length]
theorem fireL_get (xs : List Int) (p j : Nat) (v : Int) (hp : p < 20) (hx : xs.length = 43) :
    (fireL xs p v).getD j 0 = xs.getD j 0 + (if j = p + 1 then v else 0) - (if j = p + 2 then 2 * v else 0) + (if j = p + 3 then v else 0) + (if j = p + 23 then v else 0) := by
  have l1 := more_length xs (p + 1) v
  have l2 := more_length (more xs (p + 1) v) (p + 2) (-(2 * v))
  have l3 := more_length (more (more xs (p + 1) v) (p + 2) (-(2 * v))) (p + 3) v
  have g1 := more_getD xs (p + 1) j v (by omega)
  have g2 := more_getD (more xs (p + 1) v) (p + 2) j (-(2 * v)) (by omega)
  have g3 := more_getD (more (more xs (p + 1) v) (p + 2) (-(2 * v))) (p + 3) j v (by omega)
  have g4 := more_getD (more (more (more xs (p + 1) v) (p + 2) (-(2 * v))) (p + 3) v) (p + 23) j v (by omega)
  unfold fireL
  rw [g4, g3, g2, g1]
  simp only [show (p + 1 = j) ↔ j = p + 1 from eq_comm, show (p + 2 = j) ↔ j = p + 2 from eq_comm, show (p + 3 = j) ↔ j = p + 3 from eq_comm, show (p + 23 = j) ↔ j = p + 23 from eq_comm]
  split <;> split <;> split <;> split <;> omega
theorem list_ext_getD {xs ys : List Int} (hl : xs.length = ys.length) (h : ∀ j, j < xs.length → xs.getD j 0 = ys.getD j 0) : xs = ys := by
  apply List.ext_getElem hl
  intro j h1 h2
  have := h j h1
  rwa [getD_ge h1, getD_ge h2] at this
theorem lineL_getD_row (zs ts : List Int) (q : Nat) (h : q < 22) : (lineL zs ts).getD (q + 1) 0 = rowAt zs ts q := by rw [List.getD, lineL_row zs ts q h]; rfl
theorem lineL_getD_fir (zs ts : List Int) (j : Nat) (h : j < 20) : (lineL zs ts).getD (j + 23) 0 = ts.getD j 0 := by rw [List.getD, lineL_fir zs ts j h]; rfl
theorem fire_line (zs ts : List Int) (p : Nat) (v : Int) (hp : p < ts.length) (h20 : ts.length ≤ 20) : fireL (lineL zs ts) p v = lineL zs (more ts p v) := by
  refine list_ext_getD (by rw [fireL_length, lineL_length, lineL_length]) fun j hj => ?_
  rw [fireL_length, lineL_length] at hj
  rw [fireL_get _ _ _ _ (by omega) (lineL_length _ _)]
  cases j with
  | zero =>
    rw [show (lineL zs ts).getD 0 0 = (zs.length : Int) from rfl, show (lineL zs (more ts p v)).getD 0 0 = (zs.length : Int) from rfl]
    rw [if_neg (by omega), if_neg (by omega), if_neg (by omega), if_neg (by omega)]; omega
  | succ q =>
    by_cases hq : q < 22
    · rw [lineL_getD_row _ _ _ hq, lineL_getD_row _ _ _ hq, rowAt_more _ _ _ _ _ hp]
      rw [if_neg (show ¬ q + 1 = p + 23 by omega)]
      simp only [show (q + 1 = p + 1) ↔ q = p from by omega, show (q + 1 = p + 2) ↔ q = p + 1 from by omega, show (q + 1 = p + 3) ↔ q = p + 2 from by omega]
      omega
    · obtain ⟨j, rfl⟩ : ∃ j, q = j + 22 := ⟨q - 22, by omega⟩
      rw [show j + 22 + 1 = j + 23 from rfl, lineL_getD_fir _ _ _ (by omega), lineL_getD_fir _ _ _ (by omega), more_getD _ _ _ _ hp]
      rw [if_neg (by omega), if_neg (by omega), if_neg (by omega)]
      simp only [show (j + 23 = p + 23) ↔ p = j from by omega]
      omega

/-- No firings. -/
def noF (n : Nat) : List Int := List.replicate n 0
theorem noF_length (n : Nat) : (noF n).length = n := by simp [noF]
theorem noF_getD (n j : Nat) : (noF n).getD j 0 = 0 := by
  simp only [List.getD, noF, List.getElem?_replicate]; split <;> rfl
theorem noF_cons (n j : Nat) : (0 :: noF n : List Int).getD j 0 = 0 := by
  cases j with
  | zero => rfl
  | succ j => rw [getD_cons0, noF_getD]
theorem rowAt_noF (zs : List Int) (n q : Nat) : rowAt zs (noF n) q = (0 :: zs).getD q 0 := by
  cases q with
  | zero => rw [rowAt_zero, noF_getD]; rfl
  | succ q => rw [rowAt_succ, noF_getD, noF_getD, noF_cons, getD_cons0]; omega
theorem chipsOf_noF (zs : List Int) (n : Nat) : chipsOf zs (noF n) = zs := by
  refine list_ext_getD (chipsOf_length _ _) fun j hj => ?_
  rw [chipsOf_length] at hj
  rw [chipsOf_getD _ _ _ hj, rowAt_noF, getD_cons0]
end Go.Proofs.Ytcfofofhdbnlaaa
