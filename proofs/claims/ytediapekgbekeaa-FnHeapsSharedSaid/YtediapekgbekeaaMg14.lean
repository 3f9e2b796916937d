import Derived.Test.YtediapekgbekeaaMg08
import Derived.Test.YtediapekgbekeaaMg11
import Derived.Test.YtediapekgbekeaaMg13

/-
  PLAIN FACTS ON MOVES AMONG HEAPS. No program is named here.
-/
namespace Go.Proofs.Ytediapekgbekeaa

/-- No stones are owed, and there are not many. -/
def calm (zs : List Int) : Prop := within 0 12000 zs = true ∧ tot zs ≤ 12000
theorem calm_of_good {zs : List Int} (h : good zs = true) : calm zs :=
  ⟨within_wide (good_of h).2.2 (by omega) (by omega), (good_tot h).2⟩
theorem calm_get {zs : List Int} (h : calm zs) (k : Nat) (hk : k < zs.length) : 0 ≤ zs[k] ∧ zs[k] ≤ 12000 := within_get h.1 k hk
/-- c more at i. -/
def bump (i : Nat) (c : Int) (zs : List Int) : List Int := zs.set i (zs.getD i 0 + c)
theorem bump_length (i : Nat) (c : Int) (zs : List Int) : (bump i c zs).length = zs.length := by simp [bump]
theorem bump_getD_ne (i j : Nat) (c : Int) (zs : List Int) (h : i ≠ j) : (bump i c zs).getD j 0 = zs.getD j 0 := by
  simp [bump, List.getD, List.getElem?_set_ne h]
theorem tot_set (zs : List Int) (i : Nat) (x : Int) (hi : i < zs.length) : tot (zs.set i x) = tot zs - zs[i] + x := by
  induction zs generalizing i with
  | nil => simp at hi
  | cons z zs ih =>
    cases i with
    | zero => simp [tot]; omega
    | succ i =>
      have := ih i (by simpa using hi)
      simp [tot, this]; omega
theorem tot_bump (zs : List Int) (i : Nat) (c : Int) (hi : i < zs.length) : tot (bump i c zs) = tot zs + c := by
  unfold bump
  rw [tot_set zs i _ hi]
  simp [List.getD, hi]; omega
/-- The stones behind a move. -/
def moved (i j : Nat) (c : Int) (zs : List Int) : List Int := bump j c (bump i (-c) zs)
theorem moved_length (i j : Nat) (c : Int) (zs : List Int) : (moved i j c zs).length = zs.length := by simp [moved, bump_length]
theorem nonneg_tot (zs : List Int) (h : ∀ (k : Nat) (_ : k < zs.length), 0 ≤ zs[k]) : 0 ≤ tot zs ∧ ∀ (k : Nat) (_ : k < zs.length), zs[k] ≤ tot zs := by
  induction zs with
  | nil => exact ⟨by simp [tot], fun k hk => by simp at hk⟩
  | cons z zs ih =>
    have h0 := h 0 (by simp)
    have h1 := ih (fun k hk => by have := h (k + 1) (by simpa using hk); simpa using this)
    simp at h0
    refine ⟨by simp [tot]; omega, fun k hk => ?_⟩
    cases k with
    | zero => simp [tot]; omega
    | succ k => have := h1.2 k (by simpa using hk); simp [tot]; omega
theorem moved_get (i j : Nat) (c : Int) (zs : List Int) (hij : i ≠ j) (hi : i < zs.length) (hj : j < zs.length) (k : Nat) (hk : k < zs.length) :
    (moved i j c zs).getD k 0 = if k = j then zs[k] + c else if k = i then zs[k] - c else zs[k] := by
  unfold moved
  by_cases h1 : k = j
  · subst h1
    simp only [bump, List.getD]
    simp [hk, List.getElem_set_ne hij]
  · rw [if_neg h1, bump_getD_ne _ _ _ _ (fun e => h1 e.symm)]
    by_cases h2 : k = i
    · subst h2
      simp [bump, List.getD, hk]; omega
    · rw [if_neg h2, bump_getD_ne _ _ _ _ (fun e => h2 e.symm)]
      simp [List.getD, hk]
theorem moved_eq (i j : Nat) (c : Int) (zs : List Int) (hij : i ≠ j) (hi : i < zs.length) (hj : j < zs.length) : moved i j c zs = (zs.set i (zs[i] - c)).set j (zs[j] + c) := by
  unfold moved
  show (bump i (-c) zs).set j ((bump i (-c) zs).getD j 0 + c) = _
  rw [bump_getD_ne _ _ _ _ hij]
  simp [bump, List.getD, hi, hj, Int.sub_eq_add_neg]
theorem calm_moved {zs : List Int} (h : calm zs) (i j : Nat) (c : Int) (hij : i ≠ j) (hi : i < zs.length) (hj : j < zs.length) (hc : 0 ≤ c) (hcz : c ≤ zs[i]) : calm (moved i j c zs) := by
  have ht : tot (moved i j c zs) = tot zs := by
    unfold moved
    rw [tot_bump _ _ _ (by rw [bump_length]; exact hj), tot_bump _ _ _ hi]; omega
  have hnn : ∀ (k : Nat) (_ : k < (moved i j c zs).length), 0 ≤ (moved i j c zs)[k] := by
    intro k hk
    have hk' : k < zs.length := by rw [moved_length] at hk; exact hk
    have e : (moved i j c zs)[k] = (moved i j c zs).getD k 0 := by simp [List.getD, hk]
    have hz := (calm_get h k hk').1
    rw [e, moved_get i j c zs hij hi hj k hk']
    split
    · omega
    · split
      · rename_i h2; subst h2; omega
      · exact hz
  have hb := nonneg_tot _ hnn
  refine ⟨within_of fun k hk => ⟨hnn k hk, ?_⟩, by rw [ht]; exact h.2⟩
  have := hb.2 k hk
  have := h.2
  omega

/-- Can the move be made? -/
def canMv (zs : List Int) (f t c : Int) : Bool := decide ((0 ≤ f ∧ f < zs.length) ∧ (0 ≤ t ∧ t < zs.length) ∧ f ≠ t ∧ 1 ≤ c ∧ c ≤ zs.getD f.toNat 0)
def movedR (zs : List Int) (f t c : Int) : List Int := if canMv zs f t c then moved f.toNat t.toNat c zs else []
theorem movedR_yes {zs : List Int} {f t c : Int} (h : canMv zs f t c = true) : movedR zs f t c = moved f.toNat t.toNat c zs := by simp [movedR, h]
theorem movedR_no {zs : List Int} {f t c : Int} (h : canMv zs f t c = false) : movedR zs f t c = [] := by simp [movedR, h]
theorem canMv_yes {zs : List Int} {f t c : Int} (h : (0 ≤ f ∧ f < zs.length) ∧ (0 ≤ t ∧ t < zs.length) ∧ f ≠ t ∧ 1 ≤ c ∧ c ≤ zs.getD f.toNat 0) : canMv zs f t c = true := by
  unfold canMv; simpa using h
theorem canMv_no {zs : List Int} {f t c : Int} (h : ¬ ((0 ≤ f ∧ f < zs.length) ∧ (0 ≤ t ∧ t < zs.length) ∧ f ≠ t ∧ 1 ≤ c ∧ c ≤ zs.getD f.toNat 0)) : canMv zs f t c = false := by
  unfold canMv; simpa using h
end Go.Proofs.Ytediapekgbekeaa

/-
  MOVES THAT MAKE HEAPS EQUAL: the program's next move is the first of what is left, plainly. No program is named here but through the plain functions.
-/
namespace Go.Proofs.Ytediapekgbekeaa

def exc (s : Int) (ys : List Int) : List Int := ys.map fun y => y - s
theorem exc_length (s : Int) (ys : List Int) : (exc s ys).length = ys.length := by simp [exc]
theorem exc_get (s : Int) (ys : List Int) (k : Nat) (h : k < ys.length) : (exc s ys)[k]'(by rw [exc_length]; exact h) = ys[k] - s := by simp [exc]
theorem fwB_many (s : Int) (ys : List Int) : fwB (manyL s ys) = hasPos (exc s ys) := by
  unfold fwB hasPos manyL exc
  rw [List.any_map, List.any_map]
  congr 1
  funext y
  simp only [Function.comp]
  by_cases h : 0 < y - s
  · rw [decide_eq_true h, decide_eq_true (by omega)]
  · rw [decide_eq_false h, decide_eq_false (by omega)]
theorem find_many (s : Int) (ys : List Int) : (manyL s ys).findIdx (fun x => decide (0 < x)) = fpos (exc s ys) := by
  unfold fpos manyL exc
  rw [List.findIdx_map, List.findIdx_map]
  congr 1
  funext y
  simp only [Function.comp]
  by_cases h : 0 < y - s
  · rw [decide_eq_true h, decide_eq_true (by omega)]
  · rw [decide_eq_false h, decide_eq_false (by omega)]
theorem find_few (s : Int) (ys : List Int) : (fewL s ys).findIdx (fun x => decide (0 < x)) = fneg (exc s ys) := by
  unfold fneg fewL exc
  rw [List.findIdx_map, List.findIdx_map]
  congr 1
  funext y
  simp only [Function.comp]
  by_cases h : y - s < 0
  · rw [decide_eq_true h, decide_eq_true (by omega)]
  · rw [decide_eq_false h, decide_eq_false (by omega)]
theorem fwB_few {s : Int} {ys : List Int} (h : fneg (exc s ys) < (exc s ys).length) : fwB (fewL s ys) = true := by
  rw [← find_few, exc_length, ← fewL_length s] at h
  unfold fwB
  rw [List.any_eq_true]
  exact ⟨_, List.getElem_mem h, List.findIdx_getElem (w := h)⟩
theorem next_no {s : Int} {ys : List Int} (h : hasPos (exc s ys) = false) : nextF s ys = 0 ∧ nextT s ys = 0 ∧ nextC s ys = 0 := by
  unfold nextF nextT nextC
  rw [fwB_many, h]
  simp
theorem next_yes {s : Int} {ys : List Int} (h0 : (exc s ys).sum = 0) (hp : hasPos (exc s ys) = true) :
    nextF s ys = (fpos (exc s ys) : Nat) ∧ nextT s ys = (fneg (exc s ys) : Nat) ∧ nextC s ys = amount (exc s ys) := by
  obtain ⟨hi, hj, h1, h2, _⟩ := next_pair h0 hp
  have b1 : fwB (manyL s ys) = true := by rw [fwB_many]; exact hp
  have e1 : fwI (manyL s ys) = fpos (exc s ys) := by unfold fwI; rw [if_pos b1, find_many]
  have e2 : fwI (fewL s ys) = fneg (exc s ys) := by unfold fwI; rw [if_pos (fwB_few hj), find_few]
  unfold nextF nextT nextC
  rw [if_pos b1, if_pos b1, if_pos b1, e1, e2, amount_eq hi hj]
  have hi' : fpos (exc s ys) < ys.length := by rw [← exc_length s]; exact hi
  have hj' : fneg (exc s ys) < ys.length := by rw [← exc_length s]; exact hj
  rw [exc_get s ys _ hi'] at h1 ⊢
  rw [exc_get s ys _ hj'] at h2 ⊢
  rw [gd hi', gd hj']
  refine ⟨rfl, rfl, ?_⟩
  omega
/-- A move that is left carries at least 1. -/
theorem amount_pos {E : List Int} (h0 : E.sum = 0) (hp : hasPos E = true) : 1 ≤ amount E := by
  obtain ⟨hi, hj, h1, h2, _⟩ := next_pair h0 hp
  rw [amount_eq hi hj]; omega
theorem exc_moved {s : Int} {ys : List Int} {i j : Nat} (c : Int) (hij : i ≠ j) (hi : i < ys.length) (hj : j < ys.length) : exc s (moved i j c ys) = movedE i j c (exc s ys) := by
  rw [moved_eq i j c ys hij hi hj]
  unfold movedE
  rw [gd (by rw [exc_length]; exact hi), gd (by rw [exc_length]; exact hj), exc_get s ys i hi, exc_get s ys j hj]
  unfold exc
  rw [List.map_set, List.map_set]
  congr 2 <;> omega
end Go.Proofs.Ytediapekgbekeaa


/-
  GROUPS OF HEAPS WHOSE OWN STONES ARE JUST THEIRS: the table over all sets of heaps, plainly. No program is named here.
-/
namespace Go.Proofs.Ytediapekgbekeaa

/-- What the heaps of set s below the k-th have too many, together. -/
def sm (D : List Int) (s : Nat) : Nat → Int
  | 0 => 0
  | k + 1 => if s.testBit k then sm D s k + D.getD k 0 else sm D s k
/-- The greatest number for s less one of its heaps below the k-th, at least 0. -/
def pm (T : Nat → Int) (s : Nat) : Nat → Int
  | 0 => 0
  | k + 1 => if s.testBit k then max (pm T s k) (T (s - 2 ^ k)) else pm T s k
def pf (D : List Int) (n : Nat) : Nat → Nat → Int
  | 0, _ => 0
  | m + 1, s => if s = 0 then 0 else pm (pf D n m) s n + (if sm D s n = 0 then 1 else 0)
theorem bit_le {s k : Nat} (h : s.testBit k = true) : 2 ^ k ≤ s := Nat.ge_two_pow_of_testBit h
theorem pm_congr {T T' : Nat → Int} {s : Nat} (h : ∀ k, s.testBit k = true → T (s - 2 ^ k) = T' (s - 2 ^ k)) (n : Nat) : pm T s n = pm T' s n := by
  induction n with
  | zero => rfl
  | succ k ih =>
    unfold pm
    split
    · rename_i hb; rw [ih, h k hb]
    · exact ih
theorem pf_same (D : List Int) (n : Nat) : ∀ (m m' s : Nat), s ≤ m → s ≤ m' → pf D n m s = pf D n m' s := by
  intro m
  induction m with
  | zero =>
    intro m' s h h'
    obtain rfl : s = 0 := by omega
    cases m' <;> simp [pf]
  | succ m ih =>
    intro m' s h h'
    cases m' with
    | zero =>
      obtain rfl : s = 0 := by omega
      simp [pf]
    | succ m' =>
      unfold pf
      by_cases h0 : s = 0
      · rw [if_pos h0, if_pos h0]
      · rw [if_neg h0, if_neg h0]
        congr 1
        refine pm_congr (fun k hb => ?_) n
        have := bit_le hb
        have := Nat.two_pow_pos k
        exact ih m' _ (by omega) (by omega)
def pt (D : List Int) (n s : Nat) : Int := pf D n s s
theorem pt_zero (D : List Int) (n : Nat) : pt D n 0 = 0 := rfl
theorem pt_succ (D : List Int) (n s : Nat) (h : 0 < s) : pt D n s = pm (pt D n) s n + (if sm D s n = 0 then 1 else 0) := by
  obtain ⟨m, rfl⟩ : ∃ m, s = m + 1 := ⟨s - 1, by omega⟩
  unfold pt
  rw [pf, if_neg (by omega)]
  congr 1
  refine pm_congr (fun k hb => ?_) n
  have := bit_le hb
  have := Nat.two_pow_pos k
  exact pf_same D n _ _ _ (by omega) (Nat.le_refl _)
theorem pm_bd {T : Nat → Int} {s : Nat} {b : Int} (hb : 0 ≤ b) (h : ∀ j, j < s → 0 ≤ T j ∧ T j ≤ b) (n : Nat) : 0 ≤ pm T s n ∧ pm T s n ≤ b := by
  induction n with
  | zero => exact ⟨Int.le_refl _, hb⟩
  | succ k ih =>
    unfold pm
    split
    · rename_i hk
      have := bit_le hk
      have := Nat.two_pow_pos k
      have := h (s - 2 ^ k) (by omega)
      omega
    · exact ih
theorem pt_bd (D : List Int) (n : Nat) : ∀ s, 0 ≤ pt D n s ∧ pt D n s ≤ s := by
  intro s
  induction s using Nat.strongRecOn with
  | ind s ih =>
    by_cases h0 : s = 0
    · subst h0; rw [pt_zero]; omega
    · rw [pt_succ D n s (by omega)]
      have := pm_bd (T := pt D n) (s := s) (b := (s : Int) - 1) (by omega) (fun j hj => by have := ih j hj; omega) n
      split <;> omega
theorem sm_bd {D : List Int} {b : Int} (hb : 0 ≤ b) (h : ∀ i (hi : i < D.length), -b ≤ D[i] ∧ D[i] ≤ b) (s : Nat) (k : Nat) : -(b * k) ≤ sm D s k ∧ sm D s k ≤ b * k := by
  induction k with
  | zero => simp [sm]
  | succ k ih =>
    have h1 : -b ≤ D.getD k 0 ∧ D.getD k 0 ≤ b := by
      by_cases hk : k < D.length
      · simp [List.getD, hk]; exact h k hk
      · simp [List.getD, hk]; omega
    have e : b * ((k + 1 : Nat) : Int) = b * k + b := by rw [Int.natCast_add, Int.mul_add]; simp
    unfold sm
    split <;> omega
end Go.Proofs.Ytediapekgbekeaa
