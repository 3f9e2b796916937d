import Derived.Test.YtediapekgbekeaaMg11
import Derived.Test.YtediapekgbekeaaMg16
import Derived.Test.YtediapekgbekeaaMg19
import Derived.Test.YtediapekgbekeaaMg24
import Derived.Test.YtediapekgbekeaaMg27

/-
  THE MEDIAN OF A LIST, AND THE FLOWS AROUND A RING. No program is named here.
-/
namespace Go.Proofs.Ytediapekgbekeaa

def dist (c : Int) : List Int → Int
  | [] => 0
  | x :: xs => size1 (x - c) + dist c xs
def cntLe (m : Int) : List Int → Int
  | [] => 0
  | x :: xs => (if x ≤ m then 1 else 0) + cntLe m xs
def cntGe (m : Int) : List Int → Int
  | [] => 0
  | x :: xs => (if m ≤ x then 1 else 0) + cntGe m xs
theorem dist_up (m d : Int) (_ : 0 ≤ d) (s : List Int) : dist m s + d * (2 * cntLe m s - s.length) ≤ dist (m + d) s := by
  induction s with
  | nil => simp [dist, cntLe]
  | cons x xs ih =>
    simp only [dist, cntLe, List.length_cons]
    have e : d * (2 * ((if x ≤ m then 1 else 0) + cntLe m xs) - ((xs.length + 1 : Nat) : Int)) = d * (2 * cntLe m xs - xs.length) + (if x ≤ m then d else -d) := by
      split <;> (simp only [Int.mul_sub, Int.mul_add, Int.natCast_add]; omega)
    rw [e]
    have : size1 (x - m) + (if x ≤ m then d else -d) ≤ size1 (x - (m + d)) := by
      unfold size1; split <;> split <;> split <;> omega
    omega
theorem dist_down (m d : Int) (_ : 0 ≤ d) (s : List Int) : dist m s + d * (2 * cntGe m s - s.length) ≤ dist (m - d) s := by
  induction s with
  | nil => simp [dist, cntGe]
  | cons x xs ih =>
    simp only [dist, cntGe, List.length_cons]
    have e : d * (2 * ((if m ≤ x then 1 else 0) + cntGe m xs) - ((xs.length + 1 : Nat) : Int)) = d * (2 * cntGe m xs - xs.length) + (if m ≤ x then d else -d) := by
      split <;> (simp only [Int.mul_sub, Int.mul_add, Int.natCast_add]; omega)
    rw [e]
    have : size1 (x - m) + (if m ≤ x then d else -d) ≤ size1 (x - (m - d)) := by
      unfold size1; split <;> split <;> split <;> omega
    omega
theorem cntLe_nonneg (m : Int) (s : List Int) : 0 ≤ cntLe m s := by
  induction s with
  | nil => simp [cntLe]
  | cons x xs ih => simp only [cntLe]; split <;> omega
theorem cntGe_nonneg (m : Int) (s : List Int) : 0 ≤ cntGe m s := by
  induction s with
  | nil => simp [cntGe]
  | cons x xs ih => simp only [cntGe]; split <;> omega
/-- In a list in order the first 'h + 1' are at most the one at h. -/
theorem cntLe_sorted (s : List Int) (hs : s.Pairwise (· ≤ ·)) (h : Nat) (hh : h < s.length) : (h : Int) + 1 ≤ cntLe s[h] s := by
  induction s generalizing h with
  | nil => simp at hh
  | cons x xs ih =>
    rw [List.pairwise_cons] at hs
    simp only [cntLe]
    cases h with
    | zero => have := cntLe_nonneg x xs; simp; omega
    | succ h =>
      have := ih hs.2 h (by simpa using hh)
      have hl : h < xs.length := by simpa using hh
      have hx := hs.1 xs[h] (List.getElem_mem hl)
      simp [hx]
      omega
theorem cntGe_sorted (s : List Int) (hs : s.Pairwise (· ≤ ·)) (h : Nat) (hh : h < s.length) : (s.length : Int) - h ≤ cntGe s[h] s := by
  induction s generalizing h with
  | nil => simp at hh
  | cons x xs ih =>
    rw [List.pairwise_cons] at hs
    simp only [cntGe]
    cases h with
    | zero =>
      have hall : ∀ (ys : List Int), (∀ y ∈ ys, x ≤ y) → (ys.length : Int) ≤ cntGe x ys := by
        intro ys
        induction ys with
        | nil => simp [cntGe]
        | cons y ys ih2 =>
          intro h
          have h1 := h y (by simp)
          have h2 := ih2 (fun z hz => h z (by simp [hz]))
          simp only [cntGe, h1, List.length_cons, if_true]
          omega
      have := hall xs hs.1
      simp
      omega
    | succ h =>
      have := ih hs.2 h (by simpa using hh)
      simp only [List.getElem_cons_succ, List.length_cons] at *
      split <;> omega
theorem dist_perm (c : Int) {s t : List Int} (h : s.Perm t) : dist c s = dist c t := by
  induction h with
  | nil => rfl
  | cons x _ ih => simp [dist, ih]
  | swap x y l => simp only [dist]; omega
  | trans _ _ h1 h2 => exact h1.trans h2
/-- THE MEDIAN: the one in the middle of a list in order has the least sum of distances, and no greater number has as little. -/
theorem median (s : List Int) (hs : s.Pairwise (· ≤ ·)) (h0 : 0 < s.length) (c : Int) :
    dist (s[s.length / 2]'(by omega)) s ≤ dist c s ∧ ((s[s.length / 2]'(by omega)) < c → dist (s[s.length / 2]'(by omega)) s < dist c s) := by
  have hh : s.length / 2 < s.length := by omega
  have a := cntLe_sorted s hs _ hh
  have b := cntGe_sorted s hs _ hh
  have hn := s.length.div_add_mod 2
  generalize hm : s[s.length / 2]'(by omega) = m at *
  rcases Int.le_total m c with hc | hc
  · have u := dist_up m (c - m) (by omega) s
    rw [show m + (c - m) = c from by omega] at u
    have h1 : 1 ≤ 2 * cntLe m s - s.length := by omega
    have h2 : c - m ≤ (c - m) * (2 * cntLe m s - s.length) := by
      have := Int.mul_le_mul_of_nonneg_left h1 (show 0 ≤ c - m from by omega)
      omega
    exact ⟨by omega, fun h => by omega⟩
  · have u := dist_down m (m - c) (by omega) s
    rw [show m - (m - c) = c from by omega] at u
    have h1 : 0 ≤ 2 * cntGe m s - s.length := by omega
    have h2 : 0 ≤ (m - c) * (2 * cntGe m s - s.length) := Int.mul_nonneg (by omega) h1
    exact ⟨by omega, fun h => by omega⟩
/-- The one that is chosen out of a list, one after the other: of the least sum of distances, of these the greatest. -/
def sel (line : List Int) (c : Int) : List Int → Int
  | [] => c
  | n :: ns => sel line (if dist n line < dist c line ∨ (dist n line = dist c line ∧ c < n) then n else c) ns
theorem sel_eq (line : List Int) (m : Int) (hm : ∀ c, dist m line ≤ dist c line ∧ (m < c → dist m line < dist c line)) (l : List Int) :
    ∀ c, (c = m ∨ m ∈ l) → sel line c l = m := by
  induction l with
  | nil => intro c h; simpa [sel] using h
  | cons n ns ih =>
    intro c h
    simp only [sel]
    apply ih
    by_cases hc : c = m
    · subst hc
      left
      have := hm n
      rw [if_neg]
      rintro (h1 | ⟨h1, h2⟩)
      · omega
      · have := this.2 h2; omega
    · by_cases hn : n = m
      · subst hn
        left
        have := hm c
        rw [if_pos]
        rcases (show dist n line < dist c line ∨ dist c line ≤ dist n line from by omega) with h1 | h1
        · exact .inl h1
        · right
          refine ⟨by omega, ?_⟩
          rcases (show c < n ∨ n ≤ c from by omega) with h2 | h2
          · exact h2
          · have := this.2 (by omega); omega
      · right
        rcases h with h | h
        · exact absurd h hc
        · rcases List.mem_cons.1 h with h | h
          · exact absurd h.symm hn
          · exact h

/-- All numbers less by c. -/
def shift (c : Int) (l : List Int) : List Int := l.map fun x => x - c
theorem shift_length (c : Int) (l : List Int) : (shift c l).length = l.length := by simp [shift]
theorem shift_get (c : Int) (l : List Int) (k : Nat) (hk : k < l.length) : (shift c l)[k]'(by rw [shift_length]; exact hk) = l[k] - c := by simp [shift]
theorem shift_getD (c : Int) (l : List Int) (k : Nat) (hk : k < l.length) : (shift c l).getD k 0 = l[k] - c := by
  simp [List.getD, List.getElem?_eq_getElem (show k < (shift c l).length by rw [shift_length]; exact hk), shift_get c l k hk]
theorem shift_take_succ (c : Int) (l : List Int) (k : Nat) (hk : k < l.length) : (shift c l).take (k + 1) = (shift c l).take k ++ [l[k] - c] := by
  rw [List.take_succ_eq_append_getElem (by rw [shift_length]; exact hk), shift_get c l k hk]
theorem shift_zero (l : List Int) : shift 0 l = l := by simp [shift]
theorem sizes_shift (c : Int) (l : List Int) : sizes (shift c l) = dist c l := by
  induction l with
  | nil => rfl
  | cons x xs ih =>
    show size1 (x - c) + sizes (shift c xs) = size1 (x - c) + dist c xs
    rw [ih]
/-- What the model takes off, of a list with a 0 in it. -/
def off (l : List Int) : Int := sel l 0 l
theorem mem_sort (l : List Int) (x : Int) : x ∈ l.mergeSort (fun x y => decide (x ≤ y)) ↔ x ∈ l := (List.mergeSort_perm l _).mem_iff
theorem sort_length (l : List Int) : (l.mergeSort fun x y => decide (x ≤ y)).length = l.length := List.length_mergeSort l
/-- It is the one in the middle. -/
theorem off_median (l : List Int) (h0 : 0 < l.length) : (l.mergeSort fun x y => decide (x ≤ y))[l.length / 2]'(by rw [sort_length]; omega) = off l := by
  have hs : (l.mergeSort fun x y => decide (x ≤ y)).Pairwise (· ≤ ·) := by
    have := List.pairwise_mergeSort (le := fun (x y : Int) => decide (x ≤ y)) (fun a b c h1 h2 => by simp at *; omega) (fun a b => by simp; omega) l
    exact this.imp (by intro a b h; simpa using h)
  have hm := fun c => median _ hs (by rw [sort_length]; exact h0) c
  have hmem : (l.mergeSort fun x y => decide (x ≤ y))[l.length / 2]'(by rw [sort_length]; omega) ∈ l := by
    rw [← mem_sort]; exact List.getElem_mem _
  simp only [sort_length, dist_perm _ (List.mergeSort_perm l _)] at hm
  exact (sel_eq l _ hm l 0 (.inr hmem)).symm
theorem sel_mem (l : List Int) : ∀ (m : List Int) (c : Int), sel l c m = c ∨ sel l c m ∈ m := by
  intro m
  induction m with
  | nil => intro c; exact .inl rfl
  | cons x xs ih =>
    intro c
    simp only [sel]
    split
    · rcases ih x with h | h
      · right; rw [h]; simp
      · right; simp [h]
    · rcases ih c with h | h
      · exact .inl h
      · right; simp [h]
/-- The list of flows around a ring, before anything is taken off: those of the row and a 0. -/
def ringLine (zs : List Int) : List Int := flows zs ++ [0]
theorem ringLine_length {zs : List Int} (h : good zs = true) : (ringLine zs).length = zs.length := by
  have := (good_of h).1
  simp [ringLine, flows_length]; omega
theorem ringLine_within {zs : List Int} (h : good zs = true) : within (-144000) 12000 (ringLine zs) = true := by
  have h1 := flows_within h
  unfold ringLine
  unfold within at h1 ⊢
  rw [List.all_append, h1]
  simp
theorem within_shift {lo hi a b c : Int} {l : List Int} (h : within lo hi l = true) (h1 : a ≤ c) (h2 : c ≤ b) : within (lo - b) (hi - a) (shift c l) = true := by
  refine within_of fun k hk => ?_
  rw [shift_length] at hk
  rw [shift_get c l k hk]
  have := within_get h k hk
  omega
theorem off_bd {lo hi : Int} {l : List Int} (h : within lo hi l = true) (h0 : lo ≤ 0 ∧ 0 ≤ hi) : lo ≤ off l ∧ off l ≤ hi := by
  rcases sel_mem l l 0 with h1 | h1
  · unfold off; rw [h1]; exact h0
  · obtain ⟨k, hk, he⟩ := List.getElem_of_mem h1
    unfold off
    rw [← he]
    exact within_get h k hk
def ringFlows (zs : List Int) : List Int := shift (off (ringLine zs)) (ringLine zs)
def ringR (zs : List Int) : List Int := if eqOk zs then ringFlows zs else []
theorem ringR_yes {zs : List Int} (h : eqOk zs = true) : ringR zs = ringFlows zs := by simp [ringR, h]
theorem ringR_no {zs : List Int} (h : eqOk zs = false) : ringR zs = [] := by simp [ringR, h]
theorem ringFlows_small {zs : List Int} (h : good zs = true) : within (-1000000000) 1000000000 (ringFlows zs) = true ∧ (ringFlows zs).length = zs.length := by
  have hw := ringLine_within h
  have ho := off_bd hw (by omega)
  exact ⟨within_wide (within_shift hw ho.1 ho.2) (by omega) (by omega), by unfold ringFlows; rw [shift_length, ringLine_length h]⟩
theorem ringR_short (zs : List Int) (hn : zs.length ≤ 1048576) : (ringR zs).length ≤ 1048576 := by
  cases h : eqOk zs
  · rw [ringR_no h]; simp
  · rw [ringR_yes h, (ringFlows_small (eqOk_good h)).2]; exact hn
theorem ringR_small (zs : List Int) : within (-1000000000) 1000000000 (ringR zs) = true ∧ (ringR zs).length ≤ 12 := by
  cases h : eqOk zs
  · rw [ringR_no h]; simp [within]
  · rw [ringR_yes h]
    have hg := eqOk_good h
    have := ringFlows_small hg
    have hl := (good_of hg).2.1
    exact ⟨this.1, by omega⟩
theorem ring_one {zs : List Int} (_h : good zs = true) (h1 : zs.length = 1) : sizes (ringFlows zs) = 0 := by
  have hl : ringLine zs = [0] := by
    unfold ringLine
    have : flows zs = [] := List.eq_nil_of_length_eq_zero (by rw [flows_length]; omega)
    rw [this]; rfl
  unfold ringFlows
  rw [hl]
  decide
end Go.Proofs.Ytediapekgbekeaa

/-
  HEAPS SHARED, plainly: what the moves cost, what is carried in a row and around a ring, and the stones that must be moved. No program is named here.
-/
namespace Go.Proofs.Ytediapekgbekeaa

theorem nz_pair {E : List Int} (h0 : E.sum = 0) (hp : hasPos E = true) : 2 ≤ nz E := by
  obtain ⟨hi, hj, h1, h2, hij⟩ := next_pair h0 hp
  have e1 := nz_set E (fpos E) 0 hi
  have e2 := nz_set (E.set (fpos E) 0) (fneg E) 0 (by simpa using hj)
  rw [List.getElem_set_ne hij, if_neg (by omega)] at e2
  rw [if_neg (by omega)] at e1
  simp at e1 e2
  omega
theorem moves_few : ∀ (N : Nat) (E : List Int), (moves E).length = N → E.sum = 0 → (hasPos E = true → N + 1 ≤ nz E) ∧ (hasPos E = false → N = 0)
  | N, E, hN, h0 => by
    cases hp : hasPos E
    · rw [moves_no hp] at hN
      exact ⟨fun h => absurd h (by simp), fun _ => hN.symm⟩
    · obtain ⟨hi, hj, h1, h2, hij⟩ := next_pair h0 hp
      have hm := moves_yes h0 hp
      have hl : (moves (movedE (fpos E) (fneg E) (amount E) E)).length + 1 = N := by rw [hm] at hN; simpa using hN
      obtain ⟨g1, g2⟩ := moves_few _ (movedE (fpos E) (fneg E) (amount E) E) rfl (by rw [movedE_sum hij hi hj]; exact h0)
      have hz := nz_moved h0 hp
      have h2 := nz_pair h0 hp
      refine ⟨fun _ => ?_, fun h => absurd h (by simp)⟩
      cases hp' : hasPos (movedE (fpos E) (fneg E) (amount E) E)
      · have := g2 hp'; omega
      · have := g1 hp'; omega
  termination_by N => N
decreasing_by omega
theorem moves_lt {E : List Int} (h0 : E.sum = 0) (h1 : 1 ≤ E.length) : (moves E).length < E.length := by
  obtain ⟨g1, g2⟩ := moves_few _ E rfl h0
  have := nz_le E
  cases hp : hasPos E
  · have := g2 hp; omega
  · have := g1 hp; omega

/-! # what they cost -/
theorem tot_take_set (E : List Int) (i : Nat) (v : Int) (hi : i < E.length) (m : Nat) : tot ((E.set i v).take m) = tot (E.take m) + if i < m then v - E[i] else 0 := by
  rw [List.take_set]
  by_cases h : i < m
  · rw [tot_set _ i v (by rw [List.length_take]; omega), if_pos h, List.getElem_take]; omega
  · rw [List.set_eq_of_length_le (by rw [List.length_take]; omega), if_neg h]; omega
theorem tot_take_moved {E : List Int} {i j : Nat} {c : Int} (hij : i ≠ j) (hi : i < E.length) (hj : j < E.length) (m : Nat) :
    tot ((movedE i j c E).take m) = tot (E.take m) - (if i < m then c else 0) + (if j < m then c else 0) := by
  unfold movedE
  rw [tot_take_set _ j _ (by simpa using hj), tot_take_set _ i _ hi, List.getElem_set_ne hij]
  have a := gd hi
  have b := gd hj
  split <;> split <;> omega
/-- The sizes of what is together ahead, from c on, of the first m. -/
def pre (E : List Int) (c : Int) : Nat → Int
  | 0 => 0
  | m + 1 => pre E c m + size1 (tot (E.take (m + 1)) - c)
def btw (i j : Nat) : Nat → Int
  | 0 => 0
  | m + 1 => btw i j m + if (i ≤ m ∧ m < j) ∨ (j ≤ m ∧ m < i) then 1 else 0
theorem btw_eq (i j : Nat) : ∀ m, btw i j m = max 0 ((min m (max i j) : Nat) - (min i j : Nat) : Int)
  | 0 => by unfold btw; omega
  | m + 1 => by
    have := btw_eq i j m
    unfold btw
    split <;> omega
theorem btw_le (i j : Nat) (m : Nat) : 0 ≤ btw i j m ∧ btw i j m ≤ size1 ((i : Int) - j) := by
  rw [btw_eq]
  unfold size1
  split <;> omega
theorem pre_moved {E : List Int} {i j : Nat} {c : Int} (hc : 0 ≤ c) (hij : i ≠ j) (hi : i < E.length) (hj : j < E.length) : ∀ m, pre E 0 m ≤ pre (movedE i j c E) 0 m + c * btw i j m
  | 0 => by simp [pre, btw]
  | m + 1 => by
    have ih := pre_moved hc hij hi hj m
    have e := tot_take_moved (c := c) hij hi hj (m + 1)
    unfold pre btw
    rw [e, Int.mul_add]
    have : size1 (tot (E.take (m + 1)) - 0) ≤ size1 (tot (E.take (m + 1)) - (if i < m + 1 then c else 0) + (if j < m + 1 then c else 0) - 0) + c * (if (i ≤ m ∧ m < j) ∨ (j ≤ m ∧ m < i) then 1 else 0) := by
      generalize tot (E.take (m + 1)) = t
      by_cases h1 : i < m + 1 <;> by_cases h2 : j < m + 1
      · rw [if_pos h1, if_pos h2, if_neg (by omega)]; unfold size1; split <;> split <;> omega
      · rw [if_pos h1, if_neg h2, if_pos (by omega), Int.mul_one]; unfold size1; split <;> split <;> omega
      · rw [if_neg h1, if_pos h2, if_pos (by omega), Int.mul_one]; unfold size1; split <;> split <;> omega
      · rw [if_neg h1, if_neg h2, if_neg (by omega)]; unfold size1; split <;> split <;> omega
    omega
theorem costs_moves : ∀ (N : Nat) (E : List Int), (moves E).length = N → E.sum = 0 → bd E → E.length ≤ 12 →
    (∀ m ∈ (moves E).map asMv, costOk1 m = true) ∧ pre E 0 E.length ≤ costs ((moves E).map asMv)
  | N, E, hN, h0, hb, h12 => by
    cases hp : hasPos E
    · have hall : ∀ x ∈ E, x ≤ 0 := fun x hx => by
        unfold hasPos at hp
        have := List.any_eq_false.1 hp x hx
        simpa using this
      have hz := (sum_le_zero _ hall).2 h0
      have hall0 : ∀ (l : List Int), (∀ x ∈ l, x = 0) → tot l = 0 := fun l => by
        induction l with
        | nil => intro _; rfl
        | cons x xs ih => intro h; rw [tot, h x (by simp), ih (fun y hy => h y (by simp [hy]))]; rfl
      have hpre : ∀ m, pre E 0 m = 0 := by
        intro m
        induction m with
        | zero => rfl
        | succ m ih => unfold pre; rw [ih, hall0 _ (fun x hx => hz x (List.mem_of_mem_take hx))]; rfl
      rw [moves_no hp, hpre]
      exact ⟨fun m hm => absurd hm (by simp), by simp [costs]⟩
    · obtain ⟨hi, hj, h1, h2, hij⟩ := next_pair h0 hp
      have ha := amount_pos h0 hp
      have he := amount_eq hi hj
      have hm := moves_yes h0 hp
      have hl : (moves (movedE (fpos E) (fneg E) (amount E) E)).length < N := by rw [hm] at hN; simp at hN; omega
      obtain ⟨g1, g2⟩ := costs_moves _ (movedE (fpos E) (fneg E) (amount E) E) rfl (by rw [movedE_sum hij hi hj]; exact h0) (by rw [he]; exact bd_moved hb hij hi hj h1 h2) (by rw [movedE_length]; exact h12)
      rw [movedE_length] at g2
      have hbi := hb _ hi
      have hm1 : mvOk 12 (asMv ⟨(fpos E : Nat), (fneg E : Nat), amount E⟩) = true := mvOk_yes (by
        show 0 ≤ ((fpos E : Nat) : Int) ∧ ((fpos E : Nat) : Int) < 12 ∧ 0 ≤ ((fneg E : Nat) : Int) ∧ ((fneg E : Nat) : Int) < 12 ∧ ((fpos E : Nat) : Int) ≠ ((fneg E : Nat) : Int) ∧ 1 ≤ amount E
        omega)
      have hk1 : costOk1 (asMv ⟨(fpos E : Nat), (fneg E : Nat), amount E⟩) = true := by
        rw [costOk1_c hm1]
        show decide (amount E ≤ 1000) = true
        simp; omega
      rw [hm, List.map_cons]
      refine ⟨fun m hmm => ?_, ?_⟩
      · rcases List.mem_cons.1 hmm with rfl | hmm
        · exact hk1
        · exact g1 m hmm
      · rw [costs]
        have hpm := pre_moved (c := amount E) (by omega) hij hi hj E.length
        have hbt := btw_le (fpos E) (fneg E) E.length
        have hmul := Int.mul_le_mul_of_nonneg_left hbt.2 (show 0 ≤ amount E by omega)
        have : cost1 (asMv ⟨(fpos E : Nat), (fneg E : Nat), amount E⟩) = amount E * size1 (((fpos E : Nat) : Int) - ((fneg E : Nat) : Int)) := rfl
        rw [this]
        omega
  termination_by N => N

/-! # rows and rings -/
theorem dist_append (c : Int) (a b : List Int) : dist c (a ++ b) = dist c a + dist c b := by
  induction a with
  | nil => simp [dist]
  | cons x xs ih => rw [List.cons_append, dist, dist, ih]; omega
theorem dist_pre (E : List Int) (c : Int) : ∀ m, dist c ((List.range m).map fun k => tot (E.take (k + 1))) = pre E c m
  | 0 => rfl
  | m + 1 => by
    rw [List.range_succ, List.map_append, dist_append, dist_pre E c m]
    simp [dist, pre]
theorem over_all {zs : List Int} (h : eqOk zs = true) : tot ((over zs).take zs.length) = 0 := by
  have h1 := over_sum h
  have h2 : ∀ l : List Int, tot l = l.sum := fun l => by induction l with | nil => rfl | cons x xs ih => rw [tot, ih]; simp
  rw [List.take_of_length_le (by rw [over_length]; exact Nat.le_refl _), h2, h1]
theorem ringLine_eq {zs : List Int} (h : eqOk zs = true) : ringLine zs = (List.range zs.length).map fun k => tot ((over zs).take (k + 1)) := by
  have h1 := (good_of (eqOk_good h)).1
  obtain ⟨n, hn⟩ : ∃ n, zs.length = n + 1 := ⟨zs.length - 1, by omega⟩
  have ha := over_all h
  unfold ringLine flows
  rw [hn, List.range_succ, List.map_append]
  rw [hn] at ha
  simp [ha]
theorem line_pre {zs : List Int} (h : eqOk zs = true) : sizes (flows zs) = pre (over zs) 0 zs.length := by
  rw [← dist_pre, ← ringLine_eq h]
  have := sizes_shift 0 (ringLine zs)
  rw [shift_zero] at this
  rw [← this]
  unfold ringLine
  rw [sizes_append]; simp [sizes, size1]
theorem ring_pre {zs : List Int} (h : eqOk zs = true) : sizes (ringFlows zs) = pre (over zs) (off (ringLine zs)) zs.length := by
  unfold ringFlows
  rw [sizes_shift, ringLine_eq h, dist_pre]
theorem ring_line {zs : List Int} (h : eqOk zs = true) : sizes (ringFlows zs) ≤ sizes (flows zs) := by
  have h1 := (good_of (eqOk_good h)).1
  rw [ring_pre h, line_pre h, ← dist_pre, ← dist_pre, ← ringLine_eq h]
  have h0 : 0 < (ringLine zs).length := by rw [ringLine_length (eqOk_good h)]; omega
  have hs : ((ringLine zs).mergeSort fun x y => decide (x ≤ y)).Pairwise (· ≤ ·) := by
    have := List.pairwise_mergeSort (le := fun (x y : Int) => decide (x ≤ y)) (fun a b c h1 h2 => by simp at *; omega) (fun a b => by simp; omega) (ringLine zs)
    exact this.imp (by intro a b h; simpa using h)
  have hm := (median _ hs (by rw [sort_length]; exact h0) 0).1
  have ho := off_median (ringLine zs) h0
  simp only [sort_length, dist_perm _ (List.mergeSort_perm (ringLine zs) _)] at hm
  rw [ho] at hm
  exact hm
/-- What those above their share have too many, of the first m. -/
def ups (E : List Int) : Nat → Int
  | 0 => 0
  | m + 1 => ups E m + max (E.getD m 0) 0
theorem ups_pre (E : List Int) (c : Int) : ∀ m, m ≤ E.length → ups E m + max (-(tot (E.take m) - c)) 0 ≤ pre E c m + max c 0
  | 0, _ => by simp [ups, pre, tot]
  | m + 1, h => by
    have ih := ups_pre E c m (by omega)
    have e := tot_take_succ E m (by omega)
    have g : E.getD m 0 = E[m] := gd (by omega)
    unfold ups pre
    rw [g]
    unfold size1
    split <;> omega
theorem tot_snoc (l : List Int) (x : Int) : tot (l ++ [x]) = tot l + x := by rw [tot_append]; simp [tot]
theorem ups_many (zs : List Int) : ∀ m, m ≤ zs.length → ups (over zs) m = tot ((manyL (tot zs / zs.length) zs).take m)
  | 0, _ => by simp [ups, tot]
  | m + 1, h => by
    have ih := ups_many zs m (by omega)
    have hl : m < (manyL (tot zs / zs.length) zs).length := by rw [manyL_length]; omega
    unfold ups
    rw [ih, tot_take_succ _ m hl, manyL_get _ _ m (by omega), gd (by rw [over_length]; omega), over_get zs m (by omega)]
theorem stones_ups {zs : List Int} (h : eqOk zs = true) : gainN zs = ups (over zs) zs.length := by
  rw [gainN_yes h, ups_many zs _ (Nat.le_refl _), shareEq_yes h, List.take_of_length_le (by rw [manyL_length]; exact Nat.le_refl _)]
theorem stones_pre {zs : List Int} (h : eqOk zs = true) (c : Int) : gainN zs ≤ pre (over zs) c zs.length := by
  have := ups_pre (over zs) c zs.length (by rw [over_length]; exact Nat.le_refl _)
  rw [over_all h, ← stones_ups h] at this
  omega
theorem most_sizes : ∀ l : List Int, most l ≤ sizes l
  | [] => by simp [most, sizes]
  | x :: xs => by
    have := most_sizes xs
    have h1 := size1_nonneg x
    have h2 : 0 ≤ sizes xs := Int.le_trans (most_nonneg xs) this
    unfold most sizes
    omega
/-- HEAPS SHARED: all numbers of the law. -/
theorem shared {zs : List Int} (h : eqOk zs = true) :
    (moves (over zs)).length < zs.length ∧ costOk ((moves (over zs)).map asMv) = true ∧ sizes (flows zs) ≤ costs ((moves (over zs)).map asMv) ∧ gainN zs ≤ sizes (flows zs) ∧
    sizes (ringFlows zs) ≤ sizes (flows zs) ∧ gainN zs ≤ sizes (ringFlows zs) ∧ most (flows zs) ≤ sizes (flows zs) ∧
    (zs.length ≤ 8 → 0 ≤ (zs.length : Int) - pt (over zs) zs.length (2 ^ zs.length - 1) ∧ (zs.length : Int) - pt (over zs) zs.length (2 ^ zs.length - 1) ≤ (moves (over zs)).length) := by
  have hg := good_of (eqOk_good h)
  have h0 := over_sum h
  have hl := over_length zs
  have hlt := moves_lt h0 (by rw [hl]; exact hg.1)
  obtain ⟨c1, c2⟩ := costs_moves _ (over zs) rfl h0 (over_bd1000 h) (by rw [hl]; exact hg.2.1)
  rw [hl] at hlt c2
  refine ⟨hlt, costOk_yes (by rw [List.length_map]; omega) c1, by rw [line_pre h]; exact c2, by rw [line_pre h]; exact stones_pre h 0, ring_line h, by rw [ring_pre h]; exact stones_pre h _, most_sizes _, fun h8 => ?_⟩
  have := few_moves (E := over zs) (by rw [hl]; exact h8) h0
  rw [hl] at this
  exact this
end Go.Proofs.Ytediapekgbekeaa
