
/-
  THE MEDIAN OF A LIST, AND THE FLOWS AROUND A RING. No program is named here.
-/
import Derived.Test.YtpkobgpnmdaooaaPlainC
namespace Go.Proofs.Ytpkobgpnmdaooaa

def dist (c : Int) : List Int → Int
  | [] => 0
  | x :: xs => size1 (x - c) + dist c xs
def cntLe (m : Int) : List Int → Int
  | [] => 0
  | x :: xs => (if x ≤ m then 1 else 0) + cntLe m xs
def cntGe (m : Int) : List Int → Int
  | [] => 0
  | x :: xs => (if m ≤ x then 1 else 0) + cntGe m xs
theorem dist_up (m d : Int) (_ : 0 ≤ d) (s : List Int) : dist m s + d * (2 * cntLe m s - s.length) ≤ dist (m + d) s := by
  induction s with
  | nil => simp [dist, cntLe]
  | cons x xs ih =>
    simp only [dist, cntLe, List.length_cons]
    have e : d * (2 * ((if x ≤ m then 1 else 0) + cntLe m xs) - ((xs.length + 1 : Nat) : Int)) = d * (2 * cntLe m xs - xs.length) + (if x ≤ m then d else -d) := by
      split <;> (simp only [Int.mul_sub, Int.mul_add, Int.natCast_add]; omega)
    rw [e]
    have : size1 (x - m) + (if x ≤ m then d else -d) ≤ size1 (x - (m + d)) := by
      unfold size1; split <;> split <;> split <;> omega
    omega
theorem dist_down (m d : Int) (_ : 0 ≤ d) (s : List Int) : dist m s + d * (2 * cntGe m s - s.length) ≤ dist (m - d) s := by
  induction s with
  | nil => simp [dist, cntGe]
  | cons x xs ih =>
    simp only [dist, cntGe, List.length_cons]
    have e : d * (2 * ((if m ≤ x then 1 else 0) + cntGe m xs) - ((xs.length + 1 : Nat) : Int)) = d * (2 * cntGe m xs - xs.length) + (if m ≤ x then d else -d) := by
      split <;> (simp only [Int.mul_sub, Int.mul_add, Int.natCast_add]; omega)
    rw [e]
    have : size1 (x - m) + (if m ≤ x then d else -d) ≤ size1 (x - (m - d)) := by
      unfold size1; split <;> split <;> split <;> omega
    omega
theorem cntLe_nonneg (m : Int) (s : List Int) : 0 ≤ cntLe m s := by
  induction s with
  | nil => simp [cntLe]
  | cons x xs ih => simp only [cntLe]; split <;> omega
theorem cntGe_nonneg (m : Int) (s : List Int) : 0 ≤ cntGe m s := by
  induction s with
  | nil => simp [cntGe]
  | cons x xs ih => simp only [cntGe]; split <;> omega
/-- In a list in order the first 'h + 1' are at most the one at h. -/
theorem cntLe_sorted (s : List Int) (hs : s.Pairwise (· ≤ ·)) (h : Nat) (hh : h < s.length) : (h : Int) + 1 ≤ cntLe s[h] s := by
  induction s generalizing h with
  | nil => simp at hh
  | cons x xs ih =>
    rw [List.pairwise_cons] at hs
    simp only [cntLe]
    cases h with
    | zero => have := cntLe_nonneg x xs; simp; omega
    | succ h =>
      have := ih hs.2 h (by simpa using hh)
      have hl : h < xs.length := by simpa using hh
      have hx := hs.1 xs[h] (List.getElem_mem hl)
      simp [hx]
      omega
theorem cntGe_sorted (s : List Int) (hs : s.Pairwise (· ≤ ·)) (h : Nat) (hh : h < s.length) : (s.length : Int) - h ≤ cntGe s[h] s := by
  induction s generalizing h with
  | nil => simp at hh
  | cons x xs ih =>
    rw [List.pairwise_cons] at hs
    simp only [cntGe]
    cases h with
    | zero =>
      have hall : ∀ (ys : List Int), (∀ y ∈ ys, x ≤ y) → (ys.length : Int) ≤ cntGe x ys := by
        intro ys
        induction ys with
        | nil => simp [cntGe]
        | cons y ys ih2 =>
          intro h
          have h1 := h y (by simp)
          have h2 := ih2 (fun z hz => h z (by simp [hz]))
          simp only [cntGe, h1, List.length_cons, if_true]
          omega
      have := hall xs hs.1
      simp
      omega
    | succ h =>
      have := ih hs.2 h (by simpa using hh)
      simp only [List.getElem_cons_succ, List.length_cons] at *
      split <;> omega
theorem dist_perm (c : Int) {s t : List Int} (h : s.Perm t) : dist c s = dist c t := by
  induction h with
  | nil => rfl
  | cons x _ ih => simp [dist, ih]
  | swap x y l => simp only [dist]; omega
  | trans _ _ h1 h2 => exact h1.trans h2
/-- THE MEDIAN: the one in the middle of a list in order has the least sum of distances, and no greater number has as little. -/
theorem median (s : List Int) (hs : s.Pairwise (· ≤ ·)) (h0 : 0 < s.length) (c : Int) :
    dist (s[s.length / 2]'(by omega)) s ≤ dist c s ∧ ((s[s.length / 2]'(by omega)) < c → dist (s[s.length / 2]'(by omega)) s < dist c s) := by
  have hh : s.length / 2 < s.length := by omega
  have a := cntLe_sorted s hs _ hh
  have b := cntGe_sorted s hs _ hh
  have hn := s.length.div_add_mod 2
  generalize hm : s[s.length / 2]'(by omega) = m at *
  rcases Int.le_total m c with hc | hc
  · have u := dist_up m (c - m) (by omega) s
    rw [show m + (c - m) = c from by omega] at u
    have h1 : 1 ≤ 2 * cntLe m s - s.length := by omega
    have h2 : c - m ≤ (c - m) * (2 * cntLe m s - s.length) := by
      have := Int.mul_le_mul_of_nonneg_left h1 (show 0 ≤ c - m from by omega)
      omega
    exact ⟨by omega, fun h => by omega⟩
  · have u := dist_down m (m - c) (by omega) s
    rw [show m - (m - c) = c from by omega] at u
    have h1 : 0 ≤ 2 * cntGe m s - s.length := by omega
    have h2 : 0 ≤ (m - c) * (2 * cntGe m s - s.length) := Int.mul_nonneg (by omega) h1
    exact ⟨by omega, fun h => by omega⟩
/-- The one that is chosen out of a list, one after the other: of the least sum of distances, of these the greatest. -/
def sel (line : List Int) (c : Int) : List Int → Int
  | [] => c
  | n :: ns => sel line (if dist n line < dist c line ∨ (dist n line = dist c line ∧ c < n) then n else c) ns
theorem sel_eq (line : List Int) (m : Int) (hm : ∀ c, dist m line ≤ dist c line ∧ (m < c → dist m line < dist c line)) (l : List Int) :
    ∀ c, (c = m ∨ m ∈ l) → sel line c l = m := by
  induction l with
  | nil => intro c h; simpa [sel] using h
  | cons n ns ih =>
    intro c h
    simp only [sel]
    apply ih
    by_cases hc : c = m
    · subst hc
      left
      have := hm n
      rw [if_neg]
      rintro (h1 | ⟨h1, h2⟩)
      · omega
      · have := this.2 h2; omega
    · by_cases hn : n = m
      · subst hn
        left
        have := hm c
        rw [if_pos]
        rcases (show dist n line < dist c line ∨ dist c line ≤ dist n line from by omega) with h1 | h1
        · exact .inl h1
        · right
          refine ⟨by omega, ?_⟩
          rcases (show c < n ∨ n ≤ c from by omega) with h2 | h2
          · exact h2
          · have := this.2 (by omega); omega
      · right
        rcases h with h | h
        · exact absurd h hc
        · rcases List.mem_cons.1 h with h | h
          · exact absurd h.symm hn
          · exact h

/-- All numbers less by c. -/
def shift (c : Int) (l : List Int) : List Int := l.map fun x => x - c
theorem shift_length (c : Int) (l : List Int) : (shift c l).length = l.length := by simp [shift]
theorem shift_get (c : Int) (l : List Int) (k : Nat) (hk : k < l.length) : (shift c l)[k]'(by rw [shift_length]; exact hk) = l[k] - c := by simp [shift]
theorem shift_getD (c : Int) (l : List Int) (k : Nat) (hk : k < l.length) : (shift c l).getD k 0 = l[k] - c := by
  simp [List.getD, List.getElem?_eq_getElem (show k < (shift c l).length by rw [shift_length]; exact hk), shift_get c l k hk]
theorem shift_take_succ (c : Int) (l : List Int) (k : Nat) (hk : k < l.length) : (shift c l).take (k + 1) = (shift c l).take k ++ [l[k] - c] := by
  rw [List.take_succ_eq_append_getElem (by rw [shift_length]; exact hk), shift_get c l k hk]
theorem shift_zero (l : List Int) : shift 0 l = l := by simp [shift]
theorem sizes_shift (c : Int) (l : List Int) : sizes (shift c l) = dist c l := by
  induction l with
  | nil => rfl
  | cons x xs ih =>
    show size1 (x - c) + sizes (shift c xs) = size1 (x - c) + dist c xs
    rw [ih]
/-- What the model takes off, of a list with a 0 in it. -/
def off (l : List Int) : Int := sel l 0 l
theorem mem_sort (l : List Int) (x : Int) : x ∈ l.mergeSort (fun x y => decide (x ≤ y)) ↔ x ∈ l := (List.mergeSort_perm l _).mem_iff
theorem sort_length (l : List Int) : (l.mergeSort fun x y => decide (x ≤ y)).length = l.length := List.length_mergeSort l
/-- It is the one in the middle. -/
theorem off_median (l : List Int) (h0 : 0 < l.length) : (l.mergeSort fun x y => decide (x ≤ y))[l.length / 2]'(by rw [sort_length]; omega) = off l := by
  have hs : (l.mergeSort fun x y => decide (x ≤ y)).Pairwise (· ≤ ·) := by
    have := List.pairwise_mergeSort (le := fun (x y : Int) => decide (x ≤ y)) (fun a b c h1 h2 => by simp at *; omega) (fun a b => by simp; omega) l
    exact this.imp (by intro a b h; simpa using h)
  have hm := fun c => median _ hs (by rw [sort_length]; exact h0) c
  have hmem : (l.mergeSort fun x y => decide (x ≤ y))[l.length / 2]'(by rw [sort_length]; omega) ∈ l := by
    rw [← mem_sort]; exact List.getElem_mem _
  simp only [sort_length, dist_perm _ (List.mergeSort_perm l _)] at hm
  exact (sel_eq l _ hm l 0 (.inr hmem)).symm
theorem sel_mem (l : List Int) : ∀ (m : List Int) (c : Int), sel l c m = c ∨ sel l c m ∈ m := by
  intro m
  induction m with
  | nil => intro c; exact .inl rfl
  | cons x xs ih =>
    intro c
    simp only [sel]
    split
    · rcases ih x with h | h
      · right; rw [h]; simp
      · right; simp [h]
    · rcases ih c with h | h
      · exact .inl h
      · right; simp [h]
/-- The list of flows around a ring, before anything is taken off: those of the row and a 0. -/
def ringLine (zs : List Int) : List Int := flows zs ++ [0]
theorem ringLine_length {zs : List Int} (h : good zs = true) : (ringLine zs).length = zs.length := by
  have := (good_of h).1
  simp [ringLine, flows_length]; omega
theorem ringLine_within {zs : List Int} (h : good zs = true) : within (-144000) 12000 (ringLine zs) = true := by
  have h1 := flows_within h
  unfold ringLine
  unfold within at h1 ⊢
  rw [List.all_append, h1]
  simp
theorem within_shift {lo hi a b c : Int} {l : List Int} (h : within lo hi l = true) (h1 : a ≤ c) (h2 : c ≤ b) : within (lo - b) (hi - a) (shift c l) = true := by
  refine within_of fun k hk => ?_
  rw [shift_length] at hk
  rw [shift_get c l k hk]
  have := within_get h k hk
  omega
theorem off_bd {lo hi : Int} {l : List Int} (h : within lo hi l = true) (h0 : lo ≤ 0 ∧ 0 ≤ hi) : lo ≤ off l ∧ off l ≤ hi := by
  rcases sel_mem l l 0 with h1 | h1
  · unfold off; rw [h1]; exact h0
  · obtain ⟨k, hk, he⟩ := List.getElem_of_mem h1
    unfold off
    rw [← he]
    exact within_get h k hk
def ringFlows (zs : List Int) : List Int := shift (off (ringLine zs)) (ringLine zs)
def ringR (zs : List Int) : List Int := if eqOk zs then ringFlows zs else []
theorem ringR_yes {zs : List Int} (h : eqOk zs = true) : ringR zs = ringFlows zs := by simp [ringR, h]
theorem ringR_no {zs : List Int} (h : eqOk zs = false) : ringR zs = [] := by simp [ringR, h]
theorem ringFlows_small {zs : List Int} (h : good zs = true) : within (-1000000000) 1000000000 (ringFlows zs) = true ∧ (ringFlows zs).length = zs.length := by
  have hw := ringLine_within h
  have ho := off_bd hw (by omega)
  exact ⟨within_wide (within_shift hw ho.1 ho.2) (by omega) (by omega), by unfold ringFlows; rw [shift_length, ringLine_length h]⟩
theorem ringR_short (zs : List Int) (hn : zs.length ≤ 1048576) : (ringR zs).length ≤ 1048576 := by
  cases h : eqOk zs
  · rw [ringR_no h]; simp
  · rw [ringR_yes h, (ringFlows_small (eqOk_good h)).2]; exact hn
theorem ringR_small (zs : List Int) : within (-1000000000) 1000000000 (ringR zs) = true ∧ (ringR zs).length ≤ 12 := by
  cases h : eqOk zs
  · rw [ringR_no h]; simp [within]
  · rw [ringR_yes h]
    have hg := eqOk_good h
    have := ringFlows_small hg
    have hl := (good_of hg).2.1
    exact ⟨this.1, by omega⟩
theorem ring_one {zs : List Int} (_h : good zs = true) (h1 : zs.length = 1) : sizes (ringFlows zs) = 0 := by
  have hl : ringLine zs = [0] := by
    unfold ringLine
    have : flows zs = [] := List.eq_nil_of_length_eq_zero (by rw [flows_length]; omega)
    rw [this]; rfl
  unfold ringFlows
  rw [hl]
  decide
end Go.Proofs.Ytpkobgpnmdaooaa
