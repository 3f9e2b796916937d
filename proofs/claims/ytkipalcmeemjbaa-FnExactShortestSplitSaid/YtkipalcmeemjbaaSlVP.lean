
/-
  VALUES OF HEAPS THAT ARE SPLIT, plainly: least numbers that are not in a list, the parts of a heap, tables of values. No program is named here.
-/
import Derived.Test.YtkipalcmeemjbaaSlQ
namespace Go.Proofs.Ytkipalcmeemjbaa
open Go.RowKit
set_option linter.unusedVariables false

/-- Digits added modulo 2, as the walk spells it. -/
def xr (a b : Int) : Int := bits BinOp.xor IntKind.i64 a b
theorem xr_tab : ∀ a b : Fin 64, 0 ≤ xr (a.val : Int) (b.val : Int) ∧ xr (a.val : Int) (b.val : Int) ≤ 63 ∧ xr (a.val : Int) (b.val : Int) = xr (b.val : Int) (a.val : Int) := by decide +kernel
theorem xr_bd {a b : Int} (ha : 0 ≤ a) (ha' : a ≤ 63) (hb : 0 ≤ b) (hb' : b ≤ 63) : 0 ≤ xr a b ∧ xr a b ≤ 63 ∧ xr a b = xr b a := by
  have := xr_tab ⟨a.toNat, by omega⟩ ⟨b.toNat, by omega⟩
  simpa [show ((a.toNat : Nat) : Int) = a from by omega, show ((b.toNat : Nat) : Int) = b from by omega, Int.max_eq_left ha, Int.max_eq_left hb] using this

theorem xr_zero : ∀ a : Fin 64, xr 0 (a.val : Int) = (a.val : Int) := by decide +kernel
/-- k is the least number, from 0 on, that is not in a list. -/
def isMex (l : List Int) (k : Nat) : Prop := (∀ j : Nat, j < k → (j : Int) ∈ l) ∧ (k : Int) ∉ l
theorem isMex_one {l : List Int} {a b : Nat} (ha : isMex l a) (hb : isMex l b) : a = b := by
  rcases Nat.lt_trichotomy a b with h | h | h
  · exact absurd (hb.1 a h) ha.2
  · exact h
  · exact absurd (ha.1 b h) hb.2
open Classical in
noncomputable def mex (l : List Int) : Nat := if h : ∃ k, isMex l k then h.choose else 0
theorem mex_is {l : List Int} {k : Nat} (h : isMex l k) : mex l = k := by
  unfold mex
  rw [dif_pos ⟨k, h⟩]
  exact isMex_one (Exists.choose_spec ⟨k, h⟩) h
/-- How many of a list are not less. -/
def above (k : Nat) (l : List Int) : Nat := l.countP fun x => decide ((k : Int) ≤ x)
theorem above_less {l : List Int} {k : Nat} (h : (k : Int) ∈ l) : above (k + 1) l < above k l := by
  have hle : ∀ l : List Int, above (k + 1) l ≤ above k l := fun l => by
    unfold above
    apply List.countP_mono_left
    intro x _ hx
    simp at hx ⊢
    omega
  induction l with
  | nil => cases h
  | cons x xs ih =>
    have e1 : above (k + 1) (x :: xs) = above (k + 1) xs + if (k : Int) + 1 ≤ x then 1 else 0 := by unfold above; rw [List.countP_cons]; simp
    have e2 : above k (x :: xs) = above k xs + if (k : Int) ≤ x then 1 else 0 := by unfold above; rw [List.countP_cons]; simp
    have hx := hle xs
    rw [e1, e2]
    rcases List.mem_cons.1 h with rfl | h'
    · rw [if_neg (by omega), if_pos (by omega)]; omega
    · have := ih h'
      split <;> split <;> omega
theorem below_count (l : List Int) : ∀ k : Nat, (∀ j : Nat, j < k → (j : Int) ∈ l) → k + above k l ≤ above 0 l
  | 0, _ => by omega
  | k + 1, h => by
    have := below_count l k (fun j hj => h j (by omega))
    have := above_less (h k (by omega))
    omega
theorem mex_bd {l : List Int} {k : Nat} (h : isMex l k) : k ≤ l.length := by
  have h1 := below_count l k h.1
  have h2 : above 0 l ≤ l.length := List.countP_le_length
  omega
theorem mex_ex (l : List Int) : ∃ k, isMex l k := by
  have key : ∀ n k, above k l ≤ n → (∀ j : Nat, j < k → (j : Int) ∈ l) → ∃ k, isMex l k := by
    intro n
    induction n with
    | zero =>
      intro k hk h
      refine ⟨k, h, fun hm => ?_⟩
      have := above_less hm
      omega
    | succ n ih =>
      intro k hk h
      by_cases hm : (k : Int) ∈ l
      · refine ih (k + 1) (by have := above_less hm; omega) (fun j hj => ?_)
        rcases Nat.lt_or_ge j k with h1 | h1
        · exact h j h1
        · obtain rfl : j = k := by omega
          exact hm
      · exact ⟨k, h, hm⟩
  exact key (above 0 l) 0 (Nat.le_refl _) (fun j hj => by omega)
theorem mex_le (l : List Int) : mex l ≤ l.length := by
  obtain ⟨k, hk⟩ := mex_ex l
  rw [mex_is hk]; exact mex_bd hk

/-- The parts of a heap of n less than p by which it can be split. -/
def pB (r : Int) (n p : Nat) : List Nat := (List.range p).filter fun q => scan r n q
theorem pB_succ (r : Int) (n p : Nat) : pB r n (p + 1) = pB r n p ++ if scan r n p then [p] else [] := by
  unfold pB
  rw [List.range_succ, List.filter_append]
  congr 1
  by_cases h : scan r n p = true <;> simp [h]
theorem pB_yes {r : Int} {n p : Nat} (h : scan r n p = true) : pB r n (p + 1) = pB r n p ++ [p] := by rw [pB_succ, if_pos h]
theorem pB_no {r : Int} {n p : Nat} (h : scan r n p = false) : pB r n (p + 1) = pB r n p := by rw [pB_succ, h]; simp
theorem pB_same {r : Int} {n p : Nat} : ∀ d : Nat, (∀ q, p ≤ q → q < p + d → scan r n q = false) → pB r n (p + d) = pB r n p
  | 0, _ => rfl
  | d + 1, h => by
    rw [show p + (d + 1) = (p + d) + 1 from rfl, pB_no (h (p + d) (by omega) (by omega)), pB_same d (fun q h1 h2 => h q h1 (by omega))]
theorem pB_len (r : Int) (n p : Nat) : (pB r n p).length ≤ p := by
  unfold pB
  exact Nat.le_trans (List.length_filter_le _ _) (by simp)
theorem pB_mem {r : Int} {n p q : Nat} (h : q ∈ pB r n p) : q < p ∧ scan r n q = true := by
  unfold pB at h
  rw [List.mem_filter, List.mem_range] at h
  exact h
theorem pB_one (r : Int) (n : Nat) : pB r n 1 = [] := by
  have h : scan r n 0 = false := decide_eq_false (by omega)
  rw [show (1 : Nat) = 0 + 1 from rfl, pB_no (p := 0) h]
  rfl
/-- All parts. -/
def parts (r : Int) (n : Nat) : List Nat := pB r n (n + 1)
theorem parts_at {r : Int} {n p : Nat} (h : n < 2 * p) (hp : p ≤ n + 1) : pB r n p = parts r n := by
  unfold parts
  obtain ⟨d, hd⟩ : ∃ d, n + 1 = p + d := ⟨n + 1 - p, by omega⟩
  rw [hd, pB_same d]
  intro q h1 h2
  exact decide_eq_false (by omega)
theorem parts_mem {r : Int} {n q : Nat} (h : q ∈ parts r n) : 1 ≤ q ∧ 2 * q ≤ n := by
  have := scan_of (pB_mem h).2
  omega

/-- What a table is filled with, row by row: from the heap, and from what is told of both parts of each split. -/
def tbl {α : Type} (z : α) (r : Int) (f : Nat → List (α × α) → α) : Nat → List α
  | 0 => [z]
  | n + 1 => tbl z r f n ++ [f (n + 1) ((parts r (n + 1)).map fun p => ((tbl z r f n).getD (n + 1 - p) z, (tbl z r f n).getD p z))]
section
variable {α : Type} {z : α} {r : Int} {f : Nat → List (α × α) → α}
theorem tbl_length : ∀ n, (tbl z r f n).length = n + 1
  | 0 => rfl
  | n + 1 => by simp [tbl, tbl_length n]
theorem tbl_succ (n : Nat) : tbl z r f (n + 1) = tbl z r f n ++ [f (n + 1) ((parts r (n + 1)).map fun p => ((tbl z r f n).getD (n + 1 - p) z, (tbl z r f n).getD p z))] := rfl
theorem tbl_get {n m k : Nat} (h : k ≤ n) (h' : n ≤ m) : (tbl z r f m).getD k z = (tbl z r f n).getD k z := by
  induction m with
  | zero => rw [show n = 0 by omega]
  | succ m ih =>
    rcases Nat.lt_or_ge n (m + 1) with h1 | h1
    · rw [← ih (by omega)]
      rw [tbl_succ, List.getD_eq_getElem?_getD, List.getD_eq_getElem?_getD, List.getElem?_append_left (by rw [tbl_length]; omega)]
    · rw [show n = m + 1 by omega]
/-- The pairs that are told of, of the parts less than p. -/
def told (t : List α) (z : α) (r : Int) (n p : Nat) : List (α × α) := (pB r n p).map fun q => (t.getD (n - q) z, t.getD q z)
theorem tbl_last (n : Nat) : (tbl z r f (n + 1)).getD (n + 1) z = f (n + 1) (told (tbl z r f n) z r (n + 1) (n + 2)) := by
  show (tbl z r f n ++ [_]).getD (n + 1) z = _
  rw [List.getD_eq_getElem?_getD, List.getElem?_append_right (by rw [tbl_length]; omega), tbl_length]
  simp [told, parts]
end

/-- The values of heaps. -/
def seenL (l : List (Int × Int)) : List Int := l.map fun x => xr x.1 x.2
noncomputable def valF (_ : Nat) (l : List (Int × Int)) : Int := (mex (seenL l) : Nat)
noncomputable def vals (r : Int) (n : Nat) : List Int := tbl 0 r valF n
theorem vals_bd (r : Int) : ∀ n k : Nat, n ≤ 60 → 0 ≤ (vals r n).getD k 0 ∧ (vals r n).getD k 0 ≤ 62
  | 0, k, _ => by
    show 0 ≤ [0].getD k 0 ∧ [0].getD k 0 ≤ 62
    cases k <;> simp
  | n + 1, k, hn => by
    by_cases hk : k ≤ n
    · have := vals_bd r n k (by omega)
      unfold vals at this ⊢
      rw [tbl_get hk (by omega)]; exact this
    · by_cases he : k = n + 1
      · subst he
        unfold vals
        rw [tbl_last]
        rw [show valF (n + 1) (told (tbl 0 r valF n) 0 r (n + 1) (n + 2)) = (mex (seenL (told (tbl 0 r valF n) 0 r (n + 1) (n + 2))) : Nat) from rfl]
        have := mex_le (seenL (told (tbl 0 r valF n) 0 r (n + 1) (n + 2)))
        have h2 : (seenL (told (tbl 0 r valF n) 0 r (n + 1) (n + 2))).length ≤ n + 2 := by
          unfold seenL told; rw [List.length_map, List.length_map]; exact pB_len _ _ _
        omega
      · rw [List.getD_eq_getElem?_getD, List.getElem?_eq_none (by unfold vals; rw [tbl_length]; omega)]
        simp
end Go.Proofs.Ytkipalcmeemjbaa
