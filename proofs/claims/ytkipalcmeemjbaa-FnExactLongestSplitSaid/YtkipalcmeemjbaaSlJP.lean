
/-
  LENGTHS OF GAMES OF ONE HEAP, plainly: the greatest and the least one. No program is named here.
-/
import Derived.Test.YtkipalcmeemjbaaSlVP
namespace Go.Proofs.Ytkipalcmeemjbaa
open Go.RowKit
set_option linter.unusedVariables false

def pk (L : Bool) (a b : Int) : Int := if L then max a b else min a b
/-- The greatest, or the least, of a list; -1 of none. -/
def pickL (L : Bool) : List Int → Int
  | [] => -1
  | x :: xs => xs.foldl (pk L) x
theorem pick_one (L : Bool) (x : Int) : pickL L ([] ++ [x]) = x := rfl
theorem pick_snoc {L : Bool} {l : List Int} (h : l ≠ []) (x : Int) : pickL L (l ++ [x]) = pk L (pickL L l) x := by
  cases l with
  | nil => exact absurd rfl h
  | cons y ys => simp [pickL, List.foldl_append]
theorem pk_or (L : Bool) (a b : Int) : pk L a b = a ∨ pk L a b = b := by unfold pk; split <;> omega
theorem pick_mem {L : Bool} : ∀ {l : List Int}, l ≠ [] → pickL L l ∈ l
  | [], h => absurd rfl h
  | x :: xs, _ => by
    have key : ∀ (xs : List Int) (a : Int), xs.foldl (pk L) a = a ∨ xs.foldl (pk L) a ∈ xs := by
      intro xs
      induction xs with
      | nil => intro a; exact .inl rfl
      | cons y ys ih =>
        intro a
        rw [List.foldl_cons]
        rcases ih (pk L a y) with h | h
        · rw [h]
          rcases pk_or L a y with e | e
          · exact .inl e
          · rw [e]; exact .inr List.mem_cons_self
        · exact .inr (List.mem_cons_of_mem _ h)
    rcases key xs x with h | h
    · show xs.foldl (pk L) x ∈ x :: xs
      rw [h]; exact List.mem_cons_self
    · exact List.mem_cons_of_mem _ h
theorem pick_max {l : List Int} (h : l ≠ []) : l.foldl max (l.headD 0) = pickL true l := by
  cases l with
  | nil => exact absurd rfl h
  | cons x xs =>
    show (x :: xs).foldl max x = xs.foldl (pk true) x
    rw [List.foldl_cons, Int.max_self]
    rfl
theorem pick_min {l : List Int} (h : l ≠ []) : l.foldl min (l.headD 0) = pickL false l := by
  cases l with
  | nil => exact absurd rfl h
  | cons x xs =>
    show (x :: xs).foldl min x = xs.foldl (pk false) x
    rw [List.foldl_cons, Int.min_self]
    rfl

def addL (l : List (Int × Int)) : List Int := l.map fun x => 1 + x.1 + x.2
def lenF (L : Bool) (_ : Nat) (l : List (Int × Int)) : Int := max 0 (pickL L (addL l))
def lens (L : Bool) (r : Int) (n : Nat) : List Int := tbl 0 r (lenF L) n
theorem lens_length (L : Bool) (r : Int) (n : Nat) : (lens L r n).length = n + 1 := tbl_length n
theorem lens_get {L : Bool} {r : Int} {k n M : Nat} (h : k ≤ n) (h' : n ≤ M) : (lens L r M).getD k 0 = (lens L r n).getD k 0 := by
  unfold lens; exact tbl_get h h'
theorem lens_last (L : Bool) (r : Int) (n : Nat) : (lens L r (n + 1)).getD (n + 1) 0 = lenF L (n + 1) (told (lens L r n) 0 r (n + 1) (n + 2)) := tbl_last n
theorem lens_succ (L : Bool) (r : Int) (n : Nat) : lens L r (n + 1) = lens L r n ++ [lenF L (n + 1) (told (lens L r n) 0 r (n + 1) (n + 2))] := rfl
/-- What is told of the parts of a heap of n keeps within n - 1. -/
theorem addL_bd {t : List Int} {r : Int} {n p : Nat} (ht : ∀ k, 0 ≤ t.getD k 0 ∧ (1 ≤ k → k < n → t.getD k 0 + 1 ≤ k)) : ∀ x ∈ addL (told t 0 r n p), 1 ≤ x ∧ x + 1 ≤ n := by
  intro x hx
  unfold addL told at hx
  rw [List.map_map, List.mem_map] at hx
  obtain ⟨q, hq, rfl⟩ := hx
  have hm := scan_of (pB_mem hq).2
  have a := ht q
  have b := ht (n - q)
  have a2 := a.2 (by omega) (by omega)
  have b2 := b.2 (by omega) (by omega)
  show 1 ≤ 1 + t.getD (n - q) 0 + t.getD q 0 ∧ 1 + t.getD (n - q) 0 + t.getD q 0 + 1 ≤ n
  omega
theorem lens_bd (L : Bool) (r : Int) : ∀ n k : Nat, 0 ≤ (lens L r n).getD k 0 ∧ (lens L r n).getD k 0 ≤ n ∧ (1 ≤ k → k ≤ n → (lens L r n).getD k 0 + 1 ≤ k)
  | 0, k => by
    show 0 ≤ [(0 : Int)].getD k 0 ∧ [(0 : Int)].getD k 0 ≤ 0 ∧ _
    refine ⟨by cases k <;> simp, by cases k <;> simp, fun h1 h2 => by omega⟩
  | n + 1, k => by
    have ih := lens_bd L r n
    by_cases hk : k ≤ n
    · have := ih k
      rw [lens_get hk (Nat.le_succ n)]
      refine ⟨this.1, by have := this.2.1; omega, fun h1 h2 => this.2.2 h1 hk⟩
    · by_cases he : k = n + 1
      · subst he
        rw [lens_last]
        have hx := addL_bd (t := lens L r n) (r := r) (n := n + 1) (p := n + 2) (fun k => ⟨(ih k).1, fun h1 h2 => (ih k).2.2 h1 (by omega)⟩)
        unfold lenF
        cases hl : addL (told (lens L r n) 0 r (n + 1) (n + 2)) with
        | nil => simp [pickL]; omega
        | cons y ys =>
          rw [hl] at hx
          have := hx _ (pick_mem (L := L) (l := y :: ys) (by simp))
          omega
      · rw [List.getD_eq_getElem?_getD, List.getElem?_eq_none (by rw [lens_length]; omega)]
        refine ⟨by simp, by simp; omega, fun h1 h2 => by omega⟩
theorem addL_yes {t : List Int} {r : Int} {n p : Nat} (h : scan r n p = true) : addL (told t 0 r n (p + 1)) = addL (told t 0 r n p) ++ [1 + t.getD (n - p) 0 + t.getD p 0] := by
  unfold addL told; rw [pB_yes h]; simp
theorem addL_no {t : List Int} {r : Int} {n p : Nat} (h : scan r n p = false) : addL (told t 0 r n (p + 1)) = addL (told t 0 r n p) := by
  unfold addL told; rw [pB_no h]
theorem addL_one (t : List Int) (r : Int) (n : Nat) : addL (told t 0 r n 1) = [] := by unfold addL told; rw [pB_one]; rfl
theorem addL_end {t : List Int} {r : Int} {n p : Nat} (h : n < 2 * p) (hp : p ≤ n + 1) : addL (told t 0 r n p) = addL (told t 0 r n (n + 1)) := by
  unfold addL told; rw [parts_at h hp]; rfl
theorem addL_len (t : List Int) (r : Int) (n p : Nat) : (addL (told t 0 r n p)).length ≤ p := by
  unfold addL told; rw [List.length_map, List.length_map]; exact pB_len _ _ _
end Go.Proofs.Ytkipalcmeemjbaa
