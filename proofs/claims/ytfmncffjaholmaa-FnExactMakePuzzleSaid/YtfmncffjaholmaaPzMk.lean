
/-
  MAKEPUZZLE: the numbers z, a clue of a kind that heaps fit, both ways.
-/
import Derived.Test.YtfmncffjaholmaaPzHi
import Derived.Test.YtfmncffjaholmaaPzU
import Derived.Test.YtfmncffjaholmaaPzL
namespace Go.Proofs.Ytfmncffjaholmaa
open Go.RowKit Go.Deep
set_option linter.unusedVariables false

/-- The next number. -/
def nextZ (z : Int) : Int := (229 * z + 1951) % 10007
theorem nextZ_bd (z : Int) : 0 ≤ nextZ z ∧ nextZ z ≤ 10006 := by unfold nextZ; omega
/-- A clue of a kind that heaps fit, with a number for what is chosen. -/
def selA (n k y : Int) : Int := if k = 1 ∨ k = 4 then y % n else if k = 2 then y % 6 else 0
def selB (n k y : Int) : Int := if k = 1 ∨ k = 4 then (y + 1) % n else 0
def clueFor (zs : List Int) (k y : Int) : Cl := ⟨k, selA zs.length k y, selB zs.length k y, told k (selA zs.length k y) (selB zs.length k y) zs⟩
theorem sel_ok {n : Nat} (h : 2 ≤ n) (k y : Int) : subOk n k (selA n k y) (selB n k y) := by
  intro e
  unfold selA selB
  rw [if_pos e, if_pos e]
  have h1 := Int.emod_nonneg y (show (n : Int) ≠ 0 by omega)
  have h2 := Int.emod_lt_of_pos y (show (0 : Int) < n by omega)
  have h3 := Int.emod_nonneg (y + 1) (show (n : Int) ≠ 0 by omega)
  have h4 := Int.emod_lt_of_pos (y + 1) (show (0 : Int) < n by omega)
  exact ⟨⟨h1, h2⟩, h3, h4⟩
/-- The number behind m clues. -/
def numZ (z : Int) : Nat → Int
  | 0 => z
  | m + 1 => nextZ (nextZ (numZ z m))
def mkC (zs : List Int) (z : Int) (m : Nat) : Cl := clueFor zs (nextZ (numZ z m) % 6) (nextZ (nextZ (numZ z m)))
def mkL (zs : List Int) (z : Int) (m : Nat) : List Cl := (List.range m).map (mkC zs z)
theorem mkL_length (zs : List Int) (z : Int) (m : Nat) : (mkL zs z m).length = m := by simp [mkL]
theorem mkL_succ (zs : List Int) (z : Int) (m : Nat) : mkL zs z (m + 1) = mkL zs z m ++ [mkC zs z m] := by simp [mkL, List.range_succ]
theorem numZ_bd {z : Int} (h : 0 ≤ z ∧ z ≤ 9999) (m : Nat) : 0 ≤ numZ z m ∧ numZ z m ≤ 10006 := by
  cases m with
  | zero => simp only [numZ]; omega
  | succ m => exact nextZ_bd _
def mkOk (zs : List Int) (m s : Int) : Bool := hidOk zs && (decide (0 ≤ m ∧ m ≤ 6) && decide (0 ≤ s ∧ s ≤ 9999))

section
variable {w w' : World} {b : Nat} {T : TypeId} {c : Cl}
theorem cbox_mod {cs : Array Value} {r : Nat × Nat} (h : w.heap[b]? = some (.cells cs T r)) (i : Nat) (v : Value) : (w.setCell ⟨b, i, none⟩ v).heap[b]? = some (.cells (cs.setIfInBounds i v) T r) := by
  obtain ⟨hlt, he⟩ := Array.getElem?_eq_some_iff.1 h
  show (w.heap.modify b _)[b]? = _
  rw [Array.getElem?_eq_getElem (by simpa using hlt), Array.getElem_modify_self, he]
  rfl
theorem CBox.f (h : CBox w b T c) (j : Nat) : w.frozen? ⟨b, j, none⟩ = false := by simp [World.frozen?, show w.heap[b]? = _ from h]
theorem CBox.set0 (h : CBox w b T c) (x : Int) : CBox (w.setCell ⟨b, 0, none⟩ (.int .i64 x)) b T ⟨x, c.x1, c.x2, c.x3⟩ := cbox_mod h 0 _
theorem CBox.set1 (h : CBox w b T c) (x : Int) : CBox (w.setCell ⟨b, 1, none⟩ (.int .i64 x)) b T ⟨c.x0, x, c.x2, c.x3⟩ := cbox_mod h 1 _
theorem CBox.set2 (h : CBox w b T c) (x : Int) : CBox (w.setCell ⟨b, 2, none⟩ (.int .i64 x)) b T ⟨c.x0, c.x1, x, c.x3⟩ := cbox_mod h 2 _
theorem CBox.set3 (h : CBox w b T c) (x : Int) : CBox (w.setCell ⟨b, 3, none⟩ (.int .i64 x)) b T ⟨c.x0, c.x1, c.x2, x⟩ := cbox_mod h 3 _
theorem CBox.setOther (h : CBox w b T c) {a : Addr} (ha : b ≠ a.block) (v : Value) : CBox (w.setCell a v) b T c := (Below.heap_setCell _ _ _ _ ha).trans h
end

theorem pzNext_any (z : Int) (w : World) (h : 0 ≤ z ∧ z ≤ 10006) :
    Calls Try.prog 14 #[.int .i64 z] w fun e w' => e = .returned (.int .i64 (nextZ z)) ∧ w = w' := by
  obtain ⟨h1, h2⟩ := h
  go_enter Try.func14, Try.ntmps14
  go_wp2
  go_ret
  exact ⟨rfl, rfl⟩
theorem numberBehind_any (z : Int) (w : World) (h : 0 ≤ z ∧ z ≤ 10006) :
    Calls Try.prog 17 #[.int .i64 z] w fun e w' => e = .returned (.int .i64 (nextZ z)) ∧ w = w' := by
  obtain ⟨h1, h2⟩ := h
  go_enter Try.func17, Try.ntmps17
  go_wp2
  go_ret
  exact ⟨ret_int (by unfold nextZ; rw [Int.mul_comm]), rfl⟩
end Go.Proofs.Ytfmncffjaholmaa
