
/-
  TEXTS OF DOUBLINGS READ BACK, plainly. No program is named here.
-/
import Derived.Test.YtlblajmblaknoaaDoorParP
import Derived.Test.YtlblajmblaknoaaDoorTextD
namespace Go.Proofs.YtlblajmblaknoaaDoor
open Go.RowKit
set_option linter.unusedVariables false

/-- The two bytes of a word as the heaps of a doubling. -/
def dbOf (w : List UInt8) : Db := ⟨((w.getD 0 0).toNat : Int) - 48, ((w.getD 1 0).toNat : Int) - 48⟩
def twoAll (ws : List (List UInt8)) : Bool := ws.all fun w => decide (w.length = 2)
/-- What the program reads of a word. -/
def pd (w : List UInt8) : Option Db := if w.length = 2 then (if two 4 (dbOf w).x0 (dbOf w).x1 then some (dbOf w) else none) else none
def pdAll : List (List UInt8) → Option (List Db)
  | [] => some []
  | w :: ws => match pd w with
    | none => none
    | some d => match pdAll ws with
      | none => none
      | some ds => some (d :: ds)

theorem pd_some {w : List UInt8} (h1 : w.length = 2) (h2 : two 4 (dbOf w).x0 (dbOf w).x1 = true) : pd w = some (dbOf w) := by
  unfold pd; rw [if_pos h1, if_pos h2]
theorem pd_cases (w : List UInt8) : pd w = none ∨ (w.length = 2 ∧ two 4 (dbOf w).x0 (dbOf w).x1 = true ∧ pd w = some (dbOf w)) := by
  by_cases h1 : w.length = 2
  · cases h2 : two 4 (dbOf w).x0 (dbOf w).x1
    · left; unfold pd; rw [if_pos h1, h2]; rfl
    · exact .inr ⟨h1, rfl, pd_some h1 h2⟩
  · left; unfold pd; rw [if_neg h1]
theorem pdAll_cases : ∀ (ws : List (List UInt8)), (pdAll ws = some (ws.map dbOf) ∧ twoAll ws = true ∧ dbGoodL (ws.map dbOf) = true) ∨ (pdAll ws = none ∧ (twoAll ws && dbGoodL (ws.map dbOf)) = false)
  | [] => .inl ⟨rfl, rfl, rfl⟩
  | w :: ws => by
    have ht : twoAll (w :: ws) = (decide (w.length = 2) && twoAll ws) := rfl
    have hg : dbGoodL ((w :: ws).map dbOf) = (two 4 (dbOf w).x0 (dbOf w).x1 && dbGoodL (ws.map dbOf)) := rfl
    rcases pd_cases w with h | ⟨h1, h2, h3⟩
    · refine .inr ⟨by unfold pdAll; rw [h], ?_⟩
      rw [ht, hg]
      unfold pd at h
      split at h
      · split at h
        · cases h
        · rename_i h1 h2
          have h3 : two 4 (dbOf w).x0 (dbOf w).x1 = false := by simpa using h2
          rw [h3]; simp
      · rename_i h1
        rw [decide_eq_false h1]; rfl
    · rcases pdAll_cases ws with ⟨h4, h5, h6⟩ | ⟨h4, h5⟩
      · refine .inl ⟨?_, ?_, ?_⟩
        · unfold pdAll; rw [h3, h4]; rfl
        · rw [ht, h5, decide_eq_true h1]; rfl
        · rw [hg, h6, h2]; rfl
      · refine .inr ⟨by unfold pdAll; rw [h3, h4], ?_⟩
        rw [ht, hg, h2, decide_eq_true h1]
        simpa using h5

theorem join_spc : ∀ (l cur : List UInt8), Lib.join (spc cur l) [45] = cur ++ l
  | [], cur => by simp [spc, Lib.join_one]
  | c :: r, cur => by
    unfold spc
    by_cases h : c = 45
    · subst h
      rw [if_pos rfl, Lib.join_cons]
      have ih := join_spc r []
      have hne : spc [] r ≠ [] := by
        intro e
        have := spc_length r []
        rw [e] at this
        simp at this
      cases hs : spc [] r with
      | nil => exact absurd hs hne
      | cons x xs =>
        rw [hs, Lib.join_cons] at ih
        simp only [Lib.joinTail, List.nil_append] at ih ⊢
        rw [← ih]
        simp
    · rw [if_neg h, join_spc r]; simp
theorem join_sp (l : List UInt8) : Lib.join (sp l) [45] = l := join_spc l []

theorem digit_back (c : UInt8) (h0 : 0 ≤ (c.toNat : Int) - 48) (h : (c.toNat : Int) - 48 < 4) : dtxt ((c.toNat : Int) - 48) = [c] := by
  unfold dtxt
  rw [Lib.decDigits_one (by omega), show 48 + ((c.toNat : Int) - 48).toNat = c.toNat by omega, UInt8.ofNat_toNat]
theorem dbW_back {w : List UInt8} (h1 : w.length = 2) (h2 : two 4 (dbOf w).x0 (dbOf w).x1 = true) : dbW (dbOf w) = w := by
  have hb := two_bd h2
  match w, h1 with
  | [a, b], _ =>
    unfold dbOf at hb
    simp only [List.getD_cons_zero, List.getD_cons_succ] at hb
    unfold dbW dbOf
    simp only [List.getD_cons_zero, List.getD_cons_succ]
    rw [digit_back a (by omega) (by omega), digit_back b (by omega) (by omega)]
    rfl
theorem map_back : ∀ {ws : List (List UInt8)}, twoAll ws = true → dbGoodL (ws.map dbOf) = true → (ws.map dbOf).map dbW = ws
  | [], _, _ => rfl
  | w :: ws, h1, h2 => by
    have ht : (decide (w.length = 2) && twoAll ws) = true := h1
    have hg : (two 4 (dbOf w).x0 (dbOf w).x1 && dbGoodL (ws.map dbOf)) = true := h2
    simp only [Bool.and_eq_true, decide_eq_true_eq] at ht hg
    rw [List.map_cons, List.map_cons, dbW_back ht.1 hg.1, map_back ht.2 hg.2]
/-- The text of what was read is the text. -/
theorem dbT_back (l : List UInt8) (h1 : twoAll (sp l) = true) (h2 : dbGoodL ((sp l).map dbOf) = true) : dbT ((sp l).map dbOf) = l := by
  unfold dbT
  rw [map_back h1 h2, join_sp]
theorem lens_two : ∀ (ws : List (List UInt8)), twoAll ws = true → lens ws = 3 * ws.length
  | [], _ => rfl
  | w :: ws, h => by
    have ht : (decide (w.length = 2) && twoAll ws) = true := h
    simp only [Bool.and_eq_true, decide_eq_true_eq] at ht
    rw [lens, lens_two ws ht.2, ht.1, List.length_cons]; omega
theorem db_short (l : List UInt8) (h1 : twoAll (sp l) = true) (h2 : (sp l).length ≤ 100) : l.length ≤ 299 := by
  have h3 := spc_lens l []
  have h4 := lens_two _ h1
  unfold sp at h1 h2 h4
  rw [h3] at h4
  simp at h4
  omega
/-- What both give: the doublings, where the text is one of at most 100. -/
def dpOk (l : List UInt8) : Bool := l.isEmpty || (decide ((sp l).length ≤ 100) && (twoAll (sp l) && dbGoodL ((sp l).map dbOf)))
def dpL (l : List UInt8) : List Db := if dpOk l then (if l.isEmpty then [] else (sp l).map dbOf) else []
end Go.Proofs.YtlblajmblaknoaaDoor
