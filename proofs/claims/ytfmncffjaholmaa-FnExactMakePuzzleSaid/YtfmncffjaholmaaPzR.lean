
/-
  CLUES, THE PROGRAM's WAY: what each kind bounds and tells of; a clue that is none is raised.
-/
import Derived.Test.YtfmncffjaholmaaPzP
import Derived.Test.YtfmncffjaholmaaTwo
import Derived.Test.YtfmncffjaholmaaGood
import Derived.Test.YtfmncffjaholmaaRws
import Derived.Deep.RegionHeld3
import Derived.OneCell
import Derived.Deep.Cut
namespace Go.Proofs.Ytfmncffjaholmaa
open Go.RowKit Go.Deep
set_option linter.unusedVariables false

/-- A block of one clue. -/
def CBox (w : World) (b : Nat) (T : TypeId) (c : Cl) : Prop := w.heap[b]? = some (.cells #[.int .i64 c.x0, .int .i64 c.x1, .int .i64 c.x2, .int .i64 c.x3] T (0, 0))
section
variable {w w' : World} {b : Nat} {T : TypeId} {c : Cl}
theorem CBox.lt (h : CBox w b T c) : b < w.heap.size := lt_of_block h
theorem CBox.c0 (h : CBox w b T c) : w.cell? ⟨b, 0, none⟩ = some (.int .i64 c.x0) := by simp [World.cell?, show w.heap[b]? = _ from h]
theorem CBox.c1 (h : CBox w b T c) : w.cell? ⟨b, 1, none⟩ = some (.int .i64 c.x1) := by simp [World.cell?, show w.heap[b]? = _ from h]
theorem CBox.c2 (h : CBox w b T c) : w.cell? ⟨b, 2, none⟩ = some (.int .i64 c.x2) := by simp [World.cell?, show w.heap[b]? = _ from h]
theorem CBox.c3 (h : CBox w b T c) : w.cell? ⟨b, 3, none⟩ = some (.int .i64 c.x3) := by simp [World.cell?, show w.heap[b]? = _ from h]
theorem CBox.below {B : Nat} (h : CBox w b T c) (hb : Below B w w') (hB : b < B) : CBox w' b T c := (hb.block b hB).trans h
theorem CBox.next (h : CBox w b T c) (hb : Below w.heap.size w w') : CBox w' b T c := h.below hb h.lt
theorem CBox.alloc (h : CBox w b T c) (o : Obj) : CBox (w.alloc o) b T c := (Below.heap_alloc _ _ _ h.lt).trans h
theorem CBox.new (w : World) (T : TypeId) (c : Cl) : CBox (w.alloc (.cells #[.int .i64 c.x0, .int .i64 c.x1, .int .i64 c.x2, .int .i64 c.x3] T)) w.heap.size T c := by
  show (w.heap.push _)[w.heap.size]? = _
  simp
end

def topOf (h k : Int) : Int := if k = 0 ∨ k = 3 then 20 else if k = 1 then 1 else if k = 2 then h else if k = 4 then 10 else 5
def isKind (k : Int) : Prop := k = 0 ∨ k = 3 ∨ k = 1 ∨ k = 2 ∨ k = 4 ∨ k = 5
instance (k : Int) : Decidable (isKind k) := by unfold isKind; infer_instance
def subj (h : Int) (c : Cl) : Bool :=
  if c.x0 = 1 ∨ c.x0 = 4 then two h c.x1 c.x2 else if c.x0 = 2 then decide (0 ≤ c.x1 ∧ c.x1 ≤ 5) && decide (c.x2 = 0) else pzNone c
/-- What is raised. -/
def raisedBy (c : Cl) : List PanicEntry := [{ v := .iface 38 (.agg #[.int .i64 c.x0, .int .i64 c.x1, .int .i64 c.x2, .int .i64 c.x3]), recovered := false }]

theorem isHiddenCount_any (h : Int) (w : World) :
    Calls Try.prog 25 #[.int .i64 h] w fun e w' => e = .returned (.bool (decide (2 ≤ h ∧ h ≤ 4))) ∧ w = w' := by
  by_cases h1 : 2 ≤ h
  all_goals
    go_enter Try.func25, Try.ntmps25
    go_wp2
    go_ret
    exact ⟨ret_bool (by simp; omega), rfl⟩

/-- There is a clue of so many heaps, which are hidden ones. -/
def clueIs (h : Int) (c : Cl) : Bool := decide (2 ≤ h ∧ h ≤ 4) && clueOk h c
def cluesIs (h : Int) (cs : List Cl) : Bool := cs.all (clueIs h)
theorem cluesIs_eq {h : Int} (hh : 2 ≤ h ∧ h ≤ 4) (cs : List Cl) : cluesIs h cs = cluesOk h cs := by
  unfold cluesIs cluesOk
  congr 1
  funext c
  unfold clueIs
  rw [decide_eq_true hh, Bool.true_and]
theorem cluesIs_get {h : Int} {cs : List Cl} (ho : cluesIs h cs = true) (k : Nat) (hk : k < cs.length) : clueIs h cs[k] = true :=
  List.all_eq_true.mp ho _ (List.getElem_mem hk)
theorem cluesIs_of {h : Int} {cs : List Cl} (ho : ∀ (k : Nat) (hk : k < cs.length), clueIs h cs[k] = true) : cluesIs h cs = true :=
  List.all_eq_true.mpr fun x hx => by obtain ⟨k, hk, rfl⟩ := List.getElem_of_mem hx; exact ho k hk
theorem cluesIs_not {h : Int} {cs : List Cl} (k : Nat) (hk : k < cs.length) (ho : clueIs h cs[k] = false) : cluesIs h cs = false := by
  cases hc : cluesIs h cs
  · rfl
  · rw [cluesIs_get hc k hk] at ho; cases ho
/-- What is asked of a clue. -/
def reqOk (h : Int) (c : Cl) : Bool := decide (2 ≤ h ∧ h ≤ 4) && (decide (0 ≤ c.x3) && (decide (isKind c.x0 ∧ c.x3 ≤ topOf h c.x0) && subj h c))

theorem reqOk_eq (h : Int) (c : Cl) : reqOk h c = clueIs h c := by
  unfold clueIs reqOk
  congr 1
  have hT : two h c.x1 c.x2 = pzTwo h c.x1 c.x2 := by
    unfold two pzTwo
    by_cases h1 : 0 ≤ c.x1 <;> by_cases h2 : c.x1 < h <;> by_cases h3 : 0 ≤ c.x2 <;> by_cases h4 : c.x2 < h <;> by_cases h5 : c.x1 = c.x2 <;>
      simp [h1, h2, h3, h4, h5, show (c.x1 ≤ h - 1) ↔ c.x1 < h from by omega, show (c.x2 ≤ h - 1) ↔ c.x2 < h from by omega] <;> omega
  rw [clueOk_eq]
  unfold subj
  rw [hT]
  generalize pzTwo h c.x1 c.x2 = tt
  generalize hnn : pzNone c = nn
  obtain ⟨k, k1, k2, k3⟩ := c
  by_cases e0 : k = 0
  · subst e0
    rw [clueOk2_0]
    cases nn <;> simp [isKind, topOf]
  · by_cases e3 : k = 3
    · subst e3
      rw [clueOk2_3]
      cases nn <;> simp [isKind, topOf]
    · by_cases e1 : k = 1
      · subst e1
        rw [clueOk2_1]
        cases tt <;> simp [isKind, topOf]
      · by_cases e2 : k = 2
        · subst e2
          rw [clueOk2_2]
          simp only [isKind, topOf]
          by_cases h1 : 0 ≤ k1 <;> by_cases h2 : k1 ≤ 5 <;> by_cases h3 : k2 = 0 <;> simp [h1, h2, h3]
        · by_cases e4 : k = 4
          · subst e4
            rw [clueOk2_4]
            cases tt <;> simp [isKind, topOf]
          · by_cases e5 : k = 5
            · subst e5
              rw [clueOk2_5]
              cases nn <;> simp [isKind, topOf]
            · rw [clueOk2_n _ _ _ _ _ _ e0 e3 e1 e2 e4 e5]
              simp [isKind, e0, e1, e2, e3, e4, e5]
end Go.Proofs.Ytfmncffjaholmaa
