
/-
  PUZZLES, PLAINLY: what a clue is, what a puzzle is.
-/
import Derived.Test.YtmjlfmlbmegheaaDoorCl
namespace Go.Proofs.YtmjlfmlbmegheaaDoor
open Go.RowKit Go.Deep

def pzTwo (h a b : Int) : Bool := decide (0 ≤ a ∧ a ≤ h - 1) && (decide (0 ≤ b ∧ b ≤ h - 1) && decide (a ≠ b))
def pzNone (c : Cl) : Bool := decide (c.x1 = 0 ∧ c.x2 = 0)
/-- There is a clue of so many heaps. -/
def clueOk (h : Int) (c : Cl) : Bool :=
  if c.x0 = 0 ∨ c.x0 = 3 then pzNone c && decide (0 ≤ c.x3 ∧ c.x3 ≤ 20)
  else if c.x0 = 1 then pzTwo h c.x1 c.x2 && decide (0 ≤ c.x3 ∧ c.x3 ≤ 1)
  else if c.x0 = 2 then decide (0 ≤ c.x1 ∧ c.x1 ≤ 5) && (decide (c.x2 = 0) && decide (0 ≤ c.x3 ∧ c.x3 ≤ h))
  else if c.x0 = 4 then pzTwo h c.x1 c.x2 && decide (0 ≤ c.x3 ∧ c.x3 ≤ 10)
  else if c.x0 = 5 then pzNone c && decide (0 ≤ c.x3 ∧ c.x3 ≤ 5)
  else false
def clueOk2 (h k k1 k2 k3 : Int) (nn tt : Bool) : Bool :=
  if k = 0 ∨ k = 3 then nn && decide (0 ≤ k3 ∧ k3 ≤ 20)
  else if k = 1 then tt && decide (0 ≤ k3 ∧ k3 ≤ 1)
  else if k = 2 then decide (0 ≤ k1 ∧ k1 ≤ 5) && (decide (k2 = 0) && decide (0 ≤ k3 ∧ k3 ≤ h))
  else if k = 4 then tt && decide (0 ≤ k3 ∧ k3 ≤ 10)
  else if k = 5 then nn && decide (0 ≤ k3 ∧ k3 ≤ 5)
  else false
theorem clueOk_eq (h : Int) (c : Cl) : clueOk h c = clueOk2 h c.x0 c.x1 c.x2 c.x3 (pzNone c) (pzTwo h c.x1 c.x2) := rfl
section
variable (h k1 k2 k3 : Int) (nn tt : Bool)
theorem clueOk2_0 : clueOk2 h 0 k1 k2 k3 nn tt = (nn && decide (0 ≤ k3 ∧ k3 ≤ 20)) := by simp [clueOk2]
theorem clueOk2_3 : clueOk2 h 3 k1 k2 k3 nn tt = (nn && decide (0 ≤ k3 ∧ k3 ≤ 20)) := by simp [clueOk2]
theorem clueOk2_1 : clueOk2 h 1 k1 k2 k3 nn tt = (tt && decide (0 ≤ k3 ∧ k3 ≤ 1)) := by simp [clueOk2]
theorem clueOk2_2 : clueOk2 h 2 k1 k2 k3 nn tt = (decide (0 ≤ k1 ∧ k1 ≤ 5) && (decide (k2 = 0) && decide (0 ≤ k3 ∧ k3 ≤ h))) := by simp [clueOk2]
theorem clueOk2_4 : clueOk2 h 4 k1 k2 k3 nn tt = (tt && decide (0 ≤ k3 ∧ k3 ≤ 10)) := by simp [clueOk2]
theorem clueOk2_5 : clueOk2 h 5 k1 k2 k3 nn tt = (nn && decide (0 ≤ k3 ∧ k3 ≤ 5)) := by simp [clueOk2]
theorem clueOk2_n {k : Int} (h0 : ¬ k = 0) (h3 : ¬ k = 3) (h1 : ¬ k = 1) (h2 : ¬ k = 2) (h4 : ¬ k = 4) (h5 : ¬ k = 5) : clueOk2 h k k1 k2 k3 nn tt = false := by simp [clueOk2, h0, h1, h2, h3, h4, h5]
end
def cluesOk (h : Int) (cs : List Cl) : Bool := cs.all (clueOk h)
/-- There is a puzzle. -/
def pzOk (h : Int) (cs : List Cl) : Bool := decide (2 ≤ h ∧ h ≤ 4) && (decide (cs.length ≤ 6) && cluesOk h cs)

theorem cluesOk_get {h : Int} {cs : List Cl} (ho : cluesOk h cs = true) (k : Nat) (hk : k < cs.length) : clueOk h cs[k] = true :=
  List.all_eq_true.mp ho _ (List.getElem_mem hk)
theorem cluesOk_of {h : Int} {cs : List Cl} (ho : ∀ (k : Nat) (hk : k < cs.length), clueOk h cs[k] = true) : cluesOk h cs = true :=
  List.all_eq_true.mpr fun x hx => by obtain ⟨k, hk, rfl⟩ := List.getElem_of_mem hx; exact ho k hk
theorem cluesOk_not {h : Int} {cs : List Cl} (k : Nat) (hk : k < cs.length) (ho : clueOk h cs[k] = false) : cluesOk h cs = false := by
  cases hc : cluesOk h cs
  · rfl
  · rw [cluesOk_get hc k hk] at ho; cases ho
theorem pzOk_parts {h : Int} {cs : List Cl} (ho : pzOk h cs = true) : (2 ≤ h ∧ h ≤ 4) ∧ cs.length ≤ 6 ∧ cluesOk h cs = true := by
  unfold pzOk at ho
  simp only [Bool.and_eq_true, decide_eq_true_eq] at ho
  exact ho
end Go.Proofs.YtmjlfmlbmegheaaDoor
