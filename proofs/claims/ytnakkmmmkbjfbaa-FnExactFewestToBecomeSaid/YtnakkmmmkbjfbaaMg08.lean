import Derived.Test.YtnakkmmmkbjfbaaMg04

/-
  PLAIN FACTS FOR CHAPTER 1, THE SECOND PART: sums and shares. No program is named here.
-/
namespace Go.Proofs.Ytnakkmmmkbjfbaa

theorem within_take {lo hi : Int} {zs : List Int} (h : within lo hi zs = true) (k : Nat) : within lo hi (zs.take k) = true := by
  unfold within at h ⊢
  rw [List.all_eq_true] at h ⊢
  exact fun x hx => h x (List.mem_of_mem_take hx)
theorem within_wide {lo hi lo' hi' : Int} {zs : List Int} (h : within lo hi zs = true) (hl : lo' ≤ lo) (hh : hi ≤ hi') : within lo' hi' zs = true := by
  unfold within at h ⊢
  rw [List.all_eq_true] at h ⊢
  intro x hx
  have := h x hx
  simp at this ⊢
  omega
/-- Numbers of modest size: their partial sums do not wrap. -/
theorem tot_small {zs : List Int} (h : within (-1000000000) 1000000000 zs = true) (hn : zs.length ≤ 1000000) (k : Nat) :
    -1000000000000000 ≤ tot (zs.take k) ∧ tot (zs.take k) ≤ 1000000000000000 := by
  have := tot_bd _ _ _ (within_take h k)
  have hl : (zs.take k).length ≤ 1000000 := by rw [List.length_take]; omega
  omega
theorem good_small {zs : List Int} (h : good zs = true) : within (-1000000000) 1000000000 zs = true := within_wide (good_of h).2.2 (by omega) (by omega)
theorem good_tot {zs : List Int} (h : good zs = true) : 0 ≤ tot zs ∧ tot zs ≤ 12000 := by
  obtain ⟨_, h2, h3⟩ := good_of h
  have := tot_bd _ _ _ h3
  omega
theorem tot_all (zs : List Int) : tot (zs.take zs.length) = tot zs := by rw [List.take_length]

/-- How many stones there are; 0 where there are no heaps. -/
def stonesN (zs : List Int) : Int := if good zs then tot zs else 0
/-- Can they be shared equally? -/
def eqOk (zs : List Int) : Bool := good zs && decide (tot zs % zs.length = 0)
def shareN (zs : List Int) : Int := if good zs then tot zs / zs.length else 0
def leftN (zs : List Int) : Int := if good zs then tot zs % zs.length else 0
/-- The share of each, of heaps that can be made equal. -/
def shareEq (zs : List Int) : Int := if eqOk zs then tot zs / zs.length else 0
theorem stonesN_yes {zs : List Int} (h : good zs = true) : stonesN zs = tot zs := by simp [stonesN, h]
theorem stonesN_no {zs : List Int} (h : good zs = false) : stonesN zs = 0 := by simp [stonesN, h]
theorem shareN_yes {zs : List Int} (h : good zs = true) : shareN zs = tot zs / zs.length := by simp [shareN, h]
theorem shareN_no {zs : List Int} (h : good zs = false) : shareN zs = 0 := by simp [shareN, h]
theorem leftN_yes {zs : List Int} (h : good zs = true) : leftN zs = tot zs % zs.length := by simp [leftN, h]
theorem leftN_no {zs : List Int} (h : good zs = false) : leftN zs = 0 := by simp [leftN, h]
theorem eqOk_yes {zs : List Int} (h : good zs = true) : eqOk zs = (tot zs % zs.length == 0) := by
  unfold eqOk; rw [h, Bool.true_and, Bool.eq_iff_iff]; simp
theorem eqOk_no {zs : List Int} (h : good zs = false) : eqOk zs = false := by simp [eqOk, h]
theorem eqOk_good {zs : List Int} (h : eqOk zs = true) : good zs = true := by
  unfold eqOk at h; simp at h; exact h.1
theorem shareEq_yes {zs : List Int} (h : eqOk zs = true) : shareEq zs = tot zs / zs.length := by simp [shareEq, h]
theorem shareEq_no {zs : List Int} (h : eqOk zs = false) : shareEq zs = 0 := by simp [shareEq, h]
end Go.Proofs.Ytnakkmmmkbjfbaa
