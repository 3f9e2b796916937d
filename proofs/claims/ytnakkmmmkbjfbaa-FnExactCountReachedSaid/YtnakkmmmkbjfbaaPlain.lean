
/-
  PLAIN FACTS ON LISTS OF NUMBERS. No program is named here.
-/
namespace Go.Proofs.Ytnakkmmmkbjfbaa
/-- Numbers between two bounds. -/
def within (lo hi : Int) (zs : List Int) : Bool := zs.all fun n => decide (lo ≤ n ∧ n ≤ hi)
theorem within_get {lo hi : Int} {zs : List Int} (h : within lo hi zs = true) (k : Nat) (hk : k < zs.length) : lo ≤ zs[k] ∧ zs[k] ≤ hi := by
  unfold within at h
  have := List.all_eq_true.1 h zs[k] (List.getElem_mem hk)
  simpa using this
theorem within_of {lo hi : Int} {zs : List Int} (h : ∀ (k : Nat) (_ : k < zs.length), lo ≤ zs[k] ∧ zs[k] ≤ hi) : within lo hi zs = true := by
  unfold within
  rw [List.all_eq_true]
  intro x hx
  obtain ⟨k, hk, rfl⟩ := List.getElem_of_mem hx
  simpa using h k hk
theorem within_not {lo hi : Int} {zs : List Int} (k : Nat) (hk : k < zs.length) (h : ¬ (lo ≤ zs[k] ∧ zs[k] ≤ hi)) : within lo hi zs = false := by
  cases hw : within lo hi zs
  · rfl
  · exact absurd (within_get hw k hk) h
/-- Heaps. -/
def good (zs : List Int) : Bool := decide (1 ≤ zs.length ∧ zs.length ≤ 12) && within 0 1000 zs
theorem good_of {zs : List Int} (h : good zs = true) : 1 ≤ zs.length ∧ zs.length ≤ 12 ∧ within 0 1000 zs = true := by
  unfold good at h
  simp at h
  exact ⟨by omega, h.1.2, h.2⟩
theorem good_get {zs : List Int} (h : good zs = true) (k : Nat) (hk : k < zs.length) : 0 ≤ zs[k] ∧ zs[k] ≤ 1000 := within_get (good_of h).2.2 k hk
/-- The sum. -/
def tot : List Int → Int
  | [] => 0
  | x :: xs => x + tot xs
theorem tot_append (a b : List Int) : tot (a ++ b) = tot a + tot b := by
  induction a with
  | nil => simp [tot]
  | cons x xs ih => simp [tot, ih]; omega
theorem tot_take_succ (zs : List Int) (k : Nat) (hk : k < zs.length) : tot (zs.take (k + 1)) = tot (zs.take k) + zs[k] := by
  rw [List.take_succ_eq_append_getElem hk, tot_append]; simp [tot]
theorem tot_bd (lo hi : Int) (zs : List Int) (h : within lo hi zs = true) : lo * zs.length ≤ tot zs ∧ tot zs ≤ hi * zs.length := by
  induction zs with
  | nil => simp [tot]
  | cons x xs ih =>
    have h0 := within_get h 0 (by simp)
    have h1 : within lo hi xs = true := by unfold within at h ⊢; simp at h ⊢; exact h.2
    have := ih h1
    simp [tot, Int.mul_add] at *
    omega
end Go.Proofs.Ytnakkmmmkbjfbaa
