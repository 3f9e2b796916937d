
/-
  ORDERS OF JOBS, PLAINLY: as they come, or the longest first. No program is named here.
-/
import Derived.Test.YtaplnbjljgeakaaLdG
namespace Go.Proofs.Ytaplnbjljgeakaa

/-- Where a job of n is put among the first k of an order. -/
def ordK (zs os : List Int) (n : Int) : Nat → Nat
  | 0 => 0
  | k + 1 => if zs.getD (os.getD k 0).toNat 0 < n then ordK zs os n k else k + 1
theorem ordK_le (zs os : List Int) (n : Int) : ∀ k, ordK zs os n k ≤ k
  | 0 => Nat.le_refl _
  | k + 1 => by
    unfold ordK
    split
    · have := ordK_le zs os n k; omega
    · exact Nat.le_refl _
def insAt (os : List Int) (k : Nat) (i : Int) : List Int := os.take k ++ [i] ++ os.drop k
def ordPos (b : Bool) (zs os : List Int) (n : Int) : Nat := if b then ordK zs os n os.length else os.length
theorem ordPos_le (b : Bool) (zs os : List Int) (n : Int) : ordPos b zs os n ≤ os.length := by
  unfold ordPos; split
  · exact ordK_le _ _ _ _
  · exact Nat.le_refl _
/-- The order of the first i jobs. -/
def ordS (b : Bool) (zs : List Int) : Nat → List Int
  | 0 => []
  | i + 1 => insAt (ordS b zs i) (ordPos b zs (ordS b zs i) (zs.getD i 0)) i
theorem insAt_length (os : List Int) (k : Nat) (i : Int) (h : k ≤ os.length) : (insAt os k i).length = os.length + 1 := by
  simp [insAt]; omega
theorem ordS_length (b : Bool) (zs : List Int) : ∀ i, (ordS b zs i).length = i
  | 0 => rfl
  | i + 1 => by
    rw [ordS, insAt_length _ _ _ (ordPos_le _ _ _ _), ordS_length b zs i]
theorem ordS_mem (b : Bool) (zs : List Int) : ∀ (i : Nat) (x : Int), x ∈ ordS b zs i → ∃ j : Nat, x = (j : Int) ∧ j < i
  | 0, x, h => by simp [ordS] at h
  | i + 1, x, h => by
    rw [ordS, insAt] at h
    simp only [List.mem_append, List.mem_singleton] at h
    rcases h with (h | h) | h
    · obtain ⟨j, h1, h2⟩ := ordS_mem b zs i x (List.mem_of_mem_take h); exact ⟨j, h1, by omega⟩
    · exact ⟨i, h, by omega⟩
    · obtain ⟨j, h1, h2⟩ := ordS_mem b zs i x (List.mem_of_mem_drop h); exact ⟨j, h1, by omega⟩
theorem ordS_get (b : Bool) (zs : List Int) (i k : Nat) (h : k < i) : ∃ j : Nat, (ordS b zs i).getD k 0 = (j : Int) ∧ j < i := by
  have hk : k < (ordS b zs i).length := by rw [ordS_length]; exact h
  rw [getD_at hk]
  exact ordS_mem b zs i _ (List.getElem_mem hk)
theorem ordS_false (zs : List Int) : ∀ i, ordS false zs i = rng i
  | 0 => rfl
  | i + 1 => by
    rw [ordS, ordS_false zs i, rng_succ]
    simp [insAt, ordPos]
def ordA (b : Bool) (zs : List Int) : List Int := ordS b zs zs.length
theorem ordA_length (b : Bool) (zs : List Int) : (ordA b zs).length = zs.length := ordS_length _ _ _
theorem ordK_yes {zs os : List Int} {n : Int} {k : Nat} (h : zs.getD (os.getD k 0).toNat 0 < n) : ordK zs os n (k + 1) = ordK zs os n k := by rw [ordK, if_pos h]
theorem ordK_no {zs os : List Int} {n : Int} {k : Nat} (h : ¬ zs.getD (os.getD k 0).toNat 0 < n) : ordK zs os n (k + 1) = k + 1 := by rw [ordK, if_neg h]
end Go.Proofs.Ytaplnbjljgeakaa
