import Derived.Test.YtediapekgbekeaaMg01
import Derived.Test.YtediapekgbekeaaMg14

/-
  THE BITS OF SETS OF AT MOST EIGHT HEAPS.
-/
namespace Go.Proofs.Ytediapekgbekeaa
open Go.RowKit Go.Deep

theorem b_shr : ∀ (s : Fin 256) (k : Fin 8), (bits BinOp.and IntKind.i64 (((s.val : Nat) : Int) / 2 ^ k.val) 1 == 1) = s.val.testBit k.val := by decide +kernel
theorem b_and : ∀ (s : Fin 256) (k : Fin 8), (bits BinOp.and IntKind.i64 ((s.val : Nat) : Int) (wrap64 (2 ^ k.val)) == 0) = !(s.val.testBit k.val) := by decide +kernel
theorem b_not : ∀ (s : Fin 256) (k : Fin 8), s.val.testBit k.val = true → bits BinOp.andNot IntKind.i64 ((s.val : Nat) : Int) (wrap64 (2 ^ k.val)) = ((s.val - 2 ^ k.val : Nat) : Int) := by decide +kernel
theorem b_sub : ∀ (s : Fin 256) (k : Fin 8), s.val.testBit k.val = true → wrap64 (((s.val : Nat) : Int) - wrap64 (2 ^ k.val)) = ((s.val - 2 ^ k.val : Nat) : Int) := by decide +kernel
theorem b_pow : ∀ k : Fin 8, wrap64 (2 ^ k.val) = ((2 ^ k.val : Nat) : Int) := by decide +kernel
def sub2 (s k : Nat) : Nat := s - 2 ^ k
theorem shl_sub (s k : Nat) (hb : s.testBit k = true) (hs : s < 256) (hk : k < 8) : wrap64 ((s : Int) - wrap64 (2 ^ k)) = ((sub2 s k : Nat) : Int) := b_sub ⟨s, hs⟩ ⟨k, hk⟩ hb
theorem c_pow : ∀ k : Fin 8, IntKind.i64.wrap (2 ^ k.val) = ((2 ^ k.val : Nat) : Int) := by decide +kernel
theorem c_pow1 : ∀ k : Fin 8, IntKind.i64.wrap (1 * 2 ^ k.val) = ((2 ^ k.val : Nat) : Int) := by decide +kernel
theorem c_sub : ∀ (s : Fin 256) (k : Fin 8), s.val.testBit k.val = true → IntKind.i64.wrap (((s.val : Nat) : Int) - ((2 ^ k.val : Nat) : Int)) = ((s.val - 2 ^ k.val : Nat) : Int) := by decide +kernel
theorem c_subI : ∀ (s : Fin 256) (k : Fin 8), s.val.testBit k.val = true → IntKind.i64.wrap (((s.val : Nat) : Int) - 2 ^ k.val) = ((s.val - 2 ^ k.val : Nat) : Int) := by decide +kernel
theorem d_bit : ∀ (s : Fin 256) (k j : Fin 8), s.val.testBit k.val = true → (s.val - 2 ^ k.val).testBit j.val = (s.val.testBit j.val && !(j.val == k.val)) := by decide +kernel
theorem d_yes : ∀ (s : Fin 256) (k : Fin 8), s.val.testBit k.val = true → s.val % 2 ^ (k.val + 1) ≠ 0 := by decide +kernel
theorem d_no : ∀ (s : Fin 256) (k : Fin 8), s.val.testBit k.val = false → s.val % 2 ^ (k.val + 1) = s.val % 2 ^ k.val := by decide +kernel
theorem sm_less (D : List Int) (s k : Nat) (hs : s < 256) (hk : k < 8) (hb : s.testBit k = true) : ∀ n, n ≤ 8 → sm D (s - 2 ^ k) n + (if k < n then D.getD k 0 else 0) = sm D s n := by
  intro n
  induction n with
  | zero => intro _; simp [sm]
  | succ n ih =>
    intro hn
    have ih := ih (by omega)
    have hd := d_bit ⟨s, hs⟩ ⟨k, hk⟩ ⟨n, by omega⟩ hb
    simp only at hd
    unfold sm
    rw [hd]
    by_cases hnk : n = k
    · subst hnk
      rw [hb]
      simp at ih ⊢
      omega
    · have h2 : (n == k) = false := by simp [hnk]
      rw [h2]
      simp only [Bool.not_false, Bool.and_true]
      by_cases hlt : k < n
      · rw [if_pos hlt] at ih
        rw [show (if k < n + 1 then D.getD k 0 else 0) = D.getD k 0 from if_pos (by omega)]
        split <;> omega
      · rw [if_neg hlt] at ih
        rw [show (if k < n + 1 then D.getD k 0 else 0) = 0 from if_neg (by omega)]
        split <;> omega
theorem e_not (s k : Nat) (hb : s.testBit k = true) (hs : s < 256) (hk : k < 8) : bits BinOp.andNot IntKind.i64 (s : Int) (wrap64 (2 ^ k)) = ((sub2 s k : Nat) : Int) := b_not ⟨s, hs⟩ ⟨k, hk⟩ hb
end Go.Proofs.Ytediapekgbekeaa
