
/-
  HOW MANY RINGS OF ZEROS AND ONES COME AGAIN THEMSELVES, BOTH WAYS: riBits, CountCycling.
-/
import Derived.Test.YtlafknagohploaaRiC
import Derived.Test.YtlafknagohploaaRiX
import Derived.Test.YtlafknagohploaaLaws0
namespace Go.Proofs.Ytlafknagohploaa
open Go.RowKit Go.Deep
set_option linter.unusedVariables false

theorem bitsL_take_succ (n x k : Nat) (hk : k < n) : (bitsL n x).take (k + 1) = (bitsL n x).take k ++ [((x / 2 ^ k % 2 : Nat) : Int)] := by
  rw [List.take_succ_eq_append_getElem (by rw [bitsL_length]; exact hk)]
  congr 2
  rw [← rget, bitsL_getD n x k hk]
/-- The model's riBits. -/
theorem riBits_any (n x : Nat) (w : World) (h1 : 2 ≤ n) (h2 : n ≤ 10) (hx : x < 1000000) :
    Calls Try.prog 47 #[.int .i64 (n : Int), .int .i64 (x : Int)] w (Made1 (bitsL n x) w) := by
  have HL := hide (bitsL_length n x)
  go_enter Try.func47, Try.ntmps47
  go_wp2_with fail
  go_loopw [0, 1, 5] (fun s m v wr => ∃ k : Nat, k ≤ n ∧ s = .int .i64 ((n - k : Nat) : Int) ∧ m = .int .i64 ((x / 2 ^ k : Nat) : Int) ∧ Own wr w.heap.size 3 v ((bitsL n x).take k) ∧ Below w.heap.size w wr)
    (fun s _ _ _ => (intOf s).toNat)
  case atStart => exact ⟨0, Nat.zero_le _, rfl, by simp, Own.nil _ _ _, Below.refl _ _⟩
  case round =>
    obtain ⟨k, hk, rfl, rfl, hown, hb⟩ := hrel
    have hsz := hb.size
    have hll : ((bitsL n x).take k).length < 1000000 := by rw [List.length_take, HL.out]; omega
    by_cases hlt : k < n
    · have Hs := hide (bitsL_take_succ n x k hlt)
      obtain ⟨q, hq⟩ : ∃ q, q = n - k := ⟨_, rfl⟩
      have hq1 : 0 < q := by omega
      have hq2 : q ≤ 10 := by omega
      have HQ := hide (show (q : Int) - 1 = ((n - (k + 1) : Nat) : Int) by omega)
      have hxb : x / 2 ^ k < 1000000 := Nat.lt_of_le_of_lt (Nat.div_le_self _ _) hx
      have HY := hide (show x / 2 ^ k / 2 = x / 2 ^ (k + 1) by rw [Nat.div_div_eq_div_mul, ← Nat.pow_succ])
      rw [← hq]
      clear hq
      generalize x / 2 ^ k = y at *
      go_wp2_with (at_builtin; refine wpList_app_int rfl _ _ 22 3 rfl Try.underlying22 infoInt w.heap.size _ _ rfl hown _ _ rfl hsz hll ?_; intro v' w' hown' hb')
      go_roundw
      case rel => exact ⟨k + 1, by omega, by rw [HQ.out], by rw [← HY.out]; go_num, by rw [Hs.out]; exact hown', hb.trans hb'⟩
      case measure => simp [intOf]; omega
    · obtain rfl : k = n := by omega
      rw [Nat.sub_self]
      rw [List.take_of_length_le (by rw [HL.out]; exact Nat.le_refl _)] at hown
      go_wp2_with fail
      go_ret
      exact made1_of (by rw [HL.out]; omega) hown hb

/-- What CountCycling tells. -/
def cycR (n : Int) : Int := if rsize n = true then ((2 ^ (n.toNat - inter n.toNat) : Nat) : Int) else 0
theorem rsize_nat {n : Int} (h : rsize n = true) : ∃ k : Nat, n = (k : Int) ∧ 2 ≤ k ∧ k ≤ 10 := by
  unfold rsize at h
  simp at h
  exact ⟨n.toNat, by omega, by omega, by omega⟩

theorem cycR_yes {n : Nat} (h1 : 2 ≤ n) (h2 : n ≤ 10) : cycR (n : Int) = ((2 ^ (n - inter n) : Nat) : Int) := by
  unfold cycR rsize
  rw [if_pos (decide_eq_true (by omega))]
  simp
theorem cycR_no {n : Int} (h : rsize n = false) : cycR n = 0 := by unfold cycR; rw [if_neg (by rw [h]; simp)]
end Go.Proofs.Ytlafknagohploaa
