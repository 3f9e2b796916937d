
/-
  A MIX OF TWO CUPS, THE MODEL's WAY: cuTwo, MixTwo.
-/
import Derived.Test.YtjfkadmmmhefbaaDoorCuXP
import Derived.Test.YtjfkadmmmhefbaaDoorCuN
import Derived.Test.YtjfkadmmmhefbaaDoorCuO
import Derived.Test.YtjfkadmmmhefbaaDoorTwo
namespace Go.Proofs.YtjfkadmmmhefbaaDoor
open Go.RowKit Go.Deep
set_option linter.unusedVariables false

theorem mixL_comm (zs : List Int) {a b : Nat} (h : a ≠ b) : mixL zs a b = mixL zs b a := by
  unfold mixL
  rw [Int.add_comm (zs.getD b 0), List.set_comm _ _ h]
theorem mixZ_comm (zs : List Int) (u : Nat) {a b : Nat} (h : a ≠ b) : mixZ zs u a b = mixZ zs u b a := by unfold mixZ; rw [mixL_comm zs h]
theorem mixU_comm (zs : List Int) (u : Nat) {a b : Nat} (h : a ≠ b) : mixU zs u a b = mixU zs u b a := by unfold mixU; rw [mixL_comm zs h]
/-- One mix of two cups, the less first. -/
def mm (a b : Int) : List (List Int) := [[min a b, max a b]]
theorem mixable_mm (n : Nat) (a b : Int) : mixable n [min a b, max a b] = two n a b := by
  rw [mixable_two]
  unfold two
  apply decide_eq_decide.2
  omega
theorem pmix_mm_no {zs : List Int} {u : Nat} {a b : Int} (h : two zs.length a b = false) : pmix zs u (mm a b) = none := by
  unfold mm
  simp only [pmix]
  rw [mixable_mm, h]
  rfl
theorem pmix_mm {zs : List Int} {u : Nat} {a b : Int} (h : two zs.length a b = true) :
    pmix zs u (mm a b) = if isU (mixU zs u a.toNat b.toNat : Nat) then some (mixZ zs u a.toNat b.toNat, mixU zs u a.toNat b.toNat) else none := by
  have hb := two_bd h
  unfold mm
  simp only [pmix]
  rw [mixable_mm, h, Bool.true_and]
  have e0 : (([min a b, max a b] : List Int).getD 0 0) = min a b := rfl
  have e1 : (([min a b, max a b] : List Int).getD 1 0) = max a b := rfl
  rw [e0, e1]
  rcases Int.lt_or_gt_of_ne hb.2.2.2.2 with hl | hl
  · rw [Int.min_eq_left (by omega), Int.max_eq_right (by omega)]
  · rw [Int.min_eq_right (by omega), Int.max_eq_left (by omega), mixZ_comm zs u (show b.toNat ≠ a.toNat by omega), mixU_comm zs u (show b.toNat ≠ a.toNat by omega)]
theorem pmAsk_mm {zs : List Int} {u : Int} {a b : Int} (h : cuOk zs u = true) : pmAsk zs u (mm a b) = true := by unfold pmAsk mm; rw [h]; rfl
theorem pmAsk_not {zs : List Int} {u : Int} {ms : List (List Int)} (h : cuOk zs u = false) : pmAsk zs u ms = false := by unfold pmAsk; rw [h]; rfl

set_option maxRecDepth 100000 in
theorem cuTwo_any (A : Option Addr) (n c : Nat) (u a b : Int) (w : World) (hn : n ≤ 17592186044416) :
    Calls Tryd.prog 31 #[.agg #[.slice A n c, .int .i64 u], .int .i64 a, .int .i64 b] w fun e w' => e = .returned (.bool (two n a b)) ∧ Below w.heap.size w w' := by
  have hw : wrap64 ((n : Int) - 1) = (n : Int) - 1 := by unfold wrap64; omega
  have X := Bx.new w 28 (.slice A n c) (.int .i64 u)
  have c0 := X.c0
  have HB := hide ((Below.refl w.heap.size w).alloc (Nat.le_refl _) (.cells #[.slice A n c, .int .i64 u] 28))
  have HA := hide (fun W => l1In_any a 0 ((n : Int) - 1) W)
  have HC := hide (fun W => l1In_any b 0 ((n : Int) - 1) W)
  clear X
  by_cases h1 : 0 ≤ a ∧ a ≤ (n : Int) - 1
  · rw [decide_eq_true h1] at HA
    by_cases h2 : 0 ≤ b ∧ b ≤ (n : Int) - 1
    · rw [decide_eq_true h2] at HC
      have H := hide (show two n a b = (a != b) from by
        unfold two
        by_cases h : a = b
        · subst h; simp
        · rw [decide_eq_true (show _ from ⟨h1.1, by omega, h2.1, by omega, h⟩)]; simpa using h)
      clear h1 h2
      go_enter Tryd.func31, Tryd.ntmps31
      go_wp2_with fail
      refine (HA.out _).mono ?_; rintro e w' ⟨rfl, rfl⟩
      go_wp2_with fail
      refine (HC.out _).mono ?_; rintro e w' ⟨rfl, rfl⟩
      go_wp2_with fail
      go_ret
      exact ⟨by rw [H.out]; rfl, HB.out⟩
    · rw [decide_eq_false h2] at HC
      have H := hide (two_no (n := n) (f := a) (t := b) (by omega))
      clear h1 h2
      go_enter Tryd.func31, Tryd.ntmps31
      go_wp2_with fail
      refine (HA.out _).mono ?_; rintro e w' ⟨rfl, rfl⟩
      go_wp2_with fail
      refine (HC.out _).mono ?_; rintro e w' ⟨rfl, rfl⟩
      go_wp2_with fail
      go_ret
      exact ⟨by rw [H.out]; rfl, HB.out⟩
  · rw [decide_eq_false h1] at HA
    have H := hide (two_no (n := n) (f := a) (t := b) (by omega))
    clear h1
    go_enter Tryd.func31, Tryd.ntmps31
    go_wp2_with fail
    refine (HA.out _).mono ?_; rintro e w' ⟨rfl, rfl⟩
    go_wp2_with fail
    go_ret
    exact ⟨by rw [H.out]; rfl, HB.out⟩

end Go.Proofs.YtjfkadmmmhefbaaDoor
