
/-
  STEPS OF PAIRS, BOTH WAYS: PairStep, PairAfter, and the walks of their laws.
-/
import Derived.Test.YtpnicfinllljjaaPair
namespace Go.Proofs.Ytpnicfinllljjaa
open Go.RowKit Go.Deep
set_option linter.unusedVariables false

def afterOk (a b n : Int) : Bool := pairOk a b && decide (0 ≤ n ∧ n ≤ 1000000)
def afterA (a b n : Int) : Int := if afterOk a b n then ((orb (a.toNat + b.toNat) a.toNat n.toNat : Nat) : Int) else 0
def afterB (a b n : Int) : Int := if afterOk a b n then ((a.toNat + b.toNat - orb (a.toNat + b.toNat) a.toNat n.toNat : Nat) : Int) else 0
theorem after_no {a b n : Int} (h : afterOk a b n = false) : afterA a b n = 0 ∧ afterB a b n = 0 := by
  unfold afterA afterB; rw [h]; exact ⟨rfl, rfl⟩
theorem after_yes {x y k : Nat} (h : afterOk (x : Int) (y : Int) (k : Int) = true) : afterA (x : Int) (y : Int) (k : Int) = ((orb (x + y) x k : Nat) : Int) ∧ afterB (x : Int) (y : Int) (k : Int) = ((x + y - orb (x + y) x k : Nat) : Int) := by
  unfold afterA afterB; rw [h]; exact ⟨by simp, by simp⟩

theorem PairAfter_any (a b n : Int) (w : World) :
    Calls Try.prog 32 #[.int .i64 a, .int .i64 b, .int .i64 n] w fun e w' => e = .returned (.tuple #[.int .i64 (afterA a b n), .int .i64 (afterB a b n), .bool (afterOk a b n)]) ∧ Below w.heap.size w w' := by
  have HP := hide (fun W => isPair_any a b W)
  cases hp : pairOk a b
  · have ho : afterOk a b n = false := by unfold afterOk; rw [hp]; rfl
    have H := hide (after_no ho)
    rw [hp] at HP
    rw [H.out.1, H.out.2, ho]
    clear hp ho
    go_enter Try.func32, Try.ntmps32
    go_wp2_with fail
    refine (HP.out _).mono ?_; rintro e w' ⟨rfl, hb1⟩
    go_wp2_with fail
    go_ret3
    exact ⟨rfl, hb1⟩
  · rw [hp] at HP
    by_cases hn : 0 ≤ n
    · by_cases hn2 : n ≤ 1000000
      · obtain ⟨x, y, rfl, rfl, h1, h2⟩ := pairOk_nat hp
        obtain ⟨k, rfl⟩ := Int.eq_ofNat_of_zero_le hn
        have ho : afterOk (x : Int) (y : Int) (k : Int) = true := by unfold afterOk; rw [hp]; simpa using hn2
        have H := hide (after_yes ho)
        have HA := hide (fun W => after_any x y k h2 (by omega) W)
        rw [H.out.1, H.out.2, ho]
        generalize orb (x + y) x k = p at *
        clear hp ho hn
        go_enter Try.func32, Try.ntmps32
        go_wp2_with fail
        refine (HP.out _).mono ?_; rintro e w1 ⟨rfl, hb1⟩
        go_wp2_with fail
        refine (HA.out _).mono ?_; rintro e w2 ⟨rfl, hb2⟩
        go_wp2_with fail
        go_quiet (fail)
        go_wp2_with fail
        go_ret3
        exact ⟨rfl, below_drewN ((below_next hb1 hb2).alloc (by have := hb1.size; have := hb2.size; omega) _) _⟩
      · have ho : afterOk a b n = false := by unfold afterOk; simp; omega
        have H := hide (after_no ho)
        rw [H.out.1, H.out.2, ho]
        clear hp ho
        go_enter Try.func32, Try.ntmps32
        go_wp2_with fail
        refine (HP.out _).mono ?_; rintro e w' ⟨rfl, hb1⟩
        go_wp2_with fail
        go_ret3
        exact ⟨rfl, hb1⟩
    · have ho : afterOk a b n = false := by unfold afterOk; simp; omega
      have H := hide (after_no ho)
      rw [H.out.1, H.out.2, ho]
      clear hp ho
      go_enter Try.func32, Try.ntmps32
      go_wp2_with fail
      refine (HP.out _).mono ?_; rintro e w' ⟨rfl, hb1⟩
      go_wp2_with fail
      go_ret3
      exact ⟨rfl, hb1⟩

theorem specPairAfter_any (a b n : Int) (w : World) (ha : -9223372036854775808 ≤ a ∧ a ≤ 9223372036854775807) (hb : -9223372036854775808 ≤ b ∧ b ≤ 9223372036854775807) :
    Calls Try.prog 31 #[.int .i64 a, .int .i64 b, .int .i64 n] w fun e w' => e = .returned (.tuple #[.int .i64 (afterA a b n), .int .i64 (afterB a b n), .bool (afterOk a b n)]) ∧ Below w.heap.size w w' := by
  have HP := hide (fun W => dbPair_any a b W ha hb)
  clear ha hb
  cases hp : pairOk a b
  · have ho : afterOk a b n = false := by unfold afterOk; rw [hp]; rfl
    have H := hide (after_no ho)
    rw [hp] at HP
    rw [H.out.1, H.out.2, ho]
    clear hp ho
    go_enter Try.func31, Try.ntmps31
    go_wp2_with fail
    refine (HP.out _).mono ?_; rintro e w' ⟨rfl, rfl⟩
    go_wp2_with fail
    go_ret3
    exact ⟨rfl, Below.refl _ _⟩
  · rw [hp] at HP
    have HI := hide (fun W => l1In_any n 0 1000000 W)
    by_cases hn : 0 ≤ n ∧ n ≤ 1000000
    · obtain ⟨x, y, rfl, rfl, h1, h2⟩ := pairOk_nat hp
      obtain ⟨k, rfl⟩ := Int.eq_ofNat_of_zero_le hn.1
      have ho : afterOk (x : Int) (y : Int) (k : Int) = true := by unfold afterOk; rw [hp]; simpa using hn
      have H := hide (after_yes ho)
      have HO := hide (fun k => orb_le (s := x + y) (x := x) (by omega) k)
      rw [decide_eq_true hn] at HI
      rw [H.out.1, H.out.2, ho]
      have hk : k ≤ 1000000 := by omega
      clear hp ho hn
      go_enter Try.func31, Try.ntmps31
      go_wp2_with fail
      refine (HP.out _).mono ?_; rintro e w1 ⟨rfl, rfl⟩
      go_wp2_with fail
      refine (HI.out _).mono ?_; rintro e w2 ⟨rfl, rfl⟩
      go_wp2_with fail
      go_loop [0, 1, 2] (fun p q n => ∃ j : Nat, j ≤ k ∧ p = .int .i64 ((orb (x + y) x j : Nat) : Int) ∧ q = .int .i64 ((x + y - orb (x + y) x j : Nat) : Int) ∧ n = .int .i64 ((k : Int) - (j : Int)))
        (fun _ _ n => (intOf n).toNat)
      case atStart => exact ⟨0, by omega, by simp [orb], by simp [orb], by simp⟩
      case round =>
        obtain ⟨j, hj, rfl, rfl, rfl⟩ := hrel
        by_cases hlt : j < k
        · have hl := HO.out j
          have HS := hide (fun W => dbStep_any (orb (x + y) x j) (x + y - orb (x + y) x j) (by omega) (by omega) W)
          have e3 : orb (x + y) x j + (x + y - orb (x + y) x j) = x + y := by omega
          simp only [e3] at HS
          have HN := hide (show orb (x + y) x (j + 1) = pf (x + y) (orb (x + y) x j) from rfl)
          have hpos : 0 < (k : Int) - (j : Int) := by omega
          clear e3
          go_wp2_with fail
          refine (HS.out _).mono ?_; rintro e w' ⟨rfl, rfl⟩
          rw [← HN.out]
          go_wp2_with fail
          go_round
          case rel => exact ⟨j + 1, by omega, rfl, rfl, by go_num⟩
          case measure => simp [intOf]; omega
        · obtain rfl : j = k := by omega
          go_wp2_with fail
          go_ret3
          exact ⟨rfl, Below.refl _ _⟩
    · have ho : afterOk a b n = false := by unfold afterOk; rw [decide_eq_false hn]; simp
      have H := hide (after_no ho)
      rw [decide_eq_false hn] at HI
      rw [H.out.1, H.out.2, ho]
      clear hp ho hn
      go_enter Try.func31, Try.ntmps31
      go_wp2_with fail
      refine (HP.out _).mono ?_; rintro e w1 ⟨rfl, rfl⟩
      go_wp2_with fail
      refine (HI.out _).mono ?_; rintro e w2 ⟨rfl, rfl⟩
      go_wp2_with fail
      go_ret3
      exact ⟨rfl, Below.refl _ _⟩

theorem PairStep_any (a b : Int) (w : World) :
    Calls Try.prog 30 #[.int .i64 a, .int .i64 b] w fun e w' => e = .returned (.tuple #[.int .i64 (afterA a b 1), .int .i64 (afterB a b 1), .bool (afterOk a b 1)]) ∧ Below w.heap.size w w' := by
  have HA := hide (fun W => PairAfter_any a b 1 W)
  generalize afterA a b 1 = p at *
  generalize afterB a b 1 = q at *
  generalize afterOk a b 1 = o at *
  go_enter Try.func30, Try.ntmps30
  go_wp2_with fail
  refine (HA.out _).mono ?_; rintro e w1 ⟨rfl, hb1⟩
  go_wp2_with fail
  go_ret3
  exact ⟨rfl, hb1⟩

theorem specPairStep_any (a b : Int) (w : World) (ha : -9223372036854775808 ≤ a ∧ a ≤ 9223372036854775807) (hb : -9223372036854775808 ≤ b ∧ b ≤ 9223372036854775807) :
    Calls Try.prog 29 #[.int .i64 a, .int .i64 b] w fun e w' => e = .returned (.tuple #[.int .i64 (afterA a b 1), .int .i64 (afterB a b 1), .bool (afterOk a b 1)]) ∧ Below w.heap.size w w' := by
  have HP := hide (fun W => dbPair_any a b W ha hb)
  clear ha hb
  cases hp : pairOk a b
  · have ho : afterOk a b 1 = false := by unfold afterOk; rw [hp]; rfl
    have H := hide (after_no ho)
    rw [hp] at HP
    rw [H.out.1, H.out.2, ho]
    clear hp ho
    go_enter Try.func29, Try.ntmps29
    go_wp2_with fail
    refine (HP.out _).mono ?_; rintro e w' ⟨rfl, rfl⟩
    go_wp2_with fail
    go_ret3
    exact ⟨rfl, Below.refl _ _⟩
  · obtain ⟨x, y, rfl, rfl, h1, h2⟩ := pairOk_nat hp
    have ho : afterOk (x : Int) (y : Int) ((1 : Nat) : Int) = true := by unfold afterOk; rw [hp]; rfl
    have H := hide (after_yes ho)
    have HS := hide (fun W => dbStep_any x y h1 h2 W)
    have e1 : orb (x + y) x 1 = pf (x + y) x := rfl
    rw [e1] at H
    rw [hp] at HP
    rw [show (1 : Int) = ((1 : Nat) : Int) from rfl, H.out.1, H.out.2, ho]
    clear hp ho e1
    go_enter Try.func29, Try.ntmps29
    go_wp2_with fail
    refine (HP.out _).mono ?_; rintro e w' ⟨rfl, rfl⟩
    go_wp2_with fail
    refine (HS.out _).mono ?_; rintro e w' ⟨rfl, rfl⟩
    go_wp2_with fail
    go_ret3
    exact ⟨rfl, Below.refl _ _⟩

theorem lawPairStep (a b : Int) (w : World) (ha : -9223372036854775808 ≤ a ∧ a ≤ 9223372036854775807) (hb : -9223372036854775808 ≤ b ∧ b ≤ 9223372036854775807) :
    Calls Try.prog 7 #[.int .i64 a, .int .i64 b] w fun e w' => e = .returned (.bool true) ∧ Below w.heap.size w w' := by
  have HS := hide (fun W => specPairStep_any a b W ha hb)
  have HI := hide (fun W => PairStep_any a b W)
  clear ha hb
  generalize afterA a b 1 = p at *
  generalize afterB a b 1 = q at *
  generalize afterOk a b 1 = o at *
  have e2 : (p != p) = false := by simp
  have e3 : (q != q) = false := by simp
  have e4 : (o != o) = false := by simp
  go_enter Try.func7, Try.ntmps7
  go_wp2_with fail
  refine (HS.out _).mono ?_; rintro e w1 ⟨rfl, hb1⟩
  go_wp2_with fail
  refine (HI.out _).mono ?_; rintro e w2 ⟨rfl, hb2⟩
  go_wp2_with fail
  go_ret
  exact ⟨rfl, below_next hb1 hb2⟩

theorem lawPairAfter (a b n : Int) (w : World) (ha : -9223372036854775808 ≤ a ∧ a ≤ 9223372036854775807) (hb : -9223372036854775808 ≤ b ∧ b ≤ 9223372036854775807) :
    Calls Try.prog 8 #[.int .i64 a, .int .i64 b, .int .i64 n] w fun e w' => e = .returned (.bool true) ∧ Below w.heap.size w w' := by
  have HS := hide (fun W => specPairAfter_any a b n W ha hb)
  have HI := hide (fun W => PairAfter_any a b n W)
  clear ha hb
  generalize afterA a b n = p at *
  generalize afterB a b n = q at *
  generalize afterOk a b n = o at *
  have e2 : (p != p) = false := by simp
  have e3 : (q != q) = false := by simp
  have e4 : (o != o) = false := by simp
  go_enter Try.func8, Try.ntmps8
  go_wp2_with fail
  refine (HS.out _).mono ?_; rintro e w1 ⟨rfl, hb1⟩
  go_wp2_with fail
  refine (HI.out _).mono ?_; rintro e w2 ⟨rfl, hb2⟩
  go_wp2_with fail
  go_ret
  exact ⟨rfl, below_next hb1 hb2⟩
end Go.Proofs.Ytpnicfinllljjaa
