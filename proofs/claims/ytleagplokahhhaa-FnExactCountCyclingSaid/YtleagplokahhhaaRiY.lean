
/-
  HOW MANY RINGS OF ZEROS AND ONES COME AGAIN THEMSELVES, BOTH WAYS: riBits, CountCycling.
-/
import Derived.Test.YtleagplokahhhaaRiC
import Derived.Test.YtleagplokahhhaaRiX
import Derived.Test.YtleagplokahhhaaLaws0
namespace Go.Proofs.Ytleagplokahhhaa
open Go.RowKit Go.Deep
set_option linter.unusedVariables false

theorem bitsL_take_succ (n x k : Nat) (hk : k < n) : (bitsL n x).take (k + 1) = (bitsL n x).take k ++ [((x / 2 ^ k % 2 : Nat) : Int)] := by
  rw [List.take_succ_eq_append_getElem (by rw [bitsL_length]; exact hk)]
  congr 2
  rw [← rget, bitsL_getD n x k hk]
/-- The model's riBits. -/
theorem riBits_any (n x : Nat) (w : World) (h1 : 2 ≤ n) (h2 : n ≤ 10) (hx : x < 1000000) :
    Calls Try.prog 46 #[.int .i64 (n : Int), .int .i64 (x : Int)] w (Made1 (bitsL n x) w) := by
  have HL := hide (bitsL_length n x)
  go_enter Try.func46, Try.ntmps46
  go_wp2_with fail
  go_loopw [0, 1, 5] (fun s m v wr => ∃ k : Nat, k ≤ n ∧ s = .int .i64 ((n - k : Nat) : Int) ∧ m = .int .i64 ((x / 2 ^ k : Nat) : Int) ∧ Own wr w.heap.size 3 v ((bitsL n x).take k) ∧ Below w.heap.size w wr)
    (fun s _ _ _ => (intOf s).toNat)
  case atStart => exact ⟨0, Nat.zero_le _, rfl, by simp, Own.nil _ _ _, Below.refl _ _⟩
  case round =>
    obtain ⟨k, hk, rfl, rfl, hown, hb⟩ := hrel
    have hsz := hb.size
    have hll : ((bitsL n x).take k).length < 1000000 := by rw [List.length_take, HL.out]; omega
    by_cases hlt : k < n
    · have Hs := hide (bitsL_take_succ n x k hlt)
      obtain ⟨q, hq⟩ : ∃ q, q = n - k := ⟨_, rfl⟩
      have hq1 : 0 < q := by omega
      have hq2 : q ≤ 10 := by omega
      have HQ := hide (show (q : Int) - 1 = ((n - (k + 1) : Nat) : Int) by omega)
      have hxb : x / 2 ^ k < 1000000 := Nat.lt_of_le_of_lt (Nat.div_le_self _ _) hx
      have HY := hide (show x / 2 ^ k / 2 = x / 2 ^ (k + 1) by rw [Nat.div_div_eq_div_mul, ← Nat.pow_succ])
      rw [← hq]
      clear hq
      generalize x / 2 ^ k = y at *
      go_wp2_with (at_builtin; refine wpList_app_int rfl _ _ 22 3 rfl Try.underlying22 infoInt w.heap.size _ _ rfl hown _ _ rfl hsz hll ?_; intro v' w' hown' hb')
      go_roundw
      case rel => exact ⟨k + 1, by omega, by rw [HQ.out], by rw [← HY.out]; go_num, by rw [Hs.out]; exact hown', hb.trans hb'⟩
      case measure => simp [intOf]; omega
    · obtain rfl : k = n := by omega
      rw [Nat.sub_self]
      rw [List.take_of_length_le (by rw [HL.out]; exact Nat.le_refl _)] at hown
      go_wp2_with fail
      go_ret
      exact made1_of (by rw [HL.out]; omega) hown hb

/-- What CountCycling tells. -/
def cycR (n : Int) : Int := if rsize n = true then ((2 ^ (n.toNat - inter n.toNat) : Nat) : Int) else 0
theorem rsize_nat {n : Int} (h : rsize n = true) : ∃ k : Nat, n = (k : Int) ∧ 2 ≤ k ∧ k ≤ 10 := by
  unfold rsize at h
  simp at h
  exact ⟨n.toNat, by omega, by omega, by omega⟩

theorem CountCycling_yes (n : Nat) (w : World) (h1 : 2 ≤ n) (h2 : n ≤ 10) :
    Calls Try.prog 27 #[.int .i64 (n : Int)] w fun e w' => e = .returned (.tuple #[.int .i64 ((2 ^ (n - inter n) : Nat) : Int), .bool true]) ∧ w = w' := by
  have hn : n = 2 ∨ n = 3 ∨ n = 4 ∨ n = 5 ∨ n = 6 ∨ n = 7 ∨ n = 8 ∨ n = 9 ∨ n = 10 := by omega
  clear h1 h2
  have b2 : bits BinOp.and IntKind.i64 2 (-2) = 2 := by kernel_rfl
  have b3 : bits BinOp.and IntKind.i64 3 (-3) = 1 := by kernel_rfl
  have b4 : bits BinOp.and IntKind.i64 4 (-4) = 4 := by kernel_rfl
  have b5 : bits BinOp.and IntKind.i64 5 (-5) = 1 := by kernel_rfl
  have b6 : bits BinOp.and IntKind.i64 6 (-6) = 2 := by kernel_rfl
  have b7 : bits BinOp.and IntKind.i64 7 (-7) = 1 := by kernel_rfl
  have b8 : bits BinOp.and IntKind.i64 8 (-8) = 8 := by kernel_rfl
  have b9 : bits BinOp.and IntKind.i64 9 (-9) = 1 := by kernel_rfl
  have b10 : bits BinOp.and IntKind.i64 10 (-10) = 2 := by kernel_rfl
  rcases hn with rfl | rfl | rfl | rfl | rfl | rfl | rfl | rfl | rfl
  all_goals
    go_enter Try.func27, Try.ntmps27
    go_wp2_with fail
    refine (isRingSize_any _ _).mono ?_; rintro e w' ⟨rfl, rfl⟩
    rw [show rsize _ = true from by decide]
    go_wp2_with fail
    go_ret2
    exact ⟨rfl, rfl⟩

theorem cycR_yes {n : Nat} (h1 : 2 ≤ n) (h2 : n ≤ 10) : cycR (n : Int) = ((2 ^ (n - inter n) : Nat) : Int) := by
  unfold cycR rsize
  rw [if_pos (decide_eq_true (by omega))]
  simp
theorem cycR_no {n : Int} (h : rsize n = false) : cycR n = 0 := by unfold cycR; rw [if_neg (by rw [h]; simp)]
/-- The program's CountCycling. -/
theorem CountCycling_any (n : Int) (w : World) :
    Calls Try.prog 27 #[.int .i64 n] w fun e w' => e = .returned (.tuple #[.int .i64 (cycR n), .bool (rsize n)]) ∧ Below w.heap.size w w' := by
  cases hs : rsize n
  · have HR := hide (cycR_no hs)
    go_enter Try.func27, Try.ntmps27
    go_wp2_with fail
    refine (isRingSize_any _ _).mono ?_; rintro e w' ⟨rfl, rfl⟩; rw [hs]
    go_wp2_with fail
    go_ret2
    exact ⟨by rw [HR.out]; rfl, Below.refl _ _⟩
  · obtain ⟨k, rfl, h1, h2⟩ := rsize_nat hs
    rw [cycR_yes h1 h2]
    exact to_below (CountCycling_yes k w h1 h2)

set_option maxRecDepth 100000 in
set_option maxHeartbeats 2000000 in
/-- The model's CountCycling. -/
theorem specCountCycling_any (n : Int) (w : World) :
    Calls Try.prog 26 #[.int .i64 n] w fun e w' => e = .returned (.tuple #[.int .i64 (cycR n), .bool (rsize n)]) ∧ Below w.heap.size w w' := by
  cases hs : rsize n
  · have HR := hide (cycR_no hs)
    go_enter Try.func26, Try.ntmps26
    go_wp2_with fail
    refine (riSize_any _ _).mono ?_; rintro e w' ⟨rfl, rfl⟩; rw [hs]
    go_wp2_with fail
    go_ret2
    exact ⟨by rw [HR.out]; rfl, Below.refl _ _⟩
  · obtain ⟨k, rfl, h1, h2⟩ := rsize_nat hs
    have HR := hide (show cycR (k : Int) = (cycN k (2 ^ k) : Int) by rw [cycR_yes h1 h2, cyc_all h1 h2])
    have hN : 2 ^ k ≤ 1024 := Nat.pow_le_pow_right (by omega) h2
    have HB := hide (fun x W (hx : x < 1000000) => riBits_any k x W h1 h2 hx)
    have HC := hide (fun (A : Option Addr) (c x : Nat) (W : World) (h : Ints W W.heap.size A (bitsL k x).length (bitsL k x)) =>
      riCycle_any A _ c W.heap.size (bitsL k x) (leadF (bitsL k x)) (perF (bitsL k x)) W h (Nat.le_refl _) (bitsL_good h1 h2) (cycF (bitsL_good h1 h2)).1 (cycF (bitsL_good h1 h2)).2)
    have HL := hide (fun x (hx : x < 2 ^ k) => bits_lead h1 h2 hx)
    have hsh : wrap64 (2 ^ k) = ((2 ^ k : Nat) : Int) := by
      obtain ⟨N', hN'⟩ : ∃ N', N' = 2 ^ k := ⟨_, rfl⟩
      have e : (2 : Int) ^ k = (N' : Int) := by rw [hN', Int.natCast_pow]; rfl
      rw [← hN'] at hN ⊢
      rw [e, ← IntWalk.i64_left]
      exact IntWalk.i64_in _ (by omega)
    have hcn : ∀ j, cycN k j ≤ j := by
      intro j
      induction j with
      | zero => exact Nat.le_refl _
      | succ j ih => unfold cycN; split <;> omega
    have HCN := hide hcn
    have HS0 := hide (fun j (hl : leadF (bitsL k j) = 0) (hj : j < 2 ^ k) => (show cycN k (j + 1) = cycN k j + 1 by rw [cycN, if_pos ((bits_lead h1 h2 hj).1 hl)]))
    have HS1 := hide (fun j (hl : ¬ leadF (bitsL k j) = 0) (hj : j < 2 ^ k) => (show cycN k (j + 1) = cycN k j by rw [cycN, if_neg (fun e => hl ((bits_lead h1 h2 hj).2 e))]; rfl))
    have HZ := hide (show cycN k 0 = 0 from rfl)
    clear hcn
    generalize hNN : 2 ^ k = N at *
    go_enter Try.func26, Try.ntmps26
    go_wp2_with fail
    refine (riSize_any _ _).mono ?_; rintro e w' ⟨rfl, rfl⟩; rw [hs]
    go_wp2_with fail
    go_loopw [4, 5] (fun c x wr => ∃ j : Nat, j ≤ N ∧ x = .int .i64 j ∧ c = .int .i64 (cycN k j : Int) ∧ Below w.heap.size w wr)
      (fun _ x _ => N - (intOf x).toNat)
    case atStart => exact ⟨0, Nat.zero_le _, rfl, by rw [HZ.out]; rfl, Below.refl _ _⟩
    case round =>
      obtain ⟨j, hj, rfl, rfl, hb⟩ := hrel
      have BB := hide hb
      have hcj := HCN.out j
      clear hb
      by_cases hlt : j < N
      · go_wp2_with fail
        refine (HB.out j wr (by omega)).mono ?_
        rintro e w1 ⟨g1, c1, rfl, _, _, _, _, hown1, hb1⟩
        have B1 := hide (below_next BB.out hb1)
        have HCC := hide (HC.out _ c1 j w1 hown1.ints)
        clear hown1 hb1
        by_cases hl : leadF (bitsL k j) = 0
        · have HX := hide (HS0.out j hl hlt)
          rw [hl] at HCC
          clear hl
          go_wp2_with fail
          refine HCC.out.mono ?_; rintro e w2 ⟨rfl, hb2⟩
          have B2 := hide (below_next B1.out hb2)
          go_wp2_with fail
          go_roundw
          case rel => exact ⟨j + 1, by omega, by go_num, by rw [HX.out]; go_num, B2.out⟩
          case measure => simp [intOf]; omega
        · have HX := hide (HS1.out j hl hlt)
          have hne : ((leadF (bitsL k j) : Int) == 0) = false := by simp; omega
          generalize leadF (bitsL k j) = L at *
          go_wp2_with fail
          refine HCC.out.mono ?_; rintro e w2 ⟨rfl, hb2⟩
          have B2 := hide (below_next B1.out hb2)
          go_wp2_with fail
          go_roundw
          case rel => exact ⟨j + 1, by omega, by go_num, by rw [HX.out], B2.out⟩
          case measure => simp [intOf]; omega
      · obtain rfl : j = N := by omega
        go_wp2_with fail
        go_ret2
        exact ⟨by rw [HR.out]; rfl, BB.out⟩
end Go.Proofs.Ytleagplokahhhaa
