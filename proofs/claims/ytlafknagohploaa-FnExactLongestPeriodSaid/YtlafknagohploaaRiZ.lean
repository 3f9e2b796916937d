
/-
  THE LONGEST PERIOD OF RINGS OF ZEROS AND ONES, BOTH WAYS: LongestPeriod.
-/
import Derived.Test.YtlafknagohploaaRiY
import Derived.Test.YtlafknagohploaaWkG
namespace Go.Proofs.Ytlafknagohploaa
open Go.RowKit Go.Deep
set_option linter.unusedVariables false

/-- What LongestPeriod tells. -/
def lonR (n : Int) : Int := if rsize n = true then (allP n.toNat : Int) else 0
theorem lonR_yes {n : Nat} (h1 : 2 ≤ n) (h2 : n ≤ 10) : lonR (n : Int) = (allP n : Int) := by
  unfold lonR rsize
  rw [if_pos (decide_eq_true (by omega))]
  simp
theorem lonR_no {n : Int} (h : rsize n = false) : lonR n = 0 := by unfold lonR; rw [if_neg (by rw [h]; simp)]
theorem single_bits (n : Nat) (h1 : 2 ≤ n) (h2 : n ≤ 10) : (List.replicate n (0 : Int)).set 0 1 = bitsL n 1 := by
  have : n = 2 ∨ n = 3 ∨ n = 4 ∨ n = 5 ∨ n = 6 ∨ n = 7 ∨ n = 8 ∨ n = 9 ∨ n = 10 := by omega
  rcases this with rfl | rfl | rfl | rfl | rfl | rfl | rfl | rfl | rfl <;> decide

set_option maxRecDepth 100000 in
/-- The program's LongestPeriod. -/
theorem LongestPeriod_any (n : Int) (w : World) :
    Calls Try.prog 33 #[.int .i64 n] w fun e w' => e = .returned (.tuple #[.int .i64 (lonR n), .bool (rsize n)]) ∧ Below w.heap.size w w' := by
  cases hs : rsize n
  · have HR := hide (lonR_no hs)
    go_enter Try.func33, Try.ntmps33
    go_wp2_with fail
    refine (isRingSize_any _ _).mono ?_; rintro e w' ⟨rfl, rfl⟩; rw [hs]
    go_wp2_with fail
    go_ret2
    exact ⟨by rw [HR.out]; rfl, Below.refl _ _⟩
  · obtain ⟨k, rfl, h1, h2⟩ := rsize_nat hs
    have hmk := run_make_row' (P := Try.prog) 22 3 (.int .i64 0) 8 Try.underlying22 infoInt rfl .i64 .i64 k (by omega) (by omega)
    have HR := hide (lonR_yes h1 h2)
    have HB := hide (single_bits k h1 h2)
    have HP := hide (show perR (bitsL k 1) = (allP k : Int) by unfold perR; rw [if_pos (bitsL_good h1 h2), single_period h1 h2])
    have HG := hide (bitsL_good (x := 1) h1 h2)
    have HL := hide (bitsL_length k 1)
    have r1 := Row.zeros w k 3
    have hc0 := r1.at_ (k := 0) (by simp; omega)
    have hf0 := r1.free 0
    have r2 := r1.put 0 1
    rw [HB.out] at r2
    have he : ((w.alloc (.cells (madeCells #[.int .i64 0] k) 3)).setCell ⟨w.heap.size, 0, none⟩ (.int .i64 1)) = w.alloc (.cells ((madeCells #[.int .i64 0] k).setIfInBounds 0 (.int .i64 1)) 3) := World.setCell_alloc_new _ _ 0 _
    rw [he] at r2
    have R2 := hide r2
    have hlt := r2.lt
    have b2 : Below w.heap.size w ((w.alloc (.cells (madeCells #[.int .i64 0] k) 3)).setCell ⟨w.heap.size, 0, none⟩ (.int .i64 1)) := ((Below.refl _ _).alloc (Nat.le_refl _) _).setCell (Nat.le_refl _) _
    rw [he] at b2
    have B2 := hide b2
    clear he
    have hk0 : 0 < k := by omega
    simp only [List.getElem_replicate] at hc0
    clear r1 r2 b2
    go_enter Try.func33, Try.ntmps33
    go_wp2_with fail
    refine (isRingSize_any _ _).mono ?_; rintro e w' ⟨rfl, rfl⟩; rw [hs]
    go_wp2_with fail
    generalize w.alloc (.cells ((madeCells #[.int .i64 0] k).setIfInBounds 0 (.int .i64 1)) 3) = w2 at *
    have hI := R2.out.ints hlt
    rw [HL.out] at hI
    refine (PeriodOfRing_any _ k k (bitsL k 1) w2 hI (by omega)).mono ?_
    rintro e w3 ⟨rfl, hb3⟩
    rw [HP.out, HG.out]
    go_wp2_with fail
    go_ret2
    exact ⟨by rw [HR.out]; rfl, B2.out.trans (hb3.mono B2.out.size)⟩

set_option maxRecDepth 100000 in
set_option maxHeartbeats 2000000 in
/-- The model's LongestPeriod. -/
theorem specLongestPeriod_any (n : Int) (w : World) :
    Calls Try.prog 32 #[.int .i64 n] w fun e w' => e = .returned (.tuple #[.int .i64 (lonR n), .bool (rsize n)]) ∧ Below w.heap.size w w' := by
  cases hs : rsize n
  · have HR := hide (lonR_no hs)
    go_enter Try.func32, Try.ntmps32
    go_wp2_with fail
    refine (riSize_any _ _).mono ?_; rintro e w' ⟨rfl, rfl⟩; rw [hs]
    go_wp2_with fail
    go_ret2
    exact ⟨by rw [HR.out]; rfl, Below.refl _ _⟩
  · obtain ⟨k, rfl, h1, h2⟩ := rsize_nat hs
    have HR := hide (show lonR (k : Int) = maxP k (2 ^ k) by rw [lonR_yes h1 h2, maxP_all h1 h2])
    have hN : 2 ^ k ≤ 1024 := Nat.pow_le_pow_right (by omega) h2
    have HB := hide (fun x W (hx : x < 1000000) => riBits_any k x W h1 h2 hx)
    have HC := hide (fun (A : Option Addr) (c x : Nat) (W : World) (h : Ints W W.heap.size A (bitsL k x).length (bitsL k x)) =>
      riCycle_any A _ c W.heap.size (bitsL k x) (leadF (bitsL k x)) (perF (bitsL k x)) W h (Nat.le_refl _) (bitsL_good h1 h2) (cycF (bitsL_good h1 h2)).1 (cycF (bitsL_good h1 h2)).2)
    have hsh : wrap64 (2 ^ k) = ((2 ^ k : Nat) : Int) := by
      obtain ⟨N', hN'⟩ : ∃ N', N' = 2 ^ k := ⟨_, rfl⟩
      have e : (2 : Int) ^ k = (N' : Int) := by rw [hN', Int.natCast_pow]; rfl
      rw [← hN'] at hN ⊢
      rw [e, ← IntWalk.i64_left]
      exact IntWalk.i64_in _ (by omega)
    have HS := hide (fun j => (show max (maxP k j) (perF (bitsL k j) : Int) = maxP k (j + 1) from rfl))
    have HZ := hide (show maxP k 0 = 0 from rfl)
    generalize hNN : 2 ^ k = N at *
    go_enter Try.func32, Try.ntmps32
    go_wp2_with fail
    refine (riSize_any _ _).mono ?_; rintro e w' ⟨rfl, rfl⟩; rw [hs]
    go_wp2_with fail
    go_loopw [4, 5] (fun c x wr => ∃ j : Nat, j ≤ N ∧ x = .int .i64 j ∧ c = .int .i64 (maxP k j) ∧ Below w.heap.size w wr)
      (fun _ x _ => N - (intOf x).toNat)
    case atStart => exact ⟨0, Nat.zero_le _, rfl, by rw [HZ.out], Below.refl _ _⟩
    case round =>
      obtain ⟨j, hj, rfl, rfl, hb⟩ := hrel
      have BB := hide hb
      clear hb
      by_cases hlt : j < N
      · have HX := hide (HS.out j)
        go_wp2_with fail
        refine (HB.out j wr (by omega)).mono ?_
        rintro e w1 ⟨g1, c1, rfl, _, _, _, _, hown1, hb1⟩
        have B1 := hide (below_next BB.out hb1)
        have HCC := hide (HC.out _ c1 j w1 hown1.ints)
        clear hown1 hb1
        generalize (perF (bitsL k j) : Int) = pj at *
        generalize maxP k j = mj at *
        go_wp2_with fail
        refine HCC.out.mono ?_; rintro e w2 ⟨rfl, hb2⟩
        have B2 := hide (below_next B1.out hb2)
        go_wp2_with fail
        refine (l1Most_any _ _ _).mono ?_; rintro e w' ⟨rfl, rfl⟩; rw [HX.out]
        go_wp2_with fail
        go_roundw
        case rel => exact ⟨j + 1, by omega, by go_num, rfl, B2.out⟩
        case measure => simp [intOf]; omega
      · obtain rfl : j = N := by omega
        go_wp2_with fail
        go_ret2
        exact ⟨by rw [HR.out]; rfl, BB.out⟩
end Go.Proofs.Ytlafknagohploaa
