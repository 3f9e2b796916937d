import Derived.Test.YtcbcgapnoompbaaMg04
import Derived.Test.YtcbcgapnoompbaaMg10
import Derived.Test.YtcbcgapnoompbaaMg06
import Derived.Test.YtcbcgapnoompbaaMg03

/-
  RINGS, BOTH WAYS: IsRing and riGood.
-/
namespace Go.Proofs.Ytcbcgapnoompbaa
open Go.RowKit Go.Deep

theorem isRingSize_any (n : Int) (w : World) :
    Calls Try.prog 47 #[.int .i64 n] w fun e w' => e = .returned (.bool (rsize n)) ∧ w = w' := by
  by_cases h1 : 2 ≤ n
  · have HE := hide (show rsize n = decide (n ≤ 10) by unfold rsize; simp [h1])
    go_enter Try.func47, Try.ntmps47
    go_wp2
    go_ret
    exact ⟨by rw [HE.out]; rfl, rfl⟩
  · have HE := hide (show rsize n = false by unfold rsize; simp; omega)
    go_enter Try.func47, Try.ntmps47
    go_wp2
    go_ret
    exact ⟨by rw [HE.out]; rfl, rfl⟩
/-- The program's IsRing. -/
theorem IsRing_any (A : Option Addr) (n c B : Nat) (zs : List Int) (w : World) (hr : Ints w B A n zs) (hn : n ≤ 17592186044416) :
    Calls Try.prog 18 #[.slice A n c] w fun e w' => e = .returned (.bool (rgood zs)) ∧ w = w' := by
  have hlen := hr.len
  by_cases h1 : 2 ≤ n ∧ n ≤ 10
  · have Hg := hide (rgood_in (zs := zs) (by omega))
    have Hw := hide (areWithin_any A n c B zs 0 1000)
    have HS := hide (show rsize (n : Int) = true by unfold rsize; simp; omega)
    go_enter Try.func18, Try.ntmps18
    go_wp2_with fail
    refine (isRingSize_any _ _).mono ?_; rintro e w' ⟨rfl, rfl⟩; rw [HS.out]
    go_wp2_with fail
    refine (Hw.out _ hr hn).mono ?_; rintro e w' ⟨rfl, rfl⟩
    go_wp2_with fail
    go_ret
    exact ⟨by rw [Hg.out]; rfl, rfl⟩
  · have Hg := hide (rgood_out (zs := zs) (by omega))
    have HS := hide (show rsize (n : Int) = false by unfold rsize; simp; omega)
    go_enter Try.func18, Try.ntmps18
    go_wp2_with fail
    refine (isRingSize_any _ _).mono ?_; rintro e w' ⟨rfl, rfl⟩; rw [HS.out]
    go_wp2_with fail
    go_ret
    exact ⟨by rw [Hg.out]; rfl, rfl⟩

/-- The model's riGood. -/
theorem riGood_any (A : Option Addr) (n c B : Nat) (zs : List Int) (w : World) (hr : Ints w B A n zs) (hn : n ≤ 17592186044416) :
    Calls Try.prog 33 #[.slice A n c] w fun e w' => e = .returned (.bool (rgood zs)) ∧ w = w' := by
  have hlen := hr.len
  by_cases h1 : 2 ≤ n ∧ n ≤ 10
  · have Hg := hide (rgood_in (zs := zs) (by omega))
    have hd : decide ((2 : Int) ≤ (n : Int) ∧ (n : Int) ≤ 10) = true := by simp; omega
    go_enter Try.func33, Try.ntmps33
    go_wp2_with fail
    refine (l1In_any _ _ _ _).mono ?_; rintro e w' ⟨rfl, rfl⟩; rw [hd]
    go_wp2_with fail
    refine (l1All_any _ _ _ _ _ _ _ _ hr hn).mono ?_; rintro e w' ⟨rfl, rfl⟩
    go_wp2_with fail
    go_ret
    exact ⟨by rw [Hg.out]; rfl, rfl⟩
  · have Hg := hide (rgood_out (zs := zs) (by omega))
    have hd : decide ((2 : Int) ≤ (n : Int) ∧ (n : Int) ≤ 10) = false := by simp; omega
    go_enter Try.func33, Try.ntmps33
    go_wp2_with fail
    refine (l1In_any _ _ _ _).mono ?_; rintro e w' ⟨rfl, rfl⟩; rw [hd]
    go_wp2_with fail
    go_ret
    exact ⟨by rw [Hg.out]; rfl, rfl⟩

theorem IsRing_b (A : Option Addr) (n c : Nat) (zs : List Int) (w : World) (hr : Ints w w.heap.size A n zs) (hn : n ≤ 17592186044416) :
    Calls Try.prog 18 #[.slice A n c] w fun e w' => e = .returned (.bool (rgood zs)) ∧ Below w.heap.size w w' := to_below (IsRing_any A n c _ zs w hr hn)
end Go.Proofs.Ytcbcgapnoompbaa

/-
  RINGS, THE MODEL's WAY: riStep, riPlay, RingStep.
-/
namespace Go.Proofs.Ytcbcgapnoompbaa
open Go.RowKit Go.Deep

theorem dif_size (a b : Int) : size1 (a - b) = dif a b := by unfold size1 dif; split <;> omega
theorem nextOf_int (k n : Nat) : ((k : Int) + 1) % (n : Int) = ((nextOf k n : Nat) : Int) := by
  unfold nextOf
  rw [Int.natCast_emod]
  congr 1

/-- The model's riStep. -/
theorem riStep_any (A : Option Addr) (n c B : Nat) (zs : List Int) (w : World) (hr : Ints w B A n zs) (hB : B ≤ w.heap.size) (h0 : 0 < n) (hn : n < 1000000) (hc : within 0 1000 zs = true) :
    Calls Try.prog 35 #[.slice A n c] w (Made1 (rstep zs) w) := by
  obtain rfl := hr.len
  have HE := hide (rstep_length zs)
  have HC := hide hc
  clear hc
  go_enter Try.func35, Try.ntmps35
  go_wp2_with fail
  go_loopw [3, 8] (fun v i wr => ∃ k : Nat, k ≤ zs.length ∧ i = .int .i64 k ∧ Own wr w.heap.size 3 v ((rstep zs).take k) ∧ Below w.heap.size w wr)
    (fun _ i _ => zs.length - (intOf i).toNat)
  case atStart => exact ⟨0, Nat.zero_le _, rfl, Own.nil _ _ _, Below.refl _ _⟩
  case round =>
    obtain ⟨k, hk, rfl, hown, hb⟩ := hrel
    have hsz := hb.size
    have hll : ((rstep zs).take k).length < 1000000 := by rw [List.length_take, HE.out]; omega
    by_cases hlt : k < zs.length
    · have hl := nextOf_lt hlt
      have Hs := hide (rstep_take_succ zs k hlt)
      have HV := hide (rstep1_eq zs k hlt)
      have hcz := within_get HC.out k hlt
      have hcl := within_get HC.out (nextOf k zs.length) hl
      have hmod := nextOf_int k zs.length
      have hrb := hr.below hb hB
      obtain ⟨ad, rfl, hab, hcell⟩ := hrb.at_ hlt
      obtain ⟨ad', had, _, hcell'⟩ := hrb.at_ hl
      obtain rfl : ad' = ad := by injection had with h; exact h.symm
      clear had hrb
      rw [rget hlt] at hcell
      rw [rget hl] at hcell'
      have HD := hide (dif_size zs[k] (zs[nextOf k zs.length]'hl))
      generalize zs[nextOf k zs.length] = zl at *
      generalize zs[k] = zk at *
      generalize nextOf k zs.length = l at *
      go_wp2_with fail
      refine (l1Abs_any _ (by omega) (by omega) _).mono ?_; rintro e w' ⟨rfl, rfl⟩; rw [HD.out]
      generalize dif zk zl = dz at *
      go_wp2_with (at_builtin; refine wpList_app_int rfl _ _ 24 3 rfl Try.underlying24 infoInt w.heap.size _ _ rfl hown _ _ rfl hsz hll ?_; intro v' w' hown' hb')
      go_roundw
      case rel => exact ⟨k + 1, by omega, by go_num, by rw [Hs.out, HV.out]; exact hown', hb.trans hb'⟩
      case measure => simp [intOf]; omega
    · go_wp2_with fail
      go_ret
      rw [List.take_of_length_le (by rw [HE.out]; omega)] at hown
      exact made1_of (by rw [HE.out]; exact h0) hown hb

/-- The model's RingStep. -/
theorem specRingStep_any (A : Option Addr) (n c B : Nat) (zs : List Int) (w : World) (hr : Ints w B A n zs) (hB : B ≤ w.heap.size) (hn : n ≤ 17592186044416) :
    Calls Try.prog 13 #[.slice A n c] w (MadeR (rstepR zs) (rgood zs) w) := by
  obtain rfl := hr.len
  cases hg : rgood zs
  · rw [show rstepR zs = [] from by simp [rstepR, hg]]
    go_enter Try.func13, Try.ntmps13
    go_wp2_with fail
    refine (riGood_any _ _ _ _ _ _ hr hn).mono ?_; rintro e w' ⟨rfl, rfl⟩; rw [hg]
    go_wp2_with fail
    go_ret2
    exact madeR_none (Below.refl _ _)
  · rw [show rstepR zs = rstep zs from by simp [rstepR, hg]]
    obtain ⟨hg1, hg2, hg3⟩ := rgood_of hg
    have HW := hide hg3
    clear hg3
    go_enter Try.func13, Try.ntmps13
    go_wp2_with fail
    refine (riGood_any _ _ _ _ _ _ hr hn).mono ?_; rintro e w' ⟨rfl, rfl⟩; rw [hg]
    go_wp2_with fail
    refine (riStep_any _ _ _ _ _ _ hr hB (by omega) (by omega) HW.out).mono ?_
    rintro e w1 ⟨g, c1, rfl, _, _, hc1, hc2, hown, hb1⟩
    go_wp2_with fail
    go_ret2
    exact ⟨_, c1, rfl, hc1, hc2, hown, hb1⟩
end Go.Proofs.Ytcbcgapnoompbaa
