
/-
  THE SLOWEST RING TO ZERO, THE MODEL's WAY.
-/
import Derived.Test.YtkhcabgpbmhimaaSzA
import Derived.Test.YtkhcabgpbmhimaaSzQ
import Derived.Test.YtkhcabgpbmhimaaRiC
import Derived.Test.YtkhcabgpbmhimaaGood
namespace Go.Proofs.Ytkhcabgpbmhimaa
open Go.RowKit Go.Deep
set_option linter.unusedVariables false

/-- A list beside a number and a bool. -/
def MadeZ (zs : List Int) (k : Int) (b : Bool) (w : World) (e : Ending) (w' : World) : Prop :=
  ∃ A c, e = .returned (.tuple #[.slice A zs.length c, .int .i64 k, .bool b]) ∧ zs.length ≤ c ∧ c ≤ maxLen ∧ Own w' w.heap.size 3 (.slice A zs.length c) zs ∧ Below w.heap.size w w'
theorem madeZ_none {w w' : World} (h : Below w.heap.size w w') : MadeZ [] 0 false w (.returned (.tuple #[.slice none 0 0, .int .i64 0, .bool false])) w' :=
  ⟨none, 0, rfl, Nat.le_refl _, Nat.zero_le _, Own.nil _ _ _, h⟩
def szOk (u m : Int) : Bool := decide ((u = 2 ∨ u = 4) ∧ 0 ≤ m ∧ m ≤ 6)
/-- The slowest one, and how slow. -/
def szL (u m : Int) : List Int := if szOk u m then dg (m.toNat + 1) u.toNat (bestZ (m.toNat + 1) u.toNat ((m.toNat + 1) ^ u.toNat)) else []
def szN (u m : Int) : Int := if szOk u m then (leadF (szL u m) : Int) else 0
theorem sz_no {u m : Int} (h : szOk u m = false) : szL u m = [] ∧ szN u m = 0 := by simp [szL, szN, h]
theorem sz_yes {s b : Nat} (h : szOk (s : Int) ((b : Int) - 1) = true) (hb : 0 < b) : szL s ((b : Int) - 1) = dg b s (bestZ b s (b ^ s)) ∧ szN s ((b : Int) - 1) = (leadF (dg b s (bestZ b s (b ^ s))) : Int) := by
  have e : ((b : Int) - 1).toNat + 1 = b := by omega
  have a : szL s ((b : Int) - 1) = dg b s (bestZ b s (b ^ s)) := by simp only [szL, h, if_pos, e, Int.toNat_natCast]
  exact ⟨a, by simp only [szN, h, if_pos, a]⟩
theorem szL_short (u m : Int) : (szL u m).length ≤ 1048576 := by
  unfold szL
  split
  · rename_i h
    rw [dg_length]
    have := of_decide_eq_true h
    omega
  · simp
theorem sz_len {b s : Nat} (hb : b ≤ 7) (hs : s = 2 ∨ s = 4) : b ^ s ≤ 2401 := Nat.le_trans (Nat.pow_le_pow_left hb s) (by rcases hs with rfl | rfl <;> decide)

set_option maxRecDepth 100000 in
set_option maxHeartbeats 8000000 in
theorem specSz_yes (s b : Nat) (w : World) (hs : s = 2 ∨ s = 4) (hb1 : 1 ≤ b) (hb7 : b ≤ 7) :
    Calls Try.prog 4 #[.int .i64 (s : Int), .int .i64 ((b : Int) - 1)] w (MadeZ (dg b s (bestZ b s (b ^ s))) (leadF (dg b s (bestZ b s (b ^ s))) : Int) true w) := by
  have HC := hide (cyAll_any s b w (by omega) hb1 (by omega))
  have HIn := hide (l1In_any ((b : Int) - 1) 0 6 w)
  rw [decide_eq_true (show 0 ≤ (b : Int) - 1 ∧ (b : Int) - 1 ≤ 6 by omega)] at HIn
  have HN := sz_len hb7 hs
  have HN0 : 0 < b ^ s := Nat.pow_pos hb1
  have HLD := hide (fun (A : Option Addr) (c q : Nat) (W : World) (h : Ints W W.heap.size A (dg b s q).length (dg b s q)) => riCycle_any A (dg b s q).length c W.heap.size (dg b s q) (leadF (dg b s q)) (perF (dg b s q)) W h (Nat.le_refl _) (dg_good hb7 hb1 hs) (cycF (dg_good hb7 hb1 hs)).1 (cycF (dg_good hb7 hb1 hs)).2)
  have HLB := hide (fun q => show leadF (dg b s q) ≤ 10024 from by have := (cycF (dg_good (q := q) hb7 hb1 hs)).2; omega)
  have HBZ := hide (fun k => show bestZ b s (k + 1) = if leadF (dg b s (bestZ b s k)) < leadF (dg b s k) then k else bestZ b s k from rfl)
  have HBL := hide (fun k (h : 0 < k) => bestZ_lt b s k h)
  have HG := hide (fun k (h : k < b ^ s) => rowsD_get b s k (by rw [rowsD_length]; exact h))
  have HRL := hide (rowsD_length b s)
  have HDL := hide (fun q => dg_length b s q)
  rcases hs with rfl | rfl
  · go_enter Try.func4, Try.ntmps4
    go_wp2_with fail
    refine HIn.out.mono ?_; rintro e w' ⟨rfl, rfl⟩
    go_wp2_with fail
    refine HC.out.mono ?_; rintro e w1 ⟨v, rfl, ⟨vs, hown⟩, hb⟩
    have HV := hide hown
    have HB := hide hb
    clear hown hb
    obtain ⟨A1, c1, rfl, _, _⟩ := HV.out.shape
    go_wp2_with fail
    go_loopw [7, 8, 28] (fun v l i W => ∃ k : Nat, k ≤ b ^ 2 ∧ i = .int .i64 (k : Int) ∧ ((k = 0 ∧ v = .slice none 0 0 ∧ l = .int .i64 (-1)) ∨ (0 < k ∧ v = vs.getD (bestZ b 2 k) undef ∧ l = .int .i64 (leadF (dg b 2 (bestZ b 2 k)) : Int))) ∧ Hid (Below w1.heap.size w1 W))
      (fun _ _ i _ => b ^ 2 - (intOf i).toNat)
    case atStart => exact ⟨0, Nat.zero_le _, rfl, .inl ⟨rfl, rfl, rfl⟩, hide (Below.refl _ _)⟩
    case round =>
      obtain ⟨k, hk, rfl, hcase, HBk⟩ := hrel
      by_cases hlt : k < b ^ 2
      · have hlr : k < (rowsD b 2).length := by rw [HRL.out]; exact hlt
        have HVk := hide (HV.out.below HBk.out)
        obtain ⟨ad, rfl, _, hcell⟩ := HVk.out.vals.at_ hlr
        have hrow := HVk.out.2.2.1 k hlr
        obtain ⟨Al, cl, el, _, _⟩ := hrow.shape
        rw [el] at hcell hrow
        rw [HG.out k hlt] at hcell hrow el
        have HLK := hide (HLD.out Al cl k wr hrow.ints)
        have HBk0 := hide HBk.out.size
        have hlt3 : (k : Int) < ((rowsD b 2).length : Int) := by omega
        have hlb := HLB.out k
        have HEL := hide el
        clear hrow el
        have HZk := hide (HBZ.out k)
        rcases hcase with ⟨rfl, rfl, rfl⟩ | ⟨hk0, rfl, rfl⟩
        · rw [show ad.add 0 = ad from by simp [Addr.add]] at hcell
          have hz1 : Hid (bestZ b 2 1 = 0) := hide (by rw [show (1 : Nat) = 0 + 1 from rfl, HZk.out]; simp [bestZ])
          have hgt : (-1 : Int) < (leadF (dg b 2 0) : Int) := by omega
          generalize hL : leadF (dg b 2 0) = L at *
          have HL := hide hL
          clear hL
          go_wp2_with fail
          refine HLK.out.mono ?_; rintro e w3 ⟨rfl, hb3⟩
          have HB3 := hide (HBk.out.trans (hb3.mono HBk0.out))
          clear hb3
          go_wp2_with fail
          go_roundw
          case rel => exact ⟨1, by omega, by go_num, .inr ⟨by omega, by rw [hz1.out]; exact HEL.out.symm, by rw [hz1.out, HL.out]⟩, HB3⟩
          case measure => simp [intOf]; omega
        · generalize hq : bestZ b 2 k = q at *
          have HQ := hide hq
          clear hq
          generalize hL : leadF (dg b 2 k) = L at *
          generalize hM : leadF (dg b 2 q) = M at *
          have HL := hide hL
          have HM := hide hM
          clear hL hM
          by_cases hlm : M < L
          · have hz1 : Hid (bestZ b 2 (k + 1) = k) := hide (by rw [HZk.out, if_pos hlm])
            have hgt : (M : Int) < (L : Int) := by omega
            go_wp2_with fail
            refine HLK.out.mono ?_; rintro e w3 ⟨rfl, hb3⟩
            have HB3 := hide (HBk.out.trans (hb3.mono HBk0.out))
            clear hb3
            go_wp2_with fail
            go_roundw
            case rel => exact ⟨k + 1, by omega, by go_num, .inr ⟨by omega, by rw [hz1.out]; exact HEL.out.symm, by rw [hz1.out, HL.out]⟩, HB3⟩
            case measure => simp [intOf]; omega
          · have hz1 : Hid (bestZ b 2 (k + 1) = q) := hide (by rw [HZk.out, if_neg hlm])
            have hgt : ¬ (M : Int) < (L : Int) := by omega
            go_wp2_with fail
            refine HLK.out.mono ?_; rintro e w3 ⟨rfl, hb3⟩
            have HB3 := hide (HBk.out.trans (hb3.mono HBk0.out))
            clear hb3
            go_wp2_with fail
            go_roundw
            case rel => exact ⟨k + 1, by omega, by go_num, .inr ⟨by omega, by rw [hz1.out]; simp, by rw [hz1.out, HM.out]⟩, HB3⟩
            case measure => simp [intOf]; omega
      · obtain rfl : k = b ^ 2 := by omega
        rcases hcase with ⟨h0, _⟩ | ⟨hk0, rfl, rfl⟩
        · omega
        · have hql := HBL.out _ hk0
          have hrow := (HV.out.below HBk.out).2.2.1 _ (show bestZ b 2 (b ^ 2) < (rowsD b 2).length by rw [HRL.out]; exact hql)
          rw [HG.out _ hql] at hrow
          obtain ⟨Al, cl, el, h1, h2⟩ := hrow.shape
          rw [el] at hrow ⊢
          have HB1 := hide (HB.out.trans (HBk.out.mono HB.out.size))
          have HO := hide (hrow.less (base' := w.heap.size) (Nat.le_refl _))
          have hlt3 : ¬ ((b ^ 2 : Nat) : Int) < ((rowsD b 2).length : Int) := by rw [HRL.out]; omega
          clear hrow el
          generalize dg b 2 (bestZ b 2 (b ^ 2)) = zs at *
          go_wp2_with fail
          go_ret3
          exact ⟨Al, cl, rfl, h1, h2, HO.out, HB1.out⟩
  · go_enter Try.func4, Try.ntmps4
    go_wp2_with fail
    refine HIn.out.mono ?_; rintro e w' ⟨rfl, rfl⟩
    go_wp2_with fail
    refine HC.out.mono ?_; rintro e w1 ⟨v, rfl, ⟨vs, hown⟩, hb⟩
    have HV := hide hown
    have HB := hide hb
    clear hown hb
    obtain ⟨A1, c1, rfl, _, _⟩ := HV.out.shape
    go_wp2_with fail
    go_loopw [7, 8, 28] (fun v l i W => ∃ k : Nat, k ≤ b ^ 4 ∧ i = .int .i64 (k : Int) ∧ ((k = 0 ∧ v = .slice none 0 0 ∧ l = .int .i64 (-1)) ∨ (0 < k ∧ v = vs.getD (bestZ b 4 k) undef ∧ l = .int .i64 (leadF (dg b 4 (bestZ b 4 k)) : Int))) ∧ Hid (Below w1.heap.size w1 W))
      (fun _ _ i _ => b ^ 4 - (intOf i).toNat)
    case atStart => exact ⟨0, Nat.zero_le _, rfl, .inl ⟨rfl, rfl, rfl⟩, hide (Below.refl _ _)⟩
    case round =>
      obtain ⟨k, hk, rfl, hcase, HBk⟩ := hrel
      by_cases hlt : k < b ^ 4
      · have hlr : k < (rowsD b 4).length := by rw [HRL.out]; exact hlt
        have HVk := hide (HV.out.below HBk.out)
        obtain ⟨ad, rfl, _, hcell⟩ := HVk.out.vals.at_ hlr
        have hrow := HVk.out.2.2.1 k hlr
        obtain ⟨Al, cl, el, _, _⟩ := hrow.shape
        rw [el] at hcell hrow
        rw [HG.out k hlt] at hcell hrow el
        have HLK := hide (HLD.out Al cl k wr hrow.ints)
        have HBk0 := hide HBk.out.size
        have hlt3 : (k : Int) < ((rowsD b 4).length : Int) := by omega
        have hlb := HLB.out k
        have HEL := hide el
        clear hrow el
        have HZk := hide (HBZ.out k)
        rcases hcase with ⟨rfl, rfl, rfl⟩ | ⟨hk0, rfl, rfl⟩
        · rw [show ad.add 0 = ad from by simp [Addr.add]] at hcell
          have hz1 : Hid (bestZ b 4 1 = 0) := hide (by rw [show (1 : Nat) = 0 + 1 from rfl, HZk.out]; simp [bestZ])
          have hgt : (-1 : Int) < (leadF (dg b 4 0) : Int) := by omega
          generalize hL : leadF (dg b 4 0) = L at *
          have HL := hide hL
          clear hL
          go_wp2_with fail
          refine HLK.out.mono ?_; rintro e w3 ⟨rfl, hb3⟩
          have HB3 := hide (HBk.out.trans (hb3.mono HBk0.out))
          clear hb3
          go_wp2_with fail
          go_roundw
          case rel => exact ⟨1, by omega, by go_num, .inr ⟨by omega, by rw [hz1.out]; exact HEL.out.symm, by rw [hz1.out, HL.out]⟩, HB3⟩
          case measure => simp [intOf]; omega
        · generalize hq : bestZ b 4 k = q at *
          have HQ := hide hq
          clear hq
          generalize hL : leadF (dg b 4 k) = L at *
          generalize hM : leadF (dg b 4 q) = M at *
          have HL := hide hL
          have HM := hide hM
          clear hL hM
          by_cases hlm : M < L
          · have hz1 : Hid (bestZ b 4 (k + 1) = k) := hide (by rw [HZk.out, if_pos hlm])
            have hgt : (M : Int) < (L : Int) := by omega
            go_wp2_with fail
            refine HLK.out.mono ?_; rintro e w3 ⟨rfl, hb3⟩
            have HB3 := hide (HBk.out.trans (hb3.mono HBk0.out))
            clear hb3
            go_wp2_with fail
            go_roundw
            case rel => exact ⟨k + 1, by omega, by go_num, .inr ⟨by omega, by rw [hz1.out]; exact HEL.out.symm, by rw [hz1.out, HL.out]⟩, HB3⟩
            case measure => simp [intOf]; omega
          · have hz1 : Hid (bestZ b 4 (k + 1) = q) := hide (by rw [HZk.out, if_neg hlm])
            have hgt : ¬ (M : Int) < (L : Int) := by omega
            go_wp2_with fail
            refine HLK.out.mono ?_; rintro e w3 ⟨rfl, hb3⟩
            have HB3 := hide (HBk.out.trans (hb3.mono HBk0.out))
            clear hb3
            go_wp2_with fail
            go_roundw
            case rel => exact ⟨k + 1, by omega, by go_num, .inr ⟨by omega, by rw [hz1.out]; simp, by rw [hz1.out, HM.out]⟩, HB3⟩
            case measure => simp [intOf]; omega
      · obtain rfl : k = b ^ 4 := by omega
        rcases hcase with ⟨h0, _⟩ | ⟨hk0, rfl, rfl⟩
        · omega
        · have hql := HBL.out _ hk0
          have hrow := (HV.out.below HBk.out).2.2.1 _ (show bestZ b 4 (b ^ 4) < (rowsD b 4).length by rw [HRL.out]; exact hql)
          rw [HG.out _ hql] at hrow
          obtain ⟨Al, cl, el, h1, h2⟩ := hrow.shape
          rw [el] at hrow ⊢
          have HB1 := hide (HB.out.trans (HBk.out.mono HB.out.size))
          have HO := hide (hrow.less (base' := w.heap.size) (Nat.le_refl _))
          have hlt3 : ¬ ((b ^ 4 : Nat) : Int) < ((rowsD b 4).length : Int) := by rw [HRL.out]; omega
          clear hrow el
          generalize dg b 4 (bestZ b 4 (b ^ 4)) = zs at *
          go_wp2_with fail
          go_ret3
          exact ⟨Al, cl, rfl, h1, h2, HO.out, HB1.out⟩

/-- The model's SlowestToZero. -/
theorem specSlowestToZero_any (u m : Int) (w : World) : Calls Try.prog 4 #[.int .i64 u, .int .i64 m] w (MadeZ (szL u m) (szN u m) (szOk u m) w) := by
  cases hg : szOk u m
  · rw [(sz_no hg).1, (sz_no hg).2]
    have h := of_decide_eq_false hg
    clear hg
    by_cases h2 : u = 2
    · subst h2
      have HIn := hide (l1In_any m 0 6 w)
      rw [decide_eq_false (show ¬ (0 ≤ m ∧ m ≤ 6) by omega)] at HIn
      go_enter Try.func4, Try.ntmps4
      go_wp2_with fail
      refine HIn.out.mono ?_; rintro e w' ⟨rfl, rfl⟩
      go_wp2_with fail
      go_ret3
      exact madeZ_none (Below.refl _ _)
    · have e2 : (u != 2) = true := by simpa using h2
      by_cases h4 : u = 4
      · subst h4
        have HIn := hide (l1In_any m 0 6 w)
        rw [decide_eq_false (show ¬ (0 ≤ m ∧ m ≤ 6) by omega)] at HIn
        go_enter Try.func4, Try.ntmps4
        go_wp2_with fail
        refine HIn.out.mono ?_; rintro e w' ⟨rfl, rfl⟩
        go_wp2_with fail
        go_ret3
        exact madeZ_none (Below.refl _ _)
      · have e4 : (u != 4) = true := by simpa using h4
        clear h
        go_enter Try.func4, Try.ntmps4
        go_wp2_with fail
        go_ret3
        exact madeZ_none (Below.refl _ _)
  · have h := of_decide_eq_true hg
    obtain ⟨s, rfl⟩ := Int.eq_ofNat_of_zero_le (show 0 ≤ u by omega)
    obtain ⟨b, hb⟩ := Int.eq_ofNat_of_zero_le (show 0 ≤ m + 1 by omega)
    obtain rfl : m = (b : Int) - 1 := by omega
    obtain ⟨e1, e2⟩ := sz_yes hg (by omega)
    rw [e1, e2]
    exact specSz_yes s b w (by omega) (by omega) (by omega)
end Go.Proofs.Ytkhcabgpbmhimaa
