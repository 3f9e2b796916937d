
/-
  WHAT CLUES TELL OF HEAPS, THE PROGRAM's WAY: countOf, toldBy, doAllFit.
-/
import Derived.Test.YtfmncffjaholmaaPzT
namespace Go.Proofs.Ytfmncffjaholmaa
open Go.RowKit Go.Deep
set_option linter.unusedVariables false

theorem countOf_any (A : Option Addr) (n c B : Nat) (zs : List Int) (a : Int) (w : World) (hr : Ints w B A n zs) (hn : n ≤ 1000000) :
    Calls Try.prog 34 #[.slice A n c, .int .i64 a] w fun e w' => e = .returned (.int .i64 (cntOf a zs)) ∧ w = w' := by
  obtain rfl := hr.len
  have HL := hide (fun k (h : k < zs.length) => cntOf_succ a zs k h)
  have HD := hide (fun k => (cntOf_bd a (zs.take k)))
  go_enter Try.func34, Try.ntmps34
  go_wp2_with fail
  go_loop [5, 10] (fun s i => ∃ k : Nat, k ≤ zs.length ∧ i = .int .i64 k ∧ s = .int .i64 (cntOf a (zs.take k)))
    (fun _ i => zs.length - (intOf i).toNat)
  case atStart => exact ⟨0, Nat.zero_le _, rfl, rfl⟩
  case round =>
    obtain ⟨k, hk, rfl, rfl⟩ := hrel
    by_cases hlt : k < zs.length
    · obtain ⟨ad, rfl, hab, hcell⟩ := hr.at_ hlt
      have Hs := hide (HL.out k hlt)
      have hbd := HD.out k
      rw [List.length_take] at hbd
      rw [show zs.getD k 0 = zs[k] from by simp [List.getD, List.getElem?_eq_getElem hlt]] at hcell
      generalize cntOf a (zs.take k) = s at *
      by_cases hx : zs[k] = a
      · have Hs2 := hide (Hs.out.trans (by rw [if_pos hx]))
        clear Hs
        go_wp2_with fail
        go_round
        case rel => exact ⟨k + 1, by omega, by go_num, by first | (rw [Hs2.out]; done) | (rw [Hs2.out]; go_num)⟩
        case measure => simp [intOf]; omega
      · have Hs2 := hide (Hs.out.trans (by rw [if_neg hx]))
        clear Hs
        go_wp2_with fail
        go_round
        case rel => exact ⟨k + 1, by omega, by go_num, by first | (rw [Hs2.out]; done) | (rw [Hs2.out]; go_num)⟩
        case measure => simp [intOf]; omega
    · rw [List.take_of_length_le (by omega)]
      go_wp2_with fail
      go_ret
      exact ⟨rfl, rfl⟩

set_option maxHeartbeats 4000000 in
set_option maxRecDepth 100000 in
theorem toldBy_any (A : Option Addr) (n c B : Nat) (zs : List Int) (cl : Cl) (w : World) (hr : Ints w B A n zs) (hB : B ≤ w.heap.size) (hz : hidOk zs = true) (hs : subOk n cl.x0 cl.x1 cl.x2) :
    Calls Try.prog 27 #[.agg #[.int .i64 cl.x0, .int .i64 cl.x1, .int .i64 cl.x2, .int .i64 cl.x3], .slice A n c] w fun e w' => e = .returned (.int .i64 (told cl.x0 cl.x1 cl.x2 zs)) ∧ Below w.heap.size w w' := by
  obtain rfl := hr.len
  obtain ⟨k, a, b, x3⟩ := cl
  obtain ⟨⟨hn2, hn4⟩, hw⟩ := hidOk_of hz
  have hn : zs.length ≤ 17592186044416 := by omega
  have hb1 : Below w.heap.size w (w.alloc (.cells #[.int .i64 k, .int .i64 a, .int .i64 b, .int .i64 x3] 38)) := (Below.refl _ _).alloc (Nat.le_refl _) _
  have hr1 := hr.below hb1 hB
  have hB1 := Nat.le_trans hB hb1.size
  have HB := hide hb1
  have HZ := hide hz
  have HW := hide hw
  have HS := hide hs
  clear hz hw hs hb1 hr
  by_cases e0 : k = 0
  · subst e0
    have HT := hide (told_0 a b zs)
    have HP := hide (sumOf_any A zs.length c B zs _ hr1 (by omega) (within_wide HW.out (by omega) (by omega)))
    generalize tot zs = s at *
    clear hr1 hB1
    go_enter Try.func27, Try.ntmps27
    go_wp2_with fail
    refine HP.out.mono ?_; rintro e w' ⟨rfl, rfl⟩
    go_wp2_with fail
    go_ret
    exact ⟨ret_int HT.out.symm, HB.out⟩
  · by_cases e1 : k = 1
    · subst e1
      have HT := hide (told_1 a b zs)
      obtain ⟨⟨ha1, ha2⟩, hb1, hb2⟩ := HS.out (.inl rfl)
      change a < (zs.length : Int) at ha2
      change b < (zs.length : Int) at hb2
      obtain ⟨i, rfl⟩ := Int.eq_ofNat_of_zero_le ha1
      obtain ⟨j, rfl⟩ := Int.eq_ofNat_of_zero_le hb1
      rw [Int.toNat_natCast, Int.toNat_natCast] at HT
      obtain ⟨ad, rfl, hab, hci⟩ := hr1.at_ (show i < zs.length by omega)
      obtain ⟨ad', had, _, hcj⟩ := hr1.at_ (show j < zs.length by omega)
      obtain rfl : ad = ad' := by injection had
      generalize zs.getD i 0 = x at *
      generalize zs.getD j 0 = y at *
      have hi : i < zs.length := by omega
      have hj : j < zs.length := by omega
      by_cases hxy : y < x
      · have HT2 := hide (HT.out.trans (if_pos hxy))
        clear HT HS had ha1 ha2 hb1 hb2
        go_enter Try.func27, Try.ntmps27
        go_wp2_with fail
        go_quiet (fail)
        go_wp2_with fail
        go_ret
        exact ⟨ret_int HT2.out.symm, below_drewN HB.out _⟩
      · have HT2 := hide (HT.out.trans (if_neg hxy))
        clear HT HS had ha1 ha2 hb1 hb2
        go_enter Try.func27, Try.ntmps27
        go_wp2_with fail
        go_quiet (fail)
        go_wp2_with fail
        go_ret
        exact ⟨ret_int HT2.out.symm, below_drewN HB.out _⟩
    · by_cases e2 : k = 2
      · subst e2
        have HT := hide (told_2 a b zs)
        have HC := hide (countOf_any A zs.length c B zs a _ hr1 (by omega))
        generalize cntOf a zs = s at *
        clear hr1 hB1
        go_enter Try.func27, Try.ntmps27
        go_wp2_with fail
        refine HC.out.mono ?_; rintro e w' ⟨rfl, rfl⟩
        go_wp2_with fail
        go_ret
        exact ⟨ret_int HT.out.symm, HB.out⟩
      · by_cases e3 : k = 3
        · subst e3
          have HT := hide (told_3 a b zs)
          have HE := hide (StonesToMove_any A zs.length c B zs _ hr1 hB1 hn)
          clear hr1 hB1
          generalize gainN zs = gg at *
          cases hq : eqOk zs
          · rw [hq] at HT HE
            have HT2 := hide (HT.out.trans (if_neg (by simp)))
            clear HT hq
            go_enter Try.func27, Try.ntmps27
            go_wp2_with fail
            refine HE.out.mono ?_; rintro e w2 ⟨rfl, hb2⟩
            have HB2 := hide (HB.out.trans (hb2.mono HB.out.size))
            clear hb2
            go_wp2_with fail
            go_ret
            exact ⟨ret_int HT2.out.symm, HB2.out⟩
          · rw [hq] at HT HE
            have HT2 := hide (HT.out.trans (if_pos rfl))
            clear HT hq
            go_enter Try.func27, Try.ntmps27
            go_wp2_with fail
            refine HE.out.mono ?_; rintro e w2 ⟨rfl, hb2⟩
            have HB2 := hide (HB.out.trans (hb2.mono HB.out.size))
            clear hb2
            go_wp2_with fail
            go_ret
            exact ⟨ret_int HT2.out.symm, HB2.out⟩
        · by_cases e4 : k = 4
          · subst e4
            have HT := hide (told_4 a b zs)
            obtain ⟨⟨ha1, ha2⟩, hb1, hb2⟩ := HS.out (.inr rfl)
            change a < (zs.length : Int) at ha2
            change b < (zs.length : Int) at hb2
            obtain ⟨i, rfl⟩ := Int.eq_ofNat_of_zero_le ha1
            obtain ⟨j, rfl⟩ := Int.eq_ofNat_of_zero_le hb1
            rw [Int.toNat_natCast, Int.toNat_natCast] at HT
            obtain ⟨ad, rfl, hab, hci⟩ := hr1.at_ (show i < zs.length by omega)
            obtain ⟨ad', had, _, hcj⟩ := hr1.at_ (show j < zs.length by omega)
            obtain rfl : ad = ad' := by injection had
            have hi : i < zs.length := by omega
            have hj : j < zs.length := by omega
            have hbi := hidOk_get HZ.out i hi
            have hbj := hidOk_get HZ.out j hj
            rw [show zs[i] = zs.getD i 0 from by simp [List.getD, List.getElem?_eq_getElem hi]] at hbi
            rw [show zs[j] = zs.getD j 0 from by simp [List.getD, List.getElem?_eq_getElem hj]] at hbj
            generalize zs.getD i 0 = x at *
            generalize zs.getD j 0 = y at *
            clear HS had ha1 ha2 hb1 hb2
            go_enter Try.func27, Try.ntmps27
            go_wp2_with fail
            go_quiet (fail)
            go_wp2_with fail
            go_ret
            exact ⟨ret_int (by first | (rw [HT.out]; done) | (rw [HT.out]; go_num)), below_drewN HB.out _⟩
          · have HT := hide ((told_n a b zs e0 e1 e2 e3 e4).trans (up_first0 (by omega) HW.out).symm)
            have HM := hide (Max_any A zs.length c B zs _ hr1 hn (by omega))
            generalize up (zs.getD 0 0) zs = s at *
            clear hr1 hB1
            go_enter Try.func27, Try.ntmps27
            go_wp2_with fail
            refine HM.out.mono ?_; rintro e w' ⟨rfl, rfl⟩
            go_wp2_with fail
            go_ret
            exact ⟨ret_int HT.out.symm, HB.out⟩

end Go.Proofs.Ytfmncffjaholmaa
