
/-
  WHAT CLUES TELL OF HEAPS, BOTH WAYS: pzValue, toldBy.
-/
import Derived.Test.YtmhnihdgggblmaaPzTP
import Derived.Test.YtmhnihdgggblmaaBox
import Derived.Test.YtmhnihdgggblmaaPzR
import Derived.Deep.RegionHeld3
namespace Go.Proofs.Ytmhnihdgggblmaa
open Go.RowKit Go.Deep
set_option linter.unusedVariables false

set_option maxHeartbeats 4000000 in
set_option maxRecDepth 100000 in
theorem pzValue_any (A : Option Addr) (n c B : Nat) (zs : List Int) (k a b : Int) (w : World) (hr : Ints w B A n zs) (hB : B ≤ w.heap.size) (hz : hidOk zs = true) (hs : subOk n k a b) :
    Calls Try.prog 48 #[.int .i64 k, .int .i64 a, .int .i64 b, .slice A n c] w fun e w' => e = .returned (.int .i64 (told k a b zs)) ∧ Below w.heap.size w w' := by
  obtain rfl := hr.len
  obtain ⟨⟨hn2, hn4⟩, hw⟩ := hidOk_of hz
  have hn : zs.length ≤ 17592186044416 := by omega
  have HZ := hide hz
  have HW := hide hw
  have HS := hide hs
  clear hz hw hs
  by_cases e0 : k = 0
  · subst e0
    have HT := hide (told_0 a b zs)
    have HP := hide (hpSum_any A zs.length c B zs w hr (by omega) (within_wide HW.out (by omega) (by omega)))
    generalize tot zs = s at *
    go_enter Try.func48, Try.ntmps48
    go_wp2_with fail
    refine HP.out.mono ?_; rintro e w' ⟨rfl, rfl⟩
    go_wp2_with fail
    go_ret
    exact ⟨ret_int HT.out.symm, Below.refl _ _⟩
  · by_cases e1 : k = 1
    · subst e1
      have HT := hide (told_1 a b zs)
      obtain ⟨⟨ha1, ha2⟩, hb1, hb2⟩ := HS.out (.inl rfl)
      obtain ⟨i, rfl⟩ := Int.eq_ofNat_of_zero_le ha1
      obtain ⟨j, rfl⟩ := Int.eq_ofNat_of_zero_le hb1
      rw [Int.toNat_natCast, Int.toNat_natCast] at HT
      obtain ⟨ad, rfl, hab, hci⟩ := hr.at_ (show i < zs.length by omega)
      obtain ⟨ad', had, _, hcj⟩ := hr.at_ (show j < zs.length by omega)
      obtain rfl : ad = ad' := by injection had
      generalize zs.getD i 0 = x at *
      generalize zs.getD j 0 = y at *
      have hi : i < zs.length := by omega
      have hj : j < zs.length := by omega
      by_cases hxy : y < x
      · have HT2 := hide (HT.out.trans (if_pos hxy))
        clear HT HS had ha1 ha2 hb1 hb2
        go_enter Try.func48, Try.ntmps48
        go_wp2_with fail
        go_quiet (fail)
        go_wp2_with fail
        go_ret
        exact ⟨ret_int HT2.out.symm, below_drewN (Below.refl _ _) _⟩
      · have HT2 := hide (HT.out.trans (if_neg hxy))
        clear HT HS had ha1 ha2 hb1 hb2
        go_enter Try.func48, Try.ntmps48
        go_wp2_with fail
        go_quiet (fail)
        go_wp2_with fail
        go_ret
        exact ⟨ret_int HT2.out.symm, below_drewN (Below.refl _ _) _⟩
    · by_cases e2 : k = 2
      · subst e2
        have HT := hide (told_2 a b zs)
        have HL := hide (fun k (h : k < zs.length) => cntOf_succ a zs k h)
        have HD := hide (fun k => (cntOf_bd a (zs.take k)))
        go_enter Try.func48, Try.ntmps48
        go_wp2_with fail
        go_loop [9, 46] (fun s i => ∃ k : Nat, k ≤ zs.length ∧ i = .int .i64 k ∧ s = .int .i64 (cntOf a (zs.take k)))
          (fun _ i => zs.length - (intOf i).toNat)
        case atStart => exact ⟨0, Nat.zero_le _, rfl, rfl⟩
        case round =>
          obtain ⟨k, hk, rfl, rfl⟩ := hrel
          by_cases hlt : k < zs.length
          · obtain ⟨ad, rfl, hab, hcell⟩ := hr.at_ hlt
            have Hs := hide (HL.out k hlt)
            have hbd := HD.out k
            rw [List.length_take] at hbd
            rw [show zs.getD k 0 = zs[k] from by simp [List.getD, List.getElem?_eq_getElem hlt]] at hcell
            generalize cntOf a (zs.take k) = s at *
            by_cases hx : zs[k] = a
            · have Hs2 := hide (Hs.out.trans (by rw [if_pos hx]))
              clear Hs
              go_wp2_with fail
              go_round
              case rel => exact ⟨k + 1, by omega, by go_num, by first | (rw [Hs2.out]; done) | (rw [Hs2.out]; go_num)⟩
              case measure => simp [intOf]; omega
            · have Hs2 := hide (Hs.out.trans (by rw [if_neg hx]))
              clear Hs
              go_wp2_with fail
              go_round
              case rel => exact ⟨k + 1, by omega, by go_num, by first | (rw [Hs2.out]; done) | (rw [Hs2.out]; go_num)⟩
              case measure => simp [intOf]; omega
          · rw [List.take_of_length_le (by omega)]
            go_wp2_with fail
            go_ret
            exact ⟨ret_int HT.out.symm, Below.refl _ _⟩
      · by_cases e3 : k = 3
        · subst e3
          have HT := hide (told_3 a b zs)
          have HE := hide (fun W (h : Ints W B A zs.length zs) => hpEqual_any A zs.length c B zs W h hn)
          cases hq : eqOk zs
          · rw [hq] at HT HE
            have HT2 := hide (HT.out.trans (if_neg (by simp)))
            clear HT hq
            go_enter Try.func48, Try.ntmps48
            go_wp2_with fail
            refine (HE.out _ hr).mono ?_; rintro e w' ⟨rfl, rfl⟩
            go_wp2_with fail
            go_ret
            exact ⟨ret_int HT2.out.symm, Below.refl _ _⟩
          · rw [hq] at HT HE
            have HT2 := hide ((HT.out.trans (if_pos rfl)).trans (gainN_yes hq))
            have hg := eqOk_good hq
            have hs0 := (share_bd hg).1
            rw [← shareEq_yes hq] at hs0
            have HSm := hide (manyL_bd hg hs0)
            have HO := hide (over_length zs)
            have HL := hide (manyL_length (shareEq zs) zs)
            have HSh := hide (shareEq_yes hq)
            have HG := hide hg
            clear hg HT hs0 hq
            have HT := hide (fun k (h : k < (manyL (shareEq zs) zs).length) => tot_take_succ (manyL (shareEq zs) zs) k h)
            have HM := hide (fun k (h : k < zs.length) (h' : k < (manyL (shareEq zs) zs).length) => show (manyL (shareEq zs) zs)[k] = _ from manyL_get (shareEq zs) zs k h)
            generalize manyL (shareEq zs) zs = L at *
            go_enter Try.func48, Try.ntmps48
            go_wp2_with fail
            refine (HE.out _ hr).mono ?_; rintro e w' ⟨rfl, rfl⟩
            go_wp2_with fail
            refine (hpOver_any _ _ _ _ _ _ hr hB HG.out).mono ?_
            rintro e w1 ⟨A', c', rfl, h1, h2, hown, hb⟩
            have hx := hown.ints
            rw [HO.out] at hx ⊢
            go_wp2_with fail
            go_loop [9, 64] (fun s i => ∃ k : Nat, k ≤ zs.length ∧ i = .int .i64 k ∧ s = .int .i64 (tot (L.take k)))
              (fun _ i => zs.length - (intOf i).toNat)
            case atStart => exact ⟨0, Nat.zero_le _, rfl, rfl⟩
            case round =>
              obtain ⟨k, hk, rfl, rfl⟩ := hrel
              have hts := tot_small HSm.out (by rw [HL.out]; omega) k
              by_cases hlt : k < zs.length
              · have hkL : k < L.length := by rw [HL.out]; exact hlt
                have Hs := hide (HT.out k hkL)
                have hm := HM.out k hlt hkL
                have hk2 := within_get HSm.out k hkL
                have hts1 := tot_small HSm.out (by rw [HL.out]; omega) (k + 1)
                rw [Hs.out, hm] at hts1
                rw [hm] at hk2
                rw [HSh.out] at hm hts1 hk2
                obtain ⟨ad, rfl, hab, hcell⟩ := hx.at_ hlt
                rw [show (over zs).getD k 0 = zs[k] - tot zs / zs.length from by simp [List.getD, List.getElem?_eq_getElem (show k < (over zs).length by rw [HO.out]; exact hlt), over_get zs k hlt]] at hcell
                have HH := hide (hm.trans (Int.max_comm _ _))
                rw [Int.max_comm] at hts1 hk2
                clear hm
                generalize zs[k] - tot zs / zs.length = d at *
                go_wp2_with fail
                refine (l1Most_any _ _ _).mono ?_; rintro e w' ⟨rfl, rfl⟩
                go_wp2_with fail
                go_round
                case rel => exact ⟨k + 1, by omega, by go_num, by rw [Hs.out, HH.out]⟩
                case measure => simp [intOf]; omega
              · go_wp2_with fail
                go_ret
                exact ⟨by rw [List.take_of_length_le (by rw [HL.out]; omega)]; exact ret_int HT2.out.symm, hb⟩
        · by_cases e4 : k = 4
          · subst e4
            have HT := hide (told_4 a b zs)
            obtain ⟨⟨ha1, ha2⟩, hb1, hb2⟩ := HS.out (.inr rfl)
            obtain ⟨i, rfl⟩ := Int.eq_ofNat_of_zero_le ha1
            obtain ⟨j, rfl⟩ := Int.eq_ofNat_of_zero_le hb1
            rw [Int.toNat_natCast, Int.toNat_natCast] at HT
            obtain ⟨ad, rfl, hab, hci⟩ := hr.at_ (show i < zs.length by omega)
            obtain ⟨ad', had, _, hcj⟩ := hr.at_ (show j < zs.length by omega)
            obtain rfl : ad = ad' := by injection had
            have hi : i < zs.length := by omega
            have hj : j < zs.length := by omega
            have hbi := hidOk_get HZ.out i hi
            have hbj := hidOk_get HZ.out j hj
            rw [show zs[i] = zs.getD i 0 from by simp [List.getD, List.getElem?_eq_getElem hi]] at hbi
            rw [show zs[j] = zs.getD j 0 from by simp [List.getD, List.getElem?_eq_getElem hj]] at hbj
            generalize zs.getD i 0 = x at *
            generalize zs.getD j 0 = y at *
            clear HS had ha1 ha2 hb1 hb2
            go_enter Try.func48, Try.ntmps48
            go_wp2_with fail
            go_quiet (fail)
            go_wp2_with fail
            go_ret
            exact ⟨ret_int (by first | (rw [HT.out]; done) | (rw [HT.out]; go_num)), below_drewN (Below.refl _ _) _⟩
          · have HT := hide (told_n a b zs e0 e1 e2 e3 e4)
            have d0 : (k == 0) = false := by simpa using e0
            have d1 : (k == 1) = false := by simpa using e1
            have d2 : (k == 2) = false := by simpa using e2
            have d3 : (k == 3) = false := by simpa using e3
            have d4 : (k == 4) = false := by simpa using e4
            have HL := hide (fun k (h : k < zs.length) => up_take_succ 0 zs k h)
            go_enter Try.func48, Try.ntmps48
            go_wp2_with fail
            go_loop [9, 19] (fun s i => ∃ k : Nat, k ≤ zs.length ∧ i = .int .i64 k ∧ s = .int .i64 (up 0 (zs.take k)))
              (fun _ i => zs.length - (intOf i).toNat)
            case atStart => exact ⟨0, Nat.zero_le _, rfl, rfl⟩
            case round =>
              obtain ⟨k, hk, rfl, rfl⟩ := hrel
              by_cases hlt : k < zs.length
              · obtain ⟨ad, rfl, hab, hcell⟩ := hr.at_ hlt
                have Hs := hide (HL.out k hlt)
                rw [show zs.getD k 0 = zs[k] from by simp [List.getD, List.getElem?_eq_getElem hlt]] at hcell
                go_wp2_with fail
                refine (l1Most_any _ _ _).mono ?_; rintro e w' ⟨rfl, rfl⟩
                go_wp2_with fail
                go_round
                case rel => exact ⟨k + 1, by omega, by go_num, by rw [Hs.out]⟩
                case measure => simp [intOf]; omega
              · rw [List.take_of_length_le (by omega)]
                go_wp2_with fail
                go_ret
                exact ⟨ret_int HT.out.symm, Below.refl _ _⟩

def clV (c : Cl) : Value := .agg #[.int .i64 c.x0, .int .i64 c.x1, .int .i64 c.x2, .int .i64 c.x3]

set_option maxHeartbeats 4000000 in
set_option maxRecDepth 100000 in
/-- The model's pzFits. -/
theorem pzFits_any (A : Option Addr) (n c B : Nat) (zs : List Int) (cl : Cl) (w : World) (hr : Ints w B A n zs) (hB : B ≤ w.heap.size) (hz : hidOk zs = true) (hs : subOk n cl.x0 cl.x1 cl.x2) :
    Calls Try.prog 44 #[.agg #[.int .i64 cl.x0, .int .i64 cl.x1, .int .i64 cl.x2, .int .i64 cl.x3], .slice A n c] w fun e w' => e = .returned (.bool (fitB zs cl)) ∧ Below w.heap.size w w' := by
  have X0 := hide (CBox.new w 54 cl)
  have HB := hide (show Below w.heap.size w (w.alloc (.cells #[.int .i64 cl.x0, .int .i64 cl.x1, .int .i64 cl.x2, .int .i64 cl.x3] 54)) from (Below.refl _ _).alloc (Nat.le_refl _) _)
  have HF : Hid (fitB zs cl = decide (told cl.x0 cl.x1 cl.x2 zs = cl.x3)) := hide rfl
  have HV := hide (fun W (h : Below w.heap.size w W) => pzValue_any A n c B zs cl.x0 cl.x1 cl.x2 W (hr.below h hB) (Nat.le_trans hB h.size) hz hs)
  clear hr hz hs
  generalize told cl.x0 cl.x1 cl.x2 zs = tv at *
  generalize fitB zs cl = fb at *
  go_enter Try.func44, Try.ntmps44
  go_wp2_with fail
  go_region_held3 (fun W => Below w.heap.size w W ∧ W.cell? ⟨w.heap.size, 0, none⟩ = some (.int .i64 cl.x0) ∧ W.cell? ⟨w.heap.size, 1, none⟩ = some (.int .i64 cl.x1) ∧ W.cell? ⟨w.heap.size, 2, none⟩ = some (.int .i64 cl.x2) ∧ W.cell? ⟨w.heap.size, 3, none⟩ = some (.int .i64 cl.x3))
    (first | exact ⟨HB.out.drew, X0.out.c0, X0.out.c1, X0.out.c2, X0.out.c3⟩ | exact ⟨HB2.out, X2.out.c0, X2.out.c1, X2.out.c2, X2.out.c3⟩ | go_keep)
    (first
    | (go_at_call 48; (with_reducible refine (HV.out _ (And.left (by assumption))).mono ?_); rintro e w2 ⟨rfl, hb2⟩; have HB2 : Hid (Below w.heap.size w w2) := hide (HB.out.drew.trans (hb2.mono (HB.out.drew).size)); have X2 := hide (X0.out.next (show Below (w.alloc (.cells #[.int .i64 cl.x0, .int .i64 cl.x1, .int .i64 cl.x2, .int .i64 cl.x3] 54)).heap.size _ w2 from (Below.refl _ _).drew.trans hb2))))
  have hbd := HB2.out
  clear hb2 HV X2 HB2
  go_wp2_with fail
  go_ret
  exact ⟨ret_bool (by rw [HF.out]; by_cases e : tv = cl.x3 <;> simp [e]), hbd⟩
end Go.Proofs.Ytmhnihdgggblmaa
