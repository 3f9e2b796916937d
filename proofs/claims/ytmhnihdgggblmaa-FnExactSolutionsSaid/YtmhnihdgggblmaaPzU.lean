
/-
  WHAT CLUES TELL OF HEAPS, THE PROGRAM's WAY: countOf, toldBy, doAllFit.
-/
import Derived.Test.YtmhnihdgggblmaaPzT
namespace Go.Proofs.Ytmhnihdgggblmaa
open Go.RowKit Go.Deep
set_option linter.unusedVariables false

theorem countOf_any (A : Option Addr) (n c B : Nat) (zs : List Int) (a : Int) (w : World) (hr : Ints w B A n zs) (hn : n ≤ 1000000) :
    Calls Try.prog 52 #[.slice A n c, .int .i64 a] w fun e w' => e = .returned (.int .i64 (cntOf a zs)) ∧ w = w' := by
  obtain rfl := hr.len
  have HL := hide (fun k (h : k < zs.length) => cntOf_succ a zs k h)
  have HD := hide (fun k => (cntOf_bd a (zs.take k)))
  go_enter Try.func52, Try.ntmps52
  go_wp2_with fail
  go_loop [5, 10] (fun s i => ∃ k : Nat, k ≤ zs.length ∧ i = .int .i64 k ∧ s = .int .i64 (cntOf a (zs.take k)))
    (fun _ i => zs.length - (intOf i).toNat)
  case atStart => exact ⟨0, Nat.zero_le _, rfl, rfl⟩
  case round =>
    obtain ⟨k, hk, rfl, rfl⟩ := hrel
    by_cases hlt : k < zs.length
    · obtain ⟨ad, rfl, hab, hcell⟩ := hr.at_ hlt
      have Hs := hide (HL.out k hlt)
      have hbd := HD.out k
      rw [List.length_take] at hbd
      rw [show zs.getD k 0 = zs[k] from by simp [List.getD, List.getElem?_eq_getElem hlt]] at hcell
      generalize cntOf a (zs.take k) = s at *
      by_cases hx : zs[k] = a
      · have Hs2 := hide (Hs.out.trans (by rw [if_pos hx]))
        clear Hs
        go_wp2_with fail
        go_round
        case rel => exact ⟨k + 1, by omega, by go_num, by first | (rw [Hs2.out]; done) | (rw [Hs2.out]; go_num)⟩
        case measure => simp [intOf]; omega
      · have Hs2 := hide (Hs.out.trans (by rw [if_neg hx]))
        clear Hs
        go_wp2_with fail
        go_round
        case rel => exact ⟨k + 1, by omega, by go_num, by first | (rw [Hs2.out]; done) | (rw [Hs2.out]; go_num)⟩
        case measure => simp [intOf]; omega
    · rw [List.take_of_length_le (by omega)]
      go_wp2_with fail
      go_ret
      exact ⟨rfl, rfl⟩

set_option maxHeartbeats 4000000 in
set_option maxRecDepth 100000 in
theorem toldBy_any (A : Option Addr) (n c B : Nat) (zs : List Int) (cl : Cl) (w : World) (hr : Ints w B A n zs) (hB : B ≤ w.heap.size) (hz : hidOk zs = true) (hs : subOk n cl.x0 cl.x1 cl.x2) :
    Calls Try.prog 47 #[.agg #[.int .i64 cl.x0, .int .i64 cl.x1, .int .i64 cl.x2, .int .i64 cl.x3], .slice A n c] w fun e w' => e = .returned (.int .i64 (told cl.x0 cl.x1 cl.x2 zs)) ∧ Below w.heap.size w w' := by
  obtain rfl := hr.len
  obtain ⟨k, a, b, x3⟩ := cl
  obtain ⟨⟨hn2, hn4⟩, hw⟩ := hidOk_of hz
  have hn : zs.length ≤ 17592186044416 := by omega
  have hb1 : Below w.heap.size w (w.alloc (.cells #[.int .i64 k, .int .i64 a, .int .i64 b, .int .i64 x3] 54)) := (Below.refl _ _).alloc (Nat.le_refl _) _
  have hr1 := hr.below hb1 hB
  have hB1 := Nat.le_trans hB hb1.size
  have HB := hide hb1
  have HZ := hide hz
  have HW := hide hw
  have HS := hide hs
  clear hz hw hs hb1 hr
  by_cases e0 : k = 0
  · subst e0
    have HT := hide (told_0 a b zs)
    have HP := hide (sumOf_any A zs.length c B zs _ hr1 (by omega) (within_wide HW.out (by omega) (by omega)))
    generalize tot zs = s at *
    clear hr1 hB1
    go_enter Try.func47, Try.ntmps47
    go_wp2_with fail
    refine HP.out.mono ?_; rintro e w' ⟨rfl, rfl⟩
    go_wp2_with fail
    go_ret
    exact ⟨ret_int HT.out.symm, HB.out⟩
  · by_cases e1 : k = 1
    · subst e1
      have HT := hide (told_1 a b zs)
      obtain ⟨⟨ha1, ha2⟩, hb1, hb2⟩ := HS.out (.inl rfl)
      change a < (zs.length : Int) at ha2
      change b < (zs.length : Int) at hb2
      obtain ⟨i, rfl⟩ := Int.eq_ofNat_of_zero_le ha1
      obtain ⟨j, rfl⟩ := Int.eq_ofNat_of_zero_le hb1
      rw [Int.toNat_natCast, Int.toNat_natCast] at HT
      obtain ⟨ad, rfl, hab, hci⟩ := hr1.at_ (show i < zs.length by omega)
      obtain ⟨ad', had, _, hcj⟩ := hr1.at_ (show j < zs.length by omega)
      obtain rfl : ad = ad' := by injection had
      generalize zs.getD i 0 = x at *
      generalize zs.getD j 0 = y at *
      have hi : i < zs.length := by omega
      have hj : j < zs.length := by omega
      by_cases hxy : y < x
      · have HT2 := hide (HT.out.trans (if_pos hxy))
        clear HT HS had ha1 ha2 hb1 hb2
        go_enter Try.func47, Try.ntmps47
        go_wp2_with fail
        go_quiet (fail)
        go_wp2_with fail
        go_ret
        exact ⟨ret_int HT2.out.symm, below_drewN HB.out _⟩
      · have HT2 := hide (HT.out.trans (if_neg hxy))
        clear HT HS had ha1 ha2 hb1 hb2
        go_enter Try.func47, Try.ntmps47
        go_wp2_with fail
        go_quiet (fail)
        go_wp2_with fail
        go_ret
        exact ⟨ret_int HT2.out.symm, below_drewN HB.out _⟩
    · by_cases e2 : k = 2
      · subst e2
        have HT := hide (told_2 a b zs)
        have HC := hide (countOf_any A zs.length c B zs a _ hr1 (by omega))
        generalize cntOf a zs = s at *
        clear hr1 hB1
        go_enter Try.func47, Try.ntmps47
        go_wp2_with fail
        refine HC.out.mono ?_; rintro e w' ⟨rfl, rfl⟩
        go_wp2_with fail
        go_ret
        exact ⟨ret_int HT.out.symm, HB.out⟩
      · by_cases e3 : k = 3
        · subst e3
          have HT := hide (told_3 a b zs)
          have HE := hide (StonesToMove_any A zs.length c B zs _ hr1 hB1 hn)
          clear hr1 hB1
          generalize gainN zs = gg at *
          cases hq : eqOk zs
          · rw [hq] at HT HE
            have HT2 := hide (HT.out.trans (if_neg (by simp)))
            clear HT hq
            go_enter Try.func47, Try.ntmps47
            go_wp2_with fail
            refine HE.out.mono ?_; rintro e w2 ⟨rfl, hb2⟩
            have HB2 := hide (HB.out.trans (hb2.mono HB.out.size))
            clear hb2
            go_wp2_with fail
            go_ret
            exact ⟨ret_int HT2.out.symm, HB2.out⟩
          · rw [hq] at HT HE
            have HT2 := hide (HT.out.trans (if_pos rfl))
            clear HT hq
            go_enter Try.func47, Try.ntmps47
            go_wp2_with fail
            refine HE.out.mono ?_; rintro e w2 ⟨rfl, hb2⟩
            have HB2 := hide (HB.out.trans (hb2.mono HB.out.size))
            clear hb2
            go_wp2_with fail
            go_ret
            exact ⟨ret_int HT2.out.symm, HB2.out⟩
        · by_cases e4 : k = 4
          · subst e4
            have HT := hide (told_4 a b zs)
            obtain ⟨⟨ha1, ha2⟩, hb1, hb2⟩ := HS.out (.inr rfl)
            change a < (zs.length : Int) at ha2
            change b < (zs.length : Int) at hb2
            obtain ⟨i, rfl⟩ := Int.eq_ofNat_of_zero_le ha1
            obtain ⟨j, rfl⟩ := Int.eq_ofNat_of_zero_le hb1
            rw [Int.toNat_natCast, Int.toNat_natCast] at HT
            obtain ⟨ad, rfl, hab, hci⟩ := hr1.at_ (show i < zs.length by omega)
            obtain ⟨ad', had, _, hcj⟩ := hr1.at_ (show j < zs.length by omega)
            obtain rfl : ad = ad' := by injection had
            have hi : i < zs.length := by omega
            have hj : j < zs.length := by omega
            have hbi := hidOk_get HZ.out i hi
            have hbj := hidOk_get HZ.out j hj
            rw [show zs[i] = zs.getD i 0 from by simp [List.getD, List.getElem?_eq_getElem hi]] at hbi
            rw [show zs[j] = zs.getD j 0 from by simp [List.getD, List.getElem?_eq_getElem hj]] at hbj
            generalize zs.getD i 0 = x at *
            generalize zs.getD j 0 = y at *
            clear HS had ha1 ha2 hb1 hb2
            go_enter Try.func47, Try.ntmps47
            go_wp2_with fail
            go_quiet (fail)
            go_wp2_with fail
            go_ret
            exact ⟨ret_int (by first | (rw [HT.out]; done) | (rw [HT.out]; go_num)), below_drewN HB.out _⟩
          · have HT := hide ((told_n a b zs e0 e1 e2 e3 e4).trans (up_first0 (by omega) HW.out).symm)
            have HM := hide (Max_any A zs.length c B zs _ hr1 hn (by omega))
            generalize up (zs.getD 0 0) zs = s at *
            clear hr1 hB1
            go_enter Try.func47, Try.ntmps47
            go_wp2_with fail
            refine HM.out.mono ?_; rintro e w' ⟨rfl, rfl⟩
            go_wp2_with fail
            go_ret
            exact ⟨ret_int HT.out.symm, HB.out⟩

set_option maxHeartbeats 4000000 in
set_option maxRecDepth 100000 in
/-- The program's doAllFit. -/
theorem doAllFit_any (A : Option Addr) (n c B : Nat) (cs : List Cl) (h : Int) (A' : Option Addr) (n' c' B' : Nat) (zs : List Int) (w : World) (hr : Cls w B A n cs) (hB : B ≤ w.heap.size) (hn : n ≤ 17592186044416)
    (hi : Ints w B' A' n' zs) (hB' : B' ≤ w.heap.size) (hz : hidOk zs = true) (hs : ∀ (j : Nat) (hj : j < cs.length), subOk n' cs[j].x0 cs[j].x1 cs[j].x2) :
    Calls Try.prog 40 #[.agg #[.int .i64 h, .slice A n c], .slice A' n' c'] w fun e w' => e = .returned (.bool (fitAll cs zs)) ∧ Below w.heap.size w w' := by
  obtain rfl := hr.len
  have B0 := hide (show Below w.heap.size w (w.alloc (.cells #[.int .i64 h, .slice A cs.length c] 31)) from (Below.refl _ _).alloc (Nat.le_refl _) _)
  have HTB := hide (fun W (hb : Below w.heap.size w W) (j : Nat) (hj : j < cs.length) => toldBy_any A' n' c' B' zs cs[j] W (hi.below hb hB') (Nat.le_trans hB' hb.size) hz (hs j hj))
  clear hi hz hs
  go_enter Try.func40, Try.ntmps40
  go_wp2_with fail
  go_loopw [10] (fun i wr => ∃ k : Nat, k ≤ cs.length ∧ i = .int .i64 k ∧ Hid (∀ (j : Nat) (hj : j < cs.length), j < k → fitB zs cs[j] = true) ∧ Below w.heap.size w wr)
    (fun i _ => cs.length - (intOf i).toNat)
  case atStart => exact ⟨0, Nat.zero_le _, rfl, hide (fun j _ hj => by omega), B0.out⟩
  case round =>
    obtain ⟨k, hk, rfl, Hall, hb⟩ := hrel
    have hsz := hb.size
    by_cases hlt : k < cs.length
    · obtain ⟨b, off, rfl, hab, hc0, hc1, hc2, hc3⟩ := (hr.below hb hB).at_ hlt hlt
      have HB1 := hide (hb.alloc hsz (.cells #[.int .i64 cs[k].x0, .int .i64 cs[k].x1, .int .i64 cs[k].x2, .int .i64 cs[k].x3] 54))
      have X0 := hide (CBox.new wr 54 cs[k])
      have HV := hide (fun W (hb : Below w.heap.size w W) => HTB.out W hb k hlt)
      have HF : Hid (fitB zs cs[k] = decide (told cs[k].x0 cs[k].x1 cs[k].x2 zs = cs[k].x3)) := hide rfl
      generalize told cs[k].x0 cs[k].x1 cs[k].x2 zs = tv at *
      by_cases e : tv = cs[k].x3
      · have HO := hide (HF.out.trans (decide_eq_true e))
        have hne : (tv != cs[k].x3) = false := by simpa using e
        clear HF e
        go_wp2_with fail
        go_region_held3 (fun W => Below w.heap.size w W ∧ W.cell? ⟨wr.heap.size, 0, none⟩ = some (.int .i64 cs[k].x0) ∧ W.cell? ⟨wr.heap.size, 1, none⟩ = some (.int .i64 cs[k].x1) ∧ W.cell? ⟨wr.heap.size, 2, none⟩ = some (.int .i64 cs[k].x2) ∧ W.cell? ⟨wr.heap.size, 3, none⟩ = some (.int .i64 cs[k].x3))
          (first | exact ⟨HB1.out.drew, X0.out.c0, X0.out.c1, X0.out.c2, X0.out.c3⟩ | exact ⟨HB2.out, X2.out.c0, X2.out.c1, X2.out.c2, X2.out.c3⟩ | go_keep)
          (first
          | (go_at_call 47; (with_reducible refine (HV.out _ (And.left (by assumption))).mono ?_); rintro e w2 ⟨rfl, hb2⟩; have HB2 : Hid (Below w.heap.size w w2) := hide (HB1.out.drew.trans (hb2.mono (HB1.out.drew).size)); have X2 := hide (X0.out.next (show Below (wr.alloc (.cells #[.int .i64 cs[k].x0, .int .i64 cs[k].x1, .int .i64 cs[k].x2, .int .i64 cs[k].x3] 54)).heap.size _ w2 from (Below.refl _ _).drew.trans hb2))))
        have hbd := HB2.out
        clear hb2 HV X2 HB2
        go_wp2_with fail
        go_roundw
        case rel => exact ⟨k + 1, by omega, by go_num, hide (fun j hj hjk => if e : j = k then by subst e; exact HO.out else Hall.out j hj (by omega)), hbd⟩
        case measure => simp [intOf]; omega
      · have HO := hide (fitAll_not k hlt (HF.out.trans (decide_eq_false e)))
        have hne : (tv != cs[k].x3) = true := by simpa using e
        clear HF e
        go_wp2_with fail
        go_region_held3 (fun W => Below w.heap.size w W ∧ W.cell? ⟨wr.heap.size, 0, none⟩ = some (.int .i64 cs[k].x0) ∧ W.cell? ⟨wr.heap.size, 1, none⟩ = some (.int .i64 cs[k].x1) ∧ W.cell? ⟨wr.heap.size, 2, none⟩ = some (.int .i64 cs[k].x2) ∧ W.cell? ⟨wr.heap.size, 3, none⟩ = some (.int .i64 cs[k].x3))
          (first | exact ⟨HB1.out.drew, X0.out.c0, X0.out.c1, X0.out.c2, X0.out.c3⟩ | exact ⟨HB2.out, X2.out.c0, X2.out.c1, X2.out.c2, X2.out.c3⟩ | go_keep)
          (first
          | (go_at_call 47; (with_reducible refine (HV.out _ (And.left (by assumption))).mono ?_); rintro e w2 ⟨rfl, hb2⟩; have HB2 : Hid (Below w.heap.size w w2) := hide (HB1.out.drew.trans (hb2.mono (HB1.out.drew).size)); have X2 := hide (X0.out.next (show Below (wr.alloc (.cells #[.int .i64 cs[k].x0, .int .i64 cs[k].x1, .int .i64 cs[k].x2, .int .i64 cs[k].x3] 54)).heap.size _ w2 from (Below.refl _ _).drew.trans hb2))))
        have hbd := HB2.out
        clear hb2 HV X2 HB2
        go_wp2_with fail
        go_ret
        exact ⟨ret_bool HO.out.symm, hbd⟩
    · have HY := hide (fitAll_of (cs := cs) (zs := zs) (fun j hj => Hall.out j hj (by omega)))
      go_wp2_with fail
      go_ret
      exact ⟨ret_bool HY.out.symm, hb⟩
end Go.Proofs.Ytmhnihdgggblmaa
