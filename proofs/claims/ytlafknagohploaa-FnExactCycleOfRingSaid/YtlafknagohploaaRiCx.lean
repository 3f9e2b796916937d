
/-
  CycleOfRing, THE PROGRAM's WAY: the walk.
-/
import Derived.Test.YtlafknagohploaaRiCz
namespace Go.Proofs.Ytlafknagohploaa
open Go.RowKit Go.Deep
set_option linter.unusedVariables false

set_option maxRecDepth 100000 in
set_option maxHeartbeats 4000000 in
theorem CycleOfRing_any (A : Option Addr) (n c : Nat) (zs : List Int) (w : World) (hr : Ints w w.heap.size A n zs) (hn : n ≤ 17592186044416) :
    Calls Try.prog 22 #[.slice A n c] w (MadeSS (cycRR zs) (rgood zs) w) := by
  obtain rfl := hr.len
  have hzl := hide zero10_len
  cases hg : rgood zs
  · rw [show cycRR zs = [] from by simp [cycRR, hg]]
    go_enter Try.func22, Try.ntmps22
    go_wp2_with fail
    refine (walkFrom_no A zs.length c zs w hr hn hg).mono ?_; rintro e w1 ⟨rfl, hb1⟩
    have B1 := hide hb1
    clear hb1
    go_wp2_with (first
      | (with_reducible refine wpList_wk_new (o := ⟨some 4, _, _, _, _, _⟩) rfl rfl ?_; intro w4 hW4 hb4; have N4 := hide hW4; have B4 := hide (below_next B1.out hb4); clear hW4 hb4)
      | (with_reducible refine wpList_wk_put rfl (.tmp 4) (.tmp 12) rfl w1.heap.size _ _ _ _ _ _ _ _ _ _ _ _ rfl rfl nilF_one hzl.out hzl.out N4.out ?_; intro w5 hW5 ho5; have W5 := hide hW5; have B5 := hide (B4.out.trans (ho5.below.mono B1.out.size)); clear hW5 ho5))
    go_ret2
    exact madeSS_none B5.out
  · rw [show cycRR zs = cycL zs from by simp [cycRR, hg]]
    have hg2 := (rgood_of hg).2.1
    have hg1 := (rgood_of hg).1
    have HG := hide hg
    have HP := hide (pad10_len hg2)
    have HPl := hide (lastF_pad hg)
    have HPt := hide (fun t => pad10_len (zs := rit zs t) (by rw [rit_length]; exact hg2))
    have HTk := hide (fun t => (show (pad10 (rit zs t)).take zs.length = rit zs t by have := pad10_take (rit zs t); rw [rit_length] at this; exact this))
    have hp1 := (cycF hg).1.pos
    have hmp := (cycF hg).2
    have HL := hide (cycL_length zs)
    have HD := hide (fun k (h : k < perF zs) => (show (cycL zs).getD k [] = rit zs (leadF zs + k) by unfold cycL; simp only [List.getD]; rw [List.getElem?_map, List.getElem?_range h]; rfl))
    have hmk := run_make_row' (P := Try.prog) 32 22 (.slice none 0 0) 24 Try.underlying32 infoRowT rfl .i64 .i64 (perF zs) (by omega) (by omega)
    have hm0 : perF zs ≤ maxLen := by unfold maxLen; omega
    go_enter Try.func22, Try.ntmps22
    go_wp2_with fail
    refine (walkFrom_yes A zs.length c zs w hr hg).mono ?_; rintro e w1 ⟨bd, bs, rfl, hbd, hbs, hs1, hb1⟩
    have S1 := hide hs1
    have hbd1 : bd < w1.heap.size := hs1.2.2.1
    have hbs1 : bs < w1.heap.size := hs1.2.2.2
    have B1 := hide hb1
    clear hs1 hb1
    go_wp2_with (first
      | (with_reducible refine wpList_wk_new (o := ⟨some 4, _, _, _, _, _⟩) rfl rfl ?_; intro w4 hW4 hb4; have N4 := hide hW4; have B4 := hide (below_next B1.out hb4); have S4 := hide (S1.out.next hb4); clear hW4 hb4)
      | (with_reducible refine wpList_wk_put rfl (.tmp 4) (.tmp 12) rfl w1.heap.size _ _ _ _ _ _ _ _ _ _ _ _ rfl rfl (stepF_one bd bs) HP.out HPl.out N4.out ?_; intro w5 hW5 ho5; have W5 := hide hW5; have B5 := hide (B4.out.trans (ho5.below.mono B1.out.size)); have S5 := hide (S4.out.same (ho5.rest bd (Nat.ne_of_lt hbd1)) (ho5.rest bs (Nat.ne_of_lt hbs1)) (by rw [ho5.size]; exact Nat.le_refl _)); have hcp := hW5.cp
         have hbA := (Below.refl w5.heap.size w5).alloc (Nat.le_refl _) (.cells (madeCells #[.slice none 0 0] (perF zs)) 22); have WA := hide (hW5.next hbA); have RA := hide (World.rowIs_made w5 (.slice none 0 0) (perF zs) 22); have HzA := hide (show (w5.alloc (.cells (madeCells #[.slice none 0 0] (perF zs)) 22)).heap.size = w5.heap.size + 1 by simp); have BA := hide hbA; clear hW5 ho5 hbA)
      | (with_reducible refine wpList_wk_load rfl (.tmp 19) rfl w1.heap.size 12 (pad10 (lastF zs)) rfl HPl.out WA.out.again ?_)
      | (with_reducible refine wpList_arr_new (o := ⟨some 7, _, _, _, _, _⟩) rfl rfl ?_; intro w7 hA7 hb7 hs7; have N7 := hide hA7; rw [HzA.out] at hb7; have R7 := hide (World.rowIs.of_block RA.out (hb7.block w5.heap.size (by omega))); have B7 := hide (BA.out.trans (hb7.mono (by omega))); clear hA7 hb7 hs7)
      | (with_reducible refine wpList_arr_store rfl (.tmp 7) (.tmp 20) rfl _ _ _ (pad10 (lastF zs)) rfl rfl HPl.out hzl.out N7.out ?_; intro w8 hN8 ho8; rw [HzA.out] at hN8 ho8; have N8 := hide hN8; have R8 := hide (World.rowIs.of_block R7.out (ho8.rest w5.heap.size (by omega))); have B8 := hide (B7.out.trans (ho8.below.mono (by omega))); clear hN8 ho8))
    have hs1 := B1.out.size
    have hs5 := B5.out.size
    have hw15 : w1.heap.size < w5.heap.size := W5.out.lt
    clear hcp hmk
    go_simp
    go_loopw [23] (CzRel zs w5.heap.size (w5.heap.size + 1) w5) (fun i _ => perF zs - (intOf i).toNat)
    case atStart => exact ⟨0, [], Nat.zero_le _, rfl, rfl, R8.out, N8.out, B8.out, N8.out.lt, fun _ h => absurd h (by omega), fun _ _ _ h => absurd h (by omega), fun _ h => absurd h (by omega)⟩
    case round =>
      clear R8 N8 B8 R7 N7 B7 WA RA BA N4 B4 S4
      obtain ⟨k, vs, hk, rfl, hvl, hrow, hN, hB, h7, ho, hd, hbb⟩ := hrel
      have ROW := hide hrow
      have NN := hide hN
      have BB := hide hB
      have OO := hide ho
      have DD := hide hd
      have BK := hide hbb
      have VL := hide hvl
      clear hrow hN hB ho hd hbb hvl
      by_cases hlt : k < perF zs
      · have Wr := hide (W5.out.next BB.out)
        have hc0 := Wr.out.c0
        go_wp2_with (with_reducible refine wpList_arr_load (o := ⟨some 28, _, _, _, _, _⟩) rfl (.tmp 7) rfl (w5.heap.size + 1) _ _ rfl (HPt.out _) NN.out ?_)
        refine (rowList_any (pad10 (rit zs (leadF zs + k))) zs.length wr (HPt.out _) (by omega) hg2).mono ?_
        rw [HTk.out]
        rintro e w2 ⟨g2, c2, rfl, hg2', hg2lt, _, _, hown2, hb2⟩
        have hrow2 := World.rowIs.of_block ROW.out (hb2.block w5.heap.size (by omega))
        have hold := World.rowIs.cell hrow2 hlt
        have hfz := World.rowIs.frozen hrow2 k
        have CN := hide (cz_next VL.out hlt ROW.out (by omega) h7 OO.out DD.out BK.out hown2 hb2)
        have N3 := hide ((NN.out.next hb2).past (a := ⟨w5.heap.size, k, none⟩) (by simp) (.slice (some ⟨g2, 0, none⟩) (rit zs (leadF zs + k)).length c2))
        have B3 : Hid (Below w5.heap.size w5 (w2.setCell ⟨w5.heap.size, k, none⟩ (.slice (some ⟨g2, 0, none⟩) (rit zs (leadF zs + k)).length c2))) := hide ((BB.out.trans (hb2.mono (by omega))).setCell (Nat.le_refl _) _)
        have VL' := hide (show (vs ++ [Value.slice (some ⟨g2, 0, none⟩) (rit zs (leadF zs + k)).length c2]).length = k + 1 by simp [VL.out])
        clear hb2 hown2 hrow2 hc0
        go_wp2_with fail
        generalize w2.setCell ⟨w5.heap.size, k, none⟩ (.slice (some ⟨g2, 0, none⟩) (rit zs (leadF zs + k)).length c2) = w3 at *
        generalize vs ++ [Value.slice (some ⟨g2, 0, none⟩) (rit zs (leadF zs + k)).length c2] = vs' at *
        have S3 := hide (S5.out.next B3.out)
        have hf3 : w3.cell? ⟨w1.heap.size, 1, none⟩ = some (.func (.func 63) #[] #[.pointer (some ⟨bd, 0, none⟩), .pointer (some ⟨bs, 0, none⟩)]) := (W5.out.next B3.out).cF
        have hcut := ring_cut_all (w5.heap.size + 1) 0
        have HST := hide (step_row (w5.heap.size + 1) bd bs zs (leadF zs + k) w3.drew HG.out S3.out N3.out)
        clear hold hfz
        go_still_tail 3, (by kernel_rfl)
        change wpList _ _ _ _ _ w3.drew
        go_wp2_with fail
        refine HST.out.mono ?_; rintro e w9 ⟨rfl, hb9⟩
        have hb9' : Below w3.heap.size w3 w9 := (Below.refl _ _).drew.trans hb9
        have N9 := hide (N3.out.next hb9')
        have B9 := hide (B3.out.trans (hb9'.mono B3.out.size))
        have B39 := hide hb9'
        have hs39 := hb9'.size
        have h73 : w5.heap.size + 1 < w3.heap.size := N3.out.lt
        clear hb9 hb9' hf3 hcut
        go_wp2_with (with_reducible refine wpList_arr_store rfl (.tmp 7) (.tmp 36) rfl (w5.heap.size + 1) _ _ (pad10 (rit zs (leadF zs + k + 1))) rfl rfl (HPt.out _) (HPt.out _) N9.out ?_; intro w10 hN10 ho10; have N10 := hide hN10; have L10 := hide ho10; have B10 := hide (B9.out.trans (ho10.below.mono (by omega))); clear hN10 ho10)
        have KP : Hid (∀ g, g < w3.heap.size → g ≠ w5.heap.size + 1 → w10.heap[g]? = w3.heap[g]?) := hide fun g hg hne => (L10.out.rest g hne).trans (B39.out.block g hg)
        go_simp
        go_roundw
        case rel =>
          obtain ⟨c1, c2', c3, c4⟩ := CN.out
          exact ⟨k + 1, vs', by omega, by go_num, VL'.out, World.rowIs.of_block c1 (KP.out w5.heap.size (by omega) (by omega)), N10.out, B10.out, N10.out.lt,
            fun i hi => (c2' i hi).keepB fun g hg hlt => KP.out g hlt (by have := c4 i hi g hg; omega), c3, c4⟩
        case measure => simp [intOf]; omega
      · obtain rfl : k = perF zs := by omega
        have hrow := ROW.out
        have OW : Hid (OwnVs wr w.heap.size (.slice (some ⟨w5.heap.size, 0, none⟩) (cycL zs).length (perF zs)) vs (cycL zs)) := hide (by
          refine ⟨VL.out.trans HL.out.symm, by rw [HL.out]; exact owns_of_rowIs hrow VL.out (by omega) hm0, fun i hi => ?_, fun i j hij hj b h1 => ?_, fun i hi b h1 h2 => ?_⟩
          · rw [HL.out] at hi
            rw [HD.out i hi]
            exact (OO.out i hi).less (by omega)
          · rw [HL.out] at hj
            exact DD.out i j hij hj b h1
          · rw [HL.out] at hi
            have := BK.out i hi b h1
            injection h2 with h2
            have h2' : w5.heap.size = b := h2
            omega)
        go_wp2_with fail
        go_ret2
        exact ⟨some ⟨w5.heap.size, 0, none⟩, perF zs, vs, by rw [HL.out]; rfl, by rw [HL.out]; exact Nat.le_refl _, hm0, OW.out, B5.out.trans (BB.out.mono (by omega))⟩
theorem CycleOfRing_w (A : Option Addr) (n c B : Nat) (zs : List Int) (w : World) (hr : Ints w B A n zs) (hB : B ≤ w.heap.size) (hn : n ≤ 17592186044416) :
    Calls Try.prog 22 #[.slice A n c] w (MadeSS (cycRR zs) (rgood zs) w) := CycleOfRing_any A n c zs w (hr.more hB) hn
end Go.Proofs.Ytlafknagohploaa
