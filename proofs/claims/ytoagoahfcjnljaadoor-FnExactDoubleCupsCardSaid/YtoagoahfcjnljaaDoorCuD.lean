
/-
  TWICE AS MUCH, BOTH WAYS: DoubleCups.
-/
import Derived.Test.YtoagoahfcjnljaaDoorCuDP
import Derived.Test.YtoagoahfcjnljaaDoorCuQ
import Derived.Test.YtoagoahfcjnljaaDoorCuO
import Derived.Deep.RegionHeld3
namespace Go.Proofs.YtoagoahfcjnljaaDoor
open Go.RowKit Go.Deep
set_option linter.unusedVariables false

set_option maxHeartbeats 2000000 in
set_option maxRecDepth 100000 in
theorem DoubleCups_any (A : Option Addr) (n c B : Nat) (zs : List Int) (u : Int) (w : World) (hr : Ints w B A n zs) (hB : B ≤ w.heap.size) (hn : n ≤ 17592186044416) (hT : Tab w) :
    Calls Tryd.prog 21 #[.agg #[.slice A n c, .int .i64 u]] w (MadeCB (dL zs u) (dV zs u) (dOk zs u) w) := by
  obtain rfl := hr.len
  obtain ⟨X0, X1, kb, ks⟩ := two_boxes w (.slice A zs.length c) (.int .i64 u) (.slice none 0 0) (.int .i64 0) 26 26
  have HA := hide (AreCups_any A zs.length c B zs u _ (hr.below kb hB) (Nat.le_trans hB kb.size) hn (hT.next kb))
  have HX0 := hide X0
  have HX1 := hide X1
  have HKB := hide kb
  have HKS := hide ks
  have HR := hide hr
  have HT := hide hT
  clear X0 X1 kb ks hr hT
  cases hc : cuOk zs u
  · have H := hide (show dOk zs u = false from by unfold dOk; rw [hc]; rfl)
    rw [dL_no H.out, dV_no H.out, H.out]
    rw [hc] at HA
    clear hc
    go_enter Tryd.func21, Tryd.ntmps21
    go_wp2_with fail
    refine HA.out.mono ?_; rintro e w2 ⟨rfl, hb2⟩
    have bR := HX1.out.next hb2
    have e0 := bR.c0
    have e1 := bR.c1
    have f0 := bR.f 0
    have f1 := bR.f 1
    have R1 := bR.set0 (.slice none 0 0)
    have R2 := R1.set1 (.int .i64 0)
    have e2 := R1.c1
    have f2 := R1.f 1
    have i0 := R2.c0
    have i1 := R2.c1
    have HBn := hide (((HKB.out.trans (hb2.mono HKB.out.size)).setCell (p := ⟨w.heap.size + 1, 0, none⟩) (by simp) (.slice none 0 0)).setCell (p := ⟨w.heap.size + 1, 1, none⟩) (by simp) (.int .i64 0))
    clear R1 R2 bR hb2
    go_wp2_with fail
    refine bodyPost_ret (v := .tuple #[.agg #[.slice none 0 0, .int .i64 0], .bool false]) (by simp [results, Tryd.results21, go_sem, i0, i1]) rfl (madeCB_no _ _ ?_)
    exact HBn.out
  · obtain ⟨h2, h6, hu, hw, _⟩ := cuOk_of hc
    have hub := isU_bd hu
    obtain ⟨d1, d2, d3, ⟨j, hj, huj⟩, d5, d6, d7, d8⟩ := dbl_facts hc
    obtain ⟨x, rfl⟩ := Int.eq_ofNat_of_zero_le (show 0 ≤ u from by omega)
    rw [Int.toNat_natCast] at d3 huj
    have HOK := hide (show dOk zs (x : Int) = within 0 (1000 * dU zs (x : Int)) (dZ zs (x : Int)) from by unfold dOk; rw [hc]; rfl)
    have HT2 := hide (fun W (h : Below w.heap.size w W) => timesTwo_any A zs.length c B zs W (HR.out.below h hB) (Nat.le_trans hB h.size) (by omega) (by omega)
      (within_wide hw (by omega) (by omega)))
    have hdz : dZ zs (x : Int) = redZ x (zs.map (2 * ·)) := by unfold dZ; rw [Int.toNat_natCast]
    have hdu : dU zs (x : Int) = ((redU x (zs.map (2 * ·)) : Nat) : Int) := by unfold dU; rw [Int.toNat_natCast]
    have HRd := hide (fun W B' A' c' (h : Ints W B' A' zs.length (zs.map (2 * ·))) (hB' : B' ≤ W.heap.size) (hb : Below w.heap.size w W) => reduced_any A' zs.length c' B' (zs.map (2 * ·)) x W h hB' (by omega) (by omega) (by omega) (by omega) d1 (HT.out.next hb))
    rw [← hdz, ← hdu] at HRd
    have HAC := hide (fun W A' c' (h : Ints W W.heap.size A' (dZ zs (x : Int)).length (dZ zs (x : Int))) (hb : Below w.heap.size w W) => AreCups_any A' (dZ zs (x : Int)).length c' W.heap.size (dZ zs (x : Int)) (dU zs (x : Int)) W h (Nat.le_refl _) (by omega) (HT.out.next hb))
    rw [d5, ← HOK.out] at HAC
    have HTL := hide (show (zs.map (2 * ·)).length = zs.length from by simp)
    have hh : dOk zs (x : Int) = true → dL zs (x : Int) = dZ zs (x : Int) ∧ dV zs (x : Int) = dU zs (x : Int) := fun h => ⟨dL_yes h, dV_yes h⟩
    have hh' : dOk zs (x : Int) = false → dL zs (x : Int) = [] ∧ dV zs (x : Int) = 0 := fun h => ⟨dL_no h, dV_no h⟩
    rw [hc] at HA
    have HDL := hide (show 0 < (dZ zs (x : Int)).length from by omega)
    clear hc hu hw d1 d2 d3 d5 d8 huj hdz hdu HOK
    generalize zs.map (2 * ·) = ts at *
    generalize dL zs (x : Int) = fs at *
    generalize dV zs (x : Int) = fu at *
    generalize dZ zs (x : Int) = ds at *
    generalize dU zs (x : Int) = du at *
    generalize dOk zs (x : Int) = ok at *
    go_enter Tryd.func21, Tryd.ntmps21
    go_wp2_with fail
    refine HA.out.mono ?_; rintro e W0 ⟨rfl, hb2⟩
    have Y0 := hide (HX0.out.next hb2)
    have Y1 := hide (HX1.out.next hb2)
    have HB := hide (HKB.out.trans (hb2.mono HKB.out.size))
    have HSZ := hide (show w.heap.size + 2 ≤ W0.heap.size from by have := hb2.size; rw [HKS.out] at this; exact this)
    have k0 := Y0.out.c0
    have k1 := Y0.out.c1
    clear hb2
    have HS := hide (fun W (h : Below W0.heap.size W0 W) => And.intro h (And.intro (Y0.out.next h).c0 (Y0.out.next h).c1))
    have HT2W := hide (fun W (h : Below W0.heap.size W0 W) => HT2.out W (HB.out.trans (h.mono HB.out.size)))
    have HRdW := hide (fun W B' A' c' (h' : Ints W B' A' zs.length ts) (hB' : B' ≤ W.heap.size) (h : Below W0.heap.size W0 W) => HRd.out W B' A' c' h' hB' (HB.out.trans (h.mono HB.out.size)))
    clear HT2 HRd
    go_wp2_with fail
    go_region_held3 (fun W => Below W0.heap.size W0 W ∧ W.cell? ⟨w.heap.size, 0, none⟩ = some (.slice A zs.length c) ∧ W.cell? ⟨w.heap.size, 1, none⟩ = some (.int .i64 (x : Int)))
      (first | exact HS.out _ (Below.refl _ _).drew | exact HS.out _ (below_next (And.left (by assumption)) hb4) | exact HS.out _ (below_next (And.left (by assumption)) hb3) | exact HS.out _ (Below.alloc (And.left (by assumption)) (Below.size (And.left (by assumption))) _) | exact HS.out _ (Below.setCell (Below.setCell HW4.out (Nat.le_refl _) _) (Nat.le_refl _) _) | exact HS.out _ (Below.setCell (Below.setCell HW4.out (Below.size HW3.out) _) (Below.size HW3.out) _) | exact HS.out _ (Below.alloc HW4.out (Below.size HW4.out) _) | go_keep)
      (first
      | (go_at_call 42; (with_reducible refine (HT2W.out _ (And.left (by assumption))).mono ?_); rintro e w3 ⟨g, c1, rfl, hg1, hg2, hc1, hc2, hown, hb3⟩; have HIn := hide (show Ints w3 w3.heap.size (some ⟨g, 0, none⟩) zs.length ts from by have := hown.ints; rw [HTL.out] at this; exact this); have HW3 : Hid (Below W0.heap.size W0 w3) := hide (by first | exact below_next (w1 := W0.drew) (Below.refl _ _).drew hb3 | exact below_next (w1 := (W0.alloc _).drew) ((Below.refl _ _).alloc (Nat.le_refl _) _).drew hb3); rw [HTL.out]; clear hown hc1 hc2; first
        | (have qq : Bx w3 W0.heap.size 26 (.slice none 0 0) (.int .i64 0) := (Bx.new W0.drew 26 (.slice none 0 0) (.int .i64 0)).next hb3; have HQ := hide qq; clear qq)
        | skip)
      | (go_at_call 41; (first | (with_reducible refine (HRdW.out _ _ _ _ HIn.out (Nat.le_refl _) (And.left (by assumption))).mono ?_) | (with_reducible refine (HRdW.out _ _ _ _ (HIn.out.below ((Below.refl _ _).alloc (Nat.le_refl _) _) (Nat.le_refl _)) (by simp) (And.left (by assumption))).mono ?_)); rintro e w4 ⟨Ar, cr, rfl, hr1, hr2, hro, hb4⟩; have HW4 : Hid (Below W0.heap.size W0 w4) := hide (by first | exact below_next HW3.out hb4 | exact below_next (HW3.out.alloc HW3.out.size _) hb4); obtain ⟨gr, rfl, hgr, hgr2⟩ := hro.head HDL.out; first
        | (have qz := HQ.out.next hb4; have HQ2 := hide qz; have HN2 := hide (show W0.heap.size < gr from Nat.lt_of_lt_of_le HQ.out.lt hgr); have qr := qz.set0 (.slice (some ⟨gr, 0, none⟩) ds.length cr); have q1 := qz.c0; have q2 := qz.f 0; have q5 := qz.c1; have q6 := qz.f 1; have q3 := qr.c1; have q4 := qr.f 1; clear qz qr)
        | (have qz : Bx w4 w3.heap.size 26 (.slice none 0 0) (.int .i64 0) := (Bx.new w3 26 (.slice none 0 0) (.int .i64 0)).next hb4; have HQ2 := hide qz; have HN2 := hide (show w3.heap.size < gr from by have : (w3.alloc (.cells #[.slice none 0 0, .int .i64 0] 26)).heap.size ≤ gr := hgr; simp at this; omega); have qr := qz.set0 (.slice (some ⟨gr, 0, none⟩) ds.length cr); have q1 := qz.c0; have q2 := qz.f 0; have q5 := qz.c1; have q6 := qz.f 1; have q3 := qr.c1; have q4 := qr.f 1; clear qz qr)
        | skip))
    all_goals
      first
      | (have HN3 := hide (show w.heap.size + 2 ≤ W0.heap.size from by have := HSZ.out; have := HW3.out.size; omega)
         have FX := hide (show Bx ((w4.setCell ⟨W0.heap.size, 0, none⟩ (.slice (some ⟨gr, 0, none⟩) ds.length cr)).setCell ⟨W0.heap.size, 1, none⟩ (.int .i64 du)) W0.heap.size 26 (.slice (some ⟨gr, 0, none⟩) ds.length cr) (.int .i64 du) from (HQ2.out.set0 (.slice (some ⟨gr, 0, none⟩) ds.length cr)).set1 (.int .i64 du))
         have FR := hide (((Y1.out.next HW4.out).setOther (a := ⟨W0.heap.size, 0, none⟩) (by have := HN3.out; simp; omega) (.slice (some ⟨gr, 0, none⟩) ds.length cr)).setOther (a := ⟨W0.heap.size, 1, none⟩) (by have := HN3.out; simp; omega) (.int .i64 du))
         have FO := hide (Own.two (hro.less (base' := w.heap.size) (by first | (have := HSZ.out; have := HW3.out.size; omega) | (have := HSZ.out; have := HW3.out.size; simp; omega))) (b := W0.heap.size) (by have := HN2.out; omega) (.slice (some ⟨gr, 0, none⟩) ds.length cr) (.int .i64 du))
         have FB := hide (((HB.out.trans (HW4.out.mono HB.out.size)).setCell (p := ⟨W0.heap.size, 0, none⟩) (by have := HN3.out; simp; omega) (.slice (some ⟨gr, 0, none⟩) ds.length cr)).setCell (p := ⟨W0.heap.size, 1, none⟩) (by have := HN3.out; simp; omega) (.int .i64 du))
         have FN := hide (show w.heap.size + 2 ≤ gr from by have := HN3.out; have := HN2.out; omega)
         generalize ((w4.setCell ⟨W0.heap.size, 0, none⟩ (.slice (some ⟨gr, 0, none⟩) ds.length cr)).setCell ⟨W0.heap.size, 1, none⟩ (.int .i64 du)) = W5 at *
         clear HQ2 HN2 HN3 hro hgr hgr2 hb3 hb4 HS HT2W HRdW hg1 hg2 HIn
         try clear HQ
         generalize W0.heap.size = bx at *)
      | (have HN3 := hide (show w.heap.size + 2 ≤ w3.heap.size from by have := HSZ.out; have := HW3.out.size; omega)
         have FX := hide (show Bx ((w4.setCell ⟨w3.heap.size, 0, none⟩ (.slice (some ⟨gr, 0, none⟩) ds.length cr)).setCell ⟨w3.heap.size, 1, none⟩ (.int .i64 du)) w3.heap.size 26 (.slice (some ⟨gr, 0, none⟩) ds.length cr) (.int .i64 du) from (HQ2.out.set0 (.slice (some ⟨gr, 0, none⟩) ds.length cr)).set1 (.int .i64 du))
         have FR := hide (((Y1.out.next HW4.out).setOther (a := ⟨w3.heap.size, 0, none⟩) (by have := HN3.out; simp; omega) (.slice (some ⟨gr, 0, none⟩) ds.length cr)).setOther (a := ⟨w3.heap.size, 1, none⟩) (by have := HN3.out; simp; omega) (.int .i64 du))
         have FO := hide (Own.two (hro.less (base' := w.heap.size) (by first | (have := HSZ.out; have := HW3.out.size; omega) | (have := HSZ.out; have := HW3.out.size; simp; omega))) (b := w3.heap.size) (by have := HN2.out; omega) (.slice (some ⟨gr, 0, none⟩) ds.length cr) (.int .i64 du))
         have FB := hide (((HB.out.trans (HW4.out.mono HB.out.size)).setCell (p := ⟨w3.heap.size, 0, none⟩) (by have := HN3.out; simp; omega) (.slice (some ⟨gr, 0, none⟩) ds.length cr)).setCell (p := ⟨w3.heap.size, 1, none⟩) (by have := HN3.out; simp; omega) (.int .i64 du))
         have FN := hide (show w.heap.size + 2 ≤ gr from by have := HN3.out; have := HN2.out; omega)
         generalize ((w4.setCell ⟨w3.heap.size, 0, none⟩ (.slice (some ⟨gr, 0, none⟩) ds.length cr)).setCell ⟨w3.heap.size, 1, none⟩ (.int .i64 du)) = W5 at *
         clear HQ2 HN2 HN3 hro hgr hgr2 hb3 hb4 HS HT2W HRdW hg1 hg2 HIn
         try clear HQ
         generalize w3.heap.size = bx at *)
      | (have FX := hide (Bx.new w4 26 (.slice (some ⟨gr, 0, none⟩) ds.length cr) (.int .i64 du))
         have FR := hide ((Y1.out.next HW4.out).alloc (.cells #[.slice (some ⟨gr, 0, none⟩) ds.length cr, .int .i64 du] 26))
         have FO := hide ((hro.alloc (.cells #[.slice (some ⟨gr, 0, none⟩) ds.length cr, .int .i64 du] 26)).less (base' := w.heap.size) (by first | (have := HSZ.out; have := HW3.out.size; omega) | (have := HSZ.out; have := HW3.out.size; simp; omega)))
         have FB := hide ((HB.out.trans (HW4.out.mono HB.out.size)).alloc (show w.heap.size ≤ w4.heap.size from by have := HSZ.out; have := HW4.out.size; omega) (.cells #[.slice (some ⟨gr, 0, none⟩) ds.length cr, .int .i64 du] 26))
         have FN := hide (show w.heap.size + 2 ≤ gr from by have := HSZ.out; have := HW3.out.size; omega)
         generalize (w4.alloc (.cells #[.slice (some ⟨gr, 0, none⟩) ds.length cr, .int .i64 du] 26)) = W5 at *
         clear hro hgr hgr2 hb3 hb4 HS HT2W HRdW hg1 hg2 HIn
         generalize w4.heap.size = bx at *)
      have FI := hide FO.out.ints
      have x0 := FX.out.c0
      have x1 := FX.out.c1
      go_wp2_with fail
      refine (HAC.out _ _ _ FI.out FB.out).mono ?_
      rintro e w6 ⟨rfl, hb6⟩
      clear x0 x1
      have x0 := (FX.out.next hb6).c0
      have x1 := (FX.out.next hb6).c1
      have bR := FR.out.next hb6
      have e0 := bR.c0
      have e1 := bR.c1
      have f0 := bR.f 0
      have f1 := bR.f 1
      have HO6 := hide (FO.out.below hb6)
      have HB6 := hide (FB.out.trans (hb6.mono FB.out.size))
      clear hb6 k0 k1
      cases hok : ok
      · obtain ⟨rfl, rfl⟩ := hh' hok
        have R1 := bR.set0 (.slice none 0 0)
        have R2 := R1.set1 (.int .i64 0)
        have e2 := R1.c1
        have f2 := R1.f 1
        have i0 := R2.c0
        have i1 := R2.c1
        have HBn := hide ((HB6.out.setCell (p := ⟨w.heap.size + 1, 0, none⟩) (by simp) (.slice none 0 0)).setCell (p := ⟨w.heap.size + 1, 1, none⟩) (by simp) (.int .i64 0))
        have HOKK := hide hok
        clear R1 R2 bR hok hh hh'
        go_wp2_with fail
        refine bodyPost_ret (v := .tuple #[.agg #[.slice none 0 0, .int .i64 0], .bool false]) (by simp [results, Tryd.results21, go_sem, i0, i1]) rfl ?_
        rw [HOKK.out]
        exact madeCB_no _ _ HBn.out
      · obtain ⟨rfl, rfl⟩ := hh hok
        have R1 := bR.set0 (.slice (some ⟨gr, 0, none⟩) fs.length cr)
        have R2 := R1.set1 (.int .i64 fu)
        have e2 := R1.c1
        have f2 := R1.f 1
        have i0 := R2.c0
        have i1 := R2.c1
        have HOw := hide (Own.two HO6.out (b := w.heap.size + 1) (by have := FN.out; omega) (.slice (some ⟨gr, 0, none⟩) fs.length cr) (.int .i64 fu))
        have HBn := hide ((HB6.out.setCell (p := ⟨w.heap.size + 1, 0, none⟩) (by simp) (.slice (some ⟨gr, 0, none⟩) fs.length cr)).setCell (p := ⟨w.heap.size + 1, 1, none⟩) (by simp) (.int .i64 fu))
        have HOKK := hide hok
        clear R1 R2 bR hok hh hh'
        go_wp2_with fail
        exact bodyPost_ret (v := .tuple #[.agg #[.slice (some ⟨gr, 0, none⟩) fs.length cr, .int .i64 fu], .bool true]) (by simp [results, Tryd.results21, go_sem, i0, i1]) rfl ⟨some ⟨gr, 0, none⟩, cr, by rw [HOKK.out], hr1, hr2, HOw.out, HBn.out⟩

set_option maxHeartbeats 2000000 in
set_option maxRecDepth 100000 in
theorem specDoubleCups_any (A : Option Addr) (n c B : Nat) (zs : List Int) (u : Int) (w : World) (hr : Ints w B A n zs) (hB : B ≤ w.heap.size) (hn : n ≤ 17592186044416) :
    Calls Tryd.prog 20 #[.agg #[.slice A n c, .int .i64 u]] w (MadeCB (dL zs u) (dV zs u) (dOk zs u) w) := by
  obtain rfl := hr.len
  obtain ⟨X0, X1, kb, ks⟩ := two_boxes w (.slice A zs.length c) (.int .i64 u) (.slice none 0 0) (.int .i64 0) 26 26
  have HA := hide (cuGood_any A zs.length c B zs u _ (hr.below kb hB) (Nat.le_trans hB kb.size) hn)
  have HX0 := hide X0
  have HX1 := hide X1
  have HKB := hide kb
  have HKS := hide ks
  have HR := hide hr
  clear X0 X1 kb ks hr
  cases hc : cuOk zs u
  · have H := hide (show dOk zs u = false from by unfold dOk; rw [hc]; rfl)
    rw [dL_no H.out, dV_no H.out, H.out]
    rw [hc] at HA
    clear hc
    go_enter Tryd.func20, Tryd.ntmps20
    go_wp2_with fail
    refine HA.out.mono ?_; rintro e w2 ⟨rfl, hb2⟩
    have bR := HX1.out.next hb2
    have e0 := bR.c0
    have e1 := bR.c1
    have f0 := bR.f 0
    have f1 := bR.f 1
    have R1 := bR.set0 (.slice none 0 0)
    have R2 := R1.set1 (.int .i64 0)
    have e2 := R1.c1
    have f2 := R1.f 1
    have i0 := R2.c0
    have i1 := R2.c1
    have HBn := hide (((HKB.out.trans (hb2.mono HKB.out.size)).setCell (p := ⟨w.heap.size + 1, 0, none⟩) (by simp) (.slice none 0 0)).setCell (p := ⟨w.heap.size + 1, 1, none⟩) (by simp) (.int .i64 0))
    clear R1 R2 bR hb2
    go_wp2_with fail
    refine bodyPost_ret (v := .tuple #[.agg #[.slice none 0 0, .int .i64 0], .bool false]) (by simp [results, Tryd.results20, go_sem, i0, i1]) rfl (madeCB_no _ _ ?_)
    exact HBn.out
  · obtain ⟨h2, h6, hu, hw, _⟩ := cuOk_of hc
    have hub := isU_bd hu
    obtain ⟨d1, d2, d3, ⟨j, hj, huj⟩, d5, d6, d7, d8⟩ := dbl_facts hc
    obtain ⟨x, rfl⟩ := Int.eq_ofNat_of_zero_le (show 0 ≤ u from by omega)
    rw [Int.toNat_natCast] at d3 huj
    have HOK := hide (show dOk zs (x : Int) = within 0 (1000 * dU zs (x : Int)) (dZ zs (x : Int)) from by unfold dOk; rw [hc]; rfl)
    have hdz : dZ zs (x : Int) = redZ x (zs.map (2 * ·)) := by unfold dZ; rw [Int.toNat_natCast]
    have hdu : dU zs (x : Int) = ((redU x (zs.map (2 * ·)) : Nat) : Int) := by unfold dU; rw [Int.toNat_natCast]
    have HRd := hide (fun W B' A' c' (h : Ints W B' A' zs.length (zs.map (2 * ·))) (hB' : B' ≤ W.heap.size) => cuLow_any A' zs.length c' B' (zs.map (2 * ·)) x j W h hB' (by omega) (by omega) huj (by omega) d1)
    rw [← hdz, ← hdu] at HRd
    have HAll := hide (fun W B' A' c' (h : Ints W B' A' (dZ zs (x : Int)).length (dZ zs (x : Int))) => l1All_any A' (dZ zs (x : Int)).length c' B' (dZ zs (x : Int)) 0 (1000 * dU zs (x : Int)) W h (by omega))
    rw [← HOK.out] at HAll
    have HTL := hide (show (zs.map (2 * ·)).length = zs.length from by simp)
    have HTK := hide (show ∀ k (h : k < zs.length), (zs.take (k + 1)).map (2 * ·) = (zs.take k).map (2 * ·) ++ [2 * zs[k]] from fun k h => by rw [List.take_succ_eq_append_getElem h, List.map_append]; rfl)
    have HZZ := hide (within_toNat hw)
    have hh : dOk zs (x : Int) = true → dL zs (x : Int) = dZ zs (x : Int) ∧ dV zs (x : Int) = dU zs (x : Int) := fun h => ⟨dL_yes h, dV_yes h⟩
    have hh' : dOk zs (x : Int) = false → dL zs (x : Int) = [] ∧ dV zs (x : Int) = 0 := fun h => ⟨dL_no h, dV_no h⟩
    rw [hc] at HA
    have HDL := hide (show 0 < (dZ zs (x : Int)).length from by omega)
    have hm : wrap64 (1000 * dU zs (x : Int)) = 1000 * dU zs (x : Int) := by unfold wrap64; omega
    clear hc hu hw d1 d2 d3 d5 d8 huj hdz hdu HOK
    generalize dL zs (x : Int) = fs at *
    generalize dV zs (x : Int) = fu at *
    generalize dZ zs (x : Int) = ds at *
    generalize dU zs (x : Int) = du at *
    generalize dOk zs (x : Int) = ok at *
    go_enter Tryd.func20, Tryd.ntmps20
    go_wp2_with fail
    refine HA.out.mono ?_; rintro e W0 ⟨rfl, hb2⟩
    have HB := hide (HKB.out.trans (hb2.mono HKB.out.size))
    have HSZ := hide (show w.heap.size + 2 ≤ W0.heap.size from by have := hb2.size; rw [HKS.out] at this; exact this)
    have FP := hide ((HX0.out.next hb2).alloc (.cells #[.slice none 0 0, .int .i64 (x : Int)] 26))
    have FX := hide (Bx.new W0 26 (.slice none 0 0) (.int .i64 (x : Int)))
    have FR := hide ((HX1.out.next hb2).alloc (.cells #[.slice none 0 0, .int .i64 (x : Int)] 26))
    have FB := hide (HB.out.alloc (show w.heap.size ≤ W0.heap.size from by have := HSZ.out; omega) (.cells #[.slice none 0 0, .int .i64 (x : Int)] 26))
    have FS := hide (show (W0.alloc (.cells #[.slice none 0 0, .int .i64 (x : Int)] 26)).heap.size = W0.heap.size + 1 from by simp)
    have k0 := (HX0.out.next hb2).c0
    have k1 := (HX0.out.next hb2).c1
    have m0 := FP.out.c0
    clear hb2
    go_wp2_with fail
    generalize (W0.alloc (.cells #[.slice none 0 0, .int .i64 (x : Int)] 26)) = W1 at *
    generalize hbx : W0.heap.size = bx at *
    clear k0 k1 m0
    go_loopw [17] (fun i wr => ∃ k : Nat, k ≤ zs.length ∧ i = .int .i64 k ∧ ∃ v, Bx wr bx 26 v (.int .i64 (x : Int)) ∧ Bx wr (w.heap.size + 1) 26 (.slice none 0 0) (.int .i64 0) ∧
        Own wr (bx + 1) 3 v ((zs.take k).map (2 * ·)) ∧ Below w.heap.size w wr)
      (fun i _ => zs.length - (intOf i).toNat)
    case atStart => exact ⟨0, Nat.zero_le _, rfl, .slice none 0 0, FX.out, FR.out, Own.nil _ _ _, FB.out⟩
    case round =>
      obtain ⟨k, hk, rfl, v, bX, bR, ho, hb⟩ := hrel
      by_cases hlt : k < zs.length
      · obtain ⟨ad, rfl, hab, hcell⟩ := (HR.out.below hb hB).at_ hlt
        rw [show zs.getD k 0 = zs[k] from by simp [List.getD, List.getElem?_eq_getElem hlt]] at hcell
        have hzk := HZZ.out zs[k] (List.getElem_mem hlt)
        have hw2 : wrap64 (2 * zs[k]) = 2 * zs[k] := by unfold wrap64; omega
        have c0 := bX.c0
        have HT1 := hide (HTK.out k hlt)
        have HBX := hide bX
        have HBR := hide bR
        have HOw := hide ho
        have HBw := hide hb
        have HL := hide (show ((zs.take k).map (2 * ·)).length < 1000000 from by simp; omega)
        clear bX bR ho hb
        generalize zs[k] = z at *
        generalize (zs.take k).map (2 * ·) = l1 at *
        have hsz : bx + 1 ≤ wr.heap.size := HBX.out.lt
        have HSB := hide hsz
        have hll := HL.out
        have hown := HOw.out
        go_wp2_with (at_builtin; refine wpList_app_int rfl _ _ 22 3 rfl Tryd.underlying22 infoInt (bx + 1) _ _ rfl hown _ _ rfl hsz hll ?_; intro v' w' hown' hb'; clear hsz hll hown c0; obtain ⟨A3, c3, rfl, _, _⟩ := hown'.shape; have bX' := HBX.out.below hb' (by omega); have p0 := bX'.c0; have p1 := bX'.f 0)
        go_roundw
        case rel =>
          refine ⟨k + 1, by omega, by go_num, .slice A3 (l1.length + 1) c3, bX'.set0 _, ?_, ?_, ?_⟩
          · exact (HBR.out.below hb' (by have := HSZ.out; omega)).setOther (a := ⟨bx, 0, none⟩) (by have := HSZ.out; simp; omega) _
          · rw [HT1.out]
            have hown2 : Own w' (bx + 1) 3 (.slice A3 (l1.length + 1) c3) (l1 ++ [2 * z]) := by rw [List.length_append] at hown'; exact hown'
            refine hown2.keep (fun h hh hl => ?_)
            rw [Below.heap_setCell _ _ _ _ (by simp; omega)]
          · exact (HBw.out.trans (hb'.mono (by have := HSZ.out; omega))).setCell (p := ⟨bx, 0, none⟩) (by have := HSZ.out; simp; omega) _
        case measure => simp [intOf]; omega
      · obtain rfl : k = zs.length := by omega
        rw [List.take_length] at ho
        obtain ⟨A2, c2, rfl, hc1, hc2⟩ := ho.shape
        rw [HTL.out] at bX hc1
        have c0 := bX.c0
        have c1 := bX.c1
        have HBX := hide bX
        have HBR := hide bR
        have HBw := hide hb
        have HI := hide (show Ints wr wr.heap.size A2 zs.length (zs.map (2 * ·)) from by have := ho.ints; rw [HTL.out] at this; exact this)
        clear bX bR hb ho hc1 hc2
        go_wp2_with fail
        refine (HRd.out _ _ _ _ HI.out (Nat.le_refl _)).mono ?_
        rintro e w4 ⟨Ar, cr, rfl, hr1, hr2, hro, hb4⟩
        obtain ⟨gr, rfl, hgr, hgr2⟩ := hro.head HDL.out
        have sB := HBX.out.lt
        have bX := HBX.out.next hb4
        have p0 := bX.c0
        have p1 := bX.c1
        have p2 := bX.f 0
        have p3 := bX.f 1
        have R1 := bX.set0 (.slice (some ⟨gr, 0, none⟩) ds.length cr)
        have R2 := R1.set1 (.int .i64 du)
        have r1 := R1.c1
        have r2 := R1.f 1
        have t0 := R2.c0
        have t1 := R2.c1
        have HBX2 := hide R2
        have HBR2 := hide (((HBR.out.next hb4).setOther (a := ⟨bx, 0, none⟩) (by have := HSZ.out; simp; omega) (.slice (some ⟨gr, 0, none⟩) ds.length cr)).setOther (a := ⟨bx, 1, none⟩) (by have := HSZ.out; simp; omega) (.int .i64 du))
        have HO2 := hide (Own.two (hro.less (base' := w.heap.size) (by have := HSZ.out; omega)) (b := bx) (by omega) (.slice (some ⟨gr, 0, none⟩) ds.length cr) (.int .i64 du))
        have HB2 := hide (((HBw.out.trans (hb4.mono HBw.out.size)).setCell (p := ⟨bx, 0, none⟩) (by have := HSZ.out; simp; omega) (.slice (some ⟨gr, 0, none⟩) ds.length cr)).setCell (p := ⟨bx, 1, none⟩) (by have := HSZ.out; simp; omega) (.int .i64 du))
        have FN := hide (show w.heap.size + 2 ≤ gr from by have := HSZ.out; omega)
        clear R1 R2 bX hb4 hro hgr hgr2 c0 c1 sB
        go_wp2_with fail
        generalize ((w4.setCell ⟨bx, 0, none⟩ (.slice (some ⟨gr, 0, none⟩) ds.length cr)).setCell ⟨bx, 1, none⟩ (.int .i64 du)) = W5 at *
        try go_wp2_with fail
        refine (HAll.out _ _ _ _ HO2.out.ints).mono ?_
        rintro e w' ⟨rfl, rfl⟩
        have bR := HBR2.out
        have e0 := bR.c0
        have e1 := bR.c1
        have f0 := bR.f 0
        have f1 := bR.f 1
        cases hok : ok
        · obtain ⟨rfl, rfl⟩ := hh' hok
          have R1 := bR.set0 (.slice none 0 0)
          have R2 := R1.set1 (.int .i64 0)
          have e2 := R1.c1
          have f2 := R1.f 1
          have i0 := R2.c0
          have i1 := R2.c1
          have HBn := hide ((HB2.out.setCell (p := ⟨w.heap.size + 1, 0, none⟩) (by simp) (.slice none 0 0)).setCell (p := ⟨w.heap.size + 1, 1, none⟩) (by simp) (.int .i64 0))
          have HOKK := hide hok
          clear R1 R2 bR hok hh hh'
          go_wp2_with fail
          refine bodyPost_ret (v := .tuple #[.agg #[.slice none 0 0, .int .i64 0], .bool false]) (by simp [results, Tryd.results20, go_sem, i0, i1]) rfl ?_
          rw [HOKK.out]
          exact madeCB_no _ _ HBn.out
        · obtain ⟨rfl, rfl⟩ := hh hok
          have R1 := bR.set0 (.slice (some ⟨gr, 0, none⟩) fs.length cr)
          have R2 := R1.set1 (.int .i64 fu)
          have e2 := R1.c1
          have f2 := R1.f 1
          have i0 := R2.c0
          have i1 := R2.c1
          have HOw := hide (Own.two HO2.out (b := w.heap.size + 1) (by have := FN.out; omega) (.slice (some ⟨gr, 0, none⟩) fs.length cr) (.int .i64 fu))
          have HBn := hide ((HB2.out.setCell (p := ⟨w.heap.size + 1, 0, none⟩) (by simp) (.slice (some ⟨gr, 0, none⟩) fs.length cr)).setCell (p := ⟨w.heap.size + 1, 1, none⟩) (by simp) (.int .i64 fu))
          have HOKK := hide hok
          clear R1 R2 bR hok hh hh'
          go_wp2_with fail
          exact bodyPost_ret (v := .tuple #[.agg #[.slice (some ⟨gr, 0, none⟩) fs.length cr, .int .i64 fu], .bool true]) (by simp [results, Tryd.results20, go_sem, i0, i1]) rfl ⟨some ⟨gr, 0, none⟩, cr, by rw [HOKK.out], hr1, hr2, HOw.out, HBn.out⟩
end Go.Proofs.YtoagoahfcjnljaaDoor
