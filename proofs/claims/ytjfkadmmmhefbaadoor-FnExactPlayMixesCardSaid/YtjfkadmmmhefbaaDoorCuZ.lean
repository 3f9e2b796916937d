
/-
  PLAYS OF MIXES, THE PROGRAM's WAY: PlayMixes.
-/
import Derived.Test.YtjfkadmmmhefbaaDoorCuY
import Derived.Deep.RegionLaw
namespace Go.Proofs.YtjfkadmmmhefbaaDoor
open Go.RowKit Go.Deep
set_option linter.unusedVariables false

set_option maxHeartbeats 4000000 in
set_option maxRecDepth 100000 in
theorem PlayMixes_any (A : Option Addr) (n c B : Nat) (zs : List Int) (u : Int) (MA : Option Addr) (mn mc : Nat) (vs : List Value) (ms : List (List Int)) (w : World) (hr : Ints w B A n zs) (hv : Vals w B MA mn vs) (hi : IntVs w B vs ms)
    (hB : B ≤ w.heap.size) (hn : n ≤ 17592186044416) (hm : mn ≤ 17592186044416) (hT : Tab w) :
    Calls Tryd.prog 9 #[.agg #[.slice A n c, .int .i64 u], .slice MA mn mc] w (MadeCB (pmL zs u ms) (pmU zs u ms) (pmOk zs u ms) w) := by
  obtain rfl := hr.len
  obtain rfl : ms.length = mn := (hv.1.symm.trans hi.1).symm
  obtain ⟨X0, X1, kb, ks⟩ := two_boxes w (.slice A zs.length c) (.int .i64 u) (.slice none 0 0) (.int .i64 0) 28 28
  have HA := hide (AreCups_any A zs.length c B zs u _ (hr.below kb hB) (Nat.le_trans hB kb.size) hn (hT.next kb))
  have HX0 := hide X0
  have HX1 := hide X1
  have HKB := hide kb
  have HKS := hide ks
  have HR := hide hr
  have HV := hide hv
  have HI := hide hi
  have HT := hide hT
  clear X0 X1 kb ks hr hv hi hT
  cases hc : cuOk zs u
  · have H := hide (pm_bad (ms := ms) (pmAsk_not hc))
    rw [(pm_no H.out).1, (pm_no H.out).2, H.out]
    rw [hc] at HA
    clear hc
    go_enter Tryd.func9, Tryd.ntmps9
    go_wp2_with fail
    refine HA.out.mono ?_; rintro e w2 ⟨rfl, hb2⟩
    have bR := HX1.out.next hb2
    have e0 := bR.c0
    have e1 := bR.c1
    have f0 := bR.f 0
    have f1 := bR.f 1
    have R1 := bR.set0 (.slice none 0 0)
    have R2 := R1.set1 (.int .i64 0)
    have e2 := R1.c1
    have f2 := R1.f 1
    have i0 := R2.c0
    have i1 := R2.c1
    have HBn := hide (((HKB.out.trans (hb2.mono HKB.out.size)).setCell (p := ⟨w.heap.size + 1, 0, none⟩) (by simp) (.slice none 0 0)).setCell (p := ⟨w.heap.size + 1, 1, none⟩) (by simp) (.int .i64 0))
    clear R1 R2 bR
    go_wp2_with fail
    refine bodyPost_ret (v := .tuple #[.agg #[.slice none 0 0, .int .i64 0], .bool false]) (by simp [results, Tryd.results9, go_sem, i0, i1]) rfl (madeCB_no _ _ ?_)
    exact HBn.out
  · rw [hc] at HA
    by_cases h50 : (50 : Int) < (ms.length : Int)
    · have H := hide (pm_bad (zs := zs) (u := u) (ms := ms) (by unfold pmAsk; rw [decide_eq_false (show ¬ (ms.length ≤ 50) by omega), Bool.and_false]))
      rw [(pm_no H.out).1, (pm_no H.out).2, H.out]
      clear hc
      go_enter Tryd.func9, Tryd.ntmps9
      go_wp2_with fail
      refine HA.out.mono ?_; rintro e w2 ⟨rfl, hb2⟩
      have bR := HX1.out.next hb2
      have e0 := bR.c0
      have e1 := bR.c1
      have f0 := bR.f 0
      have f1 := bR.f 1
      have R1 := bR.set0 (.slice none 0 0)
      have R2 := R1.set1 (.int .i64 0)
      have e2 := R1.c1
      have f2 := R1.f 1
      have i0 := R2.c0
      have i1 := R2.c1
      have HBn := hide (((HKB.out.trans (hb2.mono HKB.out.size)).setCell (p := ⟨w.heap.size + 1, 0, none⟩) (by simp) (.slice none 0 0)).setCell (p := ⟨w.heap.size + 1, 1, none⟩) (by simp) (.int .i64 0))
      clear R1 R2 bR
      go_wp2_with fail
      refine bodyPost_ret (v := .tuple #[.agg #[.slice none 0 0, .int .i64 0], .bool false]) (by simp [results, Tryd.results9, go_sem, i0, i1]) rfl (madeCB_no _ _ ?_)
      exact HBn.out
    · have HAsk := hide (show pmAsk zs u ms = true from by unfold pmAsk; rw [hc, decide_eq_true (show ms.length ≤ 50 by omega)]; rfl)
      obtain ⟨g2, g6, hu, hw, _⟩ := cuOk_of hc
      have hub := isU_bd hu
      obtain ⟨x, rfl⟩ := Int.eq_ofNat_of_zero_le (show 0 ≤ u from by omega)
      have HC := hide hc
      have h0 : 0 < zs.length := by omega
      have HCl := hide (fun W (h : Below w.heap.size w W) => CloneAny_any A zs.length c B zs W (HR.out.below h hB) (Nat.le_trans hB h.size) (by omega))
      clear hc hu hw hub
      go_enter Tryd.func9, Tryd.ntmps9
      go_wp2_with fail
      refine HA.out.mono ?_; rintro e W0 ⟨rfl, hb2⟩
      have P0 := hide (HX0.out.next hb2)
      have R0 := hide (HX1.out.next hb2)
      have HW0 := hide (HKB.out.trans (hb2.mono HKB.out.size))
      have HSZ := hide (show w.heap.size + 2 ≤ W0.heap.size from by have := hb2.size; have := HKS.out; omega)
      clear hb2 HA HX0 HX1 HKB HKS
      go_wp2_with fail
      have HS := hide (fun W (h : Below W0.heap.size W0 W) => And.intro h (And.intro (P0.out.next h).c0 (P0.out.next h).c1))
      have HCW := hide (fun W (h : Below W0.heap.size W0 W) => HCl.out W (HW0.out.trans (h.mono HW0.out.size)))
      go_region_held3 (fun W => Below W0.heap.size W0 W ∧ W.cell? ⟨w.heap.size, 0, none⟩ = some (.slice A zs.length c) ∧ W.cell? ⟨w.heap.size, 1, none⟩ = some (.int .i64 (x : Int)))
          (first | exact HS.out _ (Below.refl _ _).drew | exact HS.out _ (below_next (And.left (by assumption)) hb3) | exact HS.out _ (Below.alloc (And.left (by assumption)) (Below.size (And.left (by assumption))) _) | exact HS.out _ (Below.setCell (Below.setCell HW3.out (Nat.le_refl _) _) (Nat.le_refl _) _) | exact HS.out _ (Below.alloc HW3.out (Below.size HW3.out) _) | go_keep)
          (first
          | (go_at_call 20; (with_reducible refine (HCW.out _ (And.left (by assumption))).mono ?_); rintro e w3 ⟨v, rfl, hown, hb3⟩; obtain ⟨A', c1, rfl, hc1, hc2⟩ := hown.shape; obtain ⟨g, rfl, hg1, hg2⟩ := hown.head h0; have HW3 : Hid (Below W0.heap.size W0 w3) := hide (by first | exact below_next (w1 := W0.drew) (Below.refl _ _).drew hb3 | exact below_next (w1 := (W0.alloc _).drew) ((Below.refl _ _).alloc (Nat.le_refl _) _).drew hb3); first
            | (have qz : Bx w3 W0.heap.size 28 (.slice none 0 0) (.int .i64 0) := (Bx.new W0.drew 28 (.slice none 0 0) (.int .i64 0)).next hb3; have HQ := hide qz; have HN2 := hide (show W0.heap.size < g from by have : (W0.alloc (.cells #[.slice none 0 0, .int .i64 0] 28)).heap.size ≤ g := hg1; simp at this; omega); have qr := qz.set0 (.slice (some ⟨g, 0, none⟩) zs.length c1); have q1 := qz.c0; have q2 := qz.f 0; have q5 := qz.c1; have q6 := qz.f 1; have q3 := qr.c1; have q4 := qr.f 1; clear qz qr)
            | skip))
      all_goals
        first
        | (have FX := hide (show Bx ((w3.setCell ⟨W0.heap.size, 0, none⟩ (.slice (some ⟨g, 0, none⟩) zs.length c1)).setCell ⟨W0.heap.size, 1, none⟩ (.int .i64 (x : Int))) W0.heap.size 28 (.slice (some ⟨g, 0, none⟩) zs.length c1) (.int .i64 (x : Int)) from (HQ.out.set0 (.slice (some ⟨g, 0, none⟩) zs.length c1)).set1 (.int .i64 (x : Int)))
           have FP := hide (((P0.out.next HW3.out).setOther (a := ⟨W0.heap.size, 0, none⟩) (by have := HSZ.out; simp; omega) (.slice (some ⟨g, 0, none⟩) zs.length c1)).setOther (a := ⟨W0.heap.size, 1, none⟩) (by have := HSZ.out; simp; omega) (.int .i64 (x : Int)))
           have FR := hide (((R0.out.next HW3.out).setOther (a := ⟨W0.heap.size, 0, none⟩) (by have := HSZ.out; simp; omega) (.slice (some ⟨g, 0, none⟩) zs.length c1)).setOther (a := ⟨W0.heap.size, 1, none⟩) (by have := HSZ.out; simp; omega) (.int .i64 (x : Int)))
           have FO := hide (Own.two (hown.less (base' := w.heap.size) (by have := HSZ.out; simp; omega)) (b := W0.heap.size) (by have := HN2.out; omega) (.slice (some ⟨g, 0, none⟩) zs.length c1) (.int .i64 (x : Int)))
           have FB := hide (((HW0.out.trans (HW3.out.mono HW0.out.size)).setCell (p := ⟨W0.heap.size, 0, none⟩) (by have := HSZ.out; simp; omega) (.slice (some ⟨g, 0, none⟩) zs.length c1)).setCell (p := ⟨W0.heap.size, 1, none⟩) (by have := HSZ.out; simp; omega) (.int .i64 (x : Int)))
           have FN := hide (show w.heap.size + 2 ≤ W0.heap.size ∧ g ≠ W0.heap.size ∧ w.heap.size + 2 ≤ g from by have := HSZ.out; have := HN2.out; omega)
           generalize ((w3.setCell ⟨W0.heap.size, 0, none⟩ (.slice (some ⟨g, 0, none⟩) zs.length c1)).setCell ⟨W0.heap.size, 1, none⟩ (.int .i64 (x : Int))) = W4 at *
           clear HQ HN2 hown hb3 HS HCW hg1 hg2 q1 q2 q3 q4 q5 q6 HW3
           generalize W0.heap.size = bx at *)
        | (have FX := hide (Bx.new w3 28 (.slice (some ⟨g, 0, none⟩) zs.length c1) (.int .i64 (x : Int)))
           have FP := hide ((P0.out.next HW3.out).alloc (.cells #[.slice (some ⟨g, 0, none⟩) zs.length c1, .int .i64 (x : Int)] 28))
           have FR := hide ((R0.out.next HW3.out).alloc (.cells #[.slice (some ⟨g, 0, none⟩) zs.length c1, .int .i64 (x : Int)] 28))
           have FO := hide ((hown.alloc (.cells #[.slice (some ⟨g, 0, none⟩) zs.length c1, .int .i64 (x : Int)] 28)).less (base' := w.heap.size) (by have := HSZ.out; show w.heap.size ≤ W0.heap.size; omega))
           have FB := hide ((HW0.out.trans (HW3.out.mono HW0.out.size)).alloc (show w.heap.size ≤ w3.heap.size from by have := HSZ.out; have := HW3.out.size; omega) (.cells #[.slice (some ⟨g, 0, none⟩) zs.length c1, .int .i64 (x : Int)] 28))
           have FN := hide (show w.heap.size + 2 ≤ w3.heap.size ∧ g ≠ w3.heap.size ∧ w.heap.size + 2 ≤ g from by have := HSZ.out; have := HW3.out.size; have : W0.heap.size ≤ g := hg1; omega)
           generalize (w3.alloc (.cells #[.slice (some ⟨g, 0, none⟩) zs.length c1, .int .i64 (x : Int)] 28)) = W4 at *
           clear hown hb3 HS HCW hg1 hg2 HW3
           generalize w3.heap.size = bx at *)
        clear HSZ P0 R0 HW0
        have HN := hide (show w.heap.size + 2 ≤ bx from FN.out.1)
        go_wp2_with fail
        go_loopw [26] (fun i wr => ∃ (k : Nat), k ≤ ms.length ∧ i = .int .i64 k ∧ ∃ (ys : List Int) (v gk ck : Nat), Hid (pmix zs x (ms.take k) = some (ys, v)) ∧ Bx wr bx 28 (.slice (some ⟨gk, 0, none⟩) ys.length ck) (.int .i64 (v : Int)) ∧
            Hid (Own wr w.heap.size 3 (.slice (some ⟨gk, 0, none⟩) ys.length ck) ys ∧ gk ≠ bx ∧ w.heap.size + 2 ≤ gk ∧ ys.length ≤ ck ∧ ck ≤ maxLen) ∧ Hid (Bx wr w.heap.size 28 (.slice A zs.length c) (.int .i64 (x : Int))) ∧ Hid (Bx wr (w.heap.size + 1) 28 (.slice none 0 0) (.int .i64 0)) ∧ Below w.heap.size w wr)
          (fun i _ => ms.length - (intOf i).toNat)
        case atStart => exact ⟨0, Nat.zero_le _, rfl, zs, x, g, c1, hide rfl, FX.out, hide ⟨FO.out, FN.out.2.1, FN.out.2.2, hc1, hc2⟩, FP, FR, FB.out⟩
        case round =>
          obtain ⟨k, hk, rfl, ys, v, gk, ck, HP, XB, HO, XP, XR, hb⟩ := hrel
          have hsz := hb.size
          obtain ⟨hcy, hyl⟩ := pmix_ok HC.out HP.out
          by_cases hlt : k < ms.length
          · obtain ⟨ad, rfl, hab, hcell⟩ := (HV.out.below hb hB).at_ hlt
            obtain ⟨A', c', ev, hri⟩ := (HI.out.below hb hB).2 k hlt
            have hgk : ms.getD k [] = ms[k] := by simp [List.getD, hlt]
            rw [hgk] at ev hri
            rw [ev] at hcell
            have hkn : (k : Int) < (ms.length : Int) := by omega
            have HNX := hide (pmix_succ hlt HP.out)
            clear hgk ev
            generalize ms[k] = m at *
            have p0 := XP.out.c0
            cases hmx : mixable zs.length m
            · have HIm := hide (isMixAmong_any zs.length A' m.length c' B m wr hri)
              rw [hmx] at HIm
              have H := hide (pm_stuck (u := (x : Int)) (zs := zs) (ms := ms) (by rw [Int.toNat_natCast]; exact pmix_stuck (by rw [HNX.out, hyl, hmx]; rfl)))
              have HBB := hide hb
              clear hmx HNX hcy hyl hb XB
              go_wp2_with fail
              refine HIm.out.mono ?_; rintro e w5 ⟨rfl, hb5⟩
              have bR := XR.out.next hb5
              have e0 := bR.c0
              have e1 := bR.c1
              have f0 := bR.f 0
              have f1 := bR.f 1
              have R1 := bR.set0 (.slice none 0 0)
              have R2 := R1.set1 (.int .i64 0)
              have e2 := R1.c1
              have f2 := R1.f 1
              have i0 := R2.c0
              have i1 := R2.c1
              have HBn := hide (((HBB.out.trans (hb5.mono hsz)).setCell (p := ⟨w.heap.size + 1, 0, none⟩) (by simp) (.slice none 0 0)).setCell (p := ⟨w.heap.size + 1, 1, none⟩) (by simp) (.int .i64 0))
              clear R1 R2 bR
              go_wp2_with fail
              rw [(pm_no H.out).1, (pm_no H.out).2, H.out]
              refine bodyPost_ret (v := .tuple #[.agg #[.slice none 0 0, .int .i64 0], .bool false]) (by simp [results, Tryd.results9, go_sem, i0, i1]) rfl (madeCB_no _ _ ?_)
              exact HBn.out
            · have HIm := hide (isMixAmong_any zs.length A' m.length c' B m wr hri)
              rw [hmx] at HIm
              obtain ⟨a, b, rfl, hab', hbn⟩ := mixable_of hmx
              obtain ⟨q2, q6, hu, hw, _⟩ := cuOk_of hcy
              have hub := isU_bd hu
              have hwy : within 0 2000000000 ys = true := within_of (fun k hk => by have := within_toNat hw ys[k] (List.getElem_mem hk); omega)
              obtain ⟨mf1, mf2, mf3⟩ := mix_facts (a := a) (b := b) hcy (by omega) (by omega)
              have HNX := hide (show pmix zs x (ms.take (k + 1)) = if isU (mixU ys v a b : Nat) then some (mixZ ys v a b, mixU ys v a b) else none from by
                rw [HNX.out, hyl, hmx]; simp)
              obtain ⟨ad2, rfl, had2, hm0⟩ := hri.at_ (show 0 < 2 by omega)
              obtain ⟨ad3, e3, _, hm1⟩ := hri.at_ (show 1 < 2 by omega)
              obtain rfl : ad3 = ad2 := by injection e3 with h; exact h.symm
              have hm0 : wr.cell? ad3 = some (.int .i64 (a : Int)) := hm0
              have hm1 : wr.cell? ⟨ad3.block, ad3.off + 1, none⟩ = some (.int .i64 (b : Int)) := hm1
              have HMM := hide (fun W (h : Below wr.heap.size wr W) => mixed_any (some ⟨gk, 0, none⟩) ys.length ck wr.heap.size ys v a b W (HO.out.1.ints.below h (Nat.le_refl _)) h.size (by omega) (by omega) (by omega) (by omega) hwy (by omega) (by omega) (by omega) (HT.out.next (hb.trans (h.mono hsz))))
              have hfz : 0 < (mixZ ys v a b).length := by omega
              clear hmx hcy hyl hwy hu hw mf1 mf2 mf3 q2 q6 hub e3 hri hab' hbn
              generalize mixZ ys v a b = fz at *
              generalize mixU ys v a b = fu at *
              have HM2 := hide (show wr.cell? ad3 = some (.int .i64 (a : Int)) ∧ wr.cell? ⟨ad3.block, ad3.off + 1, none⟩ = some (.int .i64 (b : Int)) ∧ ad3.block < wr.heap.size from ⟨hm0, hm1, by omega⟩)
              have HBB := hide hb
              have HXB := hide XB
              have HFZ := hide hfz
              clear hm0 hm1 hb XB hfz
              go_wp2_with fail
              refine HIm.out.mono ?_; rintro e w5 ⟨rfl, hb5⟩
              have XB5 := HXB.out.next hb5
              have z1 := XB5.lt
              have s0 := XB5.c0
              have s1 := XB5.c1
              have m0 : w5.cell? ad3 = some (.int .i64 (a : Int)) := (hb5.cell (p := ad3) HM2.out.2.2).trans HM2.out.1
              have m1 : w5.cell? ⟨ad3.block, ad3.off + 1, none⟩ = some (.int .i64 (b : Int)) := (hb5.cell (p := ⟨ad3.block, ad3.off + 1, none⟩) HM2.out.2.2).trans HM2.out.2.1
              have XP5 := hide (XP.out.next hb5)
              have XR5 := hide (XR.out.next hb5)
              have B5 := hide (HBB.out.trans (hb5.mono hsz))
              have HM5 := hide (fun W (h : Below w5.heap.size w5 W) => HMM.out W (hb5.trans (h.mono hb5.size)))
              have hs5 : w.heap.size ≤ w5.heap.size := B5.out.size
              clear HMM hb5
              go_wp2_with fail
              go_region_law (first
                | (go_simp; go_at_call 22; (with_reducible refine (HM5.out _ ?_).mono ?_); (first | exact (Below.refl _ _).drew | exact (Below.refl _ _).drew.drew | exact (Below.refl _ _).drew.drew.drew | exact (Below.refl _ _).drew.drew.drew.drew); rintro e w6 ⟨Ar, cr, rfl, hr1, hr2, hro, hb6⟩; obtain ⟨gr, rfl, hgr, hgr2⟩ := hro.head HFZ.out; (have HB6 : Hid (Below w5.heap.size w5 w6) := hide (by first | exact below_next (w1 := w5.drew) (Below.refl _ _).drew hb6 | exact below_next (w1 := w5.drew.drew) (Below.refl _ _).drew.drew hb6 | exact below_next (w1 := w5.drew.drew.drew) (Below.refl _ _).drew.drew.drew hb6 | exact below_next (w1 := w5.drew.drew.drew.drew) (Below.refl _ _).drew.drew.drew.drew hb6)); (have q1 : Bx w6 bx 28 (.slice (some ⟨gk, 0, none⟩) ys.length ck) (.int .i64 (v : Int)) := by (unfold Bx; rw [hb6.block _ z1]; exact XB5)); have t0 := q1.c0; have t1 := q1.f 0; have q2 := q1.set0 (.slice (some ⟨gr, 0, none⟩) fz.length cr); have t2 := q2.c1; have t3 := q2.f 1; go_wp2_with fail))
              all_goals
                have hgr' : w5.heap.size ≤ gr := hgr
                have Q := hide (q2.set1 (.int .i64 (fu : Int)))
                have P6 := hide (((XP5.out.next HB6.out).setOther (a := ⟨bx, 0, none⟩) (by have := HN.out; simp; omega) (.slice (some ⟨gr, 0, none⟩) fz.length cr)).setOther (a := ⟨bx, 1, none⟩) (by have := HN.out; simp; omega) (.int .i64 (fu : Int)))
                have R6 := hide (((XR5.out.next HB6.out).setOther (a := ⟨bx, 0, none⟩) (by have := HN.out; simp; omega) (.slice (some ⟨gr, 0, none⟩) fz.length cr)).setOther (a := ⟨bx, 1, none⟩) (by have := HN.out; simp; omega) (.int .i64 (fu : Int)))
                have O6 := hide (Own.two (hro.less (base' := w.heap.size) hs5) (b := bx) (by omega) (.slice (some ⟨gr, 0, none⟩) fz.length cr) (.int .i64 (fu : Int)))
                have B6 := hide (((B5.out.trans (HB6.out.mono hs5)).setCell (p := ⟨bx, 0, none⟩) (by have := HN.out; simp; omega) (.slice (some ⟨gr, 0, none⟩) fz.length cr)).setCell (p := ⟨bx, 1, none⟩) (by have := HN.out; simp; omega) (.int .i64 (fu : Int)))
                have N6 := hide (show gr ≠ bx ∧ w.heap.size + 2 ≤ gr from by have := HN.out; omega)
                generalize ((w6.setCell ⟨bx, 0, none⟩ (.slice (some ⟨gr, 0, none⟩) fz.length cr)).setCell ⟨bx, 1, none⟩ (.int .i64 (fu : Int))) = W7 at *
                clear q1 q2 t0 t1 t2 t3 hro hb6 HB6 hgr hgr2 hgr' s0 s1 m0 m1 z1 XB5 XP5 XR5 B5 HM5 hs5 p0 hcell HM2 HXB
                have y1 := Q.out.c1
                have HU := hide (fun W => isUnit_any (fu : Int) W)
                cases hiu : isU (fu : Int)
                · rw [hiu] at HU
                  have H := hide (pm_stuck (u := (x : Int)) (zs := zs) (ms := ms) (by rw [Int.toNat_natCast]; exact pmix_stuck (by rw [HNX.out, hiu]; rfl)))
                  clear hiu HNX
                  have bR := R6.out
                  have e0 := bR.c0
                  have e1 := bR.c1
                  have f0 := bR.f 0
                  have f1 := bR.f 1
                  have R1 := bR.set0 (.slice none 0 0)
                  have R2 := R1.set1 (.int .i64 0)
                  have e2 := R1.c1
                  have f2 := R1.f 1
                  have i0 := R2.c0
                  have i1 := R2.c1
                  have HBn := hide ((B6.out.setCell (p := ⟨w.heap.size + 1, 0, none⟩) (by simp) (.slice none 0 0)).setCell (p := ⟨w.heap.size + 1, 1, none⟩) (by simp) (.int .i64 0))
                  clear R1 R2 bR
                  go_wp2_with fail
                  refine (HU.out _).mono ?_; rintro e w8 ⟨rfl, rfl⟩
                  go_wp2_with fail
                  rw [(pm_no H.out).1, (pm_no H.out).2, H.out]
                  refine bodyPost_ret (v := .tuple #[.agg #[.slice none 0 0, .int .i64 0], .bool false]) (by simp [results, Tryd.results9, go_sem, i0, i1]) rfl (madeCB_no _ _ ?_)
                  exact HBn.out
                · rw [hiu] at HU
                  have HP' := hide (show pmix zs x (ms.take (k + 1)) = some (fz, fu) from by rw [HNX.out, hiu]; rfl)
                  clear hiu HNX
                  go_wp2_with fail
                  refine (HU.out _).mono ?_; rintro e w8 ⟨rfl, rfl⟩
                  go_wp2_with fail
                  all_goals first | exact ⟨k + 1, by omega, by go_num, fz, fu, gr, cr, HP', Q.out, hide ⟨O6.out, N6.out.1, N6.out.2, hr1, hr2⟩, P6, R6, B6.out⟩ | (simp [intOf]; omega) | (refine ⟨⟨k + 1, by omega, by go_num, fz, fu, gr, cr, HP', Q.out, hide ⟨O6.out, N6.out.1, N6.out.2, hr1, hr2⟩, P6, R6, B6.out⟩, ?_⟩; (simp [intOf]; omega))
          · obtain rfl : k = ms.length := by omega
            have hp := HP.out
            rw [List.take_length] at hp
            have H := hide (pm_yes HAsk.out hp)
            have hbR := XR.out
            have y0 := XB.c0
            have y1 := XB.c1
            have e0 := hbR.c0
            have e1 := hbR.c1
            have f0 := hbR.f 0
            have f1 := hbR.f 1
            have R1 := hbR.set0 (.slice (some ⟨gk, 0, none⟩) ys.length ck)
            have R2 := R1.set1 (.int .i64 (v : Int))
            have e2 := R1.c1
            have f2 := R1.f 1
            have i0 := R2.c0
            have i1 := R2.c1
            have HOw := hide (Own.two HO.out.1 (b := w.heap.size + 1) (by have := HO.out.2.2.1; omega) (.slice (some ⟨gk, 0, none⟩) ys.length ck) (.int .i64 (v : Int)))
            have HBn := hide ((hb.setCell (p := ⟨w.heap.size + 1, 0, none⟩) (by simp) (.slice (some ⟨gk, 0, none⟩) ys.length ck)).setCell (p := ⟨w.heap.size + 1, 1, none⟩) (by simp) (.int .i64 (v : Int)))
            have hcc := hide (And.intro HO.out.2.2.2.1 HO.out.2.2.2.2)
            clear R1 R2 hbR hb hp HP XB hcy hyl
            have hkn : ((ms.length : Int) < (ms.length : Int)) = False := by simp
            go_wp2_with fail
            rw [H.out.1, H.out.2.1, H.out.2.2]
            exact bodyPost_ret (v := .tuple #[.agg #[(.slice (some ⟨gk, 0, none⟩) ys.length ck), .int .i64 (v : Int)], .bool true]) (by simp [results, Tryd.results9, go_sem, i0, i1]) rfl ⟨some ⟨gk, 0, none⟩, ck, rfl, hcc.out.1, hcc.out.2, HOw.out, HBn.out⟩
end Go.Proofs.YtjfkadmmmhefbaaDoor
