
/-
  A MIX OF TWO CUPS, THE MODEL's WAY: cuTwo, MixTwo.
-/
import Derived.Test.YtbfolodadejcoaaDoorCuXP
import Derived.Test.YtbfolodadejcoaaDoorCuN
import Derived.Test.YtbfolodadejcoaaDoorCuO
import Derived.Test.YtbfolodadejcoaaDoorTwo
namespace Go.Proofs.YtbfolodadejcoaaDoor
open Go.RowKit Go.Deep
set_option linter.unusedVariables false

theorem mixL_comm (zs : List Int) {a b : Nat} (h : a ≠ b) : mixL zs a b = mixL zs b a := by
  unfold mixL
  rw [Int.add_comm (zs.getD b 0), List.set_comm _ _ h]
theorem mixZ_comm (zs : List Int) (u : Nat) {a b : Nat} (h : a ≠ b) : mixZ zs u a b = mixZ zs u b a := by unfold mixZ; rw [mixL_comm zs h]
theorem mixU_comm (zs : List Int) (u : Nat) {a b : Nat} (h : a ≠ b) : mixU zs u a b = mixU zs u b a := by unfold mixU; rw [mixL_comm zs h]
/-- One mix of two cups, the less first. -/
def mm (a b : Int) : List (List Int) := [[min a b, max a b]]
theorem mixable_mm (n : Nat) (a b : Int) : mixable n [min a b, max a b] = two n a b := by
  rw [mixable_two]
  unfold two
  apply decide_eq_decide.2
  omega
theorem pmix_mm_no {zs : List Int} {u : Nat} {a b : Int} (h : two zs.length a b = false) : pmix zs u (mm a b) = none := by
  unfold mm
  simp only [pmix]
  rw [mixable_mm, h]
  rfl
theorem pmix_mm {zs : List Int} {u : Nat} {a b : Int} (h : two zs.length a b = true) :
    pmix zs u (mm a b) = if isU (mixU zs u a.toNat b.toNat : Nat) then some (mixZ zs u a.toNat b.toNat, mixU zs u a.toNat b.toNat) else none := by
  have hb := two_bd h
  unfold mm
  simp only [pmix]
  rw [mixable_mm, h, Bool.true_and]
  have e0 : (([min a b, max a b] : List Int).getD 0 0) = min a b := rfl
  have e1 : (([min a b, max a b] : List Int).getD 1 0) = max a b := rfl
  rw [e0, e1]
  rcases Int.lt_or_gt_of_ne hb.2.2.2.2 with hl | hl
  · rw [Int.min_eq_left (by omega), Int.max_eq_right (by omega)]
  · rw [Int.min_eq_right (by omega), Int.max_eq_left (by omega), mixZ_comm zs u (show b.toNat ≠ a.toNat by omega), mixU_comm zs u (show b.toNat ≠ a.toNat by omega)]
theorem pmAsk_mm {zs : List Int} {u : Int} {a b : Int} (h : cuOk zs u = true) : pmAsk zs u (mm a b) = true := by unfold pmAsk mm; rw [h]; rfl
theorem pmAsk_not {zs : List Int} {u : Int} {ms : List (List Int)} (h : cuOk zs u = false) : pmAsk zs u ms = false := by unfold pmAsk; rw [h]; rfl

set_option maxRecDepth 100000 in
theorem cuTwo_any (A : Option Addr) (n c : Nat) (u a b : Int) (w : World) (hn : n ≤ 17592186044416) :
    Calls Tryd.prog 20 #[.agg #[.slice A n c, .int .i64 u], .int .i64 a, .int .i64 b] w fun e w' => e = .returned (.bool (two n a b)) ∧ Below w.heap.size w w' := by
  have hw : wrap64 ((n : Int) - 1) = (n : Int) - 1 := by unfold wrap64; omega
  have X := Bx.new w 26 (.slice A n c) (.int .i64 u)
  have c0 := X.c0
  have HB := hide ((Below.refl w.heap.size w).alloc (Nat.le_refl _) (.cells #[.slice A n c, .int .i64 u] 26))
  have HA := hide (fun W => l1In_any a 0 ((n : Int) - 1) W)
  have HC := hide (fun W => l1In_any b 0 ((n : Int) - 1) W)
  clear X
  by_cases h1 : 0 ≤ a ∧ a ≤ (n : Int) - 1
  · rw [decide_eq_true h1] at HA
    by_cases h2 : 0 ≤ b ∧ b ≤ (n : Int) - 1
    · rw [decide_eq_true h2] at HC
      have H := hide (show two n a b = (a != b) from by
        unfold two
        by_cases h : a = b
        · subst h; simp
        · rw [decide_eq_true (show _ from ⟨h1.1, by omega, h2.1, by omega, h⟩)]; simpa using h)
      clear h1 h2
      go_enter Tryd.func20, Tryd.ntmps20
      go_wp2_with fail
      refine (HA.out _).mono ?_; rintro e w' ⟨rfl, rfl⟩
      go_wp2_with fail
      refine (HC.out _).mono ?_; rintro e w' ⟨rfl, rfl⟩
      go_wp2_with fail
      go_ret
      exact ⟨by rw [H.out]; rfl, HB.out⟩
    · rw [decide_eq_false h2] at HC
      have H := hide (two_no (n := n) (f := a) (t := b) (by omega))
      clear h1 h2
      go_enter Tryd.func20, Tryd.ntmps20
      go_wp2_with fail
      refine (HA.out _).mono ?_; rintro e w' ⟨rfl, rfl⟩
      go_wp2_with fail
      refine (HC.out _).mono ?_; rintro e w' ⟨rfl, rfl⟩
      go_wp2_with fail
      go_ret
      exact ⟨by rw [H.out]; rfl, HB.out⟩
  · rw [decide_eq_false h1] at HA
    have H := hide (two_no (n := n) (f := a) (t := b) (by omega))
    clear h1
    go_enter Tryd.func20, Tryd.ntmps20
    go_wp2_with fail
    refine (HA.out _).mono ?_; rintro e w' ⟨rfl, rfl⟩
    go_wp2_with fail
    go_ret
    exact ⟨by rw [H.out]; rfl, HB.out⟩

set_option maxHeartbeats 2000000 in
set_option maxRecDepth 100000 in
theorem specMixTwo_any (A : Option Addr) (n c B : Nat) (zs : List Int) (u a b : Int) (w : World) (hr : Ints w B A n zs) (hB : B ≤ w.heap.size) (hn : n ≤ 17592186044416) :
    Calls Tryd.prog 6 #[.agg #[.slice A n c, .int .i64 u], .int .i64 a, .int .i64 b] w (MadeCB (pmL zs u (mm a b)) (pmU zs u (mm a b)) (pmOk zs u (mm a b)) w) := by
  obtain rfl := hr.len
  obtain ⟨X0, X1, kb, ks⟩ := two_boxes w (.slice A zs.length c) (.int .i64 u) (.slice none 0 0) (.int .i64 0) 26 26
  have HA := hide (cuGood_any A zs.length c B zs u _ (hr.below kb hB) (Nat.le_trans hB kb.size) hn)
  have HT2 := hide (fun W => cuTwo_any A zs.length c u a b W hn)
  have HX0 := hide X0
  have HX1 := hide X1
  have HKB := hide kb
  have HKS := hide ks
  have HR := hide hr
  clear X0 X1 kb ks hr
  cases hc : cuOk zs u
  · have H := hide (pm_bad (ms := mm a b) (pmAsk_not hc))
    rw [(pm_no H.out).1, (pm_no H.out).2, H.out]
    rw [hc] at HA
    clear hc HT2
    go_enter Tryd.func6, Tryd.ntmps6
    go_wp2_with fail
    refine HA.out.mono ?_; rintro e w2 ⟨rfl, hb2⟩
    have bR := HX1.out.next hb2
    have e0 := bR.c0
    have e1 := bR.c1
    have f0 := bR.f 0
    have f1 := bR.f 1
    have R1 := bR.set0 (.slice none 0 0)
    have R2 := R1.set1 (.int .i64 0)
    have e2 := R1.c1
    have f2 := R1.f 1
    have i0 := R2.c0
    have i1 := R2.c1
    have HBn := hide (((HKB.out.trans (hb2.mono HKB.out.size)).setCell (p := ⟨w.heap.size + 1, 0, none⟩) (by simp) (.slice none 0 0)).setCell (p := ⟨w.heap.size + 1, 1, none⟩) (by simp) (.int .i64 0))
    clear R1 R2 bR hb2
    go_wp2_with fail
    refine bodyPost_ret (v := .tuple #[.agg #[.slice none 0 0, .int .i64 0], .bool false]) (by simp [results, Tryd.results6, go_sem, i0, i1]) rfl (madeCB_no _ _ ?_)
    exact HBn.out
  · rw [hc] at HA
    cases h2 : two zs.length a b
    · have H := hide (pm_stuck (u := u) (pmix_mm_no h2))
      rw [(pm_no H.out).1, (pm_no H.out).2, H.out]
      rw [h2] at HT2
      clear hc h2
      go_enter Tryd.func6, Tryd.ntmps6
      go_wp2_with fail
      refine HA.out.mono ?_; rintro e w2 ⟨rfl, hb2⟩
      have hy0 := (HX0.out.next hb2).c0
      have hy1 := (HX0.out.next hb2).c1
      have hx := hide (HX1.out.next hb2)
      have hk := hide (HKB.out.trans (hb2.mono HKB.out.size))
      clear hb2
      go_wp2_with fail
      refine (HT2.out _).mono ?_; rintro e w3 ⟨rfl, hb3⟩
      have bR := hx.out.next hb3
      have e0 := bR.c0
      have e1 := bR.c1
      have f0 := bR.f 0
      have f1 := bR.f 1
      have R1 := bR.set0 (.slice none 0 0)
      have R2 := R1.set1 (.int .i64 0)
      have e2 := R1.c1
      have f2 := R1.f 1
      have i0 := R2.c0
      have i1 := R2.c1
      have HBn := hide (((hk.out.trans (hb3.mono hk.out.size)).setCell (p := ⟨w.heap.size + 1, 0, none⟩) (by simp) (.slice none 0 0)).setCell (p := ⟨w.heap.size + 1, 1, none⟩) (by simp) (.int .i64 0))
      clear R1 R2 bR hb3
      go_wp2_with fail
      refine bodyPost_ret (v := .tuple #[.agg #[.slice none 0 0, .int .i64 0], .bool false]) (by simp [results, Tryd.results6, go_sem, i0, i1]) rfl (madeCB_no _ _ ?_)
      exact HBn.out
    · obtain ⟨g2, g6, hu, hw, _⟩ := cuOk_of hc
      have hub := isU_bd hu
      obtain ⟨j, hj, huj⟩ := isU_of hu
      obtain ⟨x, rfl⟩ := Int.eq_ofNat_of_zero_le (show 0 ≤ u from by omega)
      have hbd := two_bd h2
      obtain ⟨a', rfl⟩ := Int.eq_ofNat_of_zero_le hbd.1
      obtain ⟨b', rfl⟩ := Int.eq_ofNat_of_zero_le hbd.2.2.1
      have hpm := pmix_mm (u := x) h2
      have hlen : (mixZ zs x a' b').length = zs.length := (mix_facts hc (by omega) (by omega)).2.2
      rw [h2] at HT2
      have HMX := hide (fun W (h : Below w.heap.size w W) => cuMix_any A zs.length c B zs x j a' b' W (HR.out.below h hB) (Nat.le_trans hB h.size) (by omega) (by omega) (by exact_mod_cast huj) (by omega)
        (within_of (fun k hk => by have := within_toNat hw zs[k] (List.getElem_mem hk); omega)) (by omega) (by omega))
      have hyes := fun (h : pmix zs x (mm a' b') = some (mixZ zs x a' b', mixU zs x a' b')) => pm_yes (ms := mm a' b') (pmAsk_mm hc) h
      have hno : pmix zs x (mm a' b') = none → pmOk zs (x : Int) (mm a' b') = false := fun h => pm_stuck (by rw [Int.toNat_natCast]; exact h)
      simp only [Int.toNat_natCast] at hpm
      generalize hmz : mixZ zs x a' b' = mz at *
      generalize hmu : mixU zs x a' b' = mu at *
      have HLZ := hide (show mz.length = zs.length ∧ 0 < zs.length from ⟨hlen, by omega⟩)
      have hfin : (isU (mu : Nat) = true → pmOk zs (x : Int) (mm a' b') = true ∧ pmL zs (x : Int) (mm a' b') = mz ∧ pmU zs (x : Int) (mm a' b') = (mu : Int)) ∧ (isU (mu : Nat) = false → pmOk zs (x : Int) (mm a' b') = false) :=
        ⟨fun h => hyes (by rw [hpm, if_pos h]), fun h => hno (by rw [hpm, h]; rfl)⟩
      have hnn : pmOk zs (x : Int) (mm a' b') = false → pmL zs (x : Int) (mm a' b') = [] ∧ pmU zs (x : Int) (mm a' b') = 0 := pm_no
      clear hyes hno hpm hmz hmu hlen hc h2 hbd hu hw g2 g6 hub huj
      generalize pmOk zs (x : Int) (mm a' b') = ok at *
      generalize pmL zs (x : Int) (mm a' b') = fl at *
      generalize pmU zs (x : Int) (mm a' b') = fu at *
      generalize hiu : isU (mu : Nat) = iu at *
      have HF := hide (And.intro hfin hnn)
      clear hfin hnn hiu
      go_enter Tryd.func6, Tryd.ntmps6
      go_wp2_with fail
      refine HA.out.mono ?_; rintro e w2 ⟨rfl, hb2⟩
      have hy0 := (HX0.out.next hb2).c0
      have hy1 := (HX0.out.next hb2).c1
      have hx0 := hide (HX0.out.next hb2)
      have hx := hide (HX1.out.next hb2)
      have hk := hide (HKB.out.trans (hb2.mono HKB.out.size))
      clear hb2
      go_wp2_with fail
      refine (HT2.out _).mono ?_; rintro e w3 ⟨rfl, hb3⟩
      have hz0 := (hx0.out.next hb3).c0
      have hz1 := (hx0.out.next hb3).c1
      have hx' := hide (hx.out.next hb3)
      have hk' := hide (hk.out.trans (hb3.mono hk.out.size))
      clear hb3 hx hk hx0 hy0 hy1
      go_wp2_with fail
      refine (HMX.out _ hk'.out).mono ?_
      rintro e w4 ⟨Ar, cr, rfl, hr1, hr2, hro, hb4⟩
      obtain ⟨gr, rfl, hgr, hgr2⟩ := hro.head (by have := HLZ.out; omega)
      have X8 := Bx.new w4 26 (.slice (some ⟨gr, 0, none⟩) mz.length cr) (.int .i64 (mu : Int))
      have y0 := X8.c0
      have y1 := X8.c1
      have bR := (hx'.out.next hb4).alloc (.cells #[.slice (some ⟨gr, 0, none⟩) mz.length cr, .int .i64 (mu : Int)] 26)
      have sB := hx'.out.lt
      have e0 := bR.c0
      have e1 := bR.c1
      have f0 := bR.f 0
      have f1 := bR.f 1
      have HO := hide ((hro.less (base' := w.heap.size) hk'.out.size).alloc (.cells #[.slice (some ⟨gr, 0, none⟩) mz.length cr, .int .i64 (mu : Int)] 26))
      have hk4 := hide ((hk'.out.trans (hb4.mono hk'.out.size)).alloc (show w.heap.size ≤ w4.heap.size from Nat.le_trans hk'.out.size hb4.size) (.cells #[.slice (some ⟨gr, 0, none⟩) mz.length cr, .int .i64 (mu : Int)] 26))
      have FN := hide (show w.heap.size + 1 < gr from by omega)
      have R0 := hide bR
      clear X8 bR sB hro hb4 hgr hgr2 hx' hk'
      cases iu
      · obtain rfl := HF.out.1.2 rfl
        obtain ⟨rfl, rfl⟩ := HF.out.2 rfl
        have R1 := R0.out.set0 (.slice none 0 0)
        have R2 := R1.set1 (.int .i64 0)
        have e2 := R1.c1
        have f2 := R1.f 1
        have i0 := R2.c0
        have i1 := R2.c1
        have HBn := hide ((hk4.out.setCell (p := ⟨w.heap.size + 1, 0, none⟩) (by simp) (.slice none 0 0)).setCell (p := ⟨w.heap.size + 1, 1, none⟩) (by simp) (.int .i64 0))
        clear R1 R2
        go_wp2_with fail
        exact bodyPost_ret (v := .tuple #[.agg #[.slice none 0 0, .int .i64 0], .bool false]) (by simp [results, Tryd.results6, go_sem, i0, i1]) rfl (madeCB_no _ _ HBn.out)
      · obtain ⟨rfl, rfl, rfl⟩ := HF.out.1.1 rfl
        have R1 := R0.out.set0 (.slice (some ⟨gr, 0, none⟩) fl.length cr)
        have R2 := R1.set1 (.int .i64 (mu : Int))
        have e2 := R1.c1
        have f2 := R1.f 1
        have i0 := R2.c0
        have i1 := R2.c1
        have HOw := hide (Own.two HO.out (b := w.heap.size + 1) (by have := FN.out; omega) (.slice (some ⟨gr, 0, none⟩) fl.length cr) (.int .i64 (mu : Int)))
        have HBn := hide ((hk4.out.setCell (p := ⟨w.heap.size + 1, 0, none⟩) (by simp) (.slice (some ⟨gr, 0, none⟩) fl.length cr)).setCell (p := ⟨w.heap.size + 1, 1, none⟩) (by simp) (.int .i64 (mu : Int)))
        clear R1 R2
        go_wp2_with fail
        exact bodyPost_ret (v := .tuple #[.agg #[.slice (some ⟨gr, 0, none⟩) fl.length cr, .int .i64 (mu : Int)], .bool true]) (by simp [results, Tryd.results6, go_sem, i0, i1]) rfl ⟨some ⟨gr, 0, none⟩, cr, rfl, hr1, hr2, HOw.out, HBn.out⟩
end Go.Proofs.YtbfolodadejcoaaDoor
