
/-
  PLAYS OF MIXES, THE MODEL's WAY: PlayMixes.
-/
import Derived.Test.YtjfkadmmmhefbaaDoorCuXC
namespace Go.Proofs.YtjfkadmmmhefbaaDoor
open Go.RowKit Go.Deep
set_option linter.unusedVariables false

set_option maxHeartbeats 2000000 in
set_option maxRecDepth 100000 in
theorem specPlayMixes_any (A : Option Addr) (n c B : Nat) (zs : List Int) (u : Int) (MA : Option Addr) (mn mc : Nat) (vs : List Value) (ms : List (List Int)) (w : World) (hr : Ints w B A n zs) (hv : Vals w B MA mn vs) (hi : IntVs w B vs ms)
    (hB : B ≤ w.heap.size) (hn : n ≤ 17592186044416) :
    Calls Tryd.prog 6 #[.agg #[.slice A n c, .int .i64 u], .slice MA mn mc] w (MadeCB (pmL zs u ms) (pmU zs u ms) (pmOk zs u ms) w) := by
  obtain rfl := hr.len
  obtain rfl : ms.length = mn := (hv.1.symm.trans hi.1).symm
  obtain ⟨X0, X1, kb, ks⟩ := two_boxes w (.slice A zs.length c) (.int .i64 u) (.slice none 0 0) (.int .i64 0) 28 28
  have HA := hide (cuGood_any A zs.length c B zs u _ (hr.below kb hB) (Nat.le_trans hB kb.size) hn)
  have HX0 := hide X0
  have HX1 := hide X1
  have HKB := hide kb
  have HKS := hide ks
  have HR := hide hr
  have HV := hide hv
  have HI := hide hi
  clear X0 X1 kb ks hr hv hi
  cases hc : cuOk zs u
  · have H := hide (pm_bad (ms := ms) (pmAsk_not hc))
    rw [(pm_no H.out).1, (pm_no H.out).2, H.out]
    rw [hc] at HA
    clear hc
    go_enter Tryd.func6, Tryd.ntmps6
    go_wp2_with fail
    refine HA.out.mono ?_; rintro e w2 ⟨rfl, hb2⟩
    have bR := HX1.out.next hb2
    have e0 := bR.c0
    have e1 := bR.c1
    have f0 := bR.f 0
    have f1 := bR.f 1
    have R1 := bR.set0 (.slice none 0 0)
    have R2 := R1.set1 (.int .i64 0)
    have e2 := R1.c1
    have f2 := R1.f 1
    have i0 := R2.c0
    have i1 := R2.c1
    have HBn := hide (((HKB.out.trans (hb2.mono HKB.out.size)).setCell (p := ⟨w.heap.size + 1, 0, none⟩) (by simp) (.slice none 0 0)).setCell (p := ⟨w.heap.size + 1, 1, none⟩) (by simp) (.int .i64 0))
    clear R1 R2 bR
    go_wp2_with fail
    refine bodyPost_ret (v := .tuple #[.agg #[.slice none 0 0, .int .i64 0], .bool false]) (by simp [results, Tryd.results6, go_sem, i0, i1]) rfl (madeCB_no _ _ ?_)
    exact HBn.out
  · rw [hc] at HA
    by_cases h50 : (50 : Int) < (ms.length : Int)
    · have H := hide (pm_bad (zs := zs) (u := u) (ms := ms) (by unfold pmAsk; rw [decide_eq_false (show ¬ (ms.length ≤ 50) by omega), Bool.and_false]))
      rw [(pm_no H.out).1, (pm_no H.out).2, H.out]
      clear hc
      go_enter Tryd.func6, Tryd.ntmps6
      go_wp2_with fail
      refine HA.out.mono ?_; rintro e w2 ⟨rfl, hb2⟩
      have bR := HX1.out.next hb2
      have e0 := bR.c0
      have e1 := bR.c1
      have f0 := bR.f 0
      have f1 := bR.f 1
      have R1 := bR.set0 (.slice none 0 0)
      have R2 := R1.set1 (.int .i64 0)
      have e2 := R1.c1
      have f2 := R1.f 1
      have i0 := R2.c0
      have i1 := R2.c1
      have HBn := hide (((HKB.out.trans (hb2.mono HKB.out.size)).setCell (p := ⟨w.heap.size + 1, 0, none⟩) (by simp) (.slice none 0 0)).setCell (p := ⟨w.heap.size + 1, 1, none⟩) (by simp) (.int .i64 0))
      clear R1 R2 bR
      go_wp2_with fail
      refine bodyPost_ret (v := .tuple #[.agg #[.slice none 0 0, .int .i64 0], .bool false]) (by simp [results, Tryd.results6, go_sem, i0, i1]) rfl (madeCB_no _ _ ?_)
      exact HBn.out
    · have hAsk : pmAsk zs u ms = true := by unfold pmAsk; rw [hc, decide_eq_true (show ms.length ≤ 50 by omega)]; rfl
      have HP := hide (fun W (h : Below w.heap.size w W) => cuPlay_any A zs.length c B zs u MA ms.length mc vs ms W (HR.out.below h hB) (HV.out.below h hB) (HI.out.below h hB) (Nat.le_trans hB h.size) hAsk)
      clear hc hAsk
      generalize pmL zs u ms = fs at *
      generalize pmU zs u ms = fu at *
      generalize pmOk zs u ms = ok at *
      go_enter Tryd.func6, Tryd.ntmps6
      go_wp2_with fail
      refine HA.out.mono ?_; rintro e w2 ⟨rfl, hb2⟩
      have hy0 := (HX0.out.next hb2).c0
      have hy1 := (HX0.out.next hb2).c1
      have hx := hide (HX1.out.next hb2)
      have hk := hide (HKB.out.trans (hb2.mono HKB.out.size))
      clear hb2
      go_wp2_with fail
      refine (HP.out _ hk.out).mono ?_
      rintro e w3 ⟨Ar, cr, rfl, hr1, hr2, hro, hb3⟩
      have bR := hx.out.next hb3
      have sB := hx.out.lt
      have e0 := bR.c0
      have e1 := bR.c1
      have f0 := bR.f 0
      have f1 := bR.f 1
      have R1 := bR.set0 (.slice Ar fs.length cr)
      have R2 := R1.set1 (.int .i64 fu)
      have e2 := R1.c1
      have f2 := R1.f 1
      have i0 := R2.c0
      have i1 := R2.c1
      have HOw := hide ((hro.keep (w' := (w3.setCell ⟨w.heap.size + 1, 0, none⟩ (.slice Ar fs.length cr)).setCell ⟨w.heap.size + 1, 1, none⟩ (.int .i64 fu)) fun h hh _ => by
        rw [Below.heap_setCell _ _ _ _ (by simp; omega), Below.heap_setCell _ _ _ _ (by simp; omega)]).less (base' := w.heap.size) hk.out.size)
      have HBn := hide (((hk.out.trans (hb3.mono hk.out.size)).setCell (p := ⟨w.heap.size + 1, 0, none⟩) (by simp) (.slice Ar fs.length cr)).setCell (p := ⟨w.heap.size + 1, 1, none⟩) (by simp) (.int .i64 fu))
      clear R1 R2 bR hb3 hro
      go_wp2_with fail
      exact bodyPost_ret (v := .tuple #[.agg #[.slice Ar fs.length cr, .int .i64 fu], .bool ok]) (by simp [results, Tryd.results6, go_sem, i0, i1]) rfl ⟨Ar, cr, rfl, hr1, hr2, HOw.out, HBn.out⟩
end Go.Proofs.YtjfkadmmmhefbaaDoor
