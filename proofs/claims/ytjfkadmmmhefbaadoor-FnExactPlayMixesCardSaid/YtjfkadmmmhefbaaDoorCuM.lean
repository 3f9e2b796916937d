
/-
  A MIX, THE PROGRAM's WAY: mixed.
-/
import Derived.Test.YtjfkadmmmhefbaaDoorCuR
import Derived.Test.YtjfkadmmmhefbaaDoorCuO
import Derived.Deep.RegionHeld3
namespace Go.Proofs.YtjfkadmmmhefbaaDoor
open Go.RowKit Go.Deep
set_option linter.unusedVariables false

/-- What two cups have together, in both, all else twice. -/
def mixL (zs : List Int) (a b : Nat) : List Int := ((zs.map (2 * ·)).set a (zs.getD a 0 + zs.getD b 0)).set b (zs.getD a 0 + zs.getD b 0)
def mixZ (zs : List Int) (u a b : Nat) : List Int := redZ (2 * u) (mixL zs a b)
def mixU (zs : List Int) (u a b : Nat) : Nat := redU (2 * u) (mixL zs a b)
theorem mixL_length (zs : List Int) (a b : Nat) : (mixL zs a b).length = zs.length := by unfold mixL; simp
theorem mixL_pos {zs : List Int} {a b : Nat} (h : ∀ z ∈ zs, 0 ≤ z ∧ z ≤ 2000000000) (ha : a < zs.length) (hb : b < zs.length) : ∀ z ∈ mixL zs a b, 0 ≤ z ∧ z ≤ 4000000000 := by
  have e : ∀ k (hk : k < zs.length), 0 ≤ zs.getD k 0 ∧ zs.getD k 0 ≤ 2000000000 := fun k hk => by
    rw [show zs.getD k 0 = zs[k] from by simp [List.getD, List.getElem?_eq_getElem hk]]; exact h _ (List.getElem_mem hk)
  have ea := e a ha
  have eb := e b hb
  intro y hy
  unfold mixL at hy
  rcases List.mem_or_eq_of_mem_set hy with hy | rfl
  · rcases List.mem_or_eq_of_mem_set hy with hy | rfl
    · obtain ⟨z, hz, rfl⟩ := List.mem_map.1 hy
      have := h z hz
      show 0 ≤ 2 * z ∧ 2 * z ≤ _; omega
    · omega
  · omega

set_option maxHeartbeats 2000000 in
set_option maxRecDepth 100000 in
theorem mixed_any (A : Option Addr) (n c B : Nat) (zs : List Int) (u a b : Nat) (w : World) (hr : Ints w B A n zs) (hB : B ≤ w.heap.size) (h0 : 0 < n) (hn : n ≤ 100) (hu : 1 ≤ u) (hu2 : u ≤ 1048576) (hz : within 0 2000000000 zs = true)
    (ha : a < n) (hb : b < n) (hab : a ≠ b) (hT : Tab w) :
    Calls Tryd.prog 22 #[.agg #[.slice A n c, .int .i64 (u : Int)], .int .i64 (a : Int), .int .i64 (b : Int)] w (MadeCu (mixZ zs u a b) (mixU zs u a b : Nat) w) := by
  obtain rfl := hr.len
  obtain ⟨X0, X1, kb, ks⟩ := two_boxes w (.slice A zs.length c) (.int .i64 (u : Int)) (.slice none 0 0) (.int .i64 0) 28 28
  have HR := hide hr
  have HT := hide hT
  have hzz := within_toNat hz
  have hm := mixL_pos hzz ha hb
  have HTT := hide (fun W (h : Below w.heap.size w W) => timesTwo_any A zs.length c B zs W (hr.below h hB) (Nat.le_trans hB h.size) h0 (by omega) hz)
  have HRd := hide (fun W B' A' c' (h : Ints W B' A' zs.length (mixL zs a b)) (hB' : B' ≤ W.heap.size) (hb : Below w.heap.size w W) => reduced_any A' zs.length c' B' (mixL zs a b) (2 * u) W h hB' h0 hn (by omega) (by omega)
    (within_of (fun k hk => by have := hm _ (List.getElem_mem hk); omega)) (HT.out.next hb))
  have HLZ := hide (show (mixZ zs u a b).length = zs.length from by unfold mixZ redZ; rw [List.length_map, mixL_length])
  rw [show redZ (2 * u) (mixL zs a b) = mixZ zs u a b from rfl, show redU (2 * u) (mixL zs a b) = mixU zs u a b from rfl, show ((2 * u : Nat) : Int) = 2 * (u : Int) from by omega] at HRd
  have HTL := hide (show (zs.map (2 * ·)).length = zs.length from by simp)
  have HML := hide (show mixL zs a b = ((zs.map (2 * ·)).set a (zs.getD a 0 + zs.getD b 0)).set b (zs.getD a 0 + zs.getD b 0) from rfl)
  have hwu : wrap64 (2 * (u : Int)) = 2 * (u : Int) := by unfold wrap64; omega
  have HX0 := hide X0
  have HX1 := hide X1
  have HKB := hide kb
  have HKS := hide ks
  have k0 := X0.c0
  have k1 := X0.c1
  have HS := hide (fun W (h : Below ((w.alloc (.cells #[.slice A zs.length c, .int .i64 (u : Int)] 28)).alloc (.cells #[.slice none 0 0, .int .i64 0] 28)).heap.size ((w.alloc (.cells #[.slice A zs.length c, .int .i64 (u : Int)] 28)).alloc (.cells #[.slice none 0 0, .int .i64 0] 28)) W) =>
    And.intro h (And.intro (X0.next h).c0 (X0.next h).c1))
  have HTW := hide (fun W (h : Below ((w.alloc (.cells #[.slice A zs.length c, .int .i64 (u : Int)] 28)).alloc (.cells #[.slice none 0 0, .int .i64 0] 28)).heap.size ((w.alloc (.cells #[.slice A zs.length c, .int .i64 (u : Int)] 28)).alloc (.cells #[.slice none 0 0, .int .i64 0] 28)) W) =>
    HTT.out W (kb.trans (h.mono kb.size)))
  clear X0 X1 kb ks hr hT hz hm
  generalize mixZ zs u a b = fs at *
  generalize mixU zs u a b = fu at *
  generalize mixL zs a b = ml at *
  generalize zs.map (2 * ·) = ts at *
  go_enter Tryd.func22, Tryd.ntmps22
  go_wp2_with fail
  generalize ((w.alloc (.cells #[.slice A zs.length c, .int .i64 (u : Int)] 28)).alloc (.cells #[.slice none 0 0, .int .i64 0] 28)) = W0 at *
  go_region_held3 (fun W => Below W0.heap.size W0 W ∧ W.cell? ⟨w.heap.size, 0, none⟩ = some (.slice A zs.length c) ∧ W.cell? ⟨w.heap.size, 1, none⟩ = some (.int .i64 (u : Int)))
      (first | exact HS.out _ (Below.refl _ _).drew | exact HS.out _ (below_next (And.left (by assumption)) hb3) | exact HS.out _ (Below.alloc (And.left (by assumption)) (Below.size (And.left (by assumption))) _) | exact HS.out _ (Below.setCell (Below.setCell HW3.out (Nat.le_refl _) _) (Nat.le_refl _) _) | exact HS.out _ (Below.alloc HW3.out (Below.size HW3.out) _) | go_keep)
      (first
      | (go_at_call 36; (with_reducible refine (HTW.out _ (And.left (by assumption))).mono ?_); rintro e w3 ⟨g, c1, rfl, hg1, hg2, hc1, hc2, hown, hb3⟩; have HW3 : Hid (Below W0.heap.size W0 w3) := hide (by first | exact below_next (w1 := W0.drew) (Below.refl _ _).drew hb3 | exact below_next (w1 := (W0.alloc _).drew) ((Below.refl _ _).alloc (Nat.le_refl _) _).drew hb3); rw [HTL.out] at hown ⊢; first
        | (have qz : Bx w3 W0.heap.size 28 (.slice none 0 0) (.int .i64 0) := (Bx.new W0.drew 28 (.slice none 0 0) (.int .i64 0)).next hb3; have HQ := hide qz; have HN2 := hide (show W0.heap.size < g from by have : (W0.alloc (.cells #[.slice none 0 0, .int .i64 0] 28)).heap.size ≤ g := hg1; simp at this; omega); have qr := qz.set0 (.slice (some ⟨g, 0, none⟩) zs.length c1); have q1 := qz.c0; have q2 := qz.f 0; have q5 := qz.c1; have q6 := qz.f 1; have q3 := qr.c1; have q4 := qr.f 1; clear qz qr)
        | skip))
  all_goals
    first
    | (have FX := hide (show Bx ((w3.setCell ⟨W0.heap.size, 0, none⟩ (.slice (some ⟨g, 0, none⟩) zs.length c1)).setCell ⟨W0.heap.size, 1, none⟩ (.int .i64 (IntKind.i64.wrap (2 * (u : Int))))) W0.heap.size 28 (.slice (some ⟨g, 0, none⟩) zs.length c1) (.int .i64 (IntKind.i64.wrap (2 * (u : Int)))) from (HQ.out.set0 (.slice (some ⟨g, 0, none⟩) zs.length c1)).set1 (.int .i64 (IntKind.i64.wrap (2 * (u : Int)))))
       have FP := hide (((HX0.out.next HW3.out).setOther (a := ⟨W0.heap.size, 0, none⟩) (by have := HKS.out; simp; omega) (.slice (some ⟨g, 0, none⟩) zs.length c1)).setOther (a := ⟨W0.heap.size, 1, none⟩) (by have := HKS.out; simp; omega) (.int .i64 (IntKind.i64.wrap (2 * (u : Int)))))
       have FR := hide (((HX1.out.next HW3.out).setOther (a := ⟨W0.heap.size, 0, none⟩) (by have := HKS.out; simp; omega) (.slice (some ⟨g, 0, none⟩) zs.length c1)).setOther (a := ⟨W0.heap.size, 1, none⟩) (by have := HKS.out; simp; omega) (.int .i64 (IntKind.i64.wrap (2 * (u : Int)))))
       have FO := hide (Own.two (hown.less (base' := w.heap.size) (by have := HKS.out; simp; omega)) (b := W0.heap.size) (by have := HN2.out; omega) (.slice (some ⟨g, 0, none⟩) zs.length c1) (.int .i64 (IntKind.i64.wrap (2 * (u : Int)))))
       have FB := hide (((HKB.out.trans (HW3.out.mono HKB.out.size)).setCell (p := ⟨W0.heap.size, 0, none⟩) (by have := HKS.out; simp; omega) (.slice (some ⟨g, 0, none⟩) zs.length c1)).setCell (p := ⟨W0.heap.size, 1, none⟩) (by have := HKS.out; simp; omega) (.int .i64 (IntKind.i64.wrap (2 * (u : Int)))))
       have FN := hide (show w.heap.size + 2 ≤ W0.heap.size ∧ g ≠ W0.heap.size ∧ w.heap.size + 2 ≤ g from by have := HKS.out; have := HN2.out; omega)
       generalize ((w3.setCell ⟨W0.heap.size, 0, none⟩ (.slice (some ⟨g, 0, none⟩) zs.length c1)).setCell ⟨W0.heap.size, 1, none⟩ (.int .i64 (IntKind.i64.wrap (2 * (u : Int))))) = W4 at *
       clear HQ HN2 hown hb3 HS HTW hg1 hg2 q1 q2 q3 q4 q5 q6
       generalize W0.heap.size = bx at *)
    | (have FX := hide (Bx.new w3 28 (.slice (some ⟨g, 0, none⟩) zs.length c1) (.int .i64 (IntKind.i64.wrap (2 * (u : Int)))))
       have FP := hide ((HX0.out.next HW3.out).alloc (.cells #[.slice (some ⟨g, 0, none⟩) zs.length c1, .int .i64 (IntKind.i64.wrap (2 * (u : Int)))] 28))
       have FR := hide ((HX1.out.next HW3.out).alloc (.cells #[.slice (some ⟨g, 0, none⟩) zs.length c1, .int .i64 (IntKind.i64.wrap (2 * (u : Int)))] 28))
       have FO := hide ((hown.alloc (.cells #[.slice (some ⟨g, 0, none⟩) zs.length c1, .int .i64 (IntKind.i64.wrap (2 * (u : Int)))] 28)).less (base' := w.heap.size) (by have : W0.heap.size = w.heap.size + 2 := HKS.out; show w.heap.size ≤ W0.heap.size; omega))
       have FB := hide ((HKB.out.trans (HW3.out.mono HKB.out.size)).alloc (show w.heap.size ≤ w3.heap.size from by have := HKS.out; have := HW3.out.size; omega) (.cells #[.slice (some ⟨g, 0, none⟩) zs.length c1, .int .i64 (IntKind.i64.wrap (2 * (u : Int)))] 28))
       have FN := hide (show w.heap.size + 2 ≤ w3.heap.size ∧ g ≠ w3.heap.size ∧ w.heap.size + 2 ≤ g from by have := HKS.out; have := HW3.out.size; have : W0.heap.size ≤ g := hg1; omega)
       generalize (w3.alloc (.cells #[.slice (some ⟨g, 0, none⟩) zs.length c1, .int .i64 (IntKind.i64.wrap (2 * (u : Int)))] 28)) = W4 at *
       clear hown hb3 HS HTW hg1 hg2
       generalize w3.heap.size = bx at *)
    have hwi : IntKind.i64.wrap (2 * (u : Int)) = 2 * (u : Int) := by rw [IntKind.wrap_i64]; omega
    rw [hwi] at FX ⊢
    clear k0 k1
    have ea := (HR.out.below FB.out hB).at_ ha
    obtain ⟨ad, rfl, had, hca⟩ := ea
    obtain ⟨ad', had', _, hcb⟩ := (HR.out.below FB.out hB).at_ hb
    obtain rfl : ad' = ad := by injection had' with h; exact h.symm
    have za := hzz (zs.getD a 0) (by rw [show zs.getD a 0 = zs[a] from by simp [List.getD, List.getElem?_eq_getElem ha]]; exact List.getElem_mem ha)
    have zb := hzz (zs.getD b 0) (by rw [show zs.getD b 0 = zs[b] from by simp [List.getD, List.getElem?_eq_getElem hb]]; exact List.getElem_mem hb)
    clear had' hzz
    generalize zs.getD a 0 = x at *
    generalize zs.getD b 0 = y at *
    have hwi2 : IntKind.i64.wrap (x + y) = x + y := by rw [IntKind.wrap_i64]; omega
    have hwi3 : wrap64 (x + y) = x + y := by unfold wrap64; omega
    have p0 := FP.out.c0
    have hai : (a : Int) < (zs.length : Int) := by omega
    have hbi : (b : Int) < (zs.length : Int) := by omega
    go_wp2_with fail
    go_quiet (fail)
    try rw [hwi2]
    have FX := hide (FX.out.drewN nq)
    have FR := hide (FR.out.drewN nq)
    have FO := hide (FO.out.drewN nq)
    have FB := hide (below_drewN FB.out nq)
    clear p0 FP hca hcb hai hbi hwi hwi2 hwi3
    generalize W4.drewN nq = W5 at *
    generalize x + y = s at *
    have hml := HML.out
    have o1 := FO.out
    have o2 := Own.stored o1 HTL.out a s
    have l2 : (ts.set a s).length = zs.length := by rw [List.length_set]; exact HTL.out
    have o3 := Own.stored o2 l2 b s
    rw [← hml] at o3
    have ca : ∃ v, W5.cell? ⟨g, a, none⟩ = some (.int .i64 v) := by
      have h := o1
      unfold Own at h
      rw [HTL.out] at h
      have := World.ownsRow.cellAt h a (by omega)
      rw [List.getElem?_map, List.getElem?_eq_getElem (by rw [HTL.out]; exact ha), Option.map_some] at this
      exact ⟨_, this⟩
    have cb : ∃ v, (W5.setCell ⟨g, a, none⟩ (.int .i64 s)).cell? ⟨g, b, none⟩ = some (.int .i64 v) := by
      have h := o2
      unfold Own at h
      rw [l2] at h
      have := World.ownsRow.cellAt h b (by omega)
      rw [List.getElem?_map, List.getElem?_eq_getElem (by rw [l2]; exact hb), Option.map_some] at this
      exact ⟨_, this⟩
    have fa : W5.frozen? ⟨g, a, none⟩ = false := by
      have h := o1
      unfold Own at h
      rw [HTL.out] at h
      exact World.ownsRow.frozenAt h a
    have fb : (W5.setCell ⟨g, a, none⟩ (.int .i64 s)).frozen? ⟨g, b, none⟩ = false := by
      have h := o2
      unfold Own at h
      rw [l2] at h
      exact World.ownsRow.frozenAt h b
    obtain ⟨va, hva⟩ := ca
    obtain ⟨vb, hvb⟩ := cb
    have x2 := hide ((FX.out.setOther (a := ⟨g, a, none⟩) (by have := FN.out; simp; omega) (.int .i64 s)).setOther (a := ⟨g, b, none⟩) (by have := FN.out; simp; omega) (.int .i64 s))
    have z2 := hide ((FR.out.setOther (a := ⟨g, a, none⟩) (by have := FN.out; simp; omega) (.int .i64 s)).setOther (a := ⟨g, b, none⟩) (by have := FN.out; simp; omega) (.int .i64 s))
    have B2 := hide ((FB.out.setCell (p := ⟨g, a, none⟩) (by have := FN.out; simp; omega) (.int .i64 s)).setCell (p := ⟨g, b, none⟩) (by have := FN.out; simp; omega) (.int .i64 s))
    have I2 := hide (show Ints ((W5.setCell ⟨g, a, none⟩ (.int .i64 s)).setCell ⟨g, b, none⟩ (.int .i64 s)) ((W5.setCell ⟨g, a, none⟩ (.int .i64 s)).setCell ⟨g, b, none⟩ (.int .i64 s)).heap.size (some ⟨g, 0, none⟩) zs.length ml from by
      have := o3.ints
      rw [show ml.length = zs.length from by rw [hml, List.length_set, List.length_set]; exact HTL.out] at this
      exact this)
    have c0 := FX.out.c0
    have c1' := (FX.out.setOther (a := ⟨g, a, none⟩) (by have := FN.out; simp; omega) (.int .i64 s)).c0
    have c2' := x2.out.c0
    have hai : (a : Int) < (zs.length : Int) := by omega
    have hbi : (b : Int) < (zs.length : Int) := by omega
    clear o1 o2 o3 l2 hml
    go_wp2_with fail
    go_region_held3 (fun W => W.cell? ⟨bx, 0, none⟩ = some (.slice (some ⟨g, 0, none⟩) zs.length c1)) (first | exact c0 | exact c1' | exact c2' | go_keep) (fail)
    all_goals
      have X7 := hide (show Bx ((W5.setCell ⟨g, a, none⟩ (.int .i64 s)).setCell ⟨g, b, none⟩ (.int .i64 s)).drew bx 28 (.slice (some ⟨g, 0, none⟩) zs.length c1) (.int .i64 (2 * (u : Int))) from x2.out)
      have R7 := hide (show Bx ((W5.setCell ⟨g, a, none⟩ (.int .i64 s)).setCell ⟨g, b, none⟩ (.int .i64 s)).drew (w.heap.size + 1) 28 (.slice none 0 0) (.int .i64 0) from z2.out)
      have B7 := hide (show Below w.heap.size w ((W5.setCell ⟨g, a, none⟩ (.int .i64 s)).setCell ⟨g, b, none⟩ (.int .i64 s)).drew from B2.out.drew)
      have I7 := hide (show Ints ((W5.setCell ⟨g, a, none⟩ (.int .i64 s)).setCell ⟨g, b, none⟩ (.int .i64 s)).drew ((W5.setCell ⟨g, a, none⟩ (.int .i64 s)).setCell ⟨g, b, none⟩ (.int .i64 s)).drew.heap.size (some ⟨g, 0, none⟩) zs.length ml from I2.out)
      clear x2 z2 B2 I2 c0 c1' c2' hva hvb fa fb hai hbi
      generalize ((W5.setCell ⟨g, a, none⟩ (.int .i64 s)).setCell ⟨g, b, none⟩ (.int .i64 s)).drew = W7 at *
      have y0 := X7.out.c0
      have y1 := X7.out.c1
      go_wp2_with fail
      refine (HRd.out _ _ _ _ I7.out (Nat.le_refl _) B7.out).mono ?_
      rintro e w8 ⟨Ar, cr, rfl, hr1, hr2, hro, hb8⟩
      obtain ⟨gr, rfl, hgr, hgr2⟩ := hro.head (by rw [HLZ.out]; exact h0)
      have bR := R7.out.next hb8
      have e0 := bR.c0
      have e1 := bR.c1
      have f0 := bR.f 0
      have f1 := bR.f 1
      have R1 := bR.set0 (.slice (some ⟨gr, 0, none⟩) fs.length cr)
      have R2 := R1.set1 (.int .i64 (fu : Int))
      have e2 := R1.c1
      have f2 := R1.f 1
      have i0 := R2.c0
      have i1 := R2.c1
      have sB := R7.out.lt
      have HOw := hide (Own.two (hro.less (base' := w.heap.size) (by omega)) (b := w.heap.size + 1) (by omega) (.slice (some ⟨gr, 0, none⟩) fs.length cr) (.int .i64 (fu : Int)))
      have HBn := hide (((B7.out.trans (hb8.mono B7.out.size)).setCell (p := ⟨w.heap.size + 1, 0, none⟩) (by simp) (.slice (some ⟨gr, 0, none⟩) fs.length cr)).setCell (p := ⟨w.heap.size + 1, 1, none⟩) (by simp) (.int .i64 (fu : Int)))
      clear R1 R2 bR y0 y1 hro hb8 sB
      go_wp2_with fail
      exact bodyPost_ret (v := .agg #[.slice (some ⟨gr, 0, none⟩) fs.length cr, .int .i64 (fu : Int)]) (by simp [results, Tryd.results22, go_sem, i0, i1]) rfl ⟨some ⟨gr, 0, none⟩, cr, rfl, hr1, hr2, HOw.out, HBn.out⟩
end Go.Proofs.YtjfkadmmmhefbaaDoor
