
/-
  A MIX, THE MODEL's WAY: cuMix.
-/
import Derived.Test.YtjfkadmmmhefbaaDoorCuM
import Derived.Test.YtjfkadmmmhefbaaDoorCuQ
namespace Go.Proofs.YtjfkadmmmhefbaaDoor
open Go.RowKit Go.Deep
set_option linter.unusedVariables false

theorem mixL_take (zs : List Int) (a b k : Nat) (hk : k < zs.length) (ha : a < zs.length) (hb : b < zs.length) :
    (mixL zs a b).take (k + 1) = (mixL zs a b).take k ++ [if k = a ∨ k = b then zs.getD a 0 + zs.getD b 0 else 2 * zs[k]] := by
  have hg : (mixL zs a b)[k]? = some (if k = a ∨ k = b then zs.getD a 0 + zs.getD b 0 else 2 * zs[k]) := by
    unfold mixL
    rw [List.getElem?_set, List.getElem?_set]
    simp only [List.length_set, List.length_map]
    by_cases h1 : b = k
    · rw [if_pos h1, if_pos (by omega), if_pos (Or.inr h1.symm)]
    · by_cases h2 : a = k
      · rw [if_neg h1, if_pos h2, if_pos (by omega), if_pos (Or.inl h2.symm)]
      · rw [if_neg h1, if_neg h2, if_neg (by omega), List.getElem?_map, List.getElem?_eq_getElem hk]; rfl
  rw [List.take_add_one, hg]; rfl

/-- WHAT cuMix LEAVES. -/
def MadeCuB (fs : List Int) (fu : Int) (b : Bool) (w : World) (e : Ending) (w' : World) : Prop :=
  ∃ A c, e = .returned (.tuple #[.agg #[.slice A fs.length c, .int .i64 fu], .bool b]) ∧ fs.length ≤ c ∧ c ≤ maxLen ∧ Own w' w.heap.size 3 (.slice A fs.length c) fs ∧ Below w.heap.size w w'

set_option maxHeartbeats 2000000 in
set_option maxRecDepth 100000 in
theorem cuMix_any (A : Option Addr) (n c B : Nat) (zs : List Int) (u j a b : Nat) (w : World) (hr : Ints w B A n zs) (hB : B ≤ w.heap.size) (h0 : 0 < n) (hn : n ≤ 100) (huj : u = 2 ^ j) (hu2 : u ≤ 1048576) (hz : within 0 2000000000 zs = true)
    (ha : a < n) (hb : b < n) :
    Calls Tryd.prog 32 #[.agg #[.slice A n c, .int .i64 (u : Int)], .int .i64 (a : Int), .int .i64 (b : Int)] w (MadeCuB (mixZ zs u a b) (mixU zs u a b : Nat) (isU (mixU zs u a b : Nat)) w) := by
  obtain rfl := hr.len
  obtain ⟨X0, X1, kb, ks⟩ := two_boxes w (.slice A zs.length c) (.int .i64 (u : Int)) (.slice none 0 0) (.int .i64 0) 28 28
  have HR := hide hr
  have hzz := within_toNat hz
  have hm := mixL_pos hzz ha hb
  have HRd := hide (fun W B' A' c' (h : Ints W B' A' zs.length (mixL zs a b)) (hB' : B' ≤ W.heap.size) => cuLow_any A' zs.length c' B' (mixL zs a b) (2 * u) (j + 1) W h hB' h0 hn (by rw [huj, Nat.pow_succ, Nat.mul_comm]) (by omega)
    (within_of (fun k hk => by have := hm _ (List.getElem_mem hk); omega)))
  rw [show redZ (2 * u) (mixL zs a b) = mixZ zs u a b from rfl, show redU (2 * u) (mixL zs a b) = mixU zs u a b from rfl, show ((2 * u : Nat) : Int) = 2 * (u : Int) from by omega] at HRd
  have HLZ := hide (show (mixZ zs u a b).length = zs.length from by unfold mixZ redZ; rw [List.length_map, mixL_length])
  have HTK := hide (fun k hk => mixL_take zs a b k hk ha hb)
  have HTA := hide (show (mixL zs a b).take zs.length = mixL zs a b from List.take_of_length_le (by rw [mixL_length]; exact Nat.le_refl _))
  have HML := hide (mixL_length zs a b)
  have HU := hide (fun W => cuUnit_any ((mixU zs u a b : Nat) : Int) W)
  have hwu : wrap64 (2 * (u : Int)) = 2 * (u : Int) := by unfold wrap64; omega
  have hwi : IntKind.i64.wrap (2 * (u : Int)) = 2 * (u : Int) := by rw [IntKind.wrap_i64]; omega
  have ea := (HR.out.below kb hB).at_ ha
  obtain ⟨ad, rfl, had, hca⟩ := ea
  obtain ⟨ad', had', _, hcb⟩ := (HR.out.below kb hB).at_ hb
  obtain rfl : ad' = ad := by injection had' with h; exact h.symm
  have za := hzz (zs.getD a 0) (by rw [show zs.getD a 0 = zs[a] from by simp [List.getD, List.getElem?_eq_getElem ha]]; exact List.getElem_mem ha)
  have zb := hzz (zs.getD b 0) (by rw [show zs.getD b 0 = zs[b] from by simp [List.getD, List.getElem?_eq_getElem hb]]; exact List.getElem_mem hb)
  have HZZ := hide hzz
  have HX0 := hide X0
  have HX1 := hide X1
  have HKB := hide kb
  have HKS := hide ks
  have k0 := X0.c0
  have k1 := X0.c1
  clear X0 X1 kb ks hr hz hm hzz had' huj
  generalize mixZ zs u a b = fs at *
  generalize mixU zs u a b = fu at *
  generalize mixL zs a b = ml at *
  generalize zs.getD a 0 = x at *
  generalize zs.getD b 0 = y at *
  have hwi2 : IntKind.i64.wrap (x + y) = x + y := by rw [IntKind.wrap_i64]; omega
  have hai : (a : Int) < (zs.length : Int) := by omega
  have hbi : (b : Int) < (zs.length : Int) := by omega
  go_enter Tryd.func32, Tryd.ntmps32
  go_wp2_with fail
  generalize ((w.alloc (.cells #[.slice (some ad') zs.length c, .int .i64 (u : Int)] 28)).alloc (.cells #[.slice none 0 0, .int .i64 0] 28)) = W0 at *
  go_quiet (fail)
  try rw [hwi2]
  have X0 := HX0.out.drewN nq
  have HP := hide (X0.alloc (.cells #[.slice none 0 0, .int .i64 (2 * (u : Int))] 28))
  have HX := hide (Bx.new (W0.drewN nq) 28 (.slice none 0 0) (.int .i64 (2 * (u : Int))))
  have HRr := hide ((HX1.out.drewN nq).alloc (.cells #[.slice none 0 0, .int .i64 (2 * (u : Int))] 28))
  have HB1 := hide ((below_drewN HKB.out nq).alloc (show w.heap.size ≤ (W0.drewN nq).heap.size from HKB.out.size) (.cells #[.slice none 0 0, .int .i64 (2 * (u : Int))] 28))
  have l0 := X0.c0
  have l1 := X0.c1
  have m0 := HP.out.c0
  have HSZ : Hid ((W0.drewN nq).heap.size = w.heap.size + 2) := HKS
  clear X0 k0 k1 hca hcb
  generalize W0.drewN nq = W2 at *
  go_wp2_with fail
  generalize (W2.alloc (.cells #[.slice none 0 0, .int .i64 (2 * (u : Int))] 28)) = W3 at *
  generalize W2.heap.size = bx at *
  have hnn : w.heap.size + 2 ≤ bx := by have := HSZ.out; omega
  have HN := hide hnn
  clear l0 l1 m0 HSZ hnn hai hbi hwi hwi2
  generalize hsum : x + y = s at *
  have hs0 : 0 ≤ s ∧ s ≤ 4000000000 := by omega
  go_loopw [30] (fun i wr => ∃ k : Nat, k ≤ zs.length ∧ i = .int .i64 k ∧ ∃ v, Bx wr bx 28 v (.int .i64 (2 * (u : Int))) ∧ Bx wr (w.heap.size + 1) 28 (.slice none 0 0) (.int .i64 0) ∧
      Own wr (bx + 1) 3 v (ml.take k) ∧ Below w.heap.size w wr)
    (fun i _ => zs.length - (intOf i).toNat)
  case atStart => exact ⟨0, Nat.zero_le _, rfl, .slice none 0 0, HX.out, HRr.out, Own.nil _ _ _, HB1.out⟩
  case round =>
    obtain ⟨k, hk, rfl, v, bX, bR, ho, hb⟩ := hrel
    by_cases hlt : k < zs.length
    · obtain ⟨ad2, had2, hab, hcell⟩ := (HR.out.below hb hB).at_ hlt
      obtain rfl : ad' = ad2 := by injection had2
      rw [show zs.getD k 0 = zs[k] from by simp [List.getD, List.getElem?_eq_getElem hlt]] at hcell
      have hzk := HZZ.out zs[k] (List.getElem_mem hlt)
      have hw2 : wrap64 (2 * zs[k]) = 2 * zs[k] := by unfold wrap64; omega
      have c0 := bX.c0
      have hT1 := HTK.out k hlt
      have HBX := hide bX
      have HBR := hide bR
      have HOw := hide ho
      have HBw := hide hb
      have HL := hide (show (ml.take k).length < 1000000 from by rw [List.length_take]; omega)
      clear bX bR ho hb had2
      generalize zs[k] = z at *
      generalize ml.take k = l1 at *
      have hsz : bx + 1 ≤ wr.heap.size := HBX.out.lt
      have hll := HL.out
      have hown := HOw.out
      by_cases hka : k = a
      · have g1 : ((k : Int) == (a : Int)) = true := by simp [hka]
        rw [if_pos (Or.inl hka)] at hT1
        clear hka
        have HT1 := hide hT1
        clear hT1
        go_wp2_with (at_builtin; refine wpList_app_int rfl _ _ 22 3 rfl Tryd.underlying22 infoInt (bx + 1) _ _ rfl hown _ _ rfl hsz hll ?_; intro v' w' hown' hb'; clear hsz hll hown c0; obtain ⟨A3, c3, rfl, _, _⟩ := hown'.shape; have bX' := HBX.out.below hb' (by omega); have p0 := bX'.c0; have p1 := bX'.f 0)
        go_roundw
        case rel =>
          refine ⟨k + 1, by omega, by go_num, .slice A3 (l1.length + 1) c3, bX'.set0 _, ?_, ?_, ?_⟩
          · exact (HBR.out.below hb' (by have := HN.out; omega)).setOther (a := ⟨bx, 0, none⟩) (by have := HN.out; simp; omega) _
          · rw [HT1.out]
            have hown2 : Own w' (bx + 1) 3 (.slice A3 (l1.length + 1) c3) (l1 ++ [s]) := by rw [List.length_append] at hown'; exact hown'
            refine hown2.keep (fun h hh hl => ?_)
            rw [Below.heap_setCell _ _ _ _ (by simp; omega)]
          · exact (HBw.out.trans (hb'.mono (by have := HN.out; omega))).setCell (p := ⟨bx, 0, none⟩) (by have := HN.out; simp; omega) _
        case measure => simp [intOf]; omega
      · have g1 : ((k : Int) == (a : Int)) = false := by apply beq_false_of_ne; omega
        by_cases hkb : k = b
        · have g2 : ((k : Int) == (b : Int)) = true := by simp [hkb]
          rw [if_pos (Or.inr hkb)] at hT1
          clear hka hkb
          have HT1 := hide hT1
          clear hT1
          go_wp2_with (at_builtin; refine wpList_app_int rfl _ _ 22 3 rfl Tryd.underlying22 infoInt (bx + 1) _ _ rfl hown _ _ rfl hsz hll ?_; intro v' w' hown' hb'; clear hsz hll hown c0; obtain ⟨A3, c3, rfl, _, _⟩ := hown'.shape; have bX' := HBX.out.below hb' (by omega); have p0 := bX'.c0; have p1 := bX'.f 0)
          go_roundw
          case rel =>
            refine ⟨k + 1, by omega, by go_num, .slice A3 (l1.length + 1) c3, bX'.set0 _, ?_, ?_, ?_⟩
            · exact (HBR.out.below hb' (by have := HN.out; omega)).setOther (a := ⟨bx, 0, none⟩) (by have := HN.out; simp; omega) _
            · rw [HT1.out]
              have hown2 : Own w' (bx + 1) 3 (.slice A3 (l1.length + 1) c3) (l1 ++ [s]) := by rw [List.length_append] at hown'; exact hown'
              refine hown2.keep (fun h hh hl => ?_)
              rw [Below.heap_setCell _ _ _ _ (by simp; omega)]
            · exact (HBw.out.trans (hb'.mono (by have := HN.out; omega))).setCell (p := ⟨bx, 0, none⟩) (by have := HN.out; simp; omega) _
          case measure => simp [intOf]; omega
        · have g2 : ((k : Int) == (b : Int)) = false := by apply beq_false_of_ne; omega
          rw [if_neg (by omega)] at hT1
          clear hka hkb
          have HT1 := hide hT1
          clear hT1
          go_wp2_with (at_builtin; refine wpList_app_int rfl _ _ 22 3 rfl Tryd.underlying22 infoInt (bx + 1) _ _ rfl hown _ _ rfl hsz hll ?_; intro v' w' hown' hb'; clear hsz hll hown c0; obtain ⟨A3, c3, rfl, _, _⟩ := hown'.shape; have bX' := HBX.out.below hb' (by omega); have p0 := bX'.c0; have p1 := bX'.f 0)
          go_roundw
          case rel =>
            refine ⟨k + 1, by omega, by go_num, .slice A3 (l1.length + 1) c3, bX'.set0 _, ?_, ?_, ?_⟩
            · exact (HBR.out.below hb' (by have := HN.out; omega)).setOther (a := ⟨bx, 0, none⟩) (by have := HN.out; simp; omega) _
            · rw [HT1.out]
              have hown2 : Own w' (bx + 1) 3 (.slice A3 (l1.length + 1) c3) (l1 ++ [2 * z]) := by rw [List.length_append] at hown'; exact hown'
              refine hown2.keep (fun h hh hl => ?_)
              rw [Below.heap_setCell _ _ _ _ (by simp; omega)]
            · exact (HBw.out.trans (hb'.mono (by have := HN.out; omega))).setCell (p := ⟨bx, 0, none⟩) (by have := HN.out; simp; omega) _
          case measure => simp [intOf]; omega
    · obtain rfl : k = zs.length := by omega
      rw [HTA.out] at ho
      obtain ⟨A2, c2, rfl, hc1, hc2⟩ := ho.shape
      rw [HML.out] at bX hc1
      have c0 := bX.c0
      have c1 := bX.c1
      have HBX := hide bX
      have HBR := hide bR
      have HBw := hide hb
      have HI := hide (show Ints wr wr.heap.size A2 zs.length ml from by have := ho.ints; rw [HML.out] at this; exact this)
      clear bX bR hb ho hc1 hc2
      go_wp2_with fail
      refine (HRd.out _ _ _ _ HI.out (Nat.le_refl _)).mono ?_
      rintro e w4 ⟨Ar, cr, rfl, hr1, hr2, hro, hb4⟩
      obtain ⟨gr, rfl, hgr, hgr2⟩ := hro.head (by rw [HLZ.out]; exact h0)
      have sB := HBX.out.lt
      have bX := HBX.out.next hb4
      have p0 := bX.c0
      have p1 := bX.c1
      have p2 := bX.f 0
      have p3 := bX.f 1
      have R1 := bX.set0 (.slice (some ⟨gr, 0, none⟩) fs.length cr)
      have R2 := R1.set1 (.int .i64 (fu : Int))
      have r1 := R1.c1
      have r2 := R1.f 1
      have HBX2 := hide R2
      have HBR2 := hide (((HBR.out.next hb4).setOther (a := ⟨bx, 0, none⟩) (by have := HN.out; simp; omega) (.slice (some ⟨gr, 0, none⟩) fs.length cr)).setOther (a := ⟨bx, 1, none⟩) (by have := HN.out; simp; omega) (.int .i64 (fu : Int)))
      have HO2 := hide (Own.two (hro.less (base' := w.heap.size) (by have := HN.out; omega)) (b := bx) (by omega) (.slice (some ⟨gr, 0, none⟩) fs.length cr) (.int .i64 (fu : Int)))
      have HB2 := hide (((HBw.out.trans (hb4.mono HBw.out.size)).setCell (p := ⟨bx, 0, none⟩) (by have := HN.out; simp; omega) (.slice (some ⟨gr, 0, none⟩) fs.length cr)).setCell (p := ⟨bx, 1, none⟩) (by have := HN.out; simp; omega) (.int .i64 (fu : Int)))
      have FN := hide (show w.heap.size + 2 ≤ gr from by have := HN.out; omega)
      clear R1 R2 bX hb4 hro hgr hgr2 c0 c1 sB
      go_wp2_with fail
      generalize ((w4.setCell ⟨bx, 0, none⟩ (.slice (some ⟨gr, 0, none⟩) fs.length cr)).setCell ⟨bx, 1, none⟩ (.int .i64 (fu : Int))) = W5 at *
      have y0 := HBX2.out.c0
      have y1 := HBX2.out.c1
      have bR := HBR2.out
      have e0 := bR.c0
      have e1 := bR.c1
      have f0 := bR.f 0
      have f1 := bR.f 1
      have R1 := bR.set0 (.slice (some ⟨gr, 0, none⟩) fs.length cr)
      have R2 := R1.set1 (.int .i64 (fu : Int))
      have e2 := R1.c1
      have f2 := R1.f 1
      have i0 := R2.c0
      have i1 := R2.c1
      have z0 := ((HBX2.out.setOther (a := ⟨w.heap.size + 1, 0, none⟩) (by have := HN.out; simp; omega) (.slice (some ⟨gr, 0, none⟩) fs.length cr)).setOther (a := ⟨w.heap.size + 1, 1, none⟩) (by have := HN.out; simp; omega) (.int .i64 (fu : Int)))
      have z1 := z0.c0
      have z2 := z0.c1
      have HOw := hide (Own.two HO2.out (b := w.heap.size + 1) (by have := FN.out; omega) (.slice (some ⟨gr, 0, none⟩) fs.length cr) (.int .i64 (fu : Int)))
      have HBn := hide ((HB2.out.setCell (p := ⟨w.heap.size + 1, 0, none⟩) (by simp) (.slice (some ⟨gr, 0, none⟩) fs.length cr)).setCell (p := ⟨w.heap.size + 1, 1, none⟩) (by simp) (.int .i64 (fu : Int)))
      clear R1 R2 bR z0
      try go_wp2_with fail
      go_region_held3 (fun W => W.cell? ⟨bx, 0, none⟩ = some (.slice (some ⟨gr, 0, none⟩) fs.length cr) ∧ W.cell? ⟨bx, 1, none⟩ = some (.int .i64 (fu : Int)))
        (first | exact ⟨y0, y1⟩ | exact ⟨z1, z2⟩ | go_keep)
        (first | (go_at_call 28; (with_reducible refine (HU.out _).mono ?_); rintro e w' ⟨rfl, rfl⟩))
      all_goals
        clear y0 y1 z1 z2 e0 e1 f0 f1 e2 f2
        go_wp2_with fail
        refine bodyPost_ret (v := .tuple #[.agg #[.slice (some ⟨gr, 0, none⟩) fs.length cr, .int .i64 (fu : Int)], .bool (isU (fu : Int))]) (by simp [results, Tryd.results32, go_sem, i0, i1]) rfl ⟨some ⟨gr, 0, none⟩, cr, rfl, hr1, hr2, ?_, ?_⟩
        · exact HOw.out
        · first | exact HBn.out | exact HBn.out.drew
end Go.Proofs.YtjfkadmmmhefbaaDoor
