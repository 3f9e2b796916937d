
/-
  CUPS, THE PROGRAM's WAY: timesTwo, reduced. Clone of any list.
-/
import Derived.Test.YtjfkadmmmhefbaaDoorCuL
import Derived.Test.YtjfkadmmmhefbaaDoorCu
import Derived.Test.YtjfkadmmmhefbaaDoorCopy
import Derived.Test.YtjfkadmmmhefbaaDoorMapP
import Derived.Test.YtjfkadmmmhefbaaDoorCuQP
namespace Go.Proofs.YtjfkadmmmhefbaaDoor
open Go.RowKit Go.Deep
set_option linter.unusedVariables false

theorem timesTwo_any (A : Option Addr) (n c B : Nat) (zs : List Int) (w : World) (hr : Ints w B A n zs) (hB : B ≤ w.heap.size) (h0 : 0 < n) (hn : n < 1000000) (hz : within 0 2000000000 zs = true) :
    Calls Tryd.prog 36 #[.slice A n c] w (Made1 (zs.map (2 * ·)) w) := by
  obtain rfl := hr.len
  have HC := hide (Clone_any A zs.length c B zs w hr hB h0 hn)
  have HR := hide hr
  have hzz := hide (within_toNat hz)
  clear hz hr
  go_enter Tryd.func36, Tryd.ntmps36
  go_wp2_with fail
  refine HC.out.mono ?_
  rintro e w1 ⟨g, c1, rfl, hg1, hg2, hc1, hc2, hown, hb1⟩
  have HO1 := hide hown
  have HB1 := hide hb1
  clear hown hb1
  go_wp2_with fail
  go_loopw [10] (fun i wr => ∃ k : Nat, k ≤ zs.length ∧ i = .int .i64 k ∧ Own wr w.heap.size 3 (.slice (some ⟨g, 0, none⟩) zs.length c1) (mapTo (2 * ·) k zs) ∧ Below w.heap.size w wr ∧ g < wr.heap.size)
    (fun i _ => zs.length - (intOf i).toNat)
  case atStart => exact ⟨0, Nat.zero_le _, rfl, by rw [mapTo_zero]; exact HO1.out, HB1.out, hg2⟩
  case round =>
    obtain ⟨k, hk, rfl, ho, hb, hgs⟩ := hrel
    by_cases hlt : k < zs.length
    · obtain ⟨ad, rfl, hab, hcell⟩ := (HR.out.below hb hB).at_ hlt
      rw [show zs.getD k 0 = zs[k] from by simp [List.getD, List.getElem?_eq_getElem hlt]] at hcell
      have hzk := hzz.out zs[k] (List.getElem_mem hlt)
      have ho' := ho
      unfold Own at ho'
      rw [mapTo_length] at ho'
      have hold := World.ownsRow.cellAt ho' k (by omega)
      rw [List.getElem?_map, mapTo_getE _ k zs hlt, Option.map_some] at hold
      have hfz := World.ownsRow.frozenAt ho' k
      have HSt := hide (Own.stored ho (mapTo_length _ k zs) k (2 * zs[k]))
      rw [mapTo_set _ k zs hlt] at HSt
      have HBn := hide (hb.setCell (p := ⟨g, k, none⟩) hg1 (.int .i64 (2 * zs[k])))
      have hw2 : wrap64 (2 * zs[k]) = 2 * zs[k] := by unfold wrap64; omega
      clear ho' ho hb
      generalize zs[k] = z at *
      go_wp2_with fail
      go_roundw
      case rel => exact ⟨k + 1, by omega, by go_num, HSt.out, HBn.out, by simpa using hgs⟩
      case measure => simp [intOf]; omega
    · obtain rfl : k = zs.length := by omega
      rw [mapTo_all] at ho
      have HO := hide ho
      have HB := hide hb
      have HL := hide (show zs.length = (zs.map (2 * ·)).length from by simp)
      clear ho hb
      go_wp2_with fail
      go_ret
      refine ⟨g, c1, ?_, hg1, hgs, by simpa using hc1, hc2, ?_, HB.out⟩
      · rw [← HL.out]; rfl
      · rw [← HL.out]; exact HO.out

/-- WHAT A CALL THAT MAKES CUPS LEAVES. -/
def MadeCu (fs : List Int) (fu : Int) (w : World) (e : Ending) (w' : World) : Prop :=
  ∃ A c, e = .returned (.agg #[.slice A fs.length c, .int .i64 fu]) ∧ fs.length ≤ c ∧ c ≤ maxLen ∧ Own w' w.heap.size 3 (.slice A fs.length c) fs ∧ Below w.heap.size w w'

theorem shr_eq (z : Int) (t : Nat) (h : 0 ≤ z) : z / 2 ^ t = z / ((2 ^ t : Nat) : Int) := by simp

set_option maxRecDepth 100000 in
theorem reduced_any (A : Option Addr) (n c B : Nat) (zs : List Int) (u : Nat) (w : World) (hr : Ints w B A n zs) (hB : B ≤ w.heap.size) (h0 : 0 < n) (hn : n ≤ 100) (hu : 1 ≤ u) (hu2 : u < 1099511627776) (hz : within 0 1099511627775 zs = true) (hT : Tab w) :
    Calls Tryd.prog 37 #[.agg #[.slice A n c, .int .i64 (u : Int)]] w (MadeCu (redZ u zs) (redU u zs : Nat) w) := by
  obtain rfl := hr.len
  have hmk := run_make_row' (P := Tryd.prog) 22 3 (.int .i64 0) 8 Tryd.underlying22 infoInt rfl .i64 .i64 zs.length (by omega) (by omega)
  have hzz := hide (within_toNat hz)
  have hlt0 : orAll u zs < 2 ^ 40 := orAll_lt 40 _ (fun z hz' => by have := hzz.out z hz'; omega) _ (by simpa using hu2)
  have ht := twos_all u zs hu (Nat.lt_trans hlt0 (by decide))
  obtain ⟨X0, X1, kb, ks⟩ := two_boxes w (.slice A zs.length c) (.int .i64 (u : Int)) (.slice none 0 0) (.int .i64 0) 28 28
  have HC := hide (commonTwos_any A zs.length c B zs u _ (hr.below kb hB) (Nat.le_trans hB kb.size) hn hu hu2 hz (hT.next kb))
  have HR := hide hr
  have HKB := hide kb
  have HZ := hide (show redZ u zs = zs.map fun z => z / ((2 ^ twos u zs : Nat) : Int) from rfl)
  have HU := hide (show redU u zs = u / 2 ^ twos u zs from rfl)
  have HL := hide (show (redZ u zs).length = zs.length from by unfold redZ; simp)
  have htu : twos u zs < 64 := by
    apply Nat.lt_of_not_le
    intro h
    have h1 := Nat.le_of_dvd (by omega) ht.1.1
    have h2 : 2 ^ 64 ≤ 2 ^ twos u zs := Nat.pow_le_pow_right (by decide) h
    omega
  clear hz hr hT ht hlt0
  generalize twos u zs = t at *
  generalize redZ u zs = fs at *
  generalize redU u zs = fu at *
  have HDU := hide (show ((u : Int) / 2 ^ t) = ((u / 2 ^ t : Nat) : Int) from by rw [Int.natCast_ediv]; simp)
  go_enter Tryd.func37, Tryd.ntmps37
  go_wp2_with fail
  refine HC.out.mono ?_; rintro e w2 ⟨rfl, hb2⟩
  have Y0 := X0.next hb2
  have Y1 := X1.next hb2
  have s2 := hb2.size
  rw [ks] at s2
  have HB2 := hide (HKB.out.trans (hb2.mono HKB.out.size))
  have c0 := Y0.c0
  have c1 := Y0.c1
  have hmk2 := hmk w2
  have m0 := (Y0.alloc (.cells (madeCells #[.int .i64 0] zs.length) 3)).c0
  clear hb2 X0 X1 kb ks HC
  go_wp2_with fail
  go_loopw [16] (fun i wr => ∃ k : Nat, k ≤ zs.length ∧ i = .int .i64 k ∧ wr.rowIs w2.heap.size 3 zs.length (fun j => if j < k then .int .i64 (zs.getD j 0 / 2 ^ t) else .int .i64 0) ∧ Below w2.heap.size w2 wr ∧ wr.heap.size = w2.heap.size + 1)
    (fun i _ => zs.length - (intOf i).toNat)
  case atStart => exact ⟨0, Nat.zero_le _, rfl, (World.rowIs_made w2 _ _ _).congr (fun i _ => by simp), (Below.refl _ _).alloc (Nat.le_refl _) _, by simp⟩
  case round =>
    obtain ⟨k, hk, rfl, hrow, hb, hs⟩ := hrel
    by_cases hlt : k < zs.length
    · obtain ⟨ad, rfl, hab, hcell⟩ := ((HR.out.below HB2.out hB).below hb (by omega)).at_ hlt
      have hold := hrow.cell hlt
      have hfz := hrow.frozen k
      have hzk := hzz.out zs[k] (List.getElem_mem hlt)
      have HRow := hide ((hrow.set k (.int .i64 (zs.getD k 0 / 2 ^ t))).congr (g := fun j => if j < k + 1 then .int .i64 (zs.getD j 0 / 2 ^ t) else .int .i64 0) (fun i hi => by
        by_cases e : i = k
        · subst e; simp
        · simp [e, show (i < k + 1) ↔ i < k from by omega]))
      have HB := hide (hb.setCell (p := ⟨w2.heap.size, k, none⟩) (Nat.le_refl _) (.int .i64 (zs.getD k 0 / 2 ^ t)))
      clear hrow hb
      rw [show zs.getD k 0 = zs[k] from by simp [List.getD, List.getElem?_eq_getElem hlt]] at *
      go_wp2_with fail
      go_roundw
      case rel => exact ⟨k + 1, by omega, by go_num, HRow.out, HB.out, by simpa using hs⟩
      case measure => simp [intOf]; omega
    · obtain rfl : k = zs.length := by omega
      have Z0 := (Y0.below hb (by omega))
      have Z1 := (Y1.below hb (by omega))
      have d1 := Z0.c1
      have e0 := Z1.c0
      have f0 := Z1.f 0
      have Z2 := Z1.set0 (.slice (some ⟨w2.heap.size, 0, none⟩) zs.length zs.length)
      have f1 := Z2.f 1
      have g1 := Z2.c1
      have Z3 := Z2.set1 (.int .i64 ((u : Int) / 2 ^ t))
      have i0 := Z3.c0
      have i1 := Z3.c1
      have hrw : Row wr w2.heap.size 3 fs := by
        unfold Row
        rw [HL.out]
        refine hrow.congr (fun i hi => ?_)
        rw [if_pos (by omega), HZ.out]
        congr 1
        simp [List.getD, List.getElem?_eq_getElem (show i < zs.length by omega)]
      have hr2 := (hrw.setOther (a := ⟨w.heap.size + 1, 0, none⟩) (by simp; omega) (.slice (some ⟨w2.heap.size, 0, none⟩) zs.length zs.length)).setOther (a := ⟨w.heap.size + 1, 1, none⟩) (by simp; omega) (.int .i64 ((u : Int) / 2 ^ t))
      have HO := hide (Own.of_row (base := w.heap.size) hr2 (by omega) (by rw [HL.out]; unfold maxLen; omega))
      have HB := hide (((HB2.out.trans (hb.mono (by omega))).setCell (p := ⟨w.heap.size + 1, 0, none⟩) (by simp) (.slice (some ⟨w2.heap.size, 0, none⟩) zs.length zs.length)).setCell (p := ⟨w.heap.size + 1, 1, none⟩) (by simp) (.int .i64 ((u : Int) / 2 ^ t)))
      have HS := hide hs
      clear Z0 Z1 Z2 Z3 hb hrow hrw hr2 Y0 Y1 hmk hmk2 c0 c1 m0 hs
      go_wp2_with fail
      refine bodyPost_ret (v := .agg #[.slice (some ⟨w2.heap.size, 0, none⟩) zs.length zs.length, .int .i64 ((u : Int) / 2 ^ t)]) (by simp [results, Tryd.results37, go_sem, i0, i1]) rfl ⟨some ⟨w2.heap.size, 0, none⟩, zs.length, ?_, by rw [HL.out]; exact Nat.le_refl _, by unfold maxLen; omega, ?_, HB.out⟩
      · rw [HL.out, HU.out, HDU.out]
      · have := HO.out
        rw [HL.out] at this ⊢
        exact this
end Go.Proofs.YtjfkadmmmhefbaaDoor
