
/-
  CUPS, THE MODEL's WAY: cuLow.
-/
import Derived.Test.YtjfkadmmmhefbaaDoorCuR
import Derived.Test.YtjfkadmmmhefbaaDoorCuS
import Derived.Deep.RegionWith
import Derived.Deep.RegionHeld3
namespace Go.Proofs.YtjfkadmmmhefbaaDoor
open Go.RowKit Go.Deep
set_option linter.unusedVariables false

/-- The number that a cell holds. -/
def cellN (w : World) (b j : Nat) : Nat := match w.cell? ⟨b, j, none⟩ with | some v => (intOf v).toNat | none => 0
theorem cellN_eq {w : World} {b j : Nat} {z : Nat} (h : w.cell? ⟨b, j, none⟩ = some (.int .i64 (z : Int))) : cellN w b j = z := by unfold cellN; rw [h]; simp [intOf]

set_option maxHeartbeats 1000000 in
set_option maxRecDepth 100000 in
theorem cuLow_any (A : Option Addr) (n c B : Nat) (zs : List Int) (u j : Nat) (w : World) (hr : Ints w B A n zs) (hB : B ≤ w.heap.size) (h0 : 0 < n) (hn : n ≤ 100) (huj : u = 2 ^ j) (hu2 : u < 1099511627776) (hz : within 0 1099511627775 zs = true) :
    Calls Tryd.prog 30 #[.agg #[.slice A n c, .int .i64 (u : Int)]] w (MadeCu (redZ u zs) (redU u zs : Nat) w) := by
  obtain rfl := hr.len
  have hu : 1 ≤ u := by rw [huj]; exact Nat.one_le_two_pow
  have hzz := hide (within_toNat hz)
  have hlt0 : orAll u zs < 2 ^ 40 := orAll_lt 40 _ (fun z hz' => by have := hzz.out z hz'; omega) _ (by simpa using hu2)
  have HST := hide (twos_step j huj (fun z hz' => (hzz.out z hz').1) (Nat.lt_trans hlt0 (by decide)))
  obtain ⟨X0, X1, kb, ks⟩ := two_boxes w (.slice A zs.length c) (.int .i64 (u : Int)) (.slice none 0 0) (.int .i64 0) 28 28
  have HC := hide (fun W (h : Below w.heap.size w W) => l1Own_any A zs.length c B zs W (hr.below h hB) (Nat.le_trans hB h.size) h0 (by omega))
  have HR := hide hr
  have HZ := hide (show redZ u zs = halfZ (twos u zs) zs from rfl)
  have HU := hide (show redU u zs = u / 2 ^ twos u zs from rfl)
  have HL := hide (show (redZ u zs).length = zs.length from by unfold redZ; simp)
  clear hz hr hlt0 huj
  generalize twos u zs = t at *
  generalize redZ u zs = fs at *
  generalize redU u zs = fu at *
  go_enter Tryd.func30, Tryd.ntmps30
  go_wp2_with fail
  have HK : Hid (∀ W', Below ((w.alloc (.cells #[.slice A zs.length c, .int .i64 (u : Int)] 28)).alloc (.cells #[.slice none 0 0, .int .i64 0] 28)).heap.size ((w.alloc (.cells #[.slice A zs.length c, .int .i64 (u : Int)] 28)).alloc (.cells #[.slice none 0 0, .int .i64 0] 28)) W' →
      (W'.cell? ⟨w.heap.size, 0, none⟩ = some (.slice A zs.length c) ∧ W'.cell? ⟨w.heap.size, 1, none⟩ = some (.int .i64 (u : Int)))) := hide fun W' h => ⟨(X0.next h).c0, (X0.next h).c1⟩
  have k0 := X0.c0
  have k1 := X0.c1
  have HC0 := hide (HC.out _ kb.drew)
  generalize ((w.alloc (.cells #[.slice A zs.length c, .int .i64 (u : Int)] 28)).alloc (.cells #[.slice none 0 0, .int .i64 0] 28)) = W0 at *
  have HKS := hide ks
  clear ks
  have HS := hide (fun W' (h : Below W0.heap.size W0 W') => And.intro h (HK.out W' h))
  have HCW := hide (fun W (h : Below W0.heap.size W0 W) => HC.out W (kb.trans (h.mono kb.size)))
  go_region_held3 (fun W => Below W0.heap.size W0 W ∧ W.cell? ⟨w.heap.size, 0, none⟩ = some (.slice A zs.length c) ∧ W.cell? ⟨w.heap.size, 1, none⟩ = some (.int .i64 (u : Int)))
      (first | exact HS.out _ (Below.refl _ _).drew | exact HS.out _ (below_next (And.left (by assumption)) hb2) | exact HS.out _ (Below.alloc (And.left (by assumption)) (Below.size (And.left (by assumption))) _) | exact HS.out _ (Below.setCell (And.left (by assumption)) (Below.size (And.left (by assumption))) _) | exact HS.out _ (Below.alloc (below_next (w1 := W0.drew) (Below.refl _ _).drew hb2) (by have := hb2.size; exact this) _) | exact HS.out _ (Below.setCell (Below.setCell (below_next (w1 := (W0.alloc _).drew) ((Below.refl _ _).alloc (Nat.le_refl _) _).drew hb2) (Nat.le_refl _) _) (Nat.le_refl _) _) | go_keep)
      (first | (go_at_call 39; (with_reducible refine (HCW.out _ (And.left (by assumption))).mono ?_); rintro e w2 ⟨g, c1, rfl, hg1, hg2, hc1, hc2, hown, hb2⟩; first
        | (have qq : Bx w2 W0.heap.size 28 (.slice none 0 0) (.int .i64 0) := (Bx.new W0.drew 28 (.slice none 0 0) (.int .i64 0)).next hb2; have qr := qq.set0 (.slice (some ⟨g, 0, none⟩) zs.length c1); have q1 := qq.c0; have q2 := qq.f 0; have q5 := qq.c1; have q6 := qq.f 1; have q3 := qr.c1; have q4 := qr.f 1; clear qq qr)
        | skip))
  all_goals
    first
    | (have FX := Bx.new w2 28 (.slice (some ⟨g, 0, none⟩) zs.length c1) (.int .i64 (u : Int))
       have FW : Below W0.heap.size W0 w2 := below_next (w1 := W0.drew) (Below.refl _ _).drew hb2
       have FR := (X1.next FW).alloc (.cells #[.slice (some ⟨g, 0, none⟩) zs.length c1, .int .i64 (u : Int)] 28)
       have FO := (hown.alloc (.cells #[.slice (some ⟨g, 0, none⟩) zs.length c1, .int .i64 (u : Int)] 28)).less (base' := w.heap.size) (by show w.heap.size ≤ W0.heap.size; have := HKS.out; omega)
       have FB := (kb.trans (FW.mono kb.size)).alloc (show w.heap.size ≤ w2.heap.size from by have := HKS.out; have := FW.size; omega) (.cells #[.slice (some ⟨g, 0, none⟩) zs.length c1, .int .i64 (u : Int)] 28)
       have FN : w.heap.size + 2 ≤ w2.heap.size ∧ g ≠ w2.heap.size ∧ w.heap.size + 2 ≤ g := ⟨by have := HKS.out; have := FW.size; omega, by omega, by have := HKS.out; have : W0.heap.size ≤ g := hg1; omega⟩
       generalize (w2.alloc (.cells #[.slice (some ⟨g, 0, none⟩) zs.length c1, .int .i64 (u : Int)] 28)) = W3 at *
       clear hb2 hg1 hg2 FW hown
       generalize w2.heap.size = bx at *)
    | (have FQ : Bx w2 W0.heap.size 28 (.slice none 0 0) (.int .i64 0) := (Bx.new W0.drew 28 (.slice none 0 0) (.int .i64 0)).next hb2
       have FX := (FQ.set0 (.slice (some ⟨g, 0, none⟩) zs.length c1)).set1 (.int .i64 (u : Int))
       have FW : Below W0.heap.size W0 w2 := below_next (w1 := (W0.alloc _).drew) ((Below.refl _ _).alloc (Nat.le_refl _) _).drew hb2
       have sz : W0.heap.size + 1 ≤ g := by have : (W0.alloc (.cells #[.slice none 0 0, .int .i64 0] 28)).heap.size ≤ g := hg1; simpa using this
       have FR := ((X1.next FW).setOther (a := ⟨W0.heap.size, 0, none⟩) (by have := HKS.out; simp; omega) (.slice (some ⟨g, 0, none⟩) zs.length c1)).setOther (a := ⟨W0.heap.size, 1, none⟩) (by have := HKS.out; simp; omega) (.int .i64 (u : Int))
       have FO : Own ((w2.setCell ⟨W0.heap.size, 0, none⟩ (.slice (some ⟨g, 0, none⟩) zs.length c1)).setCell ⟨W0.heap.size, 1, none⟩ (.int .i64 (u : Int))) w.heap.size 3 (.slice (some ⟨g, 0, none⟩) zs.length c1) zs := by
         refine (hown.keep (w' := (w2.setCell ⟨W0.heap.size, 0, none⟩ (.slice (some ⟨g, 0, none⟩) zs.length c1)).setCell ⟨W0.heap.size, 1, none⟩ (.int .i64 (u : Int))) (fun h hh hl => ?_)).less ?_
         · have hh' : W0.heap.size + 1 ≤ h := by have : (W0.alloc (.cells #[.slice none 0 0, .int .i64 0] 28)).heap.size ≤ h := hh; simpa using this
           rw [Below.heap_setCell _ _ _ _ (by simp; omega), Below.heap_setCell _ _ _ _ (by simp; omega)]
         · show w.heap.size ≤ (W0.alloc _).heap.size
           have := HKS.out; simp; omega
       have FB : Below w.heap.size w ((w2.setCell ⟨W0.heap.size, 0, none⟩ (.slice (some ⟨g, 0, none⟩) zs.length c1)).setCell ⟨W0.heap.size, 1, none⟩ (.int .i64 (u : Int))) :=
         ((kb.trans (FW.mono kb.size)).setCell (p := ⟨W0.heap.size, 0, none⟩) (by have := HKS.out; simp; omega) _).setCell (p := ⟨W0.heap.size, 1, none⟩) (by have := HKS.out; simp; omega) _
       have FN : w.heap.size + 2 ≤ W0.heap.size ∧ g ≠ W0.heap.size ∧ w.heap.size + 2 ≤ g := ⟨by have := HKS.out; omega, by omega, by have := HKS.out; omega⟩
       generalize ((w2.setCell ⟨W0.heap.size, 0, none⟩ (.slice (some ⟨g, 0, none⟩) zs.length c1)).setCell ⟨W0.heap.size, 1, none⟩ (.int .i64 (u : Int))) = W3 at *
       clear hb2 hg1 hg2 FW hown FQ sz
       generalize W0.heap.size = bx at *)
    have FX0 := hide FX
    have FR0 := hide FR
    have FO0 := hide FO
    have FB0 := hide FB
    have FNh := hide FN
    clear FX FR FO FB FN HS HCW HC0 HC HK k0 k1 X0 X1 kb HKS HR
    try clear q1 q2 q3 q4 q5 q6
    generalize hbw : w.heap.size = bw at *
    go_wp2_with fail
    go_loopw [5] (fun _ wr => ∃ k : Nat, k ≤ t ∧ Bx wr bx 28 (.slice (some ⟨g, 0, none⟩) zs.length c1) (.int .i64 ((u / 2 ^ k : Nat) : Int)) ∧ Bx wr (bw + 1) 28 (.slice none 0 0) (.int .i64 0) ∧
        Own wr bw 3 (.slice (some ⟨g, 0, none⟩) zs.length c1) (halfZ k zs) ∧ Below bw w wr)
      (fun _ wr => cellN wr bx 1)
    case atStart => exact ⟨0, Nat.zero_le _, by simpa using FX0.out, FR0.out, by rw [halfZ_zero]; exact FO0.out, FB0.out⟩
    case round =>
      obtain ⟨k, hk, bX, bR, ho, hb⟩ := hrel
      have HZ0 := hide (hzz.out)
      have hzl := hide (halfZ_length k zs)
      have hhalf : ∀ y ∈ halfZ k zs, 0 ≤ y ∧ y ≤ 1099511627775 := by
        intro y hy
        unfold halfZ at hy
        obtain ⟨z, hz', rfl⟩ := List.mem_map.1 hy
        have h1 := hzz.out z hz'
        rw [nat_div_int z h1.1]
        have h2 := Nat.div_le_self z.toNat (2 ^ k)
        generalize z.toNat / 2 ^ k = qq at *
        omega
      have HHF := hide hhalf
      obtain ⟨v, hv⟩ : ∃ v, u / 2 ^ k = v := ⟨_, rfl⟩
      have HV := hide hv
      have hvb : v ≤ u := by rw [← hv]; exact Nat.div_le_self _ _
      have HN := hide (show u / 2 ^ (k + 1) = v / 2 from by rw [Nat.pow_succ, ← Nat.div_div_eq_div_mul, hv])
      have HSK := hide (HST.out k hk)
      rw [hv] at bX HSK
      clear hv hhalf
      have x0 := bX.c0
      have x1 := bX.c1
      by_cases h1 : 1 < v
      · have h1' : (1 : Int) < (v : Int) := by omega
        go_wp2_with fail
        go_loopw [19] (fun i wq => ∃ q : Nat, q ≤ zs.length ∧ i = .int .i64 q ∧ anyOdd ((halfZ k zs).take q) = false ∧ wq = wr)
          (fun i _ => zs.length - (intOf i).toNat)
        case atStart => exact ⟨0, Nat.zero_le _, rfl, rfl, rfl⟩
        case round =>
          obtain ⟨q, hq, rfl, hod, rfl⟩ := hrel
          by_cases hlt : q < zs.length
          · have hlt2 : q < (halfZ k zs).length := by rw [hzl.out]; exact hlt
            obtain ⟨ad, had, hab, hcell⟩ := (ho.ints).at_ hlt2
            rw [show (halfZ k zs).getD q 0 = (halfZ k zs)[q] from by simp [List.getD, List.getElem?_eq_getElem hlt2]] at hcell
            obtain rfl : (⟨g, 0, none⟩ : Addr) = ad := by injection had
            have hzk := HHF.out _ (List.getElem_mem hlt2)
            have HTk := hide (anyOdd_take (halfZ k zs) q hlt2)
            have HIn := hide (List.getElem_mem hlt2)
            obtain ⟨y, hy⟩ := Int.eq_ofNat_of_zero_le hzk.1
            rw [hy] at hcell HTk hzk HIn
            have hadd : (⟨g, 0, none⟩ : Addr).add q = ⟨g, q, none⟩ := by rw [add_head]
            rw [hadd] at hcell
            clear had hab hadd hy hlt2
            by_cases hp : y % 2 = 1
            · have hq1 : ((y : Int) % 2 == 1) = true := by simp; omega
              have hkt : k = t := by
                apply Nat.le_antisymm hk
                apply Nat.le_of_not_lt
                intro hlt3
                have := anyOdd_no (HSK.out.1 hlt3).2 _ HIn.out
                omega
              have e0 := bR.c0
              have e1 := bR.c1
              have f0 := bR.f 0
              have f1 := bR.f 1
              have R1 := bR.set0 (.slice (some ⟨g, 0, none⟩) zs.length c1)
              have R2 := R1.set1 (.int .i64 (v : Int))
              have e2 := R1.c1
              have f2 := R1.f 1
              have e3 := R1.c0
              have i0 := R2.c0
              have i1 := R2.c1
              have HO := hide (Own.two ho (b := bw + 1) (by have := FNh.out; omega) (.slice (some ⟨g, 0, none⟩) zs.length c1) (.int .i64 (v : Int)))
              have HB := hide ((hb.setCell (p := ⟨bw + 1, 0, none⟩) (by simp) (.slice (some ⟨g, 0, none⟩) zs.length c1)).setCell (p := ⟨bw + 1, 1, none⟩) (by simp) (.int .i64 (v : Int)))
              have HF := hide (show fs = halfZ k zs ∧ fu = v from by rw [HZ.out, HU.out, ← HV.out, hkt]; exact ⟨rfl, rfl⟩)
              clear R1 R2 bR ho hb
              go_wp2_with fail
              refine bodyPost_ret (v := .agg #[.slice (some ⟨g, 0, none⟩) zs.length c1, .int .i64 (v : Int)]) (by simp [results, Tryd.results30, go_sem, i0, i1]) rfl ⟨some ⟨g, 0, none⟩, c1, ?_, by rw [HL.out]; exact hc1, hc2, ?_, by have := HB.out; rw [← hbw] at this; rw [← hbw]; exact this⟩
              · rw [HL.out, HF.out.2]
              · rw [HL.out, HF.out.1, hbw]; exact HO.out
            · have hq1 : ((y : Int) % 2 == 1) = false := by simp; omega
              rw [hod, hq1] at HTk
              go_wp2_with fail
              go_roundw
              case rel => exact ⟨q + 1, by omega, by go_num, HTk.out, by first | rfl | trivial⟩
              case measure => simp [intOf]; omega
          · obtain rfl : q = zs.length := by omega
            rw [List.take_of_length_le (by rw [hzl.out]; exact Nat.le_refl _)] at hod
            have hkt : k < t := HSK.out.2 ⟨h1, hod⟩
            have HBX := hide bX
            have HBR := hide bR
            have HO0 := hide ho
            have HB0 := hide hb
            have HM2 := hide (cellN_eq x1)
            clear bR ho hb bX
            go_wp2_with fail
            go_loopw [31] (fun i wq => ∃ q : Nat, q ≤ zs.length ∧ i = .int .i64 q ∧ Own wq bw 3 (.slice (some ⟨g, 0, none⟩) zs.length c1) (mapTo (· / 2) q (halfZ k zs)) ∧
                Bx wq bx 28 (.slice (some ⟨g, 0, none⟩) zs.length c1) (.int .i64 (v : Int)) ∧ Bx wq (bw + 1) 28 (.slice none 0 0) (.int .i64 0) ∧ Below bw w wq)
              (fun i _ => zs.length - (intOf i).toNat)
            case atStart => exact ⟨0, Nat.zero_le _, rfl, by rw [mapTo_zero]; exact HO0.out, HBX.out, HBR.out, HB0.out⟩
            case round =>
              clear x0 x1
              obtain ⟨q, hq, rfl, ho, bX, bR, hb⟩ := hrel
              have x0 := bX.c0
              have x1 := bX.c1
              by_cases hlt : q < zs.length
              · have hlt2 : q < (halfZ k zs).length := by rw [hzl.out]; exact hlt
                have ho' := ho
                unfold Own at ho'
                rw [mapTo_length, hzl.out] at ho'
                have hold := World.ownsRow.cellAt ho' q (by omega)
                rw [List.getElem?_map, mapTo_getE _ q _ hlt2, Option.map_some] at hold
                have hfz := World.ownsRow.frozenAt ho' q
                have hzk := HHF.out _ (List.getElem_mem hlt2)
                have HSt := hide (Own.stored ho (by rw [mapTo_length, hzl.out]) q ((halfZ k zs)[q] / 2))
                rw [mapTo_set (· / 2) q _ hlt2] at HSt
                have HBn := hide (hb.setCell (p := ⟨g, q, none⟩) (by have := FNh.out; simp; omega) (.int .i64 ((halfZ k zs)[q] / 2)))
                have HX := hide (bX.setOther (a := ⟨g, q, none⟩) (by have := FNh.out; simp; omega) (.int .i64 ((halfZ k zs)[q] / 2)))
                have HR := hide (bR.setOther (a := ⟨g, q, none⟩) (by have := FNh.out; simp; omega) (.int .i64 ((halfZ k zs)[q] / 2)))
                obtain ⟨y, hy⟩ := Int.eq_ofNat_of_zero_le hzk.1
                rw [hy] at HSt HBn HX HR hold hzk
                clear ho' ho hb bX bR hy hlt2
                go_wp2_with fail
                go_roundw
                case rel => exact ⟨q + 1, by omega, by go_num, HSt.out, HX.out, HR.out, HBn.out⟩
                case measure => simp [intOf]; omega
              · obtain rfl : q = zs.length := by omega
                rw [show mapTo (· / 2) zs.length (halfZ k zs) = halfZ (k + 1) zs from by rw [← hzl.out, mapTo_all, halfZ_succ]] at ho
                have f1 := bX.f 1
                have hvc : ((v : Int) / 2) = ((v / 2 : Nat) : Int) := by omega
                have HX := hide (bX.set1 (.int .i64 ((v : Int) / 2)))
                have HR := hide (bR.setOther (a := ⟨bx, 1, none⟩) (by have := FNh.out; simp; omega) (.int .i64 ((v : Int) / 2)))
                have HO := hide (ownsRow_setCell_other (show wr.ownsRow _ _ _ _ _ _ from ho) (a := ⟨bx, 1, none⟩) (by have := FNh.out; simp [Value.ownBlock]; omega) (.int .i64 ((v : Int) / 2)))
                have HB := hide (hb.setCell (p := ⟨bx, 1, none⟩) (by have := FNh.out; simp; omega) (.int .i64 ((v : Int) / 2)))
                have HVC := hide hvc
                clear hvc ho bX bR hb
                go_wp2_with fail
                refine ⟨⟨k + 1, by omega, by rw [HN.out, ← HVC.out]; exact HX.out, HR.out, HO.out, HB.out⟩, ?_⟩
                have h5 := HX.out
                rw [HVC.out] at h5
                rw [HM2.out, HVC.out, cellN_eq h5.c1]
                omega
      · have h1' : ¬ ((1 : Int) < (v : Int)) := by omega
        have hkt : k = t := by
          apply Nat.le_antisymm hk
          apply Nat.le_of_not_lt
          intro hlt3
          exact h1 (HSK.out.1 hlt3).1
        have e0 := bR.c0
        have e1 := bR.c1
        have f0 := bR.f 0
        have f1 := bR.f 1
        have R1 := bR.set0 (.slice (some ⟨g, 0, none⟩) zs.length c1)
        have R2 := R1.set1 (.int .i64 (v : Int))
        have e2 := R1.c1
        have f2 := R1.f 1
        have e3 := R1.c0
        have i0 := R2.c0
        have i1 := R2.c1
        have HO := hide (Own.two ho (b := bw + 1) (by have := FNh.out; omega) (.slice (some ⟨g, 0, none⟩) zs.length c1) (.int .i64 (v : Int)))
        have HB := hide ((hb.setCell (p := ⟨bw + 1, 0, none⟩) (by simp) (.slice (some ⟨g, 0, none⟩) zs.length c1)).setCell (p := ⟨bw + 1, 1, none⟩) (by simp) (.int .i64 (v : Int)))
        have HF := hide (show fs = halfZ k zs ∧ fu = v from by rw [HZ.out, HU.out, ← HV.out, hkt]; exact ⟨rfl, rfl⟩)
        clear R1 R2 bR ho hb
        go_wp2_with fail
        refine bodyPost_ret (v := .agg #[.slice (some ⟨g, 0, none⟩) zs.length c1, .int .i64 (v : Int)]) (by simp [results, Tryd.results30, go_sem, i0, i1]) rfl ⟨some ⟨g, 0, none⟩, c1, ?_, by rw [HL.out]; exact hc1, hc2, ?_, by have := HB.out; rw [← hbw] at this; rw [← hbw]; exact this⟩
        · rw [HL.out, HF.out.2]
        · rw [HL.out, HF.out.1, hbw]; exact HO.out
end Go.Proofs.YtjfkadmmmhefbaaDoor
