
/-
  THE WALK OF FnEverySharing, the given frame left out: for all numbers the law returns true and writes nothing that was there.
-/
import Derived.Test.YtieikogjjhjcdaaEvP
import Derived.Test.YtieikogjjhjcdaaShareG
import Derived.Test.YtieikogjjhjcdaaPlayC
import Derived.Test.YtieikogjjhjcdaaDist
namespace Go.Proofs.Ytieikogjjhjcdaa
open Go.RowKit Go.Deep
set_option linter.unusedVariables false

theorem Ints.cellAt {w : World} {B n k : Nat} {ad : Addr} {zs : List Int} (h : Ints w B (some ad) n zs) (hk : k < n) : w.cell? (ad.add k) = some (.int .i64 (zs.getD k 0)) := by
  have hl := h.len
  obtain ⟨ad', e, _, hc⟩ := h.at_ (k := k) (by omega)
  injection e with e
  subst e
  exact hc
theorem mos_mvs {w : World} {B n : Nat} {A : Option Addr} {ms : List Mo} (h : Mos w B A n ms) : Mvs w B A n (ms.map asMv) := by
  refine ⟨by rw [List.length_map]; exact h.1, fun hn => ?_⟩
  obtain ⟨b, off, e, hb, hc⟩ := h.2 hn
  refine ⟨b, off, e, hb, fun i hi => ?_⟩
  rw [hc i hi]
  have hl := h.1
  have hk : i / 3 < ms.length := by omega
  unfold cellMo numMo cellM
  simp only [List.getD, List.getElem?_map, List.getElem?_eq_getElem hk, Option.map_some, Option.getD_some]
  generalize i % 3 = r
  match r with
  | 0 => rfl
  | 1 => rfl
  | r + 2 => rfl
theorem carried_take (ms : List Mo) (k : Nat) (hk : k < ms.length) : carried (ms.take (k + 1)) = carried (ms.take k) + ms[k].x2 := by
  rw [List.take_succ_eq_append_getElem hk, carried_append]; simp [carried]

set_option maxRecDepth 100000 in
set_option maxHeartbeats 8000000 in
theorem lawEverySharing (A : Option Addr) (n c : Nat) (zs : List Int) (w : World) (hr : Ints w w.heap.size A n zs) :
    Calls Try.prog 3 #[.slice A n c] w fun e w' => e = .returned (.bool true) ∧ Below w.heap.size w w' := by
  obtain rfl := hr.len
  by_cases hbig : 1000 < zs.length
  · go_enter Try.func3, Try.ntmps3
    go_wp2_with fail
    go_ret
    exact ⟨rfl, Below.refl _ _⟩
  · have hcap : zs.length ≤ 17592186044416 := by omega
    have HI := hide (fun W (h : Below w.heap.size w W) => implSharingMoves_any A zs.length c w.heap.size zs W (hr.below h (Nat.le_refl _)) h.size hcap)
    have HS := hide (fun W (h : Below w.heap.size w W) => specSharingMoves_any A zs.length c w.heap.size zs W (hr.below h (Nat.le_refl _)) h.size hcap)
    cases hq : eqOk zs
    · rw [hq] at HI HS
      simp only [Bool.false_eq_true, if_false] at HI HS
      go_enter Try.func3, Try.ntmps3
      go_wp2_with fail
      refine (HI.out _ (Below.refl _ _)).mono ?_; rintro e w1 ⟨A1, c1, rfl, hO1, hb1⟩
      have B1 := hide hb1
      clear hb1 hO1
      go_wp2_with fail
      refine (HS.out _ B1.out).mono ?_; rintro e w2 ⟨A2, c2, rfl, hO2, hb2⟩
      have B2 := hide (below_next B1.out hb2)
      clear hb2 hO2
      go_wp2_with fail
      go_ret
      exact ⟨rfl, B2.out⟩
    · have hg := eqOk_good hq
      obtain ⟨hg1, hg2, _⟩ := good_of hg
      obtain ⟨m1, m2, m3, m4⟩ := moves_play hq
      have HE := hide (fun W (h : Below w.heap.size w W) => EqualShare_any A zs.length c w.heap.size zs W (hr.below h (Nat.le_refl _)) hcap)
      have HSM := hide (fun W (h : Below w.heap.size w W) => StonesToMove_any A zs.length c w.heap.size zs W (hr.below h (Nat.le_refl _)) h.size hcap)
      have HLF := hide (fun W (h : Below w.heap.size w W) => LineFlows_any A zs.length c w.heap.size zs W (hr.below h (Nat.le_refl _)) h.size hcap)
      have HLD := hide (fun W (h : Below w.heap.size w W) => LineDistance_any A zs.length c w.heap.size zs W (hr.below h (Nat.le_refl _)) h.size hcap)
      have HPM := hide (fun W (h : Below w.heap.size w W) A' n' c' (ms : List Mv) (hm : Mvs W W.heap.size A' n' ms) (hn' : n' ≤ 1099511627776) => PlayMoves_any A A' zs.length c n' c' w.heap.size W.heap.size zs ms W (hr.below h (Nat.le_refl _)) h.size hcap hm (Nat.le_refl _) hn')
      have hsl : shareN zs = shareEq zs ∧ leftN zs = 0 := by
        rw [shareN_yes hg, shareEq_yes hq, leftN_yes hg]
        unfold eqOk at hq
        simp at hq
        exact ⟨rfl, by simpa using hq.2⟩
      have HSL := hide hsl
      have hml := moves_len (over zs)
      rw [over_length] at hml
      have HNW := hide (fun k hk => flows_now hq k hk)
      have HFY := hide (flowsR_yes hq)
      have HFL := hide (flows_length zs)
      have HFW := hide (flows_within hg)
      have hsb := shareEq_bd hq
      have hgb : 0 ≤ gainN zs ∧ gainN zs ≤ 1000000000 := by
        have h1 := tot_bd 0 12000 (manyL (shareEq zs) zs) (within_of fun k hk => by
          rw [manyL_length] at hk
          rw [manyL_get _ zs k hk]
          have := good_get hg k hk
          omega)
        rw [gainN_yes hq]
        rw [manyL_length] at h1
        have : (12000 : Int) * (zs.length : Int) ≤ 12000 * 12 := by omega
        omega
      have HCB : Hid (∀ k, k ≤ (moves (over zs)).length → 0 ≤ carried ((moves (over zs)).take k) ∧ carried ((moves (over zs)).take k) ≤ 1000000000) := hide (fun k _ => by
        have := carried_part _ m4 k
        rw [m3] at this
        omega)
      have hfs := sizes_bd 144000 (by omega) (flows zs) (within_wide (flows_within hg) (by omega) (by omega))
      rw [flows_length] at hfs
      rw [hq] at HI HS HSM HLF HLD
      rw [hg] at HE
      simp only [if_true] at HI HS
      rw [hsl.1, hsl.2] at HE
      rw [HFY.out] at HLF HLD
      have HM1 := hide m1
      have HM2 := hide m2
      have HM3 := hide m3
      clear m1 m2 m3 m4 hsl
      generalize moves (over zs) = ms at *
      generalize gainN zs = gn at *
      generalize shareEq zs = sh at *
      generalize hfl : flows zs = fl at *
      have HCT := hide (fun k hk => carried_take ms k hk)
      have HST := hide (fun k hk => sizes_take_succ fl k hk)
      have hfl1 := hide (show fl.length = zs.length - 1 from HFL.out)
      go_enter Try.func3, Try.ntmps3
      go_wp2_with fail
      refine (HI.out _ (Below.refl _ _)).mono ?_; rintro e w1 ⟨A1, c1, rfl, hO1, hb1⟩
      have B1 := hide hb1
      have O1 := hide hO1
      clear hb1 hO1
      go_wp2_with fail
      refine (HS.out _ B1.out).mono ?_; rintro e w2 ⟨A2, c2, rfl, hO2, hb2⟩
      have B2 := hide (below_next B1.out hb2)
      have O2 := hide (O1.out.below hb2)
      clear hb2 hO2
      go_wp2_with fail
      refine (HE.out _ B2.out).mono ?_; rintro e w3 ⟨rfl, dm, rfl⟩
      have B3 := hide (show Below w.heap.size w (w2.drewN dm) from below_drewN B2.out dm)
      have M3 := hide (show Mos (w2.drewN dm) (w2.drewN dm).heap.size A1 ms.length ms from O2.out.list)
      generalize w2.drewN dm = w3 at *
      go_wp2_with fail
      refine (HPM.out w3 B3.out A1 ms.length c1 (ms.map asMv) (mos_mvs M3.out) (by omega)).mono ?_
      rw [HM1.out, HM2.out]
      rintro e w4 ⟨A4, c4, rfl, h41, h42, hO4, hb4⟩
      have B4 := hide (below_next B3.out hb4)
      have O4 := hide hO4
      have M4 := hide ((M3.out.below hb4 (Nat.le_refl _)).more hb4.size)
      clear hb4 hO4 h41 h42
      go_wp2_with fail
      refine (HSM.out _ B4.out).mono ?_; rintro e w5 ⟨rfl, hb5⟩
      have B5 := hide (below_next B4.out hb5)
      have O5 := hide (O4.out.below hb5)
      have M5 := hide ((M4.out.below hb5 (Nat.le_refl _)).more hb5.size)
      clear hb5
      go_wp2_with fail
      go_loopw [12, 81] (fun v i W => ∃ k : Nat, k ≤ ms.length ∧ i = .int .i64 k ∧ v = .int .i64 (gn - carried (ms.take k)) ∧ Hid (Below w5.heap.size w5 W))
        (fun _ i _ => ms.length - (intOf i).toNat)
      case atStart => exact ⟨0, Nat.zero_le _, rfl, by simp [carried], hide (Below.refl _ _)⟩
      case round =>
        obtain ⟨k, hk, rfl, rfl, HB⟩ := hrel
        by_cases hlt : k < ms.length
        · have HC1 := hide (HCT.out k hlt)
          have hb0 := HCB.out k hk
          have hb1 := HCB.out (k + 1) hlt
          rw [HC1.out] at hb1
          obtain ⟨b, off, rfl, hbb, k0, k1, k2⟩ := (M5.out.below HB.out (Nat.le_refl _)).at_ hlt hlt
          have HB1 := hide (HB.out.alloc HB.out.size (.cells #[.int .i64 ms[k].x0, .int .i64 ms[k].x1, .int .i64 ms[k].x2] 33))
          generalize ms[k] = m at *
          obtain ⟨mf, mt, mc⟩ := m
          simp only at k0 k1 k2 hb1 HC1 HB1
          generalize carried (ms.take k) = cr at *
          go_wp2_with fail
          go_roundw
          case rel => exact ⟨k + 1, by omega, by go_num, by rw [HC1.out]; go_num, HB1⟩
          case measure => simp [intOf]; omega
        · obtain rfl : k = ms.length := by omega
          rw [List.take_of_length_le (Nat.le_refl _), HM3.out]
          have B6 := hide (below_next B5.out HB.out)
          have O6 := hide (O5.out.below HB.out)
          have hg0 : gn - gn = 0 := by omega
          rw [hg0]
          clear hg0
          go_wp2_with fail
          refine (HLF.out _ B6.out).mono ?_; rintro e w7 ⟨Af, cf, rfl, hf1, hf2, hOf, hb7⟩
          have B7 := hide (below_next B6.out hb7)
          have O7 := hide (O6.out.below hb7)
          have Of := hide hOf
          clear hb7 hOf
          go_wp2_with fail
          refine (HLD.out _ B7.out).mono ?_; rintro e w8 ⟨rfl, hb8⟩
          have B8 := hide (below_next B7.out hb8)
          have O8 := hide (O7.out.below hb8).ints
          have F8 := hide (Of.out.below hb8).ints
          clear hb8
          have hfn : ((fl.length : Int) != (zs.length : Int) - 1) = false := by have := hfl1.out; simp; omega
          have HSB := hide (fun k => (show 0 ≤ sizes (fl.take k) ∧ sizes (fl.take k) ≤ 1000000000 from by
            have := sizes_bd 144000 (by omega) (fl.take k) (by rw [← hfl]; exact within_take (within_wide (flows_within hg) (by omega) (by omega)) k)
            rw [List.length_take] at this
            have := hfl1.out
            omega))
          have HGX := hide (fun k (hk : k < zs.length) => (show 0 ≤ zs.getD k 0 ∧ zs.getD k 0 ≤ 1000 from by
            rw [show zs.getD k 0 = zs[k] from by simp [List.getD, hk]]; exact good_get hg k hk))
          have HGF := hide (fun k => (show -144000 ≤ fl.getD k 0 ∧ fl.getD k 0 ≤ 12000 from by
            by_cases h : k < fl.length
            · rw [show fl.getD k 0 = fl[k] from by simp [List.getD, h]]
              exact within_get HFW.out k h
            · simp [List.getD, show fl.length ≤ k by omega]))
          have HAll := hide (show sizes fl = sizes (fl.take zs.length) from by rw [List.take_of_length_le (by have := hfl1.out; omega)])
          go_wp2_with fail
          go_loopw [18, 120] (fun v i W => ∃ k : Nat, k ≤ zs.length ∧ i = .int .i64 k ∧ v = .int .i64 (sizes fl - sizes (fl.take k)) ∧ Hid (Below w8.heap.size w8 W))
            (fun _ i _ => zs.length - (intOf i).toNat)
          case atStart => exact ⟨0, Nat.zero_le _, rfl, by simp [sizes], hide (Below.refl _ _)⟩
          case round =>
            obtain ⟨k, hk, rfl, rfl, HBr⟩ := hrel
            have hss0 := HSB.out k
            have hsa := HSB.out zs.length
            rw [← HAll.out] at hsa
            by_cases hlt2 : k < zs.length
            · obtain ⟨adz, rfl, _, hcz⟩ := (hr.below (B8.out.trans (HBr.out.mono B8.out.size)) (Nat.le_refl _)).at_ hlt2
              obtain ⟨ade, rfl, _, hce⟩ := (O8.out.below HBr.out (Nat.le_refl _)).at_ (show k < (List.replicate zs.length sh).length by simp; exact hlt2)
              rw [show (List.replicate zs.length sh).getD k 0 = sh from by simp [List.getD, hlt2]] at hce
              have hxb := HGX.out k hlt2
              have hab := HGF.out (k - 1)
              have hbb := HGF.out k
              have HN := hide (HNW.out k hlt2)
              have FW := hide (F8.out.below HBr.out (Nat.le_refl _))
              have hshsh : (sh != sh) = false := by simp
              have hlf := hfl1.out
              have hlf2 := hide hlf
              clear hlf
              by_cases hl : k < zs.length - 1
              · obtain ⟨adf, rfl, _, _⟩ := FW.out.at_ (show k < fl.length by have := hlf2.out; omega)
                by_cases hp : 0 < k
                · have hkm : (k : Int) - 1 < (fl.length : Int) := by have := hlf2.out; omega
                  have hca := FW.out.cellAt (show k - 1 < fl.length by have := hlf2.out; omega)
                  have hcb := FW.out.cellAt (show k < fl.length by have := hlf2.out; omega)
                  generalize zs.getD k 0 = x0 at *
                  generalize fl.getD (k - 1) 0 = fa at *
                  generalize hfbb : fl.getD k 0 = fb at *
                  have HFB := hide hfbb
                  clear hfbb
                  have hkl : k < fl.length := by have := hlf2.out; omega
                  have hnow : (x0 + fa - fb != sh) = false := by have := HN.out; rw [if_pos hp, if_pos hl] at this; simp; omega
                  have HST1 := hide (HST.out k (by omega))
                  rcases Int.le_total 0 fb with hfb | hfb
                  · have hsz1 : Hid (sizes (fl.take (k + 1)) = sizes (fl.take k) + fb) := hide (by
                      rw [HST1.out, show fl[k]'(by omega) = fb from by rw [← HFB.out]; simp [List.getD, show k < fl.length by omega]]
                      unfold size1; split <;> omega)
                    have hmax : max fb (-fb) = fb := by omega
                    have hss := HSB.out (k + 1)
                    rw [hsz1.out] at hss
                    clear HST1
                    generalize sizes (fl.take k) = sk at *
                    have HBd := hide HBr.out.drew
                    go_wp2_with fail
                    go_region
                    all_goals
                      first | go_roundw | (go_wp2_with fail; go_roundw)
                      case rel => exact ⟨k + 1, by omega, by go_num, by rw [hsz1.out]; exact congrArg (Value.int .i64) (by omega), HBd⟩
                      case measure => simp [intOf]; omega
                  · have hsz1 : Hid (sizes (fl.take (k + 1)) = sizes (fl.take k) + -fb) := hide (by
                      rw [HST1.out, show fl[k]'(by omega) = fb from by rw [← HFB.out]; simp [List.getD, show k < fl.length by omega]]
                      unfold size1; split <;> omega)
                    have hmax : max fb (-fb) = -fb := by omega
                    have hss := HSB.out (k + 1)
                    rw [hsz1.out] at hss
                    clear HST1
                    generalize sizes (fl.take k) = sk at *
                    have HBd := hide HBr.out.drew
                    go_wp2_with fail
                    go_region
                    all_goals
                      first | go_roundw | (go_wp2_with fail; go_roundw)
                      case rel => exact ⟨k + 1, by omega, by go_num, by rw [hsz1.out]; exact congrArg (Value.int .i64) (by omega), HBd⟩
                      case measure => simp [intOf]; omega
                · have hcb := FW.out.cellAt (show k < fl.length by have := hlf2.out; omega)
                  generalize zs.getD k 0 = x0 at *
                  generalize fl.getD (k - 1) 0 = fa at *
                  generalize hfbb : fl.getD k 0 = fb at *
                  have HFB := hide hfbb
                  clear hfbb
                  have hkl : k < fl.length := by have := hlf2.out; omega
                  have hnow : (x0 - fb != sh) = false := by have := HN.out; rw [if_neg hp, if_pos hl] at this; simp; omega
                  have HST1 := hide (HST.out k (by omega))
                  rcases Int.le_total 0 fb with hfb | hfb
                  · have hsz1 : Hid (sizes (fl.take (k + 1)) = sizes (fl.take k) + fb) := hide (by
                      rw [HST1.out, show fl[k]'(by omega) = fb from by rw [← HFB.out]; simp [List.getD, show k < fl.length by omega]]
                      unfold size1; split <;> omega)
                    have hmax : max fb (-fb) = fb := by omega
                    have hss := HSB.out (k + 1)
                    rw [hsz1.out] at hss
                    clear HST1
                    generalize sizes (fl.take k) = sk at *
                    have HBd := hide HBr.out.drew
                    go_wp2_with fail
                    go_region
                    all_goals
                      first | go_roundw | (go_wp2_with fail; go_roundw)
                      case rel => exact ⟨k + 1, by omega, by go_num, by rw [hsz1.out]; exact congrArg (Value.int .i64) (by omega), HBd⟩
                      case measure => simp [intOf]; omega
                  · have hsz1 : Hid (sizes (fl.take (k + 1)) = sizes (fl.take k) + -fb) := hide (by
                      rw [HST1.out, show fl[k]'(by omega) = fb from by rw [← HFB.out]; simp [List.getD, show k < fl.length by omega]]
                      unfold size1; split <;> omega)
                    have hmax : max fb (-fb) = -fb := by omega
                    have hss := HSB.out (k + 1)
                    rw [hsz1.out] at hss
                    clear HST1
                    generalize sizes (fl.take k) = sk at *
                    have HBd := hide HBr.out.drew
                    go_wp2_with fail
                    go_region
                    all_goals
                      first | go_roundw | (go_wp2_with fail; go_roundw)
                      case rel => exact ⟨k + 1, by omega, by go_num, by rw [hsz1.out]; exact congrArg (Value.int .i64) (by omega), HBd⟩
                      case measure => simp [intOf]; omega
              · by_cases hp : 0 < k
                · obtain ⟨adf, rfl, _, _⟩ := FW.out.at_ (show k - 1 < fl.length by have := hlf2.out; omega)
                  have hkm : (k : Int) - 1 < (fl.length : Int) := by have := hlf2.out; omega
                  have hca := FW.out.cellAt (show k - 1 < fl.length by have := hlf2.out; omega)
                  generalize zs.getD k 0 = x0 at *
                  generalize fl.getD (k - 1) 0 = fa at *
                  generalize hfbb : fl.getD k 0 = fb at *
                  have HFB := hide hfbb
                  clear hfbb
                  have hkl : ¬ k < fl.length := by have := hlf2.out; omega
                  have hkl2 : fl.length ≤ k := by omega
                  have hnow : (x0 + fa != sh) = false := by have := HN.out; rw [if_pos hp, if_neg hl] at this; simp; omega
                  have hsz1 : Hid (sizes (fl.take (k + 1)) = sizes (fl.take k)) := hide (by rw [List.take_of_length_le (by omega), List.take_of_length_le (by omega)])
                  generalize sizes (fl.take k) = sk at *
                  go_wp2_with fail
                  go_roundw
                  case rel => exact ⟨k + 1, by omega, by go_num, by rw [hsz1.out], HBr⟩
                  case measure => simp [intOf]; omega
                · generalize zs.getD k 0 = x0 at *
                  generalize fl.getD (k - 1) 0 = fa at *
                  generalize hfbb : fl.getD k 0 = fb at *
                  have HFB := hide hfbb
                  clear hfbb
                  have hkl : ¬ k < fl.length := by have := hlf2.out; omega
                  have hkl2 : fl.length ≤ k := by omega
                  have hnow : (x0 != sh) = false := by have := HN.out; rw [if_neg hp, if_neg hl] at this; simp; omega
                  have hsz1 : Hid (sizes (fl.take (k + 1)) = sizes (fl.take k)) := hide (by rw [List.take_of_length_le (by omega), List.take_of_length_le (by omega)])
                  generalize sizes (fl.take k) = sk at *
                  go_wp2_with fail
                  go_roundw
                  case rel => exact ⟨k + 1, by omega, by go_num, by rw [hsz1.out], HBr⟩
                  case measure => simp [intOf]; omega
            · obtain rfl : k = zs.length := by omega
              have B9 := hide (B8.out.trans (HBr.out.mono B8.out.size))
              have hz : sizes fl - sizes (fl.take zs.length) = 0 := by rw [← HAll.out]; omega
              rw [hz]
              go_wp2_with fail
              go_ret
              exact ⟨rfl, B9.out⟩
end Go.Proofs.Ytieikogjjhjcdaa
