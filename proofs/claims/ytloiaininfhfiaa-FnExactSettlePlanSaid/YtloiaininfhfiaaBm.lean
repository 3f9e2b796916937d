
/-
  MOVES THAT HELP, THE MODEL's WAY: ldMove, BestMove, IsSettledPlan.
-/
import Derived.Test.YtloiaininfhfiaaBmP
namespace Go.Proofs.Ytloiaininfhfiaa
open Go.RowKit Go.Deep
set_option linter.unusedVariables false

theorem endsL_in {zs ps : List Int} {M : Nat} (h : jboth zs M ps = true) : within 0 9000 (endsL zs ps M) = true := by
  refine within_of fun k hk => ?_
  have hk' := hk
  rw [endsL_length] at hk'
  rw [← getD_at hk, endsL_at zs ps hk']
  exact endZ_bd (mvd_fits h k) M

set_option maxRecDepth 100000 in
set_option maxHeartbeats 1000000 in
/-- The model's ldMove. -/
theorem ldMove_any (A : Option Addr) (n c B : Nat) (zs : List Int) (M : Nat) (A' : Option Addr) (n' c' B' : Nat) (ps : List Int) (w : World) (hr : Ints w B A n zs) (hs : Ints w B' A' n' ps)
    (hB : B ≤ w.heap.size) (hB' : B' ≤ w.heap.size) (hb : jboth zs M ps = true) :
    Calls Try.prog 17 #[.slice A n c, .int .i64 (M : Int), .slice A' n' c'] w fun e w' =>
      e = .returned (.tuple #[.int .i64 (jobQ M (bmA zs ps M)), .int .i64 (macQ M (bmA zs ps M)), .int .i64 (bmE (endsL zs ps M) (endZ zs ps M) (ps.length * M))]) ∧ Below w.heap.size w w' := by
  obtain rfl := hr.len
  obtain rfl := hs.len
  obtain ⟨hm1, hm2⟩ := jboth_m hb
  have hpl := (jfit_of (jboth_of hb).2).1
  have hj := jgood_of (jask_of (jboth_of hb).1).1
  have hl1 : 1 ≤ ps.length := by omega
  have hl9 : ps.length ≤ 9 := by omega
  have HE := hide (ldEnd_any A zs.length c B zs M A' ps.length c' B' ps w hr hs hB hB' hb)
  have HMV := hide (fun q => mvd_fits hb q)
  have HEN := hide (fun A' c' W (q : Nat) (h1 : Ints W B A zs.length zs) (h2 : Ints W W.heap.size A' ps.length (mvd ps M q)) (h3 : B ≤ W.heap.size) => ldEnd_any A zs.length c B zs M A' ps.length c' W.heap.size (mvd ps M q) W h1 h2 h3 (Nat.le_refl _) (HMV.out q))
  have HAT := hide (fun q (h : q < ps.length * M) => endsL_at zs ps h)
  have heb := endZ_bd hb M
  have HBM := hide (fun k hk => bmE_le (endsL_in hb) heb k hk (by rw [endsL_length]; exact Nat.mul_pos (by omega) (by omega)))
  have HVL := hide (endsL_length zs ps M)
  have HA := hide (show bmA zs ps M = bmQ (endsL zs ps M) (endZ zs ps M) (ps.length * M) from rfl)
  have HVB := hide (fun q => endZ_bd (HMV.out q) M)
  have HR := hide hr
  have HS := hide hs
  have Hpl := hide hpl
  have hpl2 : zs.length = ps.length ∨ True := .inr trivial
  generalize endsL zs ps M = V at *
  generalize hee : endZ zs ps M = e0 at *
  clear hr hs hj hb hpl hpl2 hee
  go_enter Try.func17, Try.ntmps17
  go_wp2_with fail
  refine HE.out.mono ?_
  rintro e w1 ⟨rfl, hb1⟩
  have HB1 := hide hb1
  clear hb1
  go_wp2_with fail
  go_loopw [9, 10, 11, 22] (fun jv mv ev i wr => ∃ q : Nat, q ≤ ps.length ∧ i = .int .i64 q ∧ jv = .int .i64 (jobQ M (bmQ V e0 (q * M))) ∧ mv = .int .i64 (macQ M (bmQ V e0 (q * M))) ∧ ev = .int .i64 (bmE V e0 (q * M)) ∧ Below w.heap.size w wr)
    (fun _ _ _ i _ => ps.length - (intOf i).toNat)
  case atStart => exact ⟨0, Nat.zero_le _, rfl, by rw [Nat.zero_mul, (bm_zero V e0).1, jobQ_no], by rw [Nat.zero_mul, (bm_zero V e0).1, macQ_no], by rw [Nat.zero_mul, (bm_zero V e0).2], HB1.out⟩
  case round =>
    obtain ⟨q, hq, rfl, rfl, rfl, rfl, hb⟩ := hrel
    by_cases hlt : q < ps.length
    · have HQ := hide hb
      have hsz := hb.size
      clear hb
      go_wp2_with fail
      go_loopw [9, 10, 11, 13] (fun jv mv ev jx wr2 => ∃ j : Nat, j ≤ M ∧ jx = .int .i64 j ∧ jv = .int .i64 (jobQ M (bmQ V e0 (q * M + j))) ∧ mv = .int .i64 (macQ M (bmQ V e0 (q * M + j))) ∧ ev = .int .i64 (bmE V e0 (q * M + j)) ∧ Below w.heap.size w wr2)
        (fun _ _ _ jx _ => M - (intOf jx).toNat)
      case atStart => exact ⟨0, Nat.zero_le _, rfl, rfl, rfl, rfl, HQ.out⟩
      case round =>
        obtain ⟨j, hj, rfl, rfl, rfl, rfl, hb⟩ := hrel
        by_cases hjl : j < M
        · have hin : q * M + j < ps.length * M := by
            have := Nat.mul_le_mul_right M (show q + 1 ≤ ps.length by omega)
            rw [Nat.add_mul, Nat.one_mul] at this
            omega
          have HRW := hide (HR.out.below hb hB)
          have HSW := hide (HS.out.below hb hB')
          have HQ2 := hide hb
          have hsz2 := hb.size
          have hATj := HAT.out (q * M + j) hin
          have hvb := HVB.out (q * M + j)
          have hbb := HBM.out (q * M + j) (by rw [HVL.out]; omega)
          have HMA := hide (mvd_at ps (i := q) hjl)
          have HML := hide (mvd_length ps M (q * M + j))
          have HENQ := hide (fun A' c' W h1 h2 h3 => HEN.out A' c' W (q * M + j) h1 h2 h3)
          have HJQ := hide (jobQ_at (i := q) hjl)
          have HMQ := hide (macQ_at (i := q) hjl)
          have HT := hide (fun (h : V.getD (q * M + j) 0 < bmE V e0 (q * M + j)) => bm_take h)
          have HL := hide (fun (h : ¬ V.getD (q * M + j) 0 < bmE V e0 (q * M + j)) => bm_leave h)
          rw [hATj] at HT HL
          generalize endZ zs (mvd ps M (q * M + j)) M = v at *
          clear hb hATj hin
          by_cases hc : v < bmE V e0 (q * M + j)
          · obtain ⟨h1, h2⟩ := HT.out hc
            have H1 := hide h1
            have H2 := hide h2
            clear h1 h2
            generalize bmE V e0 (q * M + j) = cur at *
            go_wp2_with fail
            refine (l1Own_any _ _ _ _ _ _ HSW.out (by omega) (by omega) (by omega)).mono ?_
            rintro e w3 ⟨g, cg, rfl, hg1, hg2, hcg1, hcg2, hown, hb3⟩
            have s3 := hb3.size
            have hown' := hown
            unfold Own at hown'
            have hold := World.ownsRow.cellAt hown' q (by omega)
            rw [List.getElem?_map, List.getElem?_eq_getElem hlt, Option.map_some] at hold
            have hfz := World.ownsRow.frozenAt hown' q
            have hst := Own.stored hown rfl q (j : Int)
            rw [← HMA.out] at hst
            have HI4 := hide (show Ints (w3.setCell ⟨g, q, none⟩ (.int .i64 (j : Int))) (w3.setCell ⟨g, q, none⟩ (.int .i64 (j : Int))).heap.size (some ⟨g, 0, none⟩) ps.length (mvd ps M (q * M + j)) from by
              have hx : Own (w3.setCell ⟨g, q, none⟩ (.int .i64 (j : Int))) wr.heap.size 3 (.slice (some ⟨g, 0, none⟩) ps.length cg) (mvd ps M (q * M + j)) := hst
              have := hx.ints
              rw [HML.out] at this
              exact this)
            have HB3 := hide (show Below wr.heap.size wr (w3.setCell ⟨g, q, none⟩ (.int .i64 (j : Int))) from hb3.setCell hg1 _)
            have HR4 := hide (HRW.out.below HB3.out (by omega))
            clear hown' hst hown hb3
            go_wp2_with fail
            generalize (w3.setCell ⟨g, q, none⟩ (.int .i64 (j : Int))) = W4 at *
            refine (HENQ.out _ _ _ HR4.out HI4.out (by have := HB3.out.size; omega)).mono ?_
            rintro e w5 ⟨rfl, hb5⟩
            have HQ5 := hide ((HQ2.out.trans (HB3.out.mono hsz2)).trans (hb5.mono (by have := HB3.out.size; omega)))
            clear hb5
            go_wp2_with fail
            go_roundw
            case rel => exact ⟨j + 1, by omega, by go_num, by rw [show q * M + (j + 1) = q * M + j + 1 from rfl, H1.out, HJQ.out], by rw [show q * M + (j + 1) = q * M + j + 1 from rfl, H1.out, HMQ.out], by rw [show q * M + (j + 1) = q * M + j + 1 from rfl, H2.out], HQ5.out⟩
            case measure => simp [intOf]; omega
          · obtain ⟨h1, h2⟩ := HL.out hc
            have H1 := hide h1
            have H2 := hide h2
            clear h1 h2
            generalize hcur : bmE V e0 (q * M + j) = cur at *
            have HCUR := hide hcur
            clear hcur
            generalize hbq : bmQ V e0 (q * M + j) = bq at *
            have HBQ := hide hbq
            clear hbq
            go_wp2_with fail
            refine (l1Own_any _ _ _ _ _ _ HSW.out (by omega) (by omega) (by omega)).mono ?_
            rintro e w3 ⟨g, cg, rfl, hg1, hg2, hcg1, hcg2, hown, hb3⟩
            have s3 := hb3.size
            have hown' := hown
            unfold Own at hown'
            have hold := World.ownsRow.cellAt hown' q (by omega)
            rw [List.getElem?_map, List.getElem?_eq_getElem hlt, Option.map_some] at hold
            have hfz := World.ownsRow.frozenAt hown' q
            have hst := Own.stored hown rfl q (j : Int)
            rw [← HMA.out] at hst
            have HI4 := hide (show Ints (w3.setCell ⟨g, q, none⟩ (.int .i64 (j : Int))) (w3.setCell ⟨g, q, none⟩ (.int .i64 (j : Int))).heap.size (some ⟨g, 0, none⟩) ps.length (mvd ps M (q * M + j)) from by
              have hx : Own (w3.setCell ⟨g, q, none⟩ (.int .i64 (j : Int))) wr.heap.size 3 (.slice (some ⟨g, 0, none⟩) ps.length cg) (mvd ps M (q * M + j)) := hst
              have := hx.ints
              rw [HML.out] at this
              exact this)
            have HB3 := hide (show Below wr.heap.size wr (w3.setCell ⟨g, q, none⟩ (.int .i64 (j : Int))) from hb3.setCell hg1 _)
            have HR4 := hide (HRW.out.below HB3.out (by omega))
            clear hown' hst hown hb3
            go_wp2_with fail
            generalize (w3.setCell ⟨g, q, none⟩ (.int .i64 (j : Int))) = W4 at *
            refine (HENQ.out _ _ _ HR4.out HI4.out (by have := HB3.out.size; omega)).mono ?_
            rintro e w5 ⟨rfl, hb5⟩
            have HQ5 := hide ((HQ2.out.trans (HB3.out.mono hsz2)).trans (hb5.mono (by have := HB3.out.size; omega)))
            clear hb5
            go_wp2_with fail
            go_roundw
            case rel => exact ⟨j + 1, by omega, by go_num, by rw [show q * M + (j + 1) = q * M + j + 1 from rfl, H1.out], by rw [show q * M + (j + 1) = q * M + j + 1 from rfl, H1.out], by rw [show q * M + (j + 1) = q * M + j + 1 from rfl, H2.out], HQ5.out⟩
            case measure => simp [intOf]; omega
        · obtain rfl : j = M := by omega
          go_wp2_with fail
          go_roundw
          case rel => exact ⟨q + 1, by omega, by go_num, by rw [Nat.add_mul, Nat.one_mul], by rw [Nat.add_mul, Nat.one_mul], by rw [Nat.add_mul, Nat.one_mul], hb⟩
          case measure => simp [intOf]; omega
    · obtain rfl : q = ps.length := by omega
      go_wp2_with fail
      go_ret3
      exact ⟨by rw [HA.out]; rfl, hb⟩
end Go.Proofs.Ytloiaininfhfiaa
