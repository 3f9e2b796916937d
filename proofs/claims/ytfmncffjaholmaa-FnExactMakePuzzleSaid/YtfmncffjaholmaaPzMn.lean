
/-
  MAKEPUZZLE, THE PROGRAM's WAY.
-/
import Derived.Test.YtfmncffjaholmaaPzMm
import Derived.Deep.RegionHeld3
namespace Go.Proofs.Ytfmncffjaholmaa
open Go.RowKit Go.Deep
set_option linter.unusedVariables false

theorem mkL_get (zs : List Int) (z : Int) (m k : Nat) (h : k < (mkL zs z m).length) : (mkL zs z m)[k] = mkC zs z k := by simp [mkL]

set_option maxHeartbeats 1000000 in
set_option maxRecDepth 100000 in
/-- The program's MakePuzzle. -/
theorem MakePuzzle_any (A : Option Addr) (n c B : Nat) (zs : List Int) (m s : Int) (w : World) (hr : Ints w B A n zs) (hB : B ≤ w.heap.size) (hn : n ≤ 17592186044416) :
    Calls Try.prog 6 #[.slice A n c, .int .i64 m, .int .i64 s] w (MadeP (mkPL zs m s) (mkPU zs m s) (mkOk zs m s) w) := by
  obtain rfl := hr.len
  have HB0 := hide (show Below w.heap.size w (w.alloc (.cells #[.int .i64 0, .slice none 0 0] 25)) from (Below.refl _ _).alloc (Nat.le_refl _) _)
  have HH := hide (areHidden_any A zs.length c B zs _ (hr.below HB0.out hB) hn)
  cases hz : hidOk zs
  · have hO : mkOk zs m s = false := by unfold mkOk; rw [hz]; rfl
    rw [(mk_no hO).1, (mk_no hO).2, hO]
    rw [hz] at HH
    clear hz hO
    go_enter Try.func6, Try.ntmps6
    go_wp2_with fail
    refine HH.out.mono ?_; rintro e w' ⟨rfl, rfl⟩
    go_wp2_with fail
    exact bodyPost_ret (v := .tuple #[.agg #[.int .i64 0, .slice none 0 0], .bool false]) (by simp [results, Try.results6, go_sem]) rfl (madeP_no HB0.out)
  · rw [hz] at HH
    by_cases h1 : m < 0
    · have dh1 : decide (m < 0) = true := decide_eq_true h1
      have hO : mkOk zs m s = false := by unfold mkOk; rw [decide_eq_false (show ¬ (0 ≤ m ∧ m ≤ 6) by omega)]; simp
      rw [(mk_no hO).1, (mk_no hO).2, hO]
      clear hz hO
      go_enter Try.func6, Try.ntmps6
      go_wp2_with fail
      refine HH.out.mono ?_; rintro e w' ⟨rfl, rfl⟩
      go_wp2_with fail
      exact bodyPost_ret (v := .tuple #[.agg #[.int .i64 0, .slice none 0 0], .bool false]) (by simp [results, Try.results6, go_sem]) rfl (madeP_no HB0.out)
    · have dh1 : decide (m < 0) = false := decide_eq_false h1
      by_cases h2 : 6 < m
      · have dh2 : decide (6 < m) = true := decide_eq_true h2
        have hO : mkOk zs m s = false := by unfold mkOk; rw [decide_eq_false (show ¬ (0 ≤ m ∧ m ≤ 6) by omega)]; simp
        rw [(mk_no hO).1, (mk_no hO).2, hO]
        clear hz hO
        go_enter Try.func6, Try.ntmps6
        go_wp2_with fail
        refine HH.out.mono ?_; rintro e w' ⟨rfl, rfl⟩
        go_wp2_with fail
        exact bodyPost_ret (v := .tuple #[.agg #[.int .i64 0, .slice none 0 0], .bool false]) (by simp [results, Try.results6, go_sem]) rfl (madeP_no HB0.out)
      · have dh2 : decide (6 < m) = false := decide_eq_false h2
        by_cases h3 : s < 0
        · have dh3 : decide (s < 0) = true := decide_eq_true h3
          have hO : mkOk zs m s = false := by unfold mkOk; rw [decide_eq_false (show ¬ (0 ≤ s ∧ s ≤ 9999) by omega)]; simp
          rw [(mk_no hO).1, (mk_no hO).2, hO]
          clear hz hO
          go_enter Try.func6, Try.ntmps6
          go_wp2_with fail
          refine HH.out.mono ?_; rintro e w' ⟨rfl, rfl⟩
          go_wp2_with fail
          exact bodyPost_ret (v := .tuple #[.agg #[.int .i64 0, .slice none 0 0], .bool false]) (by simp [results, Try.results6, go_sem]) rfl (madeP_no HB0.out)
        · have dh3 : decide (s < 0) = false := decide_eq_false h3
          by_cases h4 : 9999 < s
          · have dh4 : decide (9999 < s) = true := decide_eq_true h4
            have hO : mkOk zs m s = false := by unfold mkOk; rw [decide_eq_false (show ¬ (0 ≤ s ∧ s ≤ 9999) by omega)]; simp
            rw [(mk_no hO).1, (mk_no hO).2, hO]
            clear hz hO
            go_enter Try.func6, Try.ntmps6
            go_wp2_with fail
            refine HH.out.mono ?_; rintro e w' ⟨rfl, rfl⟩
            go_wp2_with fail
            exact bodyPost_ret (v := .tuple #[.agg #[.int .i64 0, .slice none 0 0], .bool false]) (by simp [results, Try.results6, go_sem]) rfl (madeP_no HB0.out)
          · have dh4 : decide (9999 < s) = false := decide_eq_false h4
            have hm1 : 0 ≤ m := by omega
            obtain ⟨M, rfl⟩ := Int.eq_ofNat_of_zero_le hm1
            have hs : 0 ≤ s ∧ s ≤ 9999 := by omega
            have hM : M ≤ 6 := by omega
            have hO : mkOk zs (M : Int) s = true := by unfold mkOk; rw [hz, decide_eq_true (show 0 ≤ (M : Int) ∧ (M : Int) ≤ 6 by omega), decide_eq_true hs]; rfl
            rw [(mk_yes hO).1, (mk_yes hO).2, hO]
            rw [Int.toNat_natCast]
            have HZB := hide (fun k => numZ_bd hs k)
            have HLN := hide (mkL_length zs s M)
            have HGT := hide (fun k h => mkL_get zs s M k h)
            have HP := hide (fun k W (hb : Below w.heap.size w W) => (show Calls Try.prog 18 #[.slice A zs.length c, .int .i64 (nextZ (numZ s k) % 6), .int .i64 (nextZ (nextZ (numZ s k)))] W fun e w' => e = .returned (.agg #[.int .i64 (mkC zs s k).x0, .int .i64 (mkC zs s k).x1, .int .i64 (mkC zs s k).x2, .int .i64 (mkC zs s k).x3]) ∧ Below W.heap.size W w' from
              clueOf_any A zs.length c B zs (nextZ (numZ s k) % 6) (nextZ (nextZ (numZ s k))) W (hr.below hb hB) (Nat.le_trans hB hb.size) hz ⟨by omega, by omega⟩ (nextZ_bd _)))
            have HN := hide (fun x W (h : 0 ≤ x ∧ x ≤ 10006) => numberBehind_any x W h)
            have HZ0 : Hid (numZ s 0 = s) := hide rfl
            have HZS := hide (fun k => show nextZ (nextZ (numZ s k)) = numZ s (k + 1) from rfl)
            obtain ⟨i0, hi, hz0, hz1, hz2⟩ := info_parts infoCl
            have hmk : ∀ w, (Instr.makeSlice 23 (.int .i64 (M : Int)) (.int .i64 (M : Int))).run Try.prog w = .ok (.slice (some ⟨w.heap.size, 0, none⟩) M M) (w.alloc (.cells (madeCells #[.int .i64 0, .int .i64 0, .int .i64 0, .int .i64 0] (M * 4)) 38)) := by
              intro w
              have := run_make_rowCl (P := Try.prog) 23 38 i0 _ Try.underlying23 hi hz0 .i64 .i64 M M (Nat.le_refl _) (by rw [hz2]; omega) (by omega) w
              rw [hz1] at this
              exact this
            have hrow0 := (made_Cl (w.alloc (.cells #[.int .i64 0, .slice none 0 0] 25)) 38 (M * 4)).of_block (w' := ((w.alloc (.cells #[.int .i64 0, .slice none 0 0] 25)).alloc (.cells (madeCells #[.int .i64 0, .int .i64 0, .int .i64 0, .int .i64 0] (M * 4)) 38)).alloc (.cells #[.int .i64 (zs.length : Int), .slice (some ⟨w.heap.size + 1, 0, none⟩) M M] 25)) (Below.heap_alloc _ _ _ (by simp))
            rw [show (w.alloc (.cells #[.int .i64 0, .slice none 0 0] 25)).heap.size = w.heap.size + 1 from by simp] at hrow0
            have X0 := ((Bx.new w 25 (.int .i64 0) (.slice none 0 0)).alloc (.cells (madeCells #[.int .i64 0, .int .i64 0, .int .i64 0, .int .i64 0] (M * 4)) 38)).alloc (.cells #[.int .i64 (zs.length : Int), .slice (some ⟨w.heap.size + 1, 0, none⟩) M M] 25)
            have X1 := Bx.new ((w.alloc (.cells #[.int .i64 0, .slice none 0 0] 25)).alloc (.cells (madeCells #[.int .i64 0, .int .i64 0, .int .i64 0, .int .i64 0] (M * 4)) 38)) 25 (.int .i64 (zs.length : Int)) (.slice (some ⟨w.heap.size + 1, 0, none⟩) M M)
            rw [show ((w.alloc (.cells #[.int .i64 0, .slice none 0 0] 25)).alloc (.cells (madeCells #[.int .i64 0, .int .i64 0, .int .i64 0, .int .i64 0] (M * 4)) 38)).heap.size = w.heap.size + 1 + 1 from by simp] at X1
            have HB1 := hide ((HB0.out.alloc HB0.out.size (.cells (madeCells #[.int .i64 0, .int .i64 0, .int .i64 0, .int .i64 0] (M * 4)) 38)).alloc (by simp; omega) (.cells #[.int .i64 (zs.length : Int), .slice (some ⟨w.heap.size + 1, 0, none⟩) M M] 25))
            have HS1 := hide (show w.heap.size + 3 ≤ (((w.alloc (.cells #[.int .i64 0, .slice none 0 0] 25)).alloc (.cells (madeCells #[.int .i64 0, .int .i64 0, .int .i64 0, .int .i64 0] (M * 4)) 38)).alloc (.cells #[.int .i64 (zs.length : Int), .slice (some ⟨w.heap.size + 1, 0, none⟩) M M] 25)).heap.size from by simp)
            have HR0 := hide hrow0
            have HX0 := hide X0
            have HX1 := hide X1
            clear hz hO hs hr hrow0 X0 X1 hi hz0 hz1 hz2 i0
            go_enter Try.func6, Try.ntmps6
            go_wp2_with fail
            refine HH.out.mono ?_; rintro e w' ⟨rfl, rfl⟩
            go_wp2_with fail
            clear hmk HB0 HH dh1 dh2 dh3 dh4 h1 h2 h3 h4
            go_loopw [9, 41] (fun s9 s41 wr => ∃ k : Nat, k ≤ M ∧ s41 = .int .i64 (k : Int) ∧ s9 = .int .i64 (numZ s k) ∧ Hid (wr.rowIs (w.heap.size + 1) 38 (M * 4) (fun j => if j < k * 4 then cellCl (mkL zs s M) j else .int .i64 0)) ∧ Hid (Bx wr (w.heap.size + 1 + 1) 25 (.int .i64 (zs.length : Int)) (.slice (some ⟨w.heap.size + 1, 0, none⟩) M M)) ∧
                Hid (Bx wr w.heap.size 25 (.int .i64 0) (.slice none 0 0)) ∧ Hid (Below w.heap.size w wr) ∧ Hid (w.heap.size + 3 ≤ wr.heap.size))
              (fun _ s41 _ => M - (intOf s41).toNat)
            case atStart => exact ⟨0, Nat.zero_le _, rfl, by rw [HZ0.out], hide (HR0.out.congr (fun i _ => by simp)), HX1, HX0, HB1, HS1⟩
            case round =>
              obtain ⟨k, hk, rfl, rfl, HR, HX, HY, HB, HSZ⟩ := hrel
              have hzb := HZB.out k
              have hzb1 := nextZ_bd (numZ s k)
              by_cases hlt : k < M
              · have HPk := hide (fun W hb => HP.out k W hb)
                have HZk := hide (HZS.out k)
                have HGk := hide (HGT.out k (by rw [HLN.out]; exact hlt))
                have HNZ := hide hzb1
                have hz1 := hzb1.1
                have hz2 := hzb1.2
                generalize numZ s k = z at *
                have htm : (nextZ z).tmod 6 = nextZ z % 6 := Int.tmod_eq_emod_of_nonneg hz1
                rw [← htm] at HPk
                clear htm
                generalize mkC zs s k = d at *
                clear HP HZS HZB HR0 HX0 HX1 HB1 HS1
                go_wp2_with fail
                refine (HN.out _ _ hzb).mono ?_; rintro e w' ⟨rfl, rfl⟩
                go_wp2_with fail
                refine (HN.out _ _ HNZ.out).mono ?_; rintro e w' ⟨rfl, rfl⟩
                go_wp2_with fail
                have HSK := hide (fun W (h : Below wr.heap.size wr W) => (HX.out.next h).c1)
                have hgl : w.heap.size + 1 < wr.heap.size := by have := HSZ.out; omega
                have HGL := hide hgl
                clear hgl
                go_region_held3 (fun W => W.cell? ⟨w.heap.size + 1 + 1, 1, none⟩ = some (.slice (some ⟨w.heap.size + 1, 0, none⟩) M M))
                  (first | exact HSK.out _ (Below.refl _ _).drew | exact HSK.out _ FB2.out | go_keep)
                  (first
                  | (go_at_call 18; (with_reducible refine (HPk.out _ ?_).mono ?_); (exact HB.out.drew); rintro e w2 ⟨rfl, hb2⟩; have FB2 := hide (show Below wr.heap.size wr w2 from (Below.refl _ _).drew.trans hb2); have r2 := HR.out.of_block (FB2.out.block _ HGL.out); have o0 := r2.cell (show k * 4 < M * 4 by omega); have o1 := r2.cell (show k * 4 + 1 < M * 4 by omega); have o2 := r2.cell (show k * 4 + 2 < M * 4 by omega); have o3 := r2.cell (show k * 4 + 3 < M * 4 by omega); rw [if_neg (by omega)] at o0 o1 o2 o3; have f0 := r2.frozen (k * 4); have f1 := r2.frozen (k * 4 + 1); have f2 := r2.frozen (k * 4 + 2); have f3 := r2.frozen (k * 4 + 3); have HR2 := hide r2; clear r2 hb2))
                have hrN := row_Cl (ms := mkL zs s M) (k := k) (by rw [HLN.out]; exact hlt) (show w2.rowIs (w.heap.size + 1) 38 ((mkL zs s M).length * 4) _ from by rw [HLN.out]; exact HR2.out)
                rw [HGk.out] at hrN
                have hrM := (show (((( w2.setCell ⟨w.heap.size + 1, k * 4, none⟩ (.int .i64 d.x0)).setCell ⟨w.heap.size + 1, k * 4 + 1, none⟩ (.int .i64 d.x1)).setCell ⟨w.heap.size + 1, k * 4 + 2, none⟩ (.int .i64 d.x2)).setCell ⟨w.heap.size + 1, k * 4 + 3, none⟩ (.int .i64 d.x3)).rowIs (w.heap.size + 1) 38 (M * 4) (fun j => if j < (k + 1) * 4 then cellCl (mkL zs s M) j else .int .i64 0) from by rw [HLN.out] at hrN; exact hrN)
                have X6 := hide (((((HX.out.next FB2.out).setOther (a := ⟨w.heap.size + 1, k * 4, none⟩) (by simp) (.int .i64 d.x0)).setOther (a := ⟨w.heap.size + 1, k * 4 + 1, none⟩) (by simp) (.int .i64 d.x1)).setOther (a := ⟨w.heap.size + 1, k * 4 + 2, none⟩) (by simp) (.int .i64 d.x2)).setOther (a := ⟨w.heap.size + 1, k * 4 + 3, none⟩) (by simp) (.int .i64 d.x3))
                have Y6 := hide (((((HY.out.next FB2.out).setOther (a := ⟨w.heap.size + 1, k * 4, none⟩) (by simp) (.int .i64 d.x0)).setOther (a := ⟨w.heap.size + 1, k * 4 + 1, none⟩) (by simp) (.int .i64 d.x1)).setOther (a := ⟨w.heap.size + 1, k * 4 + 2, none⟩) (by simp) (.int .i64 d.x2)).setOther (a := ⟨w.heap.size + 1, k * 4 + 3, none⟩) (by simp) (.int .i64 d.x3))
                have B6 := hide (((((HB.out.trans (FB2.out.mono HB.out.size)).setCell (p := ⟨w.heap.size + 1, k * 4, none⟩) (by simp) (.int .i64 d.x0)).setCell (p := ⟨w.heap.size + 1, k * 4 + 1, none⟩) (by simp) (.int .i64 d.x1)).setCell (p := ⟨w.heap.size + 1, k * 4 + 2, none⟩) (by simp) (.int .i64 d.x2)).setCell (p := ⟨w.heap.size + 1, k * 4 + 3, none⟩) (by simp) (.int .i64 d.x3))
                have S6 := hide (show w.heap.size + 3 ≤ (((( w2.setCell ⟨w.heap.size + 1, k * 4, none⟩ (.int .i64 d.x0)).setCell ⟨w.heap.size + 1, k * 4 + 1, none⟩ (.int .i64 d.x1)).setCell ⟨w.heap.size + 1, k * 4 + 2, none⟩ (.int .i64 d.x2)).setCell ⟨w.heap.size + 1, k * 4 + 3, none⟩ (.int .i64 d.x3)).heap.size from by have := FB2.out.size; have := HSZ.out; simp; omega)
                have HRM := hide hrM
                clear hrN hrM o0 o1 o2 o3 f0 f1 f2 f3 HR2
                generalize (((( w2.setCell ⟨w.heap.size + 1, k * 4, none⟩ (.int .i64 d.x0)).setCell ⟨w.heap.size + 1, k * 4 + 1, none⟩ (.int .i64 d.x1)).setCell ⟨w.heap.size + 1, k * 4 + 2, none⟩ (.int .i64 d.x2)).setCell ⟨w.heap.size + 1, k * 4 + 3, none⟩ (.int .i64 d.x3)) = W7 at *
                go_wp2_with fail
                go_roundw
                case rel => exact ⟨k + 1, by omega, by go_num, by rw [HZk.out], HRM, X6, Y6, B6, S6⟩
                case measure => simp [intOf]; omega
              · obtain rfl : k = M := by omega
                have hR : RowCl wr (w.heap.size + 1) (mkL zs s k) := by
                  unfold RowCl
                  rw [HLN.out]
                  exact HR.out.congr (fun i hi => by rw [if_pos hi])
                have MP := madeP_put (w := w) (h := (zs.length : Int)) (b1 := w.heap.size) (ds := mkL zs s k) true (Nat.le_refl _) HY.out (OwnICl.of_row (base := w.heap.size + 1) hR (Nat.le_refl _) (by rw [HLN.out]; unfold maxLen; omega)) (by omega) HB.out
                rw [HLN.out] at MP
                obtain ⟨i0, i1, M0⟩ := MP
                have HM := hide M0
                have x0 := HX.out.c0
                have x1 := HX.out.c1
                have y0 := HY.out.c0
                have f0 := HY.out.f 0
                have R1 := HY.out.set0 (.int .i64 (zs.length : Int))
                have y1 := R1.c1
                have f1 := R1.f 1
                clear M0 R1 hR
                go_wp2_with fail
                exact bodyPost_ret (v := .tuple #[.agg #[.int .i64 (zs.length : Int), .slice (some ⟨w.heap.size + 1, 0, none⟩) k k], .bool true]) (by simp [results, Try.results6, go_sem, i0, i1]) rfl HM.out
end Go.Proofs.Ytfmncffjaholmaa
