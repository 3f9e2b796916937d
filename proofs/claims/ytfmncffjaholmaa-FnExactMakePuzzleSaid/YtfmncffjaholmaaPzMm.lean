
/-
  MAKEPUZZLE, BOTH WAYS.
-/
import Derived.Test.YtfmncffjaholmaaPzMl
import Derived.Test.YtfmncffjaholmaaPzB
import Derived.Deep.RegionLaw
namespace Go.Proofs.Ytfmncffjaholmaa
open Go.RowKit Go.Deep
set_option linter.unusedVariables false

def mkPL (zs : List Int) (m s : Int) : List Cl := if mkOk zs m s then mkL zs s m.toNat else []
def mkPU (zs : List Int) (m s : Int) : Int := if mkOk zs m s then (zs.length : Int) else 0
theorem mk_no {zs : List Int} {m s : Int} (h : mkOk zs m s = false) : mkPL zs m s = [] ∧ mkPU zs m s = 0 := by simp [mkPL, mkPU, h]
theorem mk_yes {zs : List Int} {m s : Int} (h : mkOk zs m s = true) : mkPL zs m s = mkL zs s m.toNat ∧ mkPU zs m s = (zs.length : Int) := by simp [mkPL, mkPU, h]
theorem mkPL_len (zs : List Int) (m s : Int) : (mkPL zs m s).length ≤ 1048576 := by
  unfold mkPL
  split
  · rename_i h
    unfold mkOk at h
    simp at h
    rw [mkL_length]; omega
  · simp

theorem cbox_list {w : World} {g : Nat} {d : Cl} (h : CBox w g 38 d) : Cls w (g + 1) (some ⟨g, 0, none⟩) 1 [d] := by
  refine ⟨rfl, fun _ => ⟨_, 0, rfl, Nat.lt_succ_self _, fun i hi => ?_⟩⟩
  match i, hi with
  | 0, _ => exact h.c0
  | 1, _ => exact h.c1
  | 2, _ => exact h.c2
  | 3, _ => exact h.c3

set_option maxHeartbeats 1000000 in
set_option maxRecDepth 100000 in
/-- The model's MakePuzzle. -/
theorem specMakePuzzle_any (A : Option Addr) (n c B : Nat) (zs : List Int) (m s : Int) (w : World) (hr : Ints w B A n zs) (hB : B ≤ w.heap.size) (hn : n ≤ 17592186044416) :
    Calls Try.prog 4 #[.slice A n c, .int .i64 m, .int .i64 s] w (MadeP (mkPL zs m s) (mkPU zs m s) (mkOk zs m s) w) := by
  obtain rfl := hr.len
  have HB0 := hide (show Below w.heap.size w (w.alloc (.cells #[.int .i64 0, .slice none 0 0] 25)) from (Below.refl _ _).alloc (Nat.le_refl _) _)
  have HH := hide (pzHidden_any A zs.length c B zs _ (hr.below HB0.out hB) hn)
  have HI := hide (fun x lo hi W => l1In_any x lo hi W)
  cases hz : hidOk zs
  · have hO : mkOk zs m s = false := by unfold mkOk; rw [hz]; rfl
    rw [(mk_no hO).1, (mk_no hO).2, hO]
    rw [hz] at HH
    clear hz hO
    go_enter Try.func4, Try.ntmps4
    go_wp2_with fail
    refine HH.out.mono ?_; rintro e w' ⟨rfl, rfl⟩
    go_wp2_with fail
    exact bodyPost_ret (v := .tuple #[.agg #[.int .i64 0, .slice none 0 0], .bool false]) (by simp [results, Try.results4, go_sem]) rfl (madeP_no HB0.out)
  · rw [hz] at HH
    by_cases hm : 0 ≤ m ∧ m ≤ 6
    · have HM1 := hide (decide_eq_true hm)
      by_cases hs : 0 ≤ s ∧ s ≤ 9999
      · have HM2 := hide (decide_eq_true hs)
        have hO : mkOk zs m s = true := by unfold mkOk; rw [hz, HM1.out, HM2.out]; rfl
        rw [(mk_yes hO).1, (mk_yes hO).2, hO]
        obtain ⟨hm1, hm2⟩ := hm
        obtain ⟨M, rfl⟩ := Int.eq_ofNat_of_zero_le hm1
        rw [Int.toNat_natCast]
        have HZB := hide (fun k => numZ_bd hs k)
        have HCL := hide (fun k => mkL_succ zs s k)
        have HLN := hide (fun k => mkL_length zs s k)
        have HP := hide (fun k W (hb : Below w.heap.size w W) => (show Calls Try.prog 15 #[.int .i64 (nextZ (numZ s k) % 6), .int .i64 (nextZ (nextZ (numZ s k))), .slice A zs.length c] W fun e w' => e = .returned (.agg #[.int .i64 (mkC zs s k).x0, .int .i64 (mkC zs s k).x1, .int .i64 (mkC zs s k).x2, .int .i64 (mkC zs s k).x3]) ∧ Below W.heap.size W w' from
          pzOf_any A zs.length c B zs (nextZ (numZ s k) % 6) (nextZ (nextZ (numZ s k))) W (hr.below hb hB) (Nat.le_trans hB hb.size) hz ⟨by omega, by omega⟩ (nextZ_bd _)))
        have HN := hide (fun x W (h : 0 ≤ x ∧ x ≤ 10006) => pzNext_any x W h)
        have HZ0 : Hid (numZ s 0 = s) := hide rfl
        have HZS := hide (fun k => show nextZ (nextZ (numZ s k)) = numZ s (k + 1) from rfl)
        clear hz hO hs hr
        go_enter Try.func4, Try.ntmps4
        go_wp2_with fail
        refine HH.out.mono ?_; rintro e w' ⟨rfl, rfl⟩
        go_wp2_with fail
        refine (HI.out _ _ _ _).mono ?_; rintro e w' ⟨rfl, rfl⟩; rw [HM1.out]
        go_wp2_with fail
        refine (HI.out _ _ _ _).mono ?_; rintro e w' ⟨rfl, rfl⟩; rw [HM2.out]
        go_wp2_with fail
        have X0 := (Bx.new w 25 (.int .i64 0) (.slice none 0 0)).alloc (.cells #[.int .i64 (zs.length : Int), .slice none 0 0] 25)
        have X1 := Bx.new (w.alloc (.cells #[.int .i64 0, .slice none 0 0] 25)) 25 (.int .i64 (zs.length : Int)) (.slice none 0 0)
        rw [show (w.alloc (.cells #[.int .i64 0, .slice none 0 0] 25)).heap.size = w.heap.size + 1 from by simp] at X1
        have HB1 := hide (HB0.out.alloc HB0.out.size (.cells #[.int .i64 (zs.length : Int), .slice none 0 0] 25))
        have HX0 := hide X0
        have HX1 := hide X1
        have HS1 := hide (show w.heap.size + 2 ≤ ((w.alloc (.cells #[.int .i64 0, .slice none 0 0] 25)).alloc (.cells #[.int .i64 (zs.length : Int), .slice none 0 0] 25)).heap.size from by simp)
        clear X0 X1 HB0 HH HI HM1 HM2
        go_loopw [1, 9] (fun s1 s9 wr => ∃ r k : Nat, r + k = M ∧ s1 = .int .i64 (r : Int) ∧ s9 = .int .i64 (numZ s k) ∧ ∃ Av cv, Hid (Bx wr (w.heap.size + 1) 25 (.int .i64 (zs.length : Int)) (.slice Av k cv)) ∧ Hid (OwnICl wr (w.heap.size + 2) (.slice Av k cv) k (numsCl (mkL zs s k))) ∧
            Hid (Bx wr w.heap.size 25 (.int .i64 0) (.slice none 0 0)) ∧ Hid (Below w.heap.size w wr) ∧ Hid (w.heap.size + 2 ≤ wr.heap.size))
          (fun s1 _ _ => (intOf s1).toNat)
        case atStart => exact ⟨M, 0, rfl, rfl, by rw [HZ0.out], none, 0, HX1, hide (OwnICl.nil _ _), HX0, HB1, HS1⟩
        case round =>
          obtain ⟨r, k, hrk, rfl, rfl, Av, cv, HX, HO, HY, HB, HSZ⟩ := hrel
          have hzb := HZB.out k
          have hzb1 := nextZ_bd (numZ s k)
          by_cases h0 : 0 < r
          · have h0' : (0 : Int) < (r : Int) := by omega
            have HPk := hide (fun W hb => HP.out k W hb)
            have HZk := hide (HZS.out k)
            have HCk := hide (HCL.out k)
            have HLk := hide (HLN.out k)
            generalize numZ s k = z at *
            have HLA := hide (show (mkL zs s k ++ [mkC zs s k]).length = k + 1 from by rw [List.length_append, HLk.out]; rfl)
            have HNZ := hide hzb1
            have hk6 : k ≤ 6 := by omega
            have hz1 := hzb1.1
            have hz2 := hzb1.2
            generalize mkC zs s k = d at *
            clear HP HZS HCL HLN
            go_wp2_with fail
            refine (HN.out _ _ hzb).mono ?_; rintro e w' ⟨rfl, rfl⟩
            go_wp2_with fail
            refine (HN.out _ _ HNZ.out).mono ?_; rintro e w' ⟨rfl, rfl⟩
            go_wp2_with fail
            have x1 := HX.out.c1
            go_region_law (first
              | (refine step_app_Cls rfl (.tmp 40) (.tmp 45) 23 rfl Try.underlying23 (w.heap.size + 2) _ (mkL zs s k) rfl (by rw [HLk.out]; exact (HO.out.below FB2.out).keep fun _ _ hg => Below.heap_alloc _ _ _ hg) (some ⟨w2.heap.size, 0, none⟩) 1 1 (w2.heap.size + 1) [d] rfl (by simp) (cbox_list (CBox.new w2 38 d)) (by have := FB2.out.size; have := HSZ.out; simp; omega) (by rw [HLk.out]; omega) ?_; intro v2 w6 hown2 hb6; rw [HLA.out] at hown2; obtain ⟨A6, c6, rfl⟩ := hown2.shape; have FB6 := hide (show Below (w.heap.size + 2) wr w6 from Below.trans ((FB2.out.alloc FB2.out.size _ : Below wr.heap.size wr _).mono HSZ.out) hb6); have O6 := hide hown2; have p1 := (HX.out.below FB6.out (by omega)).c1; have pf := (HX.out.below FB6.out (by omega)).f 1; clear hown2 hb6)
              | (refine step_app_Cls rfl (.tmp 40) (.tmp 45) 23 rfl Try.underlying23 (w.heap.size + 2) _ (mkL zs s k) rfl (by rw [HLk.out]; exact (HO.out.below FB2.out).keep fun _ _ hg => Below.heap_alloc _ _ _ hg) (some ⟨w2.heap.size, 0, none⟩) 1 1 (w2.heap.size + 1) [d] rfl (by simp) (cbox_list (CBox.new w2 38 d)) (by have := FB2.out.size; have := HSZ.out; simp; omega) (by rw [HLk.out]; omega) ?_; intro v2 w6 hown2 hb6; rw [HLA.out] at hown2; obtain ⟨A6, c6, rfl⟩ := hown2.shape; have FB6 := hide (show Below (w.heap.size + 2) wr w6 from Below.trans ((Below.drew (FB2.out.alloc FB2.out.size _) : Below wr.heap.size wr _).mono HSZ.out) hb6); have O6 := hide hown2; have p1 := (HX.out.below FB6.out (by omega)).c1; have pf := (HX.out.below FB6.out (by omega)).f 1; clear hown2 hb6)
              | (go_simp; go_at_call 15; (with_reducible refine (HPk.out _ ?_).mono ?_); (exact HB.out.drew); rintro e w2 ⟨rfl, hb2⟩; have FB2 := hide (show Below wr.heap.size wr w2 from (Below.refl _ _).drew.trans hb2); have q1 := (HX.out.next FB2.out).c1; have z1 := HX.out.lt; have z2 : w.heap.size + 1 < w2.heap.size := Nat.lt_of_lt_of_le z1 FB2.out.size; clear hb2; go_wp2_with fail))
            all_goals
              have X6 := hide ((HX.out.below FB6.out (by omega)).set1 (.slice A6 (k + 1) c6))
              have Y6 := hide ((HY.out.below FB6.out (by omega)).setOther (a := ⟨w.heap.size + 1, 1, none⟩) (by simp) (.slice A6 (k + 1) c6))
              have OO6 := hide (O6.out.keep (w' := w6.setCell ⟨w.heap.size + 1, 1, none⟩ (.slice A6 (k + 1) c6)) fun g hg _ => Below.heap_setCell _ _ _ _ (by simp; omega))
              have B6 := hide ((HB.out.trans (FB6.out.mono (by omega))).setCell (p := ⟨w.heap.size + 1, 1, none⟩) (by simp) (.slice A6 (k + 1) c6))
              have S6 := hide (show w.heap.size + 2 ≤ (w6.setCell ⟨w.heap.size + 1, 1, none⟩ (.slice A6 (k + 1) c6)).heap.size from by have := FB6.out.size; have := HSZ.out; simp; omega)
              clear p1 pf x1 FB6 O6 FB2 q1 z1 z2
              generalize (w6.setCell ⟨w.heap.size + 1, 1, none⟩ (.slice A6 (k + 1) c6)) = W7 at *
              go_wp2_with fail
              go_roundw
              case rel => exact ⟨r - 1, k + 1, by omega, by go_num, by rw [HZk.out], A6, c6, X6, hide (by rw [HCk.out]; exact OO6.out), Y6, B6, S6⟩
              case measure => simp [intOf]; omega
          · obtain rfl : k = M := by omega
            obtain rfl : r = 0 := by omega
            have x0 := HX.out.c0
            have x1 := HX.out.c1
            have y0 := HY.out.c0
            have f0 := HY.out.f 0
            have R1 := HY.out.set0 (.int .i64 (zs.length : Int))
            have y1 := R1.c1
            have f1 := R1.f 1
            have MP := madeP_put (w := w) (h := (zs.length : Int)) (b1 := w.heap.size) (ds := mkL zs s k) true (Nat.le_refl _) HY.out (by rw [HLN.out k]; exact HO.out) (by omega) HB.out
            rw [HLN.out k] at MP
            obtain ⟨i0, i1, M0⟩ := MP
            have HM := hide M0
            clear M0 R1
            go_wp2_with fail
            exact bodyPost_ret (v := .tuple #[.agg #[.int .i64 (zs.length : Int), .slice Av k cv], .bool true]) (by simp [results, Try.results4, go_sem, i0, i1]) rfl HM.out
      · have HM2 := hide (decide_eq_false hs)
        have hO : mkOk zs m s = false := by unfold mkOk; rw [HM2.out]; simp
        rw [(mk_no hO).1, (mk_no hO).2, hO]
        clear hz hO hs hm
        go_enter Try.func4, Try.ntmps4
        go_wp2_with fail
        refine HH.out.mono ?_; rintro e w' ⟨rfl, rfl⟩
        go_wp2_with fail
        refine (HI.out _ _ _ _).mono ?_; rintro e w' ⟨rfl, rfl⟩; rw [HM1.out]
        go_wp2_with fail
        refine (HI.out _ _ _ _).mono ?_; rintro e w' ⟨rfl, rfl⟩; rw [HM2.out]
        go_wp2_with fail
        exact bodyPost_ret (v := .tuple #[.agg #[.int .i64 0, .slice none 0 0], .bool false]) (by simp [results, Try.results4, go_sem]) rfl (madeP_no HB0.out)
    · have HM1 := hide (decide_eq_false hm)
      have hO : mkOk zs m s = false := by unfold mkOk; rw [HM1.out]; simp
      rw [(mk_no hO).1, (mk_no hO).2, hO]
      clear hz hO hm
      go_enter Try.func4, Try.ntmps4
      go_wp2_with fail
      refine HH.out.mono ?_; rintro e w' ⟨rfl, rfl⟩
      go_wp2_with fail
      refine (HI.out _ _ _ _).mono ?_; rintro e w' ⟨rfl, rfl⟩; rw [HM1.out]
      go_wp2_with fail
      exact bodyPost_ret (v := .tuple #[.agg #[.int .i64 0, .slice none 0 0], .bool false]) (by simp [results, Try.results4, go_sem]) rfl (madeP_no HB0.out)
end Go.Proofs.Ytfmncffjaholmaa
