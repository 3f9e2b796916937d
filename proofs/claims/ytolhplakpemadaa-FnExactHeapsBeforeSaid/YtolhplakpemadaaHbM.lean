
/-
  HEAPS BEFORE, THE MODEL's WAY: dbLess, HeapsBefore. Printed by mkhbm.py.
-/
import Derived.Test.YtolhplakpemadaaHbP
import Derived.Test.YtolhplakpemadaaIns
import Derived.Test.YtolhplakpemadaaFewH
import Derived.Test.YtolhplakpemadaaCyB
import Derived.Deep.Cut
namespace Go.Proofs.Ytolhplakpemadaa
open Go.RowKit Go.Deep
set_option linter.unusedVariables false

theorem dbLess_any (A A' : Option Addr) (n c c' B B' : Nat) (x y : List Int) (w : World) (hr : Ints w B A n x) (hr' : Ints w B' A' n y) (hn : n ≤ 17592186044416) :
    Calls Try.prog 14 #[.slice A n c, .slice A' n c'] w fun e w' => e = .returned (.bool (lexLt x y)) ∧ w = w' := by
  have hlx := hr.len
  have hly := hr'.len
  have HLX := hide hlx
  have HLY := hide hly
  have HST := hide (fun k (h1 : k < x.length) (h2 : k < y.length) => lexLt_step h1 h2)
  have HEND := hide (show lexLt (x.drop n) (y.drop n) = false from by rw [List.drop_of_length_le (by omega), List.drop_of_length_le (by omega)]; rfl)
  obtain ⟨b, hb⟩ : ∃ b, lexLt x y = b := ⟨_, rfl⟩
  have H0 := hide (show lexLt (x.drop 0) (y.drop 0) = b from hb)
  rw [hb]
  clear hlx hly hb
  go_enter Try.func14, Try.ntmps14
  go_wp2_with fail
  go_loopw [9] (fun i W' => ∃ k : Nat, k ≤ n ∧ i = .int .i64 k ∧ Hid (lexLt (x.drop k) (y.drop k) = b) ∧ W' = w)
    (fun i _ => n - (intOf i).toNat)
  case atStart => exact ⟨0, Nat.zero_le _, rfl, H0, rfl⟩
  case round =>
    obtain ⟨k, hk, rfl, HK, rfl⟩ := hrel
    by_cases hlt : k < n
    · obtain ⟨ad1, rfl, _, hc1⟩ := hr.at_ hlt
      obtain ⟨ad2, rfl, _, hc2⟩ := hr'.at_ hlt
      have HS := hide (HST.out k (by have := HLX.out; omega) (by have := HLY.out; omega))
      generalize x.getD k 0 = u at *
      generalize y.getD k 0 = v at *
      by_cases huv : u = v
      · have HN := hide (show lexLt (x.drop (k + 1)) (y.drop (k + 1)) = b from by have := HS.out; rw [if_pos huv] at this; rw [← this]; exact HK.out)
        have hne : (u != v) = false := by simpa using huv
        clear huv
        go_wp2_with fail
        go_roundw
        case rel => exact ⟨k + 1, by omega, by go_num, HN, by trivial⟩
        case measure => simp [intOf]; omega
      · have hvu := hide (show decide (u < v) = b from by have := HS.out; rw [if_neg huv, HK.out] at this; exact this.symm)
        have hne : (u != v) = true := by simpa using huv
        clear huv
        go_wp2_with fail
        go_ret
        exact ⟨by rw [← hvu.out]; rfl, rfl⟩
    · obtain rfl : k = n := by omega
      have hb : b = false := HK.out.symm.trans HEND.out
      subst hb
      go_wp2_with fail
      go_ret
      exact ⟨rfl, rfl⟩

set_option maxRecDepth 1000000 in
set_option maxHeartbeats 8000000 in
theorem specHeapsBefore_any (A : Option Addr) (n c B : Nat) (zs : List Int) (w : World) (hr : Ints w B A n zs) (hB : B ≤ w.heap.size) (hn : n ≤ 17592186044416) :
    Calls Try.prog 4 #[.slice A n c] w (MadeSS (hbR zs) (few zs) w) := by
  obtain rfl := hr.len
  have HG := hide (fun W (h : Ints W B A zs.length zs) => dbGood_any A zs.length c B zs W h hn)
  cases hf : few zs
  · have H := hide (show hbR zs = [] from by unfold hbR; rw [hf]; rfl)
    rw [hf] at HG
    rw [H.out]
    clear hf
    go_enter Try.func4, Try.ntmps4
    go_wp2_with fail
    refine (HG.out _ hr).mono ?_; rintro e w' ⟨rfl, rfl⟩
    go_wp2_with fail
    go_ret2
    exact madeSS_none (Below.refl _ _)
  · obtain ⟨hs, h2, h4, _⟩ := few_small hf
    have HR := hide (show hbR zs = hbO zs zs.length from by unfold hbR; rw [hf]; rfl)
    rw [hf] at HG
    have HS := hide hs
    have HOW := hide (fun W (h : Ints W B A zs.length zs) (h' : B ≤ W.heap.size) => l1Own_any A zs.length c B zs W h h' (by omega) (by omega))
    have HRD := hide (fun W (h : Below w.heap.size w W) => hr.below h hB)
    have hRR := HR.out
    rw [hRR]
    clear hf hs hRR
    go_enter Try.func4, Try.ntmps4
    go_wp2_with fail
    refine (HG.out _ hr).mono ?_; rintro e w' ⟨rfl, rfl⟩
    go_wp2_with fail
    go_loopw [4, 16] (fun v i wr => ∃ (f : Nat) (F : List (Value × List Int)), f ≤ zs.length ∧ i = .int .i64 f ∧ Hid (OwnPs wr w.heap.size v F) ∧ Hid (F.map Prod.snd = hbO zs f) ∧ Hid (Below w.heap.size w wr) ∧ Hid (F = [] → v = .slice none 0 0))
      (fun _ i _ => zs.length - (intOf i).toNat)
    case atStart => exact ⟨0, [], Nat.zero_le _, rfl, hide (OwnPs.nil _ _), hide rfl, hide (Below.refl _ _), hide (fun _ => rfl)⟩
    case round =>
      obtain ⟨f, F, hf, rfl, HF, HFM, HB, HNil⟩ := hrel
      by_cases hlf : f < zs.length
      · have hfi : (f : Int) < (zs.length : Int) := by omega
        go_wp2_with fail
        go_loopw [4, 21] (fun v i wr => ∃ (t : Nat) (F : List (Value × List Int)), t ≤ zs.length ∧ i = .int .i64 t ∧ Hid (OwnPs wr w.heap.size v F) ∧ Hid (F.map Prod.snd = hbI zs f t (hbO zs f)) ∧ Hid (Below w.heap.size w wr) ∧ Hid (F = [] → v = .slice none 0 0))
          (fun _ i _ => zs.length - (intOf i).toNat)
        case atStart => exact ⟨0, F, Nat.zero_le _, rfl, HF, HFM, HB, HNil⟩
        case round =>
          clear HF HFM HB HNil
          obtain ⟨t, F, ht, rfl, HF, HFM, HB, HNil⟩ := hrel
          by_cases hlt : t < zs.length
          · have hti : (t : Int) < (zs.length : Int) := by omega
            obtain ⟨ad, rfl, _, hcz⟩ := (HRD.out _ HB.out).at_ hlt
            have hzb := small_get HS.out t hlt
            have hyb := small_get HS.out f hlf
            rw [← getD_get hlt] at hzb
            rw [← getD_get hlf] at hyb
            cases hok : okE zs f t
            · have HN := hide (show hbI zs f (t + 1) (hbO zs f) = hbI zs f t (hbO zs f) from by rw [hbI, hok]; simp)
              have hwhy : f = t ∨ zs.getD t 0 = 0 ∨ zs.getD t 0 % 2 = 1 := by
                apply Classical.byContradiction
                intro h
                have := of_decide_eq_false hok
                exact this ⟨hlf, hlt, by omega, by omega, by omega⟩
              clear hok
              generalize zs.getD t 0 = z at *
              by_cases hft : f = t
              · have e1 : ((f : Int) == (t : Int)) = true := by subst hft; simp
                clear hwhy hft
                go_wp2_with fail
                go_roundw
                case rel => exact ⟨t + 1, F, by omega, by go_num, HF, hide (HFM.out.trans HN.out.symm), HB, HNil⟩
                case measure => simp [intOf]; omega
              · have e1 : ((f : Int) == (t : Int)) = false := by simp; omega
                by_cases hz : z = 0
                · have e2 : (z == 0) = true := by simpa using hz
                  clear hwhy hft hz
                  go_wp2_with fail
                  go_roundw
                  case rel => exact ⟨t + 1, F, by omega, by go_num, HF, hide (HFM.out.trans HN.out.symm), HB, HNil⟩
                  case measure => simp [intOf]; omega
                · have e2 : (z == 0) = false := by simpa using hz
                  have e3 : z % 2 = 1 := by omega
                  clear hwhy hft hz
                  go_wp2_with fail
                  go_roundw
                  case rel => exact ⟨t + 1, F, by omega, by go_num, HF, hide (HFM.out.trans HN.out.symm), HB, HNil⟩
                  case measure => simp [intOf]; omega
            · obtain ⟨_, _, hft, hz, hev⟩ := okE_of hok
              have HN := hide (show hbI zs f (t + 1) (hbO zs f) = insD (F.map Prod.snd) (earl zs f t) from by rw [hbI, hok, HFM.out]; simp)
              have hnew := hide (show earl zs f t ∉ F.map Prod.snd from by rw [HFM.out]; exact hbI_new HS.out f t hok)
              have HRL := hide (fun y (hy : y ∈ F) => (show y.2.length = zs.length from hbI_rows y.2 (by rw [← HFM.out]; exact List.mem_map_of_mem hy)))
              have hFl : F.length ≤ 32 := by
                have e := congrArg List.length HFM.out
                rw [List.length_map] at e
                have h1 := hbI_len zs f (hbO zs f) t
                have h3 := hbO_len zs f
                have : f * zs.length ≤ 4 * 4 := Nat.mul_le_mul (by omega) h4
                omega
              have HEL := hide (earl_length zs f t)
              have HED := hide (show earl zs f t = (zs.set f (zs.getD f 0 + zs.getD t 0 / 2)).set t (zs.getD t 0 / 2) from rfl)
              have hcf := (HRD.out _ HB.out).cellAt hlf
              have e1 : ((f : Int) == (t : Int)) = false := by simp; omega
              have e2 : (zs.getD t 0 == 0) = false := by simpa using hz
              clear hok
              have hsr := HB.out.size
              have HOX := hide (HOW.out _ (HRD.out _ HB.out) (by omega))
              have HGF := hide (show zs[f] = zs.getD f 0 from (getD_get hlf).symm)
              obtain ⟨ol, hol⟩ : ∃ ol, ol = earl zs f t := ⟨_, rfl⟩
              rw [← hol] at HEL HED HN hnew
              have HEDx := HED.out
              clear HED hol
              generalize zs.getD t 0 = z at *
              generalize hyy : zs.getD f 0 = y at *
              go_wp2_with fail
              refine HOX.out.mono ?_; rintro e w2 ⟨g8, c8, rfl, hg8, hg8s, hc8, hc8m, hown, hb2⟩
              have x1 : w2.cell? ⟨g8, f, none⟩ = some (.int .i64 y) := by
                rw [World.ownsRow.cellAt hown f (by omega)]; simp [hlf]; rw [HGF.out]
              have f1 : w2.frozen? ⟨g8, f, none⟩ = false := World.ownsRow.frozenAt hown f
              have own1 : Own (w2.setCell ⟨g8, f, none⟩ (.int .i64 (y + z / 2))) wr.heap.size 3 (.slice (some ⟨g8, 0, none⟩) zs.length c8) (zs.set f (y + z / 2)) := Own.stored hown rfl f _
              have f2 : (w2.setCell ⟨g8, f, none⟩ (.int .i64 (y + z / 2))).frozen? ⟨g8, t, none⟩ = false := by
                have h := own1
                unfold Own at h
                rw [List.length_set] at h
                exact World.ownsRow.frozenAt h t
              have x2 : (w2.setCell ⟨g8, f, none⟩ (.int .i64 (y + z / 2))).cell? ⟨g8, t, none⟩ = some (.int .i64 zs[t]) := by
                have h := own1
                unfold Own at h
                rw [List.length_set] at h
                rw [World.ownsRow.cellAt h t (by omega)]; simp [hlt, List.getElem_set_ne hft]
              have own2 := hide (show Own ((w2.setCell ⟨g8, f, none⟩ (.int .i64 (y + z / 2))).setCell ⟨g8, t, none⟩ (.int .i64 (z / 2))) wr.heap.size 3 (.slice (some ⟨g8, 0, none⟩) zs.length c8) ol from by
                rw [HEDx]; exact Own.stored own1 (by rw [List.length_set]) t _)
              have HB2 := hide (show Below wr.heap.size wr ((w2.setCell ⟨g8, f, none⟩ (.int .i64 (y + z / 2))).setCell ⟨g8, t, none⟩ (.int .i64 (z / 2))) from (hb2.setCell (show wr.heap.size ≤ g8 by omega) _).setCell (show wr.heap.size ≤ g8 by omega) _)
              clear own1 hown hb2 HEDx
              obtain ⟨Av, cv, hv, hcv, _⟩ := HF.out.shape
              subst hv
              go_upto_region 14 with fail
              generalize ((w2.setCell ⟨g8, f, none⟩ (.int .i64 (y + z / 2))).setCell ⟨g8, t, none⟩ (.int .i64 (z / 2))) = W3 at *
              have HO6 := own2
              have HF3 := hide (HF.out.below HB2.out)
              have HAP := hide (fun y (hy : y ∈ F) => apart_old (p := (Value.slice (some ⟨g8, 0, none⟩) zs.length c8, ol)) (HF.out.2.1 y hy).1 own2.out)
              have hIo := hide (show Ints W3 W3.heap.size (some ⟨g8, 0, none⟩) zs.length ol from by have h := own2.out.ints; rw [HEL.out] at h; exact h)
              have hFl2 : (F.map Prod.snd).length = F.length := List.length_map ..
              have HFL2 := hide hFl2
              clear x1 x2 f1 f2 hFl2
              go_wp2_with fail
              go_loopw [9] (fun kv W' => ∃ k : Nat, k ≤ F.length ∧ kv = .int .i64 k ∧ Hid (posK (F.map Prod.snd) ol k = posK (F.map Prod.snd) ol F.length) ∧ W' = W3)
                (fun kv _ => (intOf kv).toNat)
              case atStart => exact ⟨F.length, Nat.le_refl _, rfl, hide rfl, rfl⟩
              case round =>
                obtain ⟨k, hk, rfl, HK, hW⟩ := hrel
                replace hW := hW.symm
                subst hW
                cases k with
                | zero =>
                  have HPI := hide (show insD (F.map Prod.snd) ol = (F.map Prod.snd).take 0 ++ (ol :: (F.map Prod.snd).drop 0) from by unfold insD posD; rw [HFL2.out, ← HK.out]; rfl)
                  have hk0 : ¬ (0 : Int) < ((0 : Nat) : Int) := by omega
                  rcases HF.out.1.2 with ⟨e, h0⟩ | ⟨gv, cap, cur, e, _⟩
                  · have hF0 : F = [] := List.eq_nil_of_length_eq_zero h0
                    injection e with e1 e2 e3
                    subst e1; subst e3
                    subst hF0
                    clear e2 h0
                    have HE0 := hide (empty_row (W3))
                    have HBe := hide (show Below (W3).heap.size (W3) ((W3).alloc (.cells #[] 22)) from (Below.refl _ _).alloc (Nat.le_refl _) _)
                    have HF6 := hide (HF.out.below HB2.out)
                    have HBw := hide (HB.out.trans (HB2.out.mono hsr))
                    have hsw := HBw.out.size
                    obtain ⟨i0, hi, _, hz1, _⟩ := info_parts3 infoRowT
                    go_wp2_with (first
                      | (at_builtin; refine wpList_append_own_none rfl _ _ 23 rfl (W3).heap.size 22 i0 1 Try.underlying23 hi (.slice (some ⟨(W3).heap.size, 0, none⟩) 0 0) 0 [] rfl HE0.out rfl ?_)
                      | (at_builtin; refine wpList_app_oneG rfl _ _ rfl (W3).heap.size (.slice (some ⟨(W3).heap.size, 0, none⟩) 0 0) 0 [] rfl HE0.out (Value.slice (some ⟨g8, 0, none⟩) zs.length c8) rfl ((W3).heap.size + 1) 1 (by simp) rfl HBe.out.size (by omega) ?_; intro v2 w2' hr2 hb2; have R2 := hide hr2; have B2 := hide (HBe.out.trans hb2); clear hr2 hb2)
                      | (at_builtin; refine wpList_append_own_none rfl _ _ 23 rfl (W3).heap.size 22 i0 1 Try.underlying23 hi v2 (0 + 1) ([] ++ [(Value.slice (some ⟨g8, 0, none⟩) zs.length c8)]) rfl R2.out rfl ?_))
                    have HG := hide (OwnPs.insert (P := 0) (F := []) HF6.out (HO6.out.less (by omega)) (fun y hy => by simp at hy) B2.out (by simpa using R2.out) (by omega) (Nat.le_refl _))
                    have HM9 : Hid ((([] : List (Value × List Int)).take 0 ++ ((Value.slice (some ⟨g8, 0, none⟩) zs.length c8), ol) :: ([] : List (Value × List Int)).drop 0).map Prod.snd = hbI zs f (t + 1) (hbO zs f)) := hide (by rw [HN.out]; rfl)
                    have HB9 := hide (HBw.out.trans (B2.out.mono (by omega)))
                    go_roundw
                    case rel => exact ⟨t + 1, _, by omega, by go_num, HG, HM9, HB9, hide (fun h => by simp at h)⟩
                    case measure => simp [intOf]; omega
                  · injection e with e1 e2 e3
                    subst e1; subst e3
                    clear e2
                    by_cases hkc : cv = 0
                    · exact absurd (HNil.out (List.eq_nil_of_length_eq_zero (by omega))) (by intro h; injection h with h; cases h)
                    · have hkcv : 0 ≤ cv := by omega
                      have hc0 : ¬ cv = 0 := by omega
                      have HE0 := hide (empty_row (W3))
                      have HBe := hide (show Below (W3).heap.size (W3) ((W3).alloc (.cells #[] 22)) from (Below.refl _ _).alloc (Nat.le_refl _) _)
                      have HF6 := hide (HF.out.below HB2.out)
                      have HBw := hide (HB.out.trans (HB2.out.mono hsr))
                      have hsw := HBw.out.size
                      have T1 := hide ((HF6.out.below HBe.out).take_cells (P := 0) (by omega))
                      go_wp2_with (first
                        | (at_builtin; refine wpList_app_vals rfl _ _ rfl (W3).heap.size (.slice (some ⟨(W3).heap.size, 0, none⟩) 0 0) 0 [] rfl HE0.out ⟨gv, 0, none⟩ 0 cv ((F.take 0).map Prod.fst) rfl T1.out.1 T1.out.2.1 T1.out.2.2 HBe.out.size (by omega) ?_; intro v1 w1' hr1 hb1; have B1 := hide (HBe.out.trans hb1); have L2 := hide (World.ownsRow.alloc hr1 (.cells #[(Value.slice (some ⟨g8, 0, none⟩) zs.length c8)] 22)); have BB1 := hide (B1.out.alloc B1.out.size (.cells #[(Value.slice (some ⟨g8, 0, none⟩) zs.length c8)] 22)); clear hr1 hb1)
                        | (at_builtin; refine wpList_app_vals rfl _ _ rfl (W3).heap.size v1 (0 + 0) ([] ++ (F.take 0).map Prod.fst) rfl L2.out ⟨w1'.heap.size, 0, none⟩ 1 1 [(Value.slice (some ⟨g8, 0, none⟩) zs.length c8)] rfl rfl (cell_one_new w1' (Value.slice (some ⟨g8, 0, none⟩) zs.length c8) 22) (by intro u hu; rw [List.mem_singleton] at hu; subst hu; rfl) BB1.out.size (by omega) ?_; intro v2 w2' hr2 hb2; have R2 := hide hr2; have B2 := hide (BB1.out.trans hb2); have T3 := hide ((HF6.out.below B2.out).drop_cells (P := 0) (by omega)); clear hr2 hb2)
                        | (at_builtin; refine wpList_app_vals rfl _ _ rfl (W3).heap.size v2 (0 + 0 + 1) (([] ++ (F.take 0).map Prod.fst) ++ [(Value.slice (some ⟨g8, 0, none⟩) zs.length c8)]) rfl R2.out ⟨gv, 0, none⟩ (F.length - 0) (cv - 0) ((F.drop 0).map Prod.fst) rfl T3.out.1 T3.out.2.1 T3.out.2.2 B2.out.size (by omega) ?_; intro v3 w3' hr3 hb3; have R3 := hide hr3; have B3 := hide (B2.out.trans hb3); clear hr3 hb3))
                      have HG := hide (OwnPs.insert (P := 0) HF6.out (HO6.out.less (by omega)) HAP.out B3.out (by
                          have hr3 := R3.out
                          rw [show 0 + 0 + 1 + (F.length - 0) = F.length + 1 from by omega] at hr3
                          rw [List.map_append, List.map_cons]; simpa using hr3
                          ) (by omega) (by omega))
                      have HM9 : Hid ((F.take 0 ++ ((Value.slice (some ⟨g8, 0, none⟩) zs.length c8), ol) :: F.drop 0).map Prod.snd = hbI zs f (t + 1) (hbO zs f)) := hide (by
                          rw [HN.out, HPI.out, List.map_append, List.map_cons, List.map_take, List.map_drop])
                      have HB9 := hide (HBw.out.trans (B3.out.mono (by omega)))
                      go_roundw
                      case rel => exact ⟨t + 1, _, by omega, by go_num, HG, HM9, HB9, hide (fun h => by simp at h)⟩
                      case measure => simp [intOf]; omega
                | succ j =>
                  have hjF : j < F.length := by omega
                  obtain ⟨ad0, hAv, hcell, g, c', hrow, hc', hI⟩ := HF3.out.at_ hjF
                  have hrl := HRL.out _ (List.getElem_mem hjF)
                  have HX := hide (show (F.map Prod.snd).getD j [] = F[j].2 from getD_map _ _ _ _ hjF)
                  have HNE := hide (show F[j].2 ≠ ol from fun e => hnew.out (by rw [← e]; exact List.mem_map_of_mem (List.getElem_mem hjF)))
                  generalize F[j] = row at *
                  obtain ⟨rv, rl⟩ := row
                  simp only at hrow hrl hI hcell hc' HX HNE
                  rw [hrl] at hrow hI hc'
                  subst hrow
                  have HDL := hide (dbLess_any (some ⟨g8, 0, none⟩) g zs.length c8 c' W3.heap.size W3.heap.size ol rl W3 hIo.out hI (by omega))
                  have e1j : ((j + 1 : Nat) : Int) - 1 = (j : Int) := by omega
                  have e2j : (0 : Int) < ((j + 1 : Nat) : Int) := by omega
                  have hjI : (j : Int) < (F.length : Int) := by omega
                  cases hlx : lexLt ol rl
                  · rw [hlx] at HDL
                    have HPK := hide (show posK (F.map Prod.snd) ol (j + 1) = j + 1 from by unfold posK; rw [HX.out, hlx]; simp)
                    have HPI := hide (show insD (F.map Prod.snd) ol = (F.map Prod.snd).take (j + 1) ++ (ol :: (F.map Prod.snd).drop (j + 1)) from by unfold insD posD; rw [HFL2.out, ← HK.out, HPK.out])
                    have heb : (rl == ol) = false := by simpa using HNE.out
                    have HSM := hide (l1Same_any g (some ⟨g8, 0, none⟩) zs.length zs.length c' c8 W3.heap.size W3.heap.size rl ol W3 hI hIo.out (Nat.le_refl _) (Nat.le_refl _) (by omega) (by omega))
                    rw [heb] at HSM
                    subst hAv
                    clear hI hrl hlx heb hc'
                    go_wp2_with fail
                    refine HDL.out.mono ?_; rintro e w' ⟨rfl, rfl⟩
                    go_wp2_with fail
                    refine HSM.out.mono ?_; rintro e w6 ⟨rfl, hb6⟩
                    have HB6 := hide (HB2.out.trans (hb6.mono HB2.out.size))
                    replace HO6 := hide (own2.out.below hb6)
                    clear hb6 HDL HSM
                    rcases HF.out.1.2 with ⟨e, h0⟩ | ⟨gv, cap, cur, e, _⟩
                    · omega
                    · injection e with e1 e2 e3
                      injection e1 with e1; subst e1; subst e3
                      clear e2
                      by_cases hkc : cv = (j + 1)
                      · subst hkc
                        have hkF : F.length = (j + 1) := by omega
                        have hkF := hide hkF
                        have HE0 := hide (empty_row (w6))
                        have HBe := hide (show Below (w6).heap.size (w6) ((w6).alloc (.cells #[] 22)) from (Below.refl _ _).alloc (Nat.le_refl _) _)
                        have HF6 := hide (HF.out.below HB6.out)
                        have HBw := hide (HB.out.trans (HB6.out.mono hsr))
                        have hsw := HBw.out.size
                        have T1 := hide ((HF6.out.below HBe.out).take_cells (P := (j + 1)) (by omega))
                        go_wp2_with (first
                          | (at_builtin; refine wpList_app_vals rfl _ _ rfl (w6).heap.size (.slice (some ⟨(w6).heap.size, 0, none⟩) 0 0) 0 [] rfl HE0.out ⟨gv, 0, none⟩ (j + 1) (j + 1) ((F.take (j + 1)).map Prod.fst) rfl T1.out.1 T1.out.2.1 T1.out.2.2 HBe.out.size (by omega) ?_; intro v1 w1' hr1 hb1; have B1 := hide (HBe.out.trans hb1); have L2 := hide (World.ownsRow.alloc hr1 (.cells #[(Value.slice (some ⟨g8, 0, none⟩) zs.length c8)] 22)); have BB1 := hide (B1.out.alloc B1.out.size (.cells #[(Value.slice (some ⟨g8, 0, none⟩) zs.length c8)] 22)); clear hr1 hb1)
                          | (at_builtin; refine wpList_app_vals rfl _ _ rfl (w6).heap.size v1 (0 + (j + 1)) ([] ++ (F.take (j + 1)).map Prod.fst) rfl L2.out ⟨w1'.heap.size, 0, none⟩ 1 1 [(Value.slice (some ⟨g8, 0, none⟩) zs.length c8)] rfl rfl (cell_one_new w1' (Value.slice (some ⟨g8, 0, none⟩) zs.length c8) 22) (by intro u hu; rw [List.mem_singleton] at hu; subst hu; rfl) BB1.out.size (by omega) ?_; intro v2 w2' hr2 hb2; have R2 := hide hr2; have B2 := hide (BB1.out.trans hb2); skip; clear hr2 hb2)
                          | (at_builtin; refine wpList_app_vals rfl _ _ rfl (w6).heap.size v2 (0 + (j + 1) + 1) (([] ++ (F.take (j + 1)).map Prod.fst) ++ [(Value.slice (some ⟨g8, 0, none⟩) zs.length c8)]) rfl R2.out ⟨gv, 0, none⟩ 0 0 [] rfl rfl (by intro j u h; simp at h) (by intro u h; simp at h) B2.out.size (by omega) ?_; intro v3 w3' hr3 hb3; have R3 := hide hr3; have B3 := hide (B2.out.trans hb3); clear hr3 hb3))
                        have HG := hide (OwnPs.insert (P := (j + 1)) HF6.out (HO6.out.less (by omega)) HAP.out B3.out (by
                            have hr3 := R3.out
                            rw [show 0 + (j + 1) + 1 + 0 = F.length + 1 from by omega] at hr3
                            rw [show F.drop (j + 1) = [] from List.drop_eq_nil_of_le (by omega), List.map_append, List.map_cons]; simpa using hr3
                            ) (by omega) (by omega))
                        have HM9 : Hid ((F.take (j + 1) ++ ((Value.slice (some ⟨g8, 0, none⟩) zs.length c8), ol) :: F.drop (j + 1)).map Prod.snd = hbI zs f (t + 1) (hbO zs f)) := hide (by
                            rw [HN.out, HPI.out, List.map_append, List.map_cons, List.map_take, List.map_drop])
                        have HB9 := hide (HBw.out.trans (B3.out.mono (by omega)))
                        go_roundw
                        case rel => exact ⟨t + 1, _, by omega, by go_num, HG, HM9, HB9, hide (fun h => by simp at h)⟩
                        case measure => simp [intOf]; omega
                      · have hkcv : (j + 1) ≤ cv := by omega
                        have hc0 : ¬ cv = 0 := by omega
                        have HE0 := hide (empty_row (w6))
                        have HBe := hide (show Below (w6).heap.size (w6) ((w6).alloc (.cells #[] 22)) from (Below.refl _ _).alloc (Nat.le_refl _) _)
                        have HF6 := hide (HF.out.below HB6.out)
                        have HBw := hide (HB.out.trans (HB6.out.mono hsr))
                        have hsw := HBw.out.size
                        have T1 := hide ((HF6.out.below HBe.out).take_cells (P := (j + 1)) (by omega))
                        go_wp2_with (first
                          | (at_builtin; refine wpList_app_vals rfl _ _ rfl (w6).heap.size (.slice (some ⟨(w6).heap.size, 0, none⟩) 0 0) 0 [] rfl HE0.out ⟨gv, 0, none⟩ (j + 1) cv ((F.take (j + 1)).map Prod.fst) rfl T1.out.1 T1.out.2.1 T1.out.2.2 HBe.out.size (by omega) ?_; intro v1 w1' hr1 hb1; have B1 := hide (HBe.out.trans hb1); have L2 := hide (World.ownsRow.alloc hr1 (.cells #[(Value.slice (some ⟨g8, 0, none⟩) zs.length c8)] 22)); have BB1 := hide (B1.out.alloc B1.out.size (.cells #[(Value.slice (some ⟨g8, 0, none⟩) zs.length c8)] 22)); clear hr1 hb1)
                          | (at_builtin; refine wpList_app_vals rfl _ _ rfl (w6).heap.size v1 (0 + (j + 1)) ([] ++ (F.take (j + 1)).map Prod.fst) rfl L2.out ⟨w1'.heap.size, 0, none⟩ 1 1 [(Value.slice (some ⟨g8, 0, none⟩) zs.length c8)] rfl rfl (cell_one_new w1' (Value.slice (some ⟨g8, 0, none⟩) zs.length c8) 22) (by intro u hu; rw [List.mem_singleton] at hu; subst hu; rfl) BB1.out.size (by omega) ?_; intro v2 w2' hr2 hb2; have R2 := hide hr2; have B2 := hide (BB1.out.trans hb2); have T3 := hide ((HF6.out.below B2.out).drop_cells (P := (j + 1)) (by omega)); clear hr2 hb2)
                          | (at_builtin; refine wpList_app_vals rfl _ _ rfl (w6).heap.size v2 (0 + (j + 1) + 1) (([] ++ (F.take (j + 1)).map Prod.fst) ++ [(Value.slice (some ⟨g8, 0, none⟩) zs.length c8)]) rfl R2.out ⟨gv, (j + 1), none⟩ (F.length - (j + 1)) (cv - (j + 1)) ((F.drop (j + 1)).map Prod.fst) rfl T3.out.1 T3.out.2.1 T3.out.2.2 B2.out.size (by omega) ?_; intro v3 w3' hr3 hb3; have R3 := hide hr3; have B3 := hide (B2.out.trans hb3); clear hr3 hb3))
                        have HG := hide (OwnPs.insert (P := (j + 1)) HF6.out (HO6.out.less (by omega)) HAP.out B3.out (by
                            have hr3 := R3.out
                            rw [show 0 + (j + 1) + 1 + (F.length - (j + 1)) = F.length + 1 from by omega] at hr3
                            rw [List.map_append, List.map_cons]; simpa using hr3
                            ) (by omega) (by omega))
                        have HM9 : Hid ((F.take (j + 1) ++ ((Value.slice (some ⟨g8, 0, none⟩) zs.length c8), ol) :: F.drop (j + 1)).map Prod.snd = hbI zs f (t + 1) (hbO zs f)) := hide (by
                            rw [HN.out, HPI.out, List.map_append, List.map_cons, List.map_take, List.map_drop])
                        have HB9 := hide (HBw.out.trans (B3.out.mono (by omega)))
                        go_roundw
                        case rel => exact ⟨t + 1, _, by omega, by go_num, HG, HM9, HB9, hide (fun h => by simp at h)⟩
                        case measure => simp [intOf]; omega
                  · rw [hlx] at HDL
                    have HPK := hide (show posK (F.map Prod.snd) ol (j + 1) = posK (F.map Prod.snd) ol j from by rw [posK]; rw [HX.out, hlx]; simp)
                    subst hAv
                    clear hI hrl hlx hc'
                    go_wp2_with fail
                    refine HDL.out.mono ?_; rintro e w' ⟨rfl, rfl⟩
                    go_wp2_with fail
                    go_roundw
                    case rel => exact ⟨j, by omega, by go_num, hide (HPK.out.symm.trans HK.out), by trivial⟩
                    case measure => simp [intOf]
          · obtain rfl : t = zs.length := by omega
            go_wp2_with fail
            go_roundw
            case rel => exact ⟨f + 1, F, by omega, by go_num, HF, HFM, HB, HNil⟩
            case measure => simp [intOf]; omega
      · obtain rfl : f = zs.length := by omega
        have hv := HF.out.toVs
        rw [HFM.out] at hv
        obtain ⟨A', c', e, h1, h2⟩ := hv.shape
        subst e
        go_wp2_with fail
        go_ret2
        exact ⟨A', c', _, rfl, h1, h2, hv, HB.out⟩
end Go.Proofs.Ytolhplakpemadaa
