
/-
  DOUBLINGS, BOTH WAYS: CanDouble, PlayDoublings, DoubleHeap.
-/
import Derived.Test.YtbnlpcaionoecaaFewH
import Derived.Test.YtbnlpcaionoecaaDoub
import Derived.Test.YtbnlpcaionoecaaDoubP
import Derived.Test.YtbnlpcaionoecaaRowL
namespace Go.Proofs.Ytbnlpcaionoecaa
open Go.RowKit Go.Deep
set_option linter.unusedVariables false

set_option maxHeartbeats 2000000 in
theorem specPlayDoublings_any (A : Option Addr) (n c B : Nat) (A' : Option Addr) (n' c' B' : Nat) (zs : List Int) (ds : List Db) (w : World) (hr : Ints w B A n zs) (hB : B ≤ w.heap.size) (hn : n ≤ 17592186044416) (hd : Dbs w B' A' n' ds) (hB' : B' ≤ w.heap.size) (hn' : n' ≤ 1099511627776) :
    Calls Try.prog 13 #[.slice A n c, .slice A' n' c'] w (MadeR (dplayL zs ds) (dplayOk zs ds) w) := by
  obtain rfl := hr.len
  obtain rfl := hd.len
  have HG := hide (fun W (h : Ints W B A zs.length zs) => dbGood_any A zs.length c B zs W h hn)
  cases hf : few zs
  · have H := hide (dplayOk_bad (ds := ds) hf)
    rw [hf] at HG
    rw [dplayL_no H.out, H.out]
    clear hf
    go_enter Try.func13, Try.ntmps13
    go_wp2_with fail
    refine (HG.out _ hr).mono ?_; rintro e w' ⟨rfl, rfl⟩
    go_wp2_with fail
    go_ret2
    exact madeR_none (Below.refl _ _)
  · by_cases hl : ds.length ≤ 100
    · have hs := few_small hf
      have HF := hide hf
      rw [hf] at HG
      have hl1 : 1 ≤ zs.length := by omega
      have hl2 : zs.length ≤ 4 := by omega
      have HSm := hide hs.1
      clear hf hs
      go_enter Try.func13, Try.ntmps13
      go_wp2_with fail
      refine (HG.out _ hr).mono ?_; rintro e w' ⟨rfl, rfl⟩
      go_wp2_with fail
      refine (l1Own_any _ _ _ _ zs _ hr hB (by omega) (by omega)).mono ?_
      rintro e w1 ⟨g1, cap1, rfl, hg1, hz1, hc1, hm1, hown1, hb1⟩
      go_wp2_with fail
      go_loopw [6, 21] (fun v i wr => ∃ (k : Nat) (ys : List Int) (g cap : Nat), k ≤ ds.length ∧ i = .int .i64 k ∧ v = .slice (some ⟨g, 0, none⟩) ys.length cap ∧ Hid (dplay zs (ds.take k) = some ys) ∧ w.heap.size ≤ g ∧ ys.length ≤ cap ∧ cap ≤ maxLen ∧
          Own wr w.heap.size 3 (.slice (some ⟨g, 0, none⟩) ys.length cap) ys ∧ Below w.heap.size w wr)
        (fun _ i _ => ds.length - (intOf i).toNat)
      case atStart => exact ⟨0, zs, g1, cap1, Nat.zero_le _, rfl, rfl, hide rfl, hg1, hc1, hm1, hown1, hb1⟩
      case round =>
        obtain ⟨k, ys, g, cap, hk, rfl, rfl, HP, hg, hcy, hmy, hown, hb⟩ := hrel
        have hys := dplay_small _ _ _ HSm.out HP.out
        have HY := hide hys.1
        have HYl := hide hys.2
        have hy0 : 1 ≤ ys.length := by rw [hys.2]; exact hl1
        have hy4 : ys.length ≤ 4 := by rw [hys.2]; exact hl2
        have hsz := hb.size
        clear hys
        by_cases hlt : k < ds.length
        · obtain ⟨b, off, rfl, hab, hc0, hc1'⟩ := (hd.below hb hB').at_ hlt hlt
          have HN := hide (dplay_take_succ zs ds k hlt ys HP.out)
          have HC := hide (fun W (h : Ints W wr.heap.size (some ⟨g, 0, none⟩) ys.length ys) (h' : wr.heap.size ≤ W.heap.size) => dbCan_any (some ⟨g, 0, none⟩) ys.length cap wr.heap.size ys ds[k].x0 ds[k].x1 W h h' (by omega) (by omega))
          have hI := hown.ints
          cases hcan : canD ys ds[k].x0 ds[k].x1
          · have HB := hide (dplayOk_stuck (zs := zs) (dplay_stuck zs ds (k + 1) (by rw [HN.out, hcan]; rfl)))
            rw [dplayL_no HB.out, HB.out]
            rw [hcan] at HC
            clear hcan
            generalize ds[k] = d at *
            go_wp2_with fail
            have hI0 := hI.alloc (Nat.le_refl _) (.cells #[.int .i64 d.x0, .int .i64 d.x1] 28)
            have z0 : wr.heap.size ≤ (wr.alloc (.cells #[.int .i64 d.x0, .int .i64 d.x1] 28)).heap.size := by simp
            with_reducible refine (HC.out _ hI0 z0).mono ?_
            rintro e w4 ⟨rfl, hb4⟩
            go_wp2_with fail
            go_ret2
            exact madeR_none (below_next (hb.alloc hsz _) hb4)
          · obtain ⟨i, j, e0, e1, hi, hj, hij, hz, hle⟩ := canD_ix hcan
            have HNx := hide (show dplay zs (ds.take (k + 1)) = some (dmade i j ys) from by rw [HN.out, hcan, e0, e1]; rfl)
            rw [hcan] at HC
            rw [e0, e1] at HC
            rw [e0] at hc0
            rw [e1] at hc1'
            have HM := hide (fun W (h : Ints W wr.heap.size (some ⟨g, 0, none⟩) ys.length ys) (h' : wr.heap.size ≤ W.heap.size) => dbMake_any (some ⟨g, 0, none⟩) ys.length cap wr.heap.size ys i j W h h' (by omega) HY.out hi hj hij (by rw [getD_get hi, getD_get hj]; exact hle))
            clear hcan e0 e1 HN HP hz hle
            go_wp2_with fail
            have hbo : Below w.heap.size w (wr.alloc (.cells #[.int .i64 (i : Int), .int .i64 (j : Int)] 28)) := hb.alloc hsz _
            have k0 : (wr.alloc (.cells #[.int .i64 (i : Int), .int .i64 (j : Int)] 28)).cell? ⟨wr.heap.size, 0, none⟩ = some (.int .i64 (i : Int)) := by simp
            have k1 : (wr.alloc (.cells #[.int .i64 (i : Int), .int .i64 (j : Int)] 28)).cell? ⟨wr.heap.size, 1, none⟩ = some (.int .i64 (j : Int)) := by simp
            have z0 : wr.heap.size < (wr.alloc (.cells #[.int .i64 (i : Int), .int .i64 (j : Int)] 28)).heap.size := by simp
            have hI0 := hI.alloc (Nat.le_refl _) (.cells #[.int .i64 (i : Int), .int .i64 (j : Int)] 28)
            generalize (wr.alloc (.cells #[.int .i64 (i : Int), .int .i64 (j : Int)] 28)) = W0 at *
            refine (HC.out _ hI0 (Nat.le_of_lt z0)).mono ?_; rintro e w4 ⟨rfl, hb4⟩
            have q0 := (hb4.cell (p := ⟨wr.heap.size, 0, none⟩) z0).trans k0
            have q1 := (hb4.cell (p := ⟨wr.heap.size, 1, none⟩) z0).trans k1
            have s4 := hb4.size
            have hI4 := hI0.below hb4 (Nat.le_of_lt z0)
            clear k0 k1
            go_wp2_with fail
            refine (HM.out _ hI4 (by omega)).mono ?_; rintro e w5 ⟨g5, c5, rfl, hg5, hz5, hc5, hm5, hown5, hb5⟩
            clear q0 q1
            go_wp2_with fail
            go_roundw
            case rel => exact ⟨k + 1, _, g5, c5, by omega, by go_num, rfl, HNx, by omega, hc5, hm5, hown5.less (by omega), below_next (below_next hbo hb4) hb5⟩
            case measure => simp [intOf]; omega
        · have hfull : dplay zs ds = some ys := by
            have := HP.out
            rwa [List.take_of_length_le (by omega)] at this
          have Hy := hide (dplayOk_yes HF.out hl hfull)
          have Hf := hide hfull
          clear hfull
          go_wp2_with fail
          go_ret2
          rw [dplayL_yes Hy.out Hf.out, Hy.out]
          exact ⟨_, cap, rfl, hcy, hmy, hown, hb⟩
    · have H := hide (dplayOk_long (zs := zs) hl)
      rw [hf] at HG
      rw [dplayL_no H.out, H.out]
      clear hf
      go_enter Try.func13, Try.ntmps13
      go_wp2_with fail
      refine (HG.out _ hr).mono ?_; rintro e w' ⟨rfl, rfl⟩
      go_wp2_with fail
      go_ret2
      exact madeR_none (Below.refl _ _)

set_option maxHeartbeats 2000000 in
theorem PlayDoublings_any (A : Option Addr) (n c B : Nat) (A' : Option Addr) (n' c' B' : Nat) (zs : List Int) (ds : List Db) (w : World) (hr : Ints w B A n zs) (hB : B ≤ w.heap.size) (hn : n ≤ 17592186044416) (hd : Dbs w B' A' n' ds) (hB' : B' ≤ w.heap.size) (hn' : n' ≤ 1099511627776) :
    Calls Try.prog 15 #[.slice A n c, .slice A' n' c'] w (MadeR (dplayL zs ds) (dplayOk zs ds) w) := by
  obtain rfl := hr.len
  obtain rfl := hd.len
  have HG := hide (fun W (h : Ints W B A zs.length zs) => AreFewHeaps_any A zs.length c B zs W h hn)
  cases hf : few zs
  · have H := hide (dplayOk_bad (ds := ds) hf)
    rw [hf] at HG
    rw [dplayL_no H.out, H.out]
    clear hf
    go_enter Try.func15, Try.ntmps15
    go_wp2_with fail
    refine (HG.out _ hr).mono ?_; rintro e w' ⟨rfl, rfl⟩
    go_wp2_with fail
    go_ret2
    exact madeR_none (Below.refl _ _)
  · by_cases hl : ds.length ≤ 100
    · have hs := few_small hf
      have HF := hide hf
      rw [hf] at HG
      have hl1 : 1 ≤ zs.length := by omega
      have hl2 : zs.length ≤ 4 := by omega
      have HSm := hide hs.1
      have HR := hide (fun W (h : Ints W B A zs.length zs) (h' : B ≤ W.heap.size) => rowOf_any A zs.length c B zs W h h' hl2 hl1)
      clear hf hs
      go_enter Try.func15, Try.ntmps15
      go_wp2_with fail
      refine (HG.out _ hr).mono ?_; rintro e w' ⟨rfl, rfl⟩
      go_wp2_with fail
      refine (HR.out _ hr hB).mono ?_; rintro e w1 ⟨rfl, hb1⟩
      go_wp2_with fail
      have hrow1 := row4_alloc w1 zs 45
      have hs1 := hb1.size
      have hb1' := hb1.alloc hb1.size (.cells #[.int .i64 (pd zs 0), .int .i64 (pd zs 1), .int .i64 (pd zs 2), .int .i64 (pd zs 3)] 45)
      have z1 : w1.heap.size < (w1.alloc (.cells #[.int .i64 (pd zs 0), .int .i64 (pd zs 1), .int .i64 (pd zs 2), .int .i64 (pd zs 3)] 45)).heap.size := by simp
      generalize (w1.alloc (.cells #[.int .i64 (pd zs 0), .int .i64 (pd zs 1), .int .i64 (pd zs 2), .int .i64 (pd zs 3)] 45)) = wa at *
      generalize w1.heap.size = br at *
      go_loopw [21] (fun i wr => ∃ (k : Nat) (ys : List Int), k ≤ ds.length ∧ i = .int .i64 k ∧ Hid (dplay zs (ds.take k) = some ys) ∧ wr.rowIs br 45 4 (fun j => .int .i64 (pd ys j)) ∧ br < wr.heap.size ∧ Below w.heap.size w wr)
        (fun i _ => ds.length - (intOf i).toNat)
      case atStart => exact ⟨0, zs, Nat.zero_le _, rfl, hide rfl, hrow1, z1, hb1'⟩
      case round =>
        obtain ⟨k, ys, hk, rfl, HP, hrow, hzr, hb⟩ := hrel
        have hys := dplay_small _ _ _ HSm.out HP.out
        have HY := hide hys.1
        have hy0 : 1 ≤ ys.length := by rw [hys.2]; exact hl1
        have hy4 : ys.length ≤ 4 := by rw [hys.2]; exact hl2
        have hsz := hb.size
        clear hys
        by_cases hlt : k < ds.length
        · obtain ⟨b, off, rfl, hab, hc0, hc1'⟩ := (hd.below hb hB').at_ hlt hlt
          have HN := hide (dplay_take_succ zs ds k hlt ys HP.out)
          have HC := hide (fun W => canDouble_any ys ds[k].x0 ds[k].x1 W HY.out hy4)
          cases hcan : canD ys ds[k].x0 ds[k].x1
          · have HB := hide (dplayOk_stuck (zs := zs) (dplay_stuck zs ds (k + 1) (by rw [HN.out, hcan]; rfl)))
            rw [hcan] at HC
            clear hcan
            generalize ds[k] = d at *
            have hrow0 := hrow.of_block (w' := wr.alloc (.cells #[.int .i64 d.x0, .int .i64 d.x1] 28)) (Below.heap_alloc _ _ _ hzr)
            obtain ⟨r0, r1, r2, r3⟩ := four_cells hrow0
            clear hrow hrow0
            go_wp2_with fail
            with_reducible refine (HC.out _).mono ?_
            rintro e w4 ⟨rfl, hb4⟩
            clear r0 r1 r2 r3
            go_wp2_with fail
            go_ret2
            rw [dplayL_no HB.out, HB.out]
            exact madeR_none (below_next (hb.alloc hsz _) hb4)
          · obtain ⟨i, j, e0, e1, hi, hj, hij, hz, hle⟩ := canD_ix hcan
            have HNx := hide (show dplay zs (ds.take (k + 1)) = some (dmade i j ys) from by rw [HN.out, hcan, e0, e1]; rfl)
            rw [hcan] at HC
            rw [e0, e1] at HC
            rw [e0] at hc0
            rw [e1] at hc1'
            have HM := hide (fun W => doubled_any ys i j W HY.out hy4 hi hj hij hle)
            have hrow0 := hrow.of_block (w' := wr.alloc (.cells #[.int .i64 (i : Int), .int .i64 (j : Int)] 28)) (Below.heap_alloc _ _ _ hzr)
            clear hcan e0 e1 HN HP hz hle hrow
            obtain ⟨r0, r1, r2, r3⟩ := four_cells hrow0
            have Hrow0 := hide hrow0
            clear hrow0
            go_wp2_with fail
            have hbo : Below w.heap.size w (wr.alloc (.cells #[.int .i64 (i : Int), .int .i64 (j : Int)] 28)) := hb.alloc hsz _
            have k0 : (wr.alloc (.cells #[.int .i64 (i : Int), .int .i64 (j : Int)] 28)).cell? ⟨wr.heap.size, 0, none⟩ = some (.int .i64 (i : Int)) := by simp
            have k1 : (wr.alloc (.cells #[.int .i64 (i : Int), .int .i64 (j : Int)] 28)).cell? ⟨wr.heap.size, 1, none⟩ = some (.int .i64 (j : Int)) := by simp
            have z0 : wr.heap.size < (wr.alloc (.cells #[.int .i64 (i : Int), .int .i64 (j : Int)] 28)).heap.size := by simp
            generalize (wr.alloc (.cells #[.int .i64 (i : Int), .int .i64 (j : Int)] 28)) = W0 at *
            with_reducible refine (HC.out _).mono ?_
            rintro e w4 ⟨rfl, hb4⟩
            have q0 := (hb4.cell (p := ⟨wr.heap.size, 0, none⟩) z0).trans k0
            have q1 := (hb4.cell (p := ⟨wr.heap.size, 1, none⟩) z0).trans k1
            have s4 := hb4.size
            have hrow4 := Hrow0.out.of_block (hb4.block _ (by omega))
            clear k0 k1 r0 r1 r2 r3
            obtain ⟨r0, r1, r2, r3⟩ := four_cells hrow4
            have Hrow4 := hide hrow4
            clear hrow4
            go_wp2_with fail
            with_reducible refine (HM.out _).mono ?_
            rintro e w5 ⟨rfl, hb5⟩
            have hrow5 := Hrow4.out.of_block (hb5.block _ (by omega))
            clear q0 q1 r0 r1 r2 r3
            obtain ⟨r0, r1, r2, r3⟩ := four_cells hrow5
            obtain ⟨f0, f1, f2, f3⟩ := four_free hrow5
            have HFS := hide (four_store hrow5 (fun j' => Value.int .i64 (pd (dmade i j ys) j')))
            have s5 := hb5.size
            clear hrow5
            go_wp2_with fail
            go_roundw
            case rel => exact ⟨k + 1, _, by omega, by go_num, HNx, HFS.out, by simp; omega, ((((below_next (below_next hbo hb4) hb5).setCell (show w.heap.size ≤ br by omega) _ (p := ⟨br, 0, none⟩)).setCell (show w.heap.size ≤ br by omega) _ (p := ⟨br, 1, none⟩)).setCell (show w.heap.size ≤ br by omega) _ (p := ⟨br, 2, none⟩)).setCell (show w.heap.size ≤ br by omega) _ (p := ⟨br, 3, none⟩)⟩
            case measure => simp [intOf]; omega
        · have hfull : dplay zs ds = some ys := by
            have := HP.out
            rwa [List.take_of_length_le (by omega)] at this
          have Hy := hide (dplayOk_yes HF.out hl hfull)
          have Hf := hide hfull
          have HL := hide (fun W => rowList_any ys W HY.out hy4)
          obtain ⟨r0, r1, r2, r3⟩ := four_cells hrow
          clear hfull hrow
          go_wp2_with fail
          with_reducible refine (HL.out _).mono ?_
          rintro e w5 ⟨Ag, cg, rfl, h51, h52, hown5, hb5⟩
          clear r0 r1 r2 r3
          go_wp2_with fail
          go_ret2
          rw [dplayL_yes Hy.out Hf.out, Hy.out]
          exact ⟨Ag, cg, rfl, h51, h52, hown5.less hsz, below_next hb hb5⟩
    · have H := hide (dplayOk_long (zs := zs) hl)
      rw [hf] at HG
      rw [dplayL_no H.out, H.out]
      clear hf
      go_enter Try.func15, Try.ntmps15
      go_wp2_with fail
      refine (HG.out _ hr).mono ?_; rintro e w' ⟨rfl, rfl⟩
      go_wp2_with fail
      go_ret2
      exact madeR_none (Below.refl _ _)
end Go.Proofs.Ytbnlpcaionoecaa
