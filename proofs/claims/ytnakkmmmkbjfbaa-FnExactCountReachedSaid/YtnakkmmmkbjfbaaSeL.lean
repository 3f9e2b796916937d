
/-
  THE ROWS BEHIND ONE DOUBLING, THE PROGRAM's WAY: the walk of newBehind.
-/
import Derived.Test.YtnakkmmmkbjfbaaSeJ
import Derived.Test.YtnakkmmmkbjfbaaDbAt
namespace Go.Proofs.Ytnakkmmmkbjfbaa
open Go.RowKit Go.Deep
open Go.Maps (Keyed)
set_option linter.unusedVariables false

theorem alloc2_cells (X : World) (a b : Value) (T : TypeId) : (X.alloc (.cells #[a, b] T)).cell? ⟨X.heap.size, 0, none⟩ = some a ∧ (X.alloc (.cells #[a, b] T)).cell? ⟨X.heap.size, 1, none⟩ = some b := by
  have e : (X.alloc (.cells #[a, b] T)).heap[X.heap.size]? = some (.cells #[a, b] T (0, 0)) := by
    show (X.heap.push _)[X.heap.size]? = _
    simp
  constructor
  · unfold World.cell?; rw [show (⟨X.heap.size, 0, none⟩ : Addr).block = X.heap.size from rfl, e]; rfl
  · unfold World.cell?; rw [show (⟨X.heap.size, 1, none⟩ : Addr).block = X.heap.size from rfl, e]; rfl

set_option maxRecDepth 100000 in
set_option maxHeartbeats 8000000 in
theorem newBehind_any (zs : List Int) (k : Nat) (p : StP) (hp : (Qn zs k)[k]? = some p) (hs : small zs) (h2 : 2 ≤ zs.length) (h4 : zs.length ≤ 4) (mb : Nat) (w : World) (hm : MapQ w mb (Qn zs k)) :
    Calls Try.prog 46 #[.agg #[.int .i64 (pd p.1 0), .int .i64 (pd p.1 1), .int .i64 (pd p.1 2), .int .i64 (pd p.1 3)], .map (some mb)] w fun e w' => ∃ v, e = .returned v ∧
      OwnHR w' (w.heap.size + 1) v ((Nj (Qn zs k) p (allD p.1).length).map Prod.fst) ∧ MapQ w' mb (Qn zs (k + 1)) ∧ Below mb w w' ∧ ∀ g, g < w.heap.size → g ≠ mb → w'.heap[g]? = w.heap[g]? := by
  have HP := hide hp
  have hst := (Qn_ok hs k).state p (List.mem_of_getElem? hp)
  have HST := hide hst
  have hrow := row4_alloc w p.1 42
  have hb : Below w.heap.size w (w.alloc (.cells #[.int .i64 (pd p.1 0), .int .i64 (pd p.1 1), .int .i64 (pd p.1 2), .int .i64 (pd p.1 3)] 42)) := (Below.refl _ _).alloc (Nat.le_refl _) _
  have hm1 := hm.below hb
  have hml := hm.lt
  have hsz : (w.alloc (.cells #[.int .i64 (pd p.1 0), .int .i64 (pd p.1 1), .int .i64 (pd p.1 2), .int .i64 (pd p.1 3)] 42)).heap.size = w.heap.size + 1 := by simp
  obtain ⟨W1, hW1⟩ : ∃ W1, W1 = w.alloc (.cells #[.int .i64 (pd p.1 0), .int .i64 (pd p.1 1), .int .i64 (pd p.1 2), .int .i64 (pd p.1 3)] 42) := ⟨_, rfl⟩
  have HDO := hide (fun W => doublings_any p.1 W hst.1 (by rw [hst.2.1]; exact h2) (by rw [hst.2.1]; exact h4))
  have HQN := hide (Qi_end hp)
  obtain ⟨c0, c1, c2, c3⟩ := four_cells hrow
  have HRW := hide hrow
  rw [← hW1] at HRW hb hm1 hsz
  have HB1 := hide hb
  have HM1 := hide hm1
  clear hp hst hrow hb hm hm1
  have HLen := hide (fun i => Qi_len hs (by omega) h4 HP.out i)
  have HQS := hide (fun i => Qi_state hs HP.out i)
  have HS := hide hs
  clear hs
  go_enter Try.func46, Try.ntmps46
  go_wp2_with fail
  rw [← hW1]
  clear hW1 c0 c1 c2 c3
  refine (HDO.out W1).mono ?_; rintro e w5 ⟨A', c', rfl, hds, hb5⟩
  have HN0 := hide (show NbI w mb (Qn zs k) (Nj (Qn zs k) p 0) p.1 A' c' (allD p.1) (.slice none 0 0) w5 from by
    have hNj : Nj (Qn zs k) p 0 = [] := by simp [Nj, ddN]
    rw [hNj]
    exact ⟨by rw [List.append_nil]; exact HM1.out.below hb5, OwnHR.nil _ _, HRW.out.of_block (hb5.block _ (by omega)), hds.less (by omega), (fun b hb h => by cases h), hml, ((HB1.out.trans (hb5.mono (by omega))).mono (by omega)), (fun g hg _ => (hb5.block g (by omega)).trans (HB1.out.block g hg)), by have := hb5.size; omega⟩)
  have hL : (allD p.1).length ≤ 16 := Nat.le_trans (outD_len p.1 p.1.length) (Nat.mul_le_mul (show p.1.length ≤ 4 by have := HST.out.2.1; omega) (show p.1.length ≤ 4 by have := HST.out.2.1; omega))
  clear hds hb5 HRW HB1 HM1
  generalize hds2 : allD p.1 = ds at *
  have HDS := hide hds2
  clear hds2
  go_wp2_with fail
  go_loopw [5, 14] (fun v i X => ∃ (j : Nat) (v' : Value), j ≤ ds.length ∧ i = .int .i64 (j : Int) ∧ v' = v ∧ Hid (NbI w mb (Qn zs k) (Nj (Qn zs k) p j) p.1 A' c' ds v' X))
    (fun _ i _ => ds.length - (intOf i).toNat)
  case atStart => exact ⟨0, _, Nat.zero_le _, rfl, rfl, HN0⟩
  case round =>
    clear HN0
    obtain ⟨j, v, hj, rfl, hv, HN⟩ := hrel
    subst hv
    obtain ⟨X, hX⟩ : ∃ X, X = wr := ⟨_, rfl⟩
    subst hX
    by_cases hltj : j < ds.length
    · obtain ⟨d, hd⟩ : ∃ d, ds[j]? = some d := ⟨_, List.getElem?_eq_getElem hltj⟩
      have hdm : d ∈ allD p.1 := by rw [HDS.out]; exact List.mem_of_getElem? hd
      obtain ⟨i1, j1, hdd, hi1, hj1, hne, hpos, hle, hnx⟩ := allD_ix hdm
      have hny := nx_small HST.out.1 hdm
      obtain ⟨gb, off, eA, _, hc0, hc1⟩ := HN.out.dso.list.at_ hltj hltj
      rw [(List.getElem?_eq_some_iff.1 hd).2, hdd] at hc0 hc1
      subst eA
      have HSU := hide (Qi_succ (zs := zs) (k := k) (p := p) (i := j) (by rw [HDS.out]; exact hd))
      rw [hdd, ← Nj_Qi, ← Nj_Qi] at HSU
      have hnxx : nx p.1 ⟨(i1 : Int), (j1 : Int)⟩ = dmade i1 j1 p.1 := by rw [← hdd]; exact hnx
      rw [hnxx] at HSU
      rw [hnx] at hny
      have HDB := hide (fun W => doubled_any p.1 i1 j1 W HST.out.1 (by rw [HST.out.2.1]; exact h4) hi1 hj1 hne (by rw [getD_get hj1, getD_get hi1] at hle; exact hle))
      have HY := hide hny
      have HNQ := hide (HQS.out j)
      rw [← Nj_Qi] at HNQ
      have HLN := hide (HLen.out j)
      rw [← Nj_Qi] at HLN
      have HND := hide (show ((Qn zs k ++ Nj (Qn zs k) p j).map Prod.fst).Nodup from by
        obtain ⟨t, ht⟩ := Qi_pre HP.out j
        rw [← Nj_Qi] at ht
        have := (Qn_ok HS.out (k + 1)).nodup
        rw [← ht, List.map_append, List.nodup_append] at this
        exact this.1)
      obtain ⟨r0, r1, r2, r3⟩ := four_cells HN.out.row
      have hltd : (j : Int) < (ds.length : Int) := by omega
      have hxw : w.heap.size < X.heap.size := by have := HN.out.size; omega
      have HXB := hide ((Below.refl X.heap.size X).alloc (Nat.le_refl _) (.cells #[.int .i64 (i1 : Int), .int .i64 (j1 : Int)] 38))
      obtain ⟨k0, k1⟩ := alloc2_cells X (.int .i64 (i1 : Int)) (.int .i64 (j1 : Int)) 38
      have hxs : X.heap.size < (X.alloc (.cells #[.int .i64 (i1 : Int), .int .i64 (j1 : Int)] 38)).heap.size := by simp
      have s0 := (HXB.out.cell (p := ⟨w.heap.size, 0, none⟩) hxw).trans r0
      have s1 := (HXB.out.cell (p := ⟨w.heap.size, 1, none⟩) hxw).trans r1
      have s2 := (HXB.out.cell (p := ⟨w.heap.size, 2, none⟩) hxw).trans r2
      have s3 := (HXB.out.cell (p := ⟨w.heap.size, 3, none⟩) hxw).trans r3
      clear r0 r1 r2 r3 hd hdm hdd hi1 hj1 hne hpos hle hnx hnxx hny
      generalize dmade i1 j1 p.1 = ys at *
      generalize hN2 : Nj (Qn zs k) p j = N at *
      clear hN2
      generalize hQ2 : Qn zs k = Q at *
      go_wp2_with fail
      generalize X.alloc (.cells #[.int .i64 (i1 : Int), .int .i64 (j1 : Int)] 38) = Y at *
      refine (HDB.out _).mono ?_; rintro e w6 ⟨rfl, hb6⟩
      have HN6 := hide ((HN.out.next HXB.out).next hb6)
      have u0 := (hb6.cell (p := ⟨X.heap.size, 0, none⟩) hxs).trans k0
      have u1 := (hb6.cell (p := ⟨X.heap.size, 1, none⟩) hxs).trans k1
      have hx6 : X.heap.size < w6.heap.size := Nat.lt_of_lt_of_le hxs hb6.size
      have hw6 : w.heap.size < w6.heap.size := by omega
      clear s0 s1 s2 s3 k0 k1 hb6
      obtain ⟨z0, z1, z2, z3⟩ := four_cells (row4_alloc w6 ys 42)
      have HZ := hide ((Below.refl w6.heap.size w6).alloc (Nat.le_refl _) (.cells #[.int .i64 (pd ys 0), .int .i64 (pd ys 1), .int .i64 (pd ys 2), .int .i64 (pd ys 3)] 42))
      have hzs : w6.heap.size < (w6.alloc (.cells #[.int .i64 (pd ys 0), .int .i64 (pd ys 1), .int .i64 (pd ys 2), .int .i64 (pd ys 3)] 42)).heap.size := by simp
      have HN7 := hide (HN6.out.next HZ.out)
      have v0 := (HZ.out.cell (p := ⟨X.heap.size, 0, none⟩) hx6).trans u0
      have v1 := (HZ.out.cell (p := ⟨X.heap.size, 1, none⟩) hx6).trans u1
      have HYY : Hid (small ys ∧ ys.length = zs.length) := hide ⟨HY.out.1, by rw [HY.out.2.1]; exact HST.out.2.1⟩
      have hml2 : mb < w6.heap.size := by omega
      clear u0 u1
      by_cases hmem : ys ∈ (Q ++ N).map Prod.fst
      · have HMM := hide (decide_eq_true hmem)
        have hE := HSU.out
        rw [if_pos hmem] at hE
        have hE2 : Nj Q p (j + 1) = N := List.append_cancel_left hE
        have HE := hide hE2
        clear hmem hE hE2
        go_wp2_with (at_lookup; refine wpList_look_Q (zs := zs) rfl _ _ rfl rfl HN7.out.map HNQ.out HND.out h4 HYY.out rfl ?_; intro d0; rw [HMM.out])
        have HN8 := hide (HN7.out.next ((Below.refl (w6.alloc (.cells #[.int .i64 (pd ys 0), .int .i64 (pd ys 1), .int .i64 (pd ys 2), .int .i64 (pd ys 3)] 42)).heap.size _).alloc (Nat.le_refl _) (.cells #[.int .i64 d0.x0, .int .i64 d0.x1] 38)))
        go_roundw
        case rel => exact ⟨j + 1, v, by omega, by go_num, rfl, by rw [HE.out]; exact HN8⟩
        case measure => simp [intOf]; omega
      · have HMM := hide (decide_eq_false hmem)
        have hE := HSU.out
        rw [if_neg hmem, List.append_assoc] at hE
        have hE2 : Nj Q p (j + 1) = N ++ [(ys, p.2 ++ [(⟨(i1 : Int), (j1 : Int)⟩ : Db)])] := List.append_cancel_left hE
        have HE := hide hE2
        clear hmem hE hE2
        go_wp2_with (first | (at_lookup; refine wpList_look_Q (zs := zs) rfl _ _ rfl rfl HN7.out.map HNQ.out HND.out h4 HYY.out rfl ?_; intro d0; rw [HMM.out]; have HA2 := hide ((Below.refl (w6.alloc (.cells #[.int .i64 (pd ys 0), .int .i64 (pd ys 1), .int .i64 (pd ys 2), .int .i64 (pd ys 3)] 42)).heap.size _).alloc (Nat.le_refl _) (.cells #[.int .i64 d0.x0, .int .i64 d0.x1] 38)); have HN8 := hide (HN7.out.next HA2.out); have y0 := (HA2.out.cell (p := ⟨w6.heap.size, 0, none⟩) hzs).trans z0; have y1 := (HA2.out.cell (p := ⟨w6.heap.size, 1, none⟩) hzs).trans z1; have y2 := (HA2.out.cell (p := ⟨w6.heap.size, 2, none⟩) hzs).trans z2; have y3 := (HA2.out.cell (p := ⟨w6.heap.size, 3, none⟩) hzs).trans z3; have a0 := (HA2.out.cell (p := ⟨X.heap.size, 0, none⟩) (Nat.lt_trans hx6 hzs)).trans v0; have a1 := (HA2.out.cell (p := ⟨X.heap.size, 1, none⟩) (Nat.lt_trans hx6 hzs)).trans v1; have hz2 := Nat.lt_of_lt_of_le hzs HA2.out.size) | (at_mapUpdate; refine wpList_put_Q rfl _ _ _ rfl rfl HN8.out.map (Nat.lt_of_le_of_lt HLN.out (by omega)) HYY.out.1 rfl ⟨(i1 : Int), (j1 : Int)⟩ (p.2 ++ [(⟨(i1 : Int), (j1 : Int)⟩ : Db)]) (lastD_snoc _ _) rfl ?_; intro w8 hm8 hg8; have hne8 : some w6.heap.size ≠ some mb := (fun e => by injection e with e; omega); have b8 := hg8.block w6.heap.size hz2 hne8; have t0 := (cell_blk (i := 0) b8).trans y0; have t1 := (cell_blk (i := 1) b8).trans y1; have t2 := (cell_blk (i := 2) b8).trans y2; have t3 := (cell_blk (i := 3) b8).trans y3; have M8 := hide hm8; have G8 := hide hg8; have R8 := hide (HN8.out.rows.keepA fun g hg hl => hg8.block g hl (by intro e; injection e with e; have := (HN8.out.rows.blk hg).1; omega)); clear hm8 hg8 b8) | (at_builtin; refine wpList_app_HR rfl _ _ rfl (w.heap.size + 1) v (N.map Prod.fst) rfl R8.out ys _ rfl (Nat.le_trans HN8.out.size G8.out.size) (by rw [List.length_map]; have := HLN.out; rw [List.length_append] at this; omega) ?_; intro v9 w9 ho9 hb9 hoth9 hblk9; have O9 := hide ho9; have B9 := hide hb9; have T9 := hide hoth9; have K9 := hide hblk9; clear ho9 hb9 hoth9 hblk9))
        have HND2 := hide (HN8.out.done M8.out G8.out O9.out B9.out T9.out K9.out)
        go_roundw
        case rel => exact ⟨j + 1, v9, by omega, by go_num, rfl, by rw [HE.out]; exact HND2⟩
        case measure => simp [intOf]; omega
    · obtain rfl : j = ds.length := by omega
      have hQe := HQN.out
      rw [← Nj_Qi] at hQe
      have HQE := hide hQe
      clear hQe
      go_wp2_with fail
      go_ret
      exact ⟨_, rfl, by rw [HDS.out]; exact HN.out.rows, by rw [← HQE.out]; exact HN.out.map, HN.out.below, HN.out.oth⟩
end Go.Proofs.Ytnakkmmmkbjfbaa
