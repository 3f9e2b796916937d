import Derived.Test.YtnakkmmmkbjfbaaMg16
import Derived.Deep.LoopGhost
import Derived.WalkMore

/-
  THE ROWS BEHIND ONE DOUBLING, THE PROGRAM's WAY: the walk of newBehind.
-/
namespace Go.Proofs.Ytnakkmmmkbjfbaa
open Go.RowKit Go.Deep
open Go.Maps (Keyed)
set_option linter.unusedVariables false

theorem alloc2_cells (X : World) (a b : Value) (T : TypeId) : (X.alloc (.cells #[a, b] T)).cell? ⟨X.heap.size, 0, none⟩ = some a ∧ (X.alloc (.cells #[a, b] T)).cell? ⟨X.heap.size, 1, none⟩ = some b := by
  have e : (X.alloc (.cells #[a, b] T)).heap[X.heap.size]? = some (.cells #[a, b] T (0, 0)) := by
    show (X.heap.push _)[X.heap.size]? = _
    simp
  constructor
  · unfold World.cell?; rw [show (⟨X.heap.size, 0, none⟩ : Addr).block = X.heap.size from rfl, e]; rfl
  · unfold World.cell?; rw [show (⟨X.heap.size, 1, none⟩ : Addr).block = X.heap.size from rfl, e]; rfl

set_option maxRecDepth 100000 in
set_option maxHeartbeats 8000000 in
theorem newBehind_any (zs : List Int) (k : Nat) (p : StP) (hp : (Qn zs k)[k]? = some p) (hs : small zs) (h2 : 2 ≤ zs.length) (h4 : zs.length ≤ 4) (mb : Nat) (w : World) (hm : MapQ w mb (Qn zs k)) :
    Calls Try.prog 46 #[.agg #[.int .i64 (pd p.1 0), .int .i64 (pd p.1 1), .int .i64 (pd p.1 2), .int .i64 (pd p.1 3)], .map (some mb)] w fun e w' => ∃ v, e = .returned v ∧
      OwnHR w' (w.heap.size + 1) v ((Nj (Qn zs k) p (allD p.1).length).map Prod.fst) ∧ MapQ w' mb (Qn zs (k + 1)) ∧ Below mb w w' ∧ ∀ g, g < w.heap.size → g ≠ mb → w'.heap[g]? = w.heap[g]? := by
  have HP := hide hp
  have hst := (Qn_ok hs k).state p (List.mem_of_getElem? hp)
  have HST := hide hst
  have hrow := row4_alloc w p.1 42
  have hb : Below w.heap.size w (w.alloc (.cells #[.int .i64 (pd p.1 0), .int .i64 (pd p.1 1), .int .i64 (pd p.1 2), .int .i64 (pd p.1 3)] 42)) := (Below.refl _ _).alloc (Nat.le_refl _) _
  have hm1 := hm.below hb
  have hml := hm.lt
  have hsz : (w.alloc (.cells #[.int .i64 (pd p.1 0), .int .i64 (pd p.1 1), .int .i64 (pd p.1 2), .int .i64 (pd p.1 3)] 42)).heap.size = w.heap.size + 1 := by simp
  obtain ⟨W1, hW1⟩ : ∃ W1, W1 = w.alloc (.cells #[.int .i64 (pd p.1 0), .int .i64 (pd p.1 1), .int .i64 (pd p.1 2), .int .i64 (pd p.1 3)] 42) := ⟨_, rfl⟩
  have HDO := hide (fun W => doublings_any p.1 W hst.1 (by rw [hst.2.1]; exact h2) (by rw [hst.2.1]; exact h4))
  have HQN := hide (Qi_end hp)
  obtain ⟨c0, c1, c2, c3⟩ := four_cells hrow
  have HRW := hide hrow
  rw [← hW1] at HRW hb hm1 hsz
  have HB1 := hide hb
  have HM1 := hide hm1
  clear hp hst hrow hb hm hm1
  have HLen := hide (fun i => Qi_len hs (by omega) h4 HP.out i)
  have HQS := hide (fun i => Qi_state hs HP.out i)
  have HS := hide hs
  clear hs
  go_enter Try.func46, Try.ntmps46
  go_wp2_with fail
  rw [← hW1]
  clear hW1 c0 c1 c2 c3
  refine (HDO.out W1).mono ?_; rintro e w5 ⟨A', c', rfl, hds, hb5⟩
  have HN0 := hide (show NbI w mb (Qn zs k) (Nj (Qn zs k) p 0) p.1 A' c' (allD p.1) (.slice none 0 0) w5 from by
    have hNj : Nj (Qn zs k) p 0 = [] := by simp [Nj, ddN]
    rw [hNj]
    exact ⟨by rw [List.append_nil]; exact HM1.out.below hb5, OwnHR.nil _ _, HRW.out.of_block (hb5.block _ (by omega)), hds.less (by omega), (fun b hb h => by cases h), hml, ((HB1.out.trans (hb5.mono (by omega))).mono (by omega)), (fun g hg _ => (hb5.block g (by omega)).trans (HB1.out.block g hg)), by have := hb5.size; omega⟩)
  have hL : (allD p.1).length ≤ 16 := Nat.le_trans (outD_len p.1 p.1.length) (Nat.mul_le_mul (show p.1.length ≤ 4 by have := HST.out.2.1; omega) (show p.1.length ≤ 4 by have := HST.out.2.1; omega))
  clear hds hb5 HRW HB1 HM1
  generalize hds2 : allD p.1 = ds at *
  have HDS := hide hds2
  clear hds2
  go_wp2_with fail
  go_loopw [5, 14] (fun v i X => ∃ (j : Nat) (v' : Value), j ≤ ds.length ∧ i = .int .i64 (j : Int) ∧ v' = v ∧ Hid (NbI w mb (Qn zs k) (Nj (Qn zs k) p j) p.1 A' c' ds v' X))
    (fun _ i _ => ds.length - (intOf i).toNat)
  case atStart => exact ⟨0, _, Nat.zero_le _, rfl, rfl, HN0⟩
  case round =>
    clear HN0
    obtain ⟨j, v, hj, rfl, hv, HN⟩ := hrel
    subst hv
    obtain ⟨X, hX⟩ : ∃ X, X = wr := ⟨_, rfl⟩
    subst hX
    by_cases hltj : j < ds.length
    · obtain ⟨d, hd⟩ : ∃ d, ds[j]? = some d := ⟨_, List.getElem?_eq_getElem hltj⟩
      have hdm : d ∈ allD p.1 := by rw [HDS.out]; exact List.mem_of_getElem? hd
      obtain ⟨i1, j1, hdd, hi1, hj1, hne, hpos, hle, hnx⟩ := allD_ix hdm
      have hny := nx_small HST.out.1 hdm
      obtain ⟨gb, off, eA, _, hc0, hc1⟩ := HN.out.dso.list.at_ hltj hltj
      rw [(List.getElem?_eq_some_iff.1 hd).2, hdd] at hc0 hc1
      subst eA
      have HSU := hide (Qi_succ (zs := zs) (k := k) (p := p) (i := j) (by rw [HDS.out]; exact hd))
      rw [hdd, ← Nj_Qi, ← Nj_Qi] at HSU
      have hnxx : nx p.1 ⟨(i1 : Int), (j1 : Int)⟩ = dmade i1 j1 p.1 := by rw [← hdd]; exact hnx
      rw [hnxx] at HSU
      rw [hnx] at hny
      have HDB := hide (fun W => doubled_any p.1 i1 j1 W HST.out.1 (by rw [HST.out.2.1]; exact h4) hi1 hj1 hne (by rw [getD_get hj1, getD_get hi1] at hle; exact hle))
      have HY := hide hny
      have HNQ := hide (HQS.out j)
      rw [← Nj_Qi] at HNQ
      have HLN := hide (HLen.out j)
      rw [← Nj_Qi] at HLN
      have HND := hide (show ((Qn zs k ++ Nj (Qn zs k) p j).map Prod.fst).Nodup from by
        obtain ⟨t, ht⟩ := Qi_pre HP.out j
        rw [← Nj_Qi] at ht
        have := (Qn_ok HS.out (k + 1)).nodup
        rw [← ht, List.map_append, List.nodup_append] at this
        exact this.1)
      obtain ⟨r0, r1, r2, r3⟩ := four_cells HN.out.row
      have hltd : (j : Int) < (ds.length : Int) := by omega
      have hxw : w.heap.size < X.heap.size := by have := HN.out.size; omega
      have HXB := hide ((Below.refl X.heap.size X).alloc (Nat.le_refl _) (.cells #[.int .i64 (i1 : Int), .int .i64 (j1 : Int)] 38))
      obtain ⟨k0, k1⟩ := alloc2_cells X (.int .i64 (i1 : Int)) (.int .i64 (j1 : Int)) 38
      have hxs : X.heap.size < (X.alloc (.cells #[.int .i64 (i1 : Int), .int .i64 (j1 : Int)] 38)).heap.size := by simp
      have s0 := (HXB.out.cell (p := ⟨w.heap.size, 0, none⟩) hxw).trans r0
      have s1 := (HXB.out.cell (p := ⟨w.heap.size, 1, none⟩) hxw).trans r1
      have s2 := (HXB.out.cell (p := ⟨w.heap.size, 2, none⟩) hxw).trans r2
      have s3 := (HXB.out.cell (p := ⟨w.heap.size, 3, none⟩) hxw).trans r3
      clear r0 r1 r2 r3 hd hdm hdd hi1 hj1 hne hpos hle hnx hnxx hny
      generalize dmade i1 j1 p.1 = ys at *
      generalize hN2 : Nj (Qn zs k) p j = N at *
      clear hN2
      generalize hQ2 : Qn zs k = Q at *
      go_wp2_with fail
      generalize X.alloc (.cells #[.int .i64 (i1 : Int), .int .i64 (j1 : Int)] 38) = Y at *
      refine (HDB.out _).mono ?_; rintro e w6 ⟨rfl, hb6⟩
      have HN6 := hide ((HN.out.next HXB.out).next hb6)
      have u0 := (hb6.cell (p := ⟨X.heap.size, 0, none⟩) hxs).trans k0
      have u1 := (hb6.cell (p := ⟨X.heap.size, 1, none⟩) hxs).trans k1
      have hx6 : X.heap.size < w6.heap.size := Nat.lt_of_lt_of_le hxs hb6.size
      have hw6 : w.heap.size < w6.heap.size := by omega
      clear s0 s1 s2 s3 k0 k1 hb6
      obtain ⟨z0, z1, z2, z3⟩ := four_cells (row4_alloc w6 ys 42)
      have HZ := hide ((Below.refl w6.heap.size w6).alloc (Nat.le_refl _) (.cells #[.int .i64 (pd ys 0), .int .i64 (pd ys 1), .int .i64 (pd ys 2), .int .i64 (pd ys 3)] 42))
      have hzs : w6.heap.size < (w6.alloc (.cells #[.int .i64 (pd ys 0), .int .i64 (pd ys 1), .int .i64 (pd ys 2), .int .i64 (pd ys 3)] 42)).heap.size := by simp
      have HN7 := hide (HN6.out.next HZ.out)
      have v0 := (HZ.out.cell (p := ⟨X.heap.size, 0, none⟩) hx6).trans u0
      have v1 := (HZ.out.cell (p := ⟨X.heap.size, 1, none⟩) hx6).trans u1
      have HYY : Hid (small ys ∧ ys.length = zs.length) := hide ⟨HY.out.1, by rw [HY.out.2.1]; exact HST.out.2.1⟩
      have hml2 : mb < w6.heap.size := by omega
      clear u0 u1
      by_cases hmem : ys ∈ (Q ++ N).map Prod.fst
      · have HMM := hide (decide_eq_true hmem)
        have hE := HSU.out
        rw [if_pos hmem] at hE
        have hE2 : Nj Q p (j + 1) = N := List.append_cancel_left hE
        have HE := hide hE2
        clear hmem hE hE2
        go_wp2_with (at_lookup; refine wpList_look_Q (zs := zs) rfl _ _ rfl rfl HN7.out.map HNQ.out HND.out h4 HYY.out rfl ?_; intro d0; rw [HMM.out])
        have HN8 := hide (HN7.out.next ((Below.refl (w6.alloc (.cells #[.int .i64 (pd ys 0), .int .i64 (pd ys 1), .int .i64 (pd ys 2), .int .i64 (pd ys 3)] 42)).heap.size _).alloc (Nat.le_refl _) (.cells #[.int .i64 d0.x0, .int .i64 d0.x1] 38)))
        go_roundw
        case rel => exact ⟨j + 1, v, by omega, by go_num, rfl, by rw [HE.out]; exact HN8⟩
        case measure => simp [intOf]; omega
      · have HMM := hide (decide_eq_false hmem)
        have hE := HSU.out
        rw [if_neg hmem, List.append_assoc] at hE
        have hE2 : Nj Q p (j + 1) = N ++ [(ys, p.2 ++ [(⟨(i1 : Int), (j1 : Int)⟩ : Db)])] := List.append_cancel_left hE
        have HE := hide hE2
        clear hmem hE hE2
        go_wp2_with (first | (at_lookup; refine wpList_look_Q (zs := zs) rfl _ _ rfl rfl HN7.out.map HNQ.out HND.out h4 HYY.out rfl ?_; intro d0; rw [HMM.out]; have HA2 := hide ((Below.refl (w6.alloc (.cells #[.int .i64 (pd ys 0), .int .i64 (pd ys 1), .int .i64 (pd ys 2), .int .i64 (pd ys 3)] 42)).heap.size _).alloc (Nat.le_refl _) (.cells #[.int .i64 d0.x0, .int .i64 d0.x1] 38)); have HN8 := hide (HN7.out.next HA2.out); have y0 := (HA2.out.cell (p := ⟨w6.heap.size, 0, none⟩) hzs).trans z0; have y1 := (HA2.out.cell (p := ⟨w6.heap.size, 1, none⟩) hzs).trans z1; have y2 := (HA2.out.cell (p := ⟨w6.heap.size, 2, none⟩) hzs).trans z2; have y3 := (HA2.out.cell (p := ⟨w6.heap.size, 3, none⟩) hzs).trans z3; have a0 := (HA2.out.cell (p := ⟨X.heap.size, 0, none⟩) (Nat.lt_trans hx6 hzs)).trans v0; have a1 := (HA2.out.cell (p := ⟨X.heap.size, 1, none⟩) (Nat.lt_trans hx6 hzs)).trans v1; have hz2 := Nat.lt_of_lt_of_le hzs HA2.out.size) | (at_mapUpdate; refine wpList_put_Q rfl _ _ _ rfl rfl HN8.out.map (Nat.lt_of_le_of_lt HLN.out (by omega)) HYY.out.1 rfl ⟨(i1 : Int), (j1 : Int)⟩ (p.2 ++ [(⟨(i1 : Int), (j1 : Int)⟩ : Db)]) (lastD_snoc _ _) rfl ?_; intro w8 hm8 hg8; have hne8 : some w6.heap.size ≠ some mb := (fun e => by injection e with e; omega); have b8 := hg8.block w6.heap.size hz2 hne8; have t0 := (cell_blk (i := 0) b8).trans y0; have t1 := (cell_blk (i := 1) b8).trans y1; have t2 := (cell_blk (i := 2) b8).trans y2; have t3 := (cell_blk (i := 3) b8).trans y3; have M8 := hide hm8; have G8 := hide hg8; have R8 := hide (HN8.out.rows.keepA fun g hg hl => hg8.block g hl (by intro e; injection e with e; have := (HN8.out.rows.blk hg).1; omega)); clear hm8 hg8 b8) | (at_builtin; refine wpList_app_HR rfl _ _ rfl (w.heap.size + 1) v (N.map Prod.fst) rfl R8.out ys _ rfl (Nat.le_trans HN8.out.size G8.out.size) (by rw [List.length_map]; have := HLN.out; rw [List.length_append] at this; omega) ?_; intro v9 w9 ho9 hb9 hoth9 hblk9; have O9 := hide ho9; have B9 := hide hb9; have T9 := hide hoth9; have K9 := hide hblk9; clear ho9 hb9 hoth9 hblk9))
        have HND2 := hide (HN8.out.done M8.out G8.out O9.out B9.out T9.out K9.out)
        go_roundw
        case rel => exact ⟨j + 1, v9, by omega, by go_num, rfl, by rw [HE.out]; exact HND2⟩
        case measure => simp [intOf]; omega
    · obtain rfl : j = ds.length := by omega
      have hQe := HQN.out
      rw [← Nj_Qi] at hQe
      have HQE := hide hQe
      clear hQe
      go_wp2_with fail
      go_ret
      exact ⟨_, rfl, by rw [HDS.out]; exact HN.out.rows, by rw [← HQE.out]; exact HN.out.map, HN.out.below, HN.out.oth⟩
end Go.Proofs.Ytnakkmmmkbjfbaa

/-
  THE SEARCH, THE PROGRAM's WAY: searchFrom.
-/
namespace Go.Proofs.Ytnakkmmmkbjfbaa
open Go.RowKit Go.Deep
open Go.Maps (Keyed)
set_option linter.unusedVariables false

/-- What stands in memory while the search goes on: the boxes and the map. -/
structure SfI (w : World) (zs e : List Int) (Q : List StP) (W : World) : Prop where
  map : MapQ W (w.heap.size + 2) Q
  r0 : W.rowIs w.heap.size 42 4 (fun j => .int .i64 (pd zs j))
  r1 : W.rowIs (w.heap.size + 1) 42 4 (fun _ => .int .i64 0)
  r3 : W.rowIs (w.heap.size + 3) 42 4 (fun j => .int .i64 (pd e j))
  below : Below w.heap.size w W
  size : w.heap.size + 4 ≤ W.heap.size
section
variable {w W W' : World} {zs e : List Int} {Q Q2 : List StP}
theorem SfI.next (h : SfI w zs e Q W) (hb : Below W.heap.size W W') : SfI w zs e Q W' := by
  have hs := h.size
  exact ⟨h.map.below hb, h.r0.of_block (hb.block _ (by omega)), h.r1.of_block (hb.block _ (by omega)), h.r3.of_block (hb.block _ (by omega)), h.below.trans (hb.mono (by omega)), Nat.le_trans hs hb.size⟩
theorem SfI.behind (h : SfI w zs e Q W) (hm : MapQ W' (w.heap.size + 2) Q2) (hb : Below (w.heap.size + 2) W W') (ho : ∀ g, g < W.heap.size → g ≠ w.heap.size + 2 → W'.heap[g]? = W.heap[g]?) : SfI w zs e Q2 W' := by
  have hs := h.size
  exact ⟨hm, h.r0.of_block (hb.block _ (by omega)), h.r1.of_block (hb.block _ (by omega)), h.r3.of_block (ho _ (by omega) (by omega)), h.below.trans (hb.mono (by omega)), Nat.le_trans hs hb.size⟩
/-- Behind an append onto a list that lies behind. -/
theorem SfI.past (h : SfI w zs e Q W) (hb : Below (w.heap.size + 4) W W') : SfI w zs e Q W' := by
  have hs := h.size
  exact ⟨h.map.same (hb.block _ (by omega)), h.r0.of_block (hb.block _ (by omega)), h.r1.of_block (hb.block _ (by omega)), h.r3.of_block (hb.block _ (by omega)), h.below.trans (hb.mono (by omega)), Nat.le_trans hs hb.size⟩
end
theorem mapTurned_size {w w' : World} {b : Nat} (h : w.mapTurned w' b) : w'.heap.size = w.heap.size := by
  obtain ⟨es, cl, es', cl', _, rfl⟩ := h
  simp [Go.ChangeMaps.setBlock]
/-- 'map[..]..{row: {}}'. -/
theorem wpList_first_Q {w : World} {ops : Array Oper} {rest : List Oper} {o : Oper} {a : Act} {Q' : Exit → Act → World → Prop} {b : Nat} {zs : List Int} (hgd : o.guard = none) (m x v : Operand) (hop : o.op = Op.insert 50 m x v)
    (hm : a.eval m = .map (some b)) (h : w.ownsMap Try.prog 42 dElem b 0 (.map [])) (hs : small zs) (hx : a.eval x = aggR zs) (hv : a.eval v = .agg #[.int .i64 0, .int .i64 0])
    (hK : ∀ w', MapQ w' b (Qn zs 0) → w.grownBy w' (some b) → w'.heap.size = w.heap.size → wpList Try.prog ops Q' rest (a.put o.dst undef) w') : wpList Try.prog ops Q' (o :: rest) a w := by
  refine wpList_plain hgd fun K' hK' => ?_
  obtain ⟨w', hrun, r1, r2⟩ := h.store lawR Try.underlying50 (by unfold maxLen; omega) (keyOf_R hs) (dElem_mk d00)
  unfold Oper.wp
  simp [execOp, hop, hm, hx, hv]
  rw [show (Instr.mapUpdate 50 (.map (some b)) (aggR zs) (.agg #[.int .i64 0, .int .i64 0])).run Try.prog w = .ok () w' from hrun]
  simp [Result.andThen]
  exact hK' _ _ (hK w' r1 r2.grown (mapTurned_size r2))
theorem ownHR_lit (W : World) (zs : List Int) {base : Nat} (hb : base ≤ W.heap.size) : OwnHR (W.alloc (.cells #[.int .i64 (pd zs 0), .int .i64 (pd zs 1), .int .i64 (pd zs 2), .int .i64 (pd zs 3)] 42)) base (.slice (some ⟨W.heap.size, 0, none⟩) 1 1) [zs] := by
  have e : (W.alloc (.cells #[.int .i64 (pd zs 0), .int .i64 (pd zs 1), .int .i64 (pd zs 2), .int .i64 (pd zs 3)] 42)).heap[W.heap.size]? = some (.cells #[.int .i64 (pd zs 0), .int .i64 (pd zs 1), .int .i64 (pd zs 2), .int .i64 (pd zs 3)] 42 (0, 0)) := by
    show (W.heap.push _)[W.heap.size]? = _
    simp
  exact ⟨rfl, .inr ⟨W.heap.size, 1, _, rfl, hb, e, Nat.le_refl _, by unfold maxLen; omega, by simp, by simp [cellsHR, cells4]⟩⟩
/-- What the search hands back. -/
def SfR (zs : List Int) (pr : List Int → Bool) (w : World) (e : Ending) (w' : World) : Prop :=
  ∃ (k : Nat) (x : List Int) (fd : Bool), e = .returned (.tuple #[.agg #[.int .i64 (pd x 0), .int .i64 (pd x 1), .int .i64 (pd x 2), .int .i64 (pd x 3)], .map (some (w.heap.size + 2)), .bool fd]) ∧ MapQ w' (w.heap.size + 2) (Qn zs k) ∧
    (∀ (j : Nat) (q : StP), j < k → (Qn zs k)[j]? = some q → pr q.1 = false) ∧ ((fd = true ∧ ∃ p, (Qn zs k)[k]? = some p ∧ pr p.1 = true ∧ x = p.1) ∨ (fd = false ∧ (Qn zs k)[k]? = none)) ∧ Below w.heap.size w w'

/-- Between two levels. gh bounds what is left. -/
def SfRel (zs : List Int) (pr : List Int → Bool) (w : World) (gh : Nat) (fd fv : Value) (W : World) : Prop :=
  ∃ k : Nat, gh = 70000 - k ∧ k ≤ (Qn zs k).length ∧ fd = .bool false ∧ OwnHR W (w.heap.size + 4) fv (((Qn zs k).drop k).map Prod.fst) ∧ SfI w zs zs (Qn zs k) W ∧ ∀ (j : Nat) (q : StP), j < k → (Qn zs k)[j]? = some q → pr q.1 = false
/-- Between two rows of a level. -/
def SfJ (zs : List Int) (pr : List Int → Bool) (w : World) (k F : Nat) (Af : Option Addr) (cf : Nat) (fs : List (List Int)) (fd nv i : Value) (X : World) : Prop :=
  ∃ i' : Nat, i' ≤ F ∧ i = .int .i64 (i' : Int) ∧ fd = .bool false ∧ Hid (SfI w zs zs (Qn zs (k + i')) X) ∧ Hid (OwnHR X (w.heap.size + 4) (.slice Af F cf) fs) ∧
          Hid (OwnHR X (w.heap.size + 4) nv (((Qn zs (k + i')).drop (Qn zs k).length).map Prod.fst)) ∧ Hid (∀ b, (Value.slice Af F cf).ownBlock = some b → nv.ownBlock ≠ some b) ∧ Hid (∀ (j : Nat) (q : StP), j < k + i' → (Qn zs (k + i'))[j]? = some q → pr q.1 = false)
theorem drop_at {Q R : List StP} (h : Q <+: R) {i : Nat} {p : StP} (hp : Q[i]? = some p) : R[i]? = some p := by
  obtain ⟨t, rfl⟩ := h
  rw [List.getElem?_append_left (List.getElem?_eq_some_iff.1 hp).1, hp]

def set4 (W : World) (g : Nat) (x : List Int) : World := (((W.setCell ⟨g, 0, none⟩ (.int .i64 (pd x 0))).setCell ⟨g, 1, none⟩ (.int .i64 (pd x 1))).setCell ⟨g, 2, none⟩ (.int .i64 (pd x 2))).setCell ⟨g, 3, none⟩ (.int .i64 (pd x 3))
theorem set4_block (W : World) (g b : Nat) (x : List Int) (h : b ≠ g) : (set4 W g x).heap[b]? = W.heap[b]? := by
  unfold set4
  rw [Below.heap_setCell _ _ _ _ h, Below.heap_setCell _ _ _ _ h, Below.heap_setCell _ _ _ _ h, Below.heap_setCell _ _ _ _ h]
theorem set4_below {w W : World} {B : Nat} (hb : Below B w W) (g : Nat) (x : List Int) (h : B ≤ g) : Below B w (set4 W g x) := (((hb.setCell h _).setCell h _).setCell h _).setCell h _
theorem set4_size (W : World) (g : Nat) (x : List Int) : (set4 W g x).heap.size = W.heap.size := by unfold set4; simp
theorem SfI.set {w W : World} {zs e : List Int} {Q : List StP} (h : SfI w zs e Q W) (x : List Int) : SfI w zs x Q (set4 W (w.heap.size + 3) x) :=
  ⟨h.map.same (set4_block _ _ _ _ (by omega)), h.r0.of_block (set4_block _ _ _ _ (by omega)), h.r1.of_block (set4_block _ _ _ _ (by omega)), four_store h.r3 (fun j => .int .i64 (pd x j)), set4_below h.below _ _ (by omega), by rw [set4_size]; exact h.size⟩
theorem SfI.out {w W : World} {zs e : List Int} {Q : List StP} (h : SfI w zs e Q W) (x : List Int) : MapQ (set4 W (w.heap.size + 1) x) (w.heap.size + 2) Q ∧ Below w.heap.size w (set4 W (w.heap.size + 1) x) ∧ (set4 W (w.heap.size + 1) x).rowIs (w.heap.size + 1) 42 4 (fun j => .int .i64 (pd x j)) :=
  ⟨h.map.same (set4_block _ _ _ _ (by omega)), set4_below h.below _ _ (by omega), four_store h.r1 (fun j => .int .i64 (pd x j))⟩
theorem at_pre {Q R : List StP} (h : Q <+: R) {i : Nat} (hi : i < Q.length) : R[i]? = Q[i]? := by
  obtain ⟨t, rfl⟩ := h
  exact List.getElem?_append_left hi

set_option maxRecDepth 100000 in
set_option maxHeartbeats 8000000 in
theorem searchFrom_any (zs : List Int) (fn : FuncId) (caps : Array Value) (pr : List Int → Bool) (w : World) (hs : small zs) (h2 : 2 ≤ zs.length) (h4 : zs.length ≤ 4)
    (hrun : ∀ (args : Array Value) (X : World), (callFunc fn args).run Try.prog X = .ok (.enter fn args) X)
    (hpr : ∀ (q : List Int) (X : World), small q → q.length = zs.length → Below w.heap.size w X → Calls Try.prog fn (#[.agg #[.int .i64 (pd q 0), .int .i64 (pd q 1), .int .i64 (pd q 2), .int .i64 (pd q 3)]] ++ caps) X fun e X' => e = .returned (.bool (pr q)) ∧ Below X.heap.size X X') :
    Calls Try.prog 32 #[.agg #[.int .i64 (pd zs 0), .int .i64 (pd zs 1), .int .i64 (pd zs 2), .int .i64 (pd zs 3)], .func (.func fn) #[] caps] w (SfR zs pr w) := by
  have hmm := @run_makeMap Try.prog
  have HPR := hide hpr
  have HRUN := hide hrun
  have HS := hide hs
  obtain ⟨W3, hW3⟩ : ∃ W3, W3 = ((w.alloc (.cells #[.int .i64 (pd zs 0), .int .i64 (pd zs 1), .int .i64 (pd zs 2), .int .i64 (pd zs 3)] 42)).alloc (.cells #[.int .i64 0, .int .i64 0, .int .i64 0, .int .i64 0] 42)).alloc (.map #[] 0) := ⟨_, rfl⟩
  have hs3 : W3.heap.size = w.heap.size + 3 := by rw [hW3]; simp
  have hb3 : Below w.heap.size w W3 := by rw [hW3]; exact (((Below.refl _ _).alloc (Nat.le_refl _) _).alloc (by simp) _).alloc (by simp; omega) _
  have hr0 : W3.rowIs w.heap.size 42 4 (fun j => .int .i64 (pd zs j)) := by rw [hW3]; exact ((row4_alloc w zs _).alloc _).alloc _
  have hr1 : W3.rowIs (w.heap.size + 1) 42 4 (fun _ => .int .i64 0) := by
    have := zero4 (w.alloc (.cells #[.int .i64 (pd zs 0), .int .i64 (pd zs 1), .int .i64 (pd zs 2), .int .i64 (pd zs 3)] 42)) 42
    rw [World.size_alloc] at this
    rw [hW3]; exact this.alloc _
  have hm3 : W3.ownsMap Try.prog 42 dElem (w.heap.size + 2) 0 (.map []) := by
    have := World.ownsMap_made ((w.alloc (.cells #[.int .i64 (pd zs 0), .int .i64 (pd zs 1), .int .i64 (pd zs 2), .int .i64 (pd zs 3)] 42)).alloc (.cells #[.int .i64 0, .int .i64 0, .int .i64 0, .int .i64 0] 42)) Try.prog 42 dElem
    rw [World.size_alloc, World.size_alloc] at this
    rw [hW3]; exact this
  obtain ⟨c0, c1, c2, c3⟩ := four_cells hr0
  have HR0 := hide hr0
  have HR1 := hide hr1
  have HM3 := hide hm3
  have HB3 := hide hb3
  rw [hW3] at c0 c1 c2 c3
  clear hpr hrun hs hr0 hr1 hm3 hb3
  go_enter Try.func32, Try.ntmps32
  go_wp2_with fail
  go_step3
  go_wp2_with (refine wpList_first_Q (b := w.heap.size + 2) (zs := zs) rfl (.tmp 14) (.tmp 15) (.tmp 16) rfl rfl (by rw [← hW3]; exact HM3.out) HS.out rfl rfl ?_; rw [← hW3]; intro w4 hm4 hg4 hs4; rw [hs3] at hs4; have M4 := hide hm4; have G4 := hide hg4; have b4 := hg4.block w.heap.size (by omega) (by intro e; injection e with e; omega); have d0 := (cell_blk (i := 0) b4).trans (four_cells HR0.out).1; have d1 := (cell_blk (i := 1) b4).trans (four_cells HR0.out).2.1; have d2 := (cell_blk (i := 2) b4).trans (four_cells HR0.out).2.2.1; have d3 := (cell_blk (i := 3) b4).trans (four_cells HR0.out).2.2.2; clear hm4 hg4 b4)
  go_step3
  have hA5 : Below w4.heap.size w4 (w4.alloc (.cells #[.int .i64 (pd zs 0), .int .i64 (pd zs 1), .int .i64 (pd zs 2), .int .i64 (pd zs 3)] 42)) := (Below.refl _ _).alloc (Nat.le_refl _) _
  have hr3 := row4_alloc w4 zs 42
  rw [hs4] at hr3
  have hs5 : (w4.alloc (.cells #[.int .i64 (pd zs 0), .int .i64 (pd zs 1), .int .i64 (pd zs 2), .int .i64 (pd zs 3)] 42)).heap.size = w.heap.size + 4 := by simp [hs4]
  have hS5 : SfI w zs zs (Qn zs 0) (w4.alloc (.cells #[.int .i64 (pd zs 0), .int .i64 (pd zs 1), .int .i64 (pd zs 2), .int .i64 (pd zs 3)] 42)) :=
    ⟨M4.out.below hA5, (HR0.out.of_block (G4.out.block _ (by omega) (by intro e; injection e with e; omega))).of_block (hA5.block _ (by omega)), (HR1.out.of_block (G4.out.block _ (by omega) (by intro e; injection e with e; omega))).of_block (hA5.block _ (by omega)), hr3,
      (HB3.out.grown G4.out (by omega) fun k hk => by injection hk with hk; omega).trans (hA5.mono (by omega)), by omega⟩
  generalize w4.alloc (.cells #[.int .i64 (pd zs 0), .int .i64 (pd zs 1), .int .i64 (pd zs 2), .int .i64 (pd zs 3)] 42) = W5 at *
  have hA6 : Below W5.heap.size W5 (W5.alloc (.cells #[.int .i64 (pd zs 0), .int .i64 (pd zs 1), .int .i64 (pd zs 2), .int .i64 (pd zs 3)] 42)) := (Below.refl _ _).alloc (Nat.le_refl _) _
  have HF6 : Hid (OwnHR (W5.alloc (.cells #[.int .i64 (pd zs 0), .int .i64 (pd zs 1), .int .i64 (pd zs 2), .int .i64 (pd zs 3)] 42)) (w.heap.size + 4) (.slice (some ⟨w.heap.size + 3 + 1, 0, none⟩) 1 1) [zs]) := hide (by
    have := ownHR_lit W5 zs (base := w.heap.size + 4) (by omega)
    rw [hs5] at this
    exact this)
  have HS6 := hide (hS5.next hA6)
  clear hA5 hr3 hS5 hA6 c0 c1 c2 c3 d0 d1 d2 d3 HR0 HR1 HM3 HB3 M4 G4 hs3 hW3 hs4
  generalize W5.alloc (.cells #[.int .i64 (pd zs 0), .int .i64 (pd zs 1), .int .i64 (pd zs 2), .int .i64 (pd zs 3)] 42) = W6 at *
  clear hs5 W5
  have HQL := hide (fun k => Qn_len HS.out (by omega) h4 k)
  go_wp2_with fail
  go_loopg [9, 10] 70000 (SfRel zs pr w)
  case atStart => exact ⟨0, rfl, Nat.zero_le _, rfl, HF6.out, HS6.out, fun j q h => absurd h (by omega)⟩
  case round =>
    clear HF6 HS6
    obtain ⟨k, hgk, hk, rfl, hF, hSf, hno⟩ := hrel
    obtain ⟨Af, cf, rfl⟩ := hF.shape
    have HGK := hide hgk
    have HNO := hide hno
    have HSF := hide hSf
    have hfl : (((Qn zs k).drop k).map Prod.fst).length = (Qn zs k).length - k := by rw [List.length_map, List.length_drop]
    rw [hfl] at hF ⊢
    have HF := hide hF
    have HFL := hide hfl
    have hL9 := HQL.out k
    clear hgk hno hSf hF hfl
    generalize hfs : ((Qn zs k).drop k).map Prod.fst = fs at *
    have HFS := hide hfs
    clear hfs
    by_cases hlt : k < (Qn zs k).length
    · have hpos : (0 : Int) < (((Qn zs k).length - k : Nat) : Int) := by omega
      generalize hFn : (Qn zs k).length - k = F at *
      have hFb : F ≤ 68921 := by omega
      have HFn := hide hFn
      clear hFn
      go_wp2_with fail
      go_loopw [9, 11, 26] (SfJ zs pr w k F Af cf fs)
        (fun _ _ i _ => F - (intOf i).toNat)
      case atStart => exact ⟨0, Nat.zero_le _, rfl, rfl, HSF, HF, hide (by rw [show k + 0 = k from rfl, List.drop_length]; exact OwnHR.nil _ _), hide (fun b _ e => by cases e), HNO⟩
      case round =>
        clear HSF HF HNO
        obtain ⟨i, hi, rfl, rfl, HSF, HF, HNX, HSEP, HNO⟩ := hrel
        obtain ⟨X, hX⟩ : ∃ X, X = wr := ⟨_, rfl⟩
        subst hX
        by_cases hlti : i < F
        · obtain ⟨p, hp⟩ : ∃ p, (Qn zs k)[k + i]? = some p := ⟨_, List.getElem?_eq_getElem (by have := HFn.out; omega)⟩
          have hp2 := drop_at (Qn_pre zs k i) hp
          have hfi : fs[i]? = some p.1 := by rw [← HFS.out, List.getElem?_map, List.getElem?_drop, hp]; rfl
          have HP := hide hp2
          have hst := (Qn_ok HS.out (k + i)).state p (List.mem_of_getElem? hp2)
          obtain ⟨gb, off, eA, hgb, q0, q1, q2, q3⟩ := HF.out.at_ hfi
          subst eA
          have hltF : (i : Int) < (F : Int) := by omega
          have HST := hide hst
          clear hp hp2 hfi hst
          have hrow := row4_alloc X p.1 42
          obtain ⟨X1, hX1⟩ : ∃ X1, X1 = X.alloc (.cells #[.int .i64 (pd p.1 0), .int .i64 (pd p.1 1), .int .i64 (pd p.1 2), .int .i64 (pd p.1 3)] 42) := ⟨_, rfl⟩
          have hsX1 : X1.heap.size = X.heap.size + 1 := by rw [hX1]; simp
          have hbX1 : Below X.heap.size X X1 := by rw [hX1]; exact (Below.refl _ _).alloc (Nat.le_refl _) _
          rw [← hX1] at hrow
          have HRX := hide hrow
          have HBX1 := hide hbX1
          have hsz := HSF.out.size
          have hcallb : Below w.heap.size w X1 := HSF.out.below.trans (hbX1.mono (by omega))
          have HCB := hide hcallb
          clear hrow hbX1 hcallb
          go_wp2_with fail
          rw [HRUN.out, Oper.upon_enter, ← hX1]
          refine (HPR.out p.1 X1 HST.out.1 HST.out.2.1 HCB.out).mono ?_
          rintro e X2 ⟨rfl, hbX2⟩
          have HBX2 := hide hbX2
          obtain ⟨c0, c1, c2, c3⟩ := four_cells (HRX.out.of_block (hbX2.block _ (by omega)))
          have HS2 := hide ((HSF.out.next HBX1.out).next hbX2)
          clear hbX2 hX1
          have HEQ := hide (show (((Qn zs (k + (i + 1))).drop (Qn zs k).length).map Prod.fst) = (((Qn zs (k + i)).drop (Qn zs k).length).map Prod.fst) ++ ((Nj (Qn zs (k + i)) p (allD p.1).length).map Prod.fst) from by
            rw [show k + (i + 1) = (k + i) + 1 from rfl, ← Qi_end HP.out, ← Nj_Qi, List.drop_append_of_le_length (Qn_pre zs k i).length_le, List.map_append])
          cases hpp : pr p.1
          · go_wp2_with fail
            refine (newBehind_any zs (k + i) p HP.out HS.out h2 h4 (w.heap.size + 2) X2 HS2.out.map).mono ?_
            rintro e X3 ⟨u, rfl, hu, hm3, hb3, ho3⟩
            have HU := hide hu
            have HS3 := hide (HS2.out.behind hm3 hb3 ho3)
            have hsX2 := HBX2.out.size
            have HV3 := hide (((HNX.out.below HBX1.out).below HBX2.out).keepA fun g hg hlt => ho3 g hlt (by have := (HNX.out.blk hg).1; omega))
            have HF3 := hide (((HF.out.below HBX1.out).below HBX2.out).keepA fun g hg hlt => ho3 g hlt (by have := (HF.out.blk hg).1; omega))
            have hsX3 := hb3.size
            have hsz2 := HS2.out.size
            have hvl : ((((Qn zs (k + i)).drop (Qn zs k).length).map Prod.fst).length + ((Nj (Qn zs (k + i)) p (allD p.1).length).map Prod.fst).length) < 1000000 := by
              rw [← List.length_append, ← HEQ.out, List.length_map, List.length_drop]
              have := HQL.out (k + (i + 1))
              omega
            clear hu hm3 hb3 ho3 c0 c1 c2 c3
            go_wp2_with (refine wpList_app_HRs rfl (.tmp 34) (.tmp 37) rfl (w.heap.size + 4) (X2.heap.size + 1) u11 u _ _ rfl HV3.out rfl HU.out (by omega) hvl ?_; intro v4 w4' hv4 hb4 ho4 hn4; have V4 := hide hv4; have B4 := hide hb4; have O4 := hide ho4; have N4 := hide hn4; clear hv4 hb4 ho4 hn4)
            have HB6 := hide (fun b (hb : (Value.slice (some ⟨gb, off, none⟩) F cf).ownBlock = some b) (e : v4.ownBlock = some b) => show False from by
              rcases N4.out with n4 | ⟨g, n4, hg⟩
              · exact HSEP.out b hb (n4 ▸ e)
              · rw [n4] at e; injection e with e; subst e
                have := (HF3.out.blk hb).2
                omega)
            have HN6 := hide (fun (j : Nat) (q : StP) (hj : j < k + (i + 1)) (hq : (Qn zs (k + (i + 1)))[j]? = some q) => show pr q.1 = false from by
              have hlen := (List.getElem?_eq_some_iff.1 HP.out).1
              rw [show k + (i + 1) = k + i + 1 from rfl, at_pre (Qn_pre1 zs (k + i)) (by omega)] at hq
              by_cases hji : j < k + i
              · exact HNO.out j q hji hq
              · have : j = k + i := by omega
                subst this
                rw [HP.out] at hq; injection hq with hq; subst hq
                exact hpp)
            have HS6 := hide (HS3.out.past B4.out)
            go_roundw
            case rel => rw [show decide (0 < F) = true from decide_eq_true (by omega)]; refine ⟨_, _, _, _, _, _, _, _, _, _, _, _, _, _, _, _, _, ?_, rfl⟩; exact ⟨i + 1, by omega, by go_num, rfl, HS6, hide (HF3.out.keepA fun g hg hlt => O4.out g hlt (fun e => HSEP.out g hg e.symm)), hide (by rw [HEQ.out]; exact V4.out), HB6, HN6⟩
            case measure => simp [intOf]; omega
          · obtain ⟨s0, s1, s2, s3⟩ := four_cells HS2.out.r3
            obtain ⟨f0, f1, f2, f3⟩ := four_free HS2.out.r3
            have HS3 := hide (HS2.out.set p.1)
            obtain ⟨d0, d1, d2, d3⟩ := four_cells HS3.out.r3
            obtain ⟨t0, t1, t2, t3⟩ := four_cells HS3.out.r1
            obtain ⟨e0, e1, e2, e3⟩ := four_free HS3.out.r1
            obtain ⟨g0, g1, g2, g3⟩ := four_cells (HS3.out.out p.1).2.2
            have HOUT := hide (HS3.out.out p.1)
            unfold set4 at d0 d1 d2 d3 t0 t1 t2 t3 e0 e1 e2 e3 g0 g1 g2 g3
            go_wp2_with fail
            rw [Exit.noGoto_ret]
            exact bodyPost_ret (v := .tuple #[.agg #[.int .i64 (pd p.1 0), .int .i64 (pd p.1 1), .int .i64 (pd p.1 2), .int .i64 (pd p.1 3)], .map (some (w.heap.size + 1 + 1)), .bool true]) (by simp [results, Try.results32, go_sem, g0, g1, g2, g3]) rfl
              ⟨k + i, p.1, true, rfl, HOUT.out.1, HNO.out, .inl ⟨rfl, p, HP.out, hpp, rfl⟩, HOUT.out.2.1⟩
        · obtain rfl : i = F := by omega
          have hki : (Qn zs k).length = k + i := by have := HFn.out; omega
          have HKI := hide hki
          clear hki
          go_wp2_with fail
          go_roundg (70000 - (k + i))
          case measure => have := HGK.out; have := HKI.out; omega
          case rel => exact ⟨k + i, rfl, by rw [← HKI.out]; exact (HKI.out ▸ (Qn_pre zs k i).length_le), rfl, by have := HNX.out; rw [HKI.out] at this; exact this, HSF.out, HNO.out⟩
    · have HKE := hide (show (Qn zs k)[k]? = none from List.getElem?_eq_none (by omega))
      obtain ⟨d0, d1, d2, d3⟩ := four_cells HSF.out.r3
      obtain ⟨t0, t1, t2, t3⟩ := four_cells HSF.out.r1
      obtain ⟨e0, e1, e2, e3⟩ := four_free HSF.out.r1
      obtain ⟨g0, g1, g2, g3⟩ := four_cells (HSF.out.out zs).2.2
      have HOUT := hide (HSF.out.out zs)
      unfold set4 at g0 g1 g2 g3
      have hzn : (Qn zs k).length - k = 0 := by omega
      rw [hzn]
      clear hlt hzn hk hL9
      go_wp2_with fail
      rw [Exit.noGoto_ret]
      exact bodyPost_ret (v := .tuple #[.agg #[.int .i64 (pd zs 0), .int .i64 (pd zs 1), .int .i64 (pd zs 2), .int .i64 (pd zs 3)], .map (some (w.heap.size + 1 + 1)), .bool false]) (by simp [results, Try.results32, go_sem, g0, g1, g2, g3]) rfl
        ⟨k, zs, false, rfl, HOUT.out.1, HNO.out, .inr ⟨rfl, HKE.out⟩, HOUT.out.2.1⟩
end Go.Proofs.Ytnakkmmmkbjfbaa
