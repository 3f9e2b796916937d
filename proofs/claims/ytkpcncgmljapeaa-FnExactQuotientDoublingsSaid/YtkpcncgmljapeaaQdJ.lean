
/-
  QUOTIENTS, THE PROGRAM's WAY: QuotientDoublings.
-/
import Derived.Test.YtkpcncgmljapeaaQdI
import Derived.Test.YtkpcncgmljapeaaQdM
namespace Go.Proofs.Ytkpcncgmljapeaa
open Go.RowKit Go.Deep
set_option linter.unusedVariables false

theorem OwnIDb.keepAt {w w' : World} {base n : Nat} {v : Value} {xs : List Int} (h : OwnIDb w base v n xs) (hk : ∀ g, v.ownBlock = some g → w'.heap[g]? = w.heap[g]?) : OwnIDb w' base v n xs := by
  refine ⟨⟨h.1.1, ?_⟩, h.2⟩
  rcases h.1.2 with h2 | ⟨g, cap, cur, hv, hb, hg, r⟩
  · exact .inl h2
  · exact .inr ⟨g, cap, cur, hv, hb, (hk g (by rw [hv]; rfl)).trans hg, r⟩
theorem OwnIDb.form2' {w : World} {base n : Nat} {v : Value} {xs : List Int} (h : OwnIDb w base v n xs) (h0 : 0 < n) : ∃ g c, v = .slice (some ⟨g, 0, none⟩) n c ∧ base ≤ g ∧ g < w.heap.size ∧ n ≤ c ∧ c ≤ maxLen := by
  rcases h.1.2 with ⟨_, h1⟩ | ⟨g, cap, cur, rfl, hb, hg, hn, hm, _⟩
  · omega
  · exact ⟨g, cap, rfl, hb, (Array.getElem?_eq_some_iff.1 hg).1, hn, hm⟩
/-- Between two rounds of the program. -/
def PRel (T : List Db) (w : World) (f : Nat) (v pv : Value) (wr : World) : Prop :=
  ∃ (L : List Db) (ys : List Int) (br : Nat), pv = .pointer (some ⟨br, 0, none⟩) ∧ w.heap.size ≤ br ∧ br < wr.heap.size ∧ wr.rowIs br 36 4 (fun j => .int .i64 (pd ys j)) ∧ ys.length = 3 ∧ small ys ∧ lo ys ≤ f ∧ OwnIDb wr w.heap.size v L.length (numsDb L) ∧ L ++ qall f ys = T ∧ Below w.heap.size w wr ∧ v.ownBlock ≠ some br
/-- Between two doublings of one quotient. -/
def IRel (zs : List Int) (ds L : List Db) (br gd cd : Nat) (w : World) (v iv : Value) (wr : World) : Prop :=
  ∃ (k : Nat) (ys : List Int), k ≤ ds.length ∧ iv = .int .i64 k ∧ dplay zs (ds.take k) = some ys ∧ wr.rowIs br 36 4 (fun j => .int .i64 (pd ys j)) ∧ br < wr.heap.size ∧ OwnIDb wr w.heap.size v (L ++ ds.take k).length (numsDb (L ++ ds.take k)) ∧
    OwnIDb wr w.heap.size (.slice (some ⟨gd, 0, none⟩) ds.length cd) ds.length (numsDb ds) ∧ Below w.heap.size w wr ∧ v.ownBlock ≠ some br ∧ v.ownBlock ≠ some gd

set_option maxRecDepth 1000000 in
set_option maxHeartbeats 4000000 in
theorem QuotientDoublings_any (A : Option Addr) (n c B : Nat) (zs : List Int) (w : World) (hr : Ints w B A n zs) (hB : B ≤ w.heap.size) (hn : n ≤ 17592186044416) :
    Calls Try.prog 6 #[.slice A n c] w (MadeRDb (quoL zs) (quoOk zs) w) := by
  obtain rfl := hr.len
  have HG := hide (fun W (h : Ints W B A zs.length zs) => AreFewHeaps_any A zs.length c B zs W h hn)
  cases hf : few zs
  · have H := hide (quoOk_no1 hf)
    rw [hf] at HG
    rw [quoL_no H.out, H.out]
    clear hf
    go_enter Try.func6, Try.ntmps6
    go_wp2_with fail
    refine (HG.out _ hr).mono ?_; rintro e w' ⟨rfl, rfl⟩
    go_wp2_with fail
    go_ret2
    exact madeRDb_none (Below.refl _ _)
  · rw [hf] at HG
    by_cases h3 : zs.length = 3
    · have HK := hide (quoOk_yes hf h3)
      have hs := (few_small hf).1
      have hT := quoL_len zs
      rw [quoL_yes HK.out] at hT
      rw [quoL_yes HK.out, HK.out]
      have HS := hide hs
      have H3 := hide h3
      have h3i : (zs.length : Int) = 3 := by omega
      have hl0 : lo zs ≤ ((41 : Nat) : Int) := by have := lo_bd hs h3; omega
      have HL0 := hide hl0
      have HO := hide (fun W (h : Ints W B A zs.length zs) (h' : B ≤ W.heap.size) => rowOf_any A zs.length c B zs W h h' (by omega) (by omega))
      generalize hTe : qall 41 zs = T at *
      have HTE := hide hTe
      have HTL := hide hT
      clear hf hs h3 hTe hl0 hT
      go_enter Try.func6, Try.ntmps6
      go_wp2_with fail
      refine (HG.out _ hr).mono ?_; rintro e w' ⟨rfl, rfl⟩
      go_wp2_with fail
      refine (HO.out _ hr hB).mono ?_; rintro e w1 ⟨rfl, hb1⟩
      have hrow1 := row4_alloc w1 zs 36
      have hs1 := hb1.size
      have hb1' := hb1.alloc hb1.size (.cells #[.int .i64 (pd zs 0), .int .i64 (pd zs 1), .int .i64 (pd zs 2), .int .i64 (pd zs 3)] 36)
      have z1 : w1.heap.size < (w1.alloc (.cells #[.int .i64 (pd zs 0), .int .i64 (pd zs 1), .int .i64 (pd zs 2), .int .i64 (pd zs 3)] 36)).heap.size := by simp
      go_wp2_with fail
      go_simp
      go_loopg [4, 5] 41 (PRel T w)
      case atStart => exact ⟨[], zs, w1.heap.size, rfl, hs1, z1, hrow1, H3.out, HS.out, HL0.out, OwnIDb.nil _ _, by rw [HTE.out]; rfl, hb1', by intro e; cases e⟩
      case round =>
        clear HTE HS HL0 HO HG hrow1 hs1 hb1' z1 hb1
        obtain ⟨L, ys, br, rfl, hbr, hbrs, hrow, hy3, hys, hlo, hout, hTL, hb, hap⟩ := hrel
        obtain ⟨ia, ib, ic, o⟩ := qord ys hys hy3
        have hsz := hb.size
        have HE := hide (fun W => hasEmpty_any ys W)
        rw [inL_lo hys hy3] at HE
        obtain ⟨r0, r1, r2, r3⟩ := four_cells hrow
        have Hrow := hide hrow
        have HY3 := hide hy3
        have HOUT := hide hout
        have HTLL := hide hTL
        have HB := hide hb
        have HYS := hide hys
        have HOR := hide o
        have HLO := hide hlo
        have HAP := hide hap
        clear hrow hy3 hout hTL hb hys o hlo hap
        by_cases hz : lo ys ≤ 0
        · have HT := hide (show L = T from by
            have := HTLL.out
            rw [qall_none hz, List.append_nil] at this
            exact this)
          rw [decide_eq_true hz] at HE
          clear hz
          go_wp2_with fail
          refine (HE.out _).mono ?_; rintro e w2 ⟨rfl, hb2⟩
          have hout2 := HOUT.out.below hb2
          obtain ⟨A9, c9, rfl⟩ := hout2.shape
          clear r0 r1 r2 r3
          go_wp2_with fail
          go_ret2
          rw [← HT.out]
          exact ⟨A9, c9, rfl, hout2, HB.out.trans (hb2.mono hsz)⟩
        · have h0 : 0 < ys.getD ia 0 := by have := HOR.out.lo_; omega
          obtain ⟨p1, p2, p3, p4, p5⟩ := qround HYS.out HY3.out HOR.out h0
          have hfk : ∃ f, gk = f + 1 := by
            have := HLO.out
            exact ⟨gk - 1, by omega⟩
          obtain ⟨f, rfl⟩ := hfk
          have hTL2 := HTLL.out
          rw [qall_some hz, HOR.out.digs_] at hTL2
          have HDV := hide (fun W => division_any ys ia ib ic W HYS.out HY3.out HOR.out h0 p5)
          have hdpos : 0 < (digs ia ib ic (ys.getD ib 0 / ys.getD ia 0).toNat).length := by
            have hq1 : 1 ≤ ys.getD ib 0 / ys.getD ia 0 := (Int.le_ediv_iff_mul_le h0).2 (by have := HOR.out.le1; omega)
            by_cases hod : (ys.getD ib 0 / ys.getD ia 0).toNat % 2 = 1
            · rw [digs_one hod]; simp
            · rw [digs_two (by omega) hod]; simp
          have HP1 := hide p1
          have HP2 := hide p2
          have HP3 := hide p3
          have HP4 := hide (show lo (qnext ys) ≤ (f : Int) from by have := HLO.out; omega)
          have HTL2 := hide hTL2
          rw [decide_eq_false hz] at HE
          clear p1 p2 p3 p4 p5 hTL2 HTLL HLO h0 hz HOR
          generalize qnext ys = N at *
          generalize digs ia ib ic (ys.getD ib 0 / ys.getD ia 0).toNat = ds at *
          go_wp2_with fail
          refine (HE.out _).mono ?_; rintro e w2 ⟨rfl, hb2⟩
          have hrow2 := Hrow.out.of_block (hb2.block br hbrs)
          have hsz2 := hb2.size
          clear r0 r1 r2 r3
          obtain ⟨r0, r1, r2, r3⟩ := four_cells hrow2
          have Hrow2 := hide hrow2
          clear hrow2
          go_wp2_with fail
          refine (HDV.out _).mono ?_; rintro e w3 ⟨A3, c3, rfl, hds, hb3⟩
          obtain ⟨gd, cd, hv, hgd, hgdw, _, _⟩ := hds.form2' hdpos
          injection hv with hv1 hv2 hv3
          subst hv1
          have hv3 := hv3.symm
          subst hv3
          have hrow3 := Hrow2.out.of_block (hb3.block br (by omega))
          have Hrow3 := hide hrow3
          have HGB := hide (show gd ≠ br by omega)
          have HDS := hide (hds.less (show w.heap.size ≤ w2.heap.size by omega))
          have HOU3 := hide ((HOUT.out.below hb2).below hb3)
          have HB3 := hide (HB.out.trans ((hb2.trans (hb3.mono hsz2)).mono hsz))
          have HGD := hide (show u4.ownBlock ≠ some gd from fun e => absurd (HOUT.out.blk e).2 (by omega))
          have hdl : (L ++ ds).length < 1000000 := by
            have e2 := congrArg List.length HTL2.out
            have := HTL.out
            simp only [List.length_append] at e2 ⊢
            omega
          have hsz3 := hb3.size
          clear r0 r1 r2 r3 hrow3 hds hv2 HE HDV
          go_wp2_with fail
          go_loopw [4, 24] (fun v iv wq => IRel ys ds L br gd cd w v iv wq)
            (fun _ iv _ => ds.length - (intOf iv).toNat)
          case atStart => exact ⟨0, ys, Nat.zero_le _, rfl, rfl, Hrow3.out, by omega, by simpa using HOU3.out, HDS.out, HB3.out, HAP.out, HGD.out⟩
          case round =>
            clear Hrow3 HOU3 HB3 HGD HAP Hrow2 Hrow HOUT HB HDS
            obtain ⟨k, y1, hk, rfl, hpl, hrow, hbrs2, hout, hds, hb, hap, hgd2⟩ := hrel
            have hdl1 : ds.length < 1000000 := by rw [List.length_append] at hdl; omega
            have hyy := dplay_small _ _ _ HYS.out hpl
            have HY := hide hyy.1
            have hy3 : y1.length = 3 := by rw [hyy.2]; exact HY3.out
            have hsz := hb.size
            have HAP := hide hap
            have HGD := hide hgd2
            have HOUT := hide hout
            have HDS := hide hds
            have HBB := hide hb
            have hLk : (L ++ ds.take k).length < 1000000 := by rw [List.length_append, List.length_take] at *; omega
            clear hap hgd2 hout hds hb hyy
            by_cases hlt : k < ds.length
            · have HN := dplay_take_succ ys ds k hlt y1 hpl
              have hcan : canD y1 ds[k].x0 ds[k].x1 = true := by
                cases hc : canD y1 ds[k].x0 ds[k].x1
                · rw [hc, if_neg (by simp)] at HN
                  have := dplay_stuck ys ds (k + 1) HN
                  rw [HP1.out] at this
                  cases this
                · rfl
              obtain ⟨i, j, e0, e1, hi, hj, hij, hz, hle⟩ := canD_ix hcan
              have HNx := hide (show dplay ys (ds.take (k + 1)) = some (dmade i j y1) from by rw [HN, hcan, e0, e1]; rfl)
              have hdk : ds[k] = ⟨(i : Int), (j : Int)⟩ := by
                rw [← e0, ← e1]
              have HTK := hide (show (L ++ ds.take k) ++ [⟨(i : Int), (j : Int)⟩] = L ++ ds.take (k + 1) from by rw [List.take_succ_eq_append_getElem hlt, hdk, List.append_assoc])
              have HS2 := hide (dmade_length i j y1)
              have HM := hide (fun W => doubled_any y1 i j W HY.out (by omega) hi hj hij hle)
              obtain ⟨b, off, hA, hab, hc0, hc1⟩ := HDS.out.list.at_ hlt hlt
              injection hA with hA
              injection hA with hA1 hA2
              subst hA1 hA2
              rw [e0] at hc0
              rw [e1] at hc1
              rw [Nat.zero_add] at hc0 hc1
              have hki : (k : Int) < (ds.length : Int) := by omega
              have hrow0 := hrow.of_block (w' := wr.alloc (.cells #[.int .i64 (i : Int), .int .i64 (j : Int)] 33)) (Below.heap_alloc _ _ _ hbrs2)
              obtain ⟨r0, r1, r2, r3⟩ := four_cells hrow0
              have Hrow0 := hide hrow0
              clear hrow hrow0 HN hcan e0 e1 hdk hz hle hpl
              go_wp2_with fail
              have hbo : Below wr.heap.size wr (wr.alloc (.cells #[.int .i64 (i : Int), .int .i64 (j : Int)] 33)) := (Below.refl _ _).alloc (Nat.le_refl _) _
              have k0 : (wr.alloc (.cells #[.int .i64 (i : Int), .int .i64 (j : Int)] 33)).cell? ⟨wr.heap.size, 0, none⟩ = some (.int .i64 (i : Int)) := by simp
              have k1 : (wr.alloc (.cells #[.int .i64 (i : Int), .int .i64 (j : Int)] 33)).cell? ⟨wr.heap.size, 1, none⟩ = some (.int .i64 (j : Int)) := by simp
              have z0 : wr.heap.size < (wr.alloc (.cells #[.int .i64 (i : Int), .int .i64 (j : Int)] 33)).heap.size := by simp
              generalize (wr.alloc (.cells #[.int .i64 (i : Int), .int .i64 (j : Int)] 33)) = W0 at *
              with_reducible refine (HM.out _).mono ?_
              rintro e w5 ⟨rfl, hb5⟩
              have q0 := (hb5.cell (p := ⟨wr.heap.size, 0, none⟩) z0).trans k0
              have q1 := (hb5.cell (p := ⟨wr.heap.size, 1, none⟩) z0).trans k1
              have hrow5 := Hrow0.out.of_block (hb5.block br (by omega))
              have hs5 := hb5.size
              clear k0 k1 r0 r1 r2 r3
              obtain ⟨r0, r1, r2, r3⟩ := four_cells hrow5
              obtain ⟨f0, f1, f2, f3⟩ := four_free hrow5
              have HFS := hide (four_store hrow5 (fun j' => Value.int .i64 (pd (dmade i j y1) j')))
              have HO5 := hide ((HOUT.out.below hbo).below hb5)
              have HD5 := hide ((HDS.out.below hbo).below hb5)
              have HB5 := hide (HBB.out.trans ((hbo.trans (hb5.mono (by omega))).mono hsz))
              have HOB := hide (fun b => HOUT.out.blk (b := b))
              clear hrow5 hb5 hbo Hrow0
              go_upto_region 10 with fail
              have hoth : ∀ g, g ≠ br → ((((w5.setCell ⟨br, 0, none⟩ (.int .i64 (pd (dmade i j y1) 0))).setCell ⟨br, 1, none⟩ (.int .i64 (pd (dmade i j y1) 1))).setCell ⟨br, 2, none⟩ (.int .i64 (pd (dmade i j y1) 2))).setCell ⟨br, 3, none⟩ (.int .i64 (pd (dmade i j y1) 3))).heap[g]? = w5.heap[g]? := fun g hg => by
                rw [Below.heap_setCell _ _ _ _ hg, Below.heap_setCell _ _ _ _ hg, Below.heap_setCell _ _ _ _ hg, Below.heap_setCell _ _ _ _ hg]
              have HBS := hide (show Below w.heap.size w ((((w5.setCell ⟨br, 0, none⟩ (.int .i64 (pd (dmade i j y1) 0))).setCell ⟨br, 1, none⟩ (.int .i64 (pd (dmade i j y1) 1))).setCell ⟨br, 2, none⟩ (.int .i64 (pd (dmade i j y1) 2))).setCell ⟨br, 3, none⟩ (.int .i64 (pd (dmade i j y1) 3))) from (((HB5.out.setCell (show w.heap.size ≤ br by omega) _ (p := ⟨br, 0, none⟩)).setCell (show w.heap.size ≤ br by omega) _ (p := ⟨br, 1, none⟩)).setCell (show w.heap.size ≤ br by omega) _ (p := ⟨br, 2, none⟩)).setCell (show w.heap.size ≤ br by omega) _ (p := ⟨br, 3, none⟩))
              have hss : ((((w5.setCell ⟨br, 0, none⟩ (.int .i64 (pd (dmade i j y1) 0))).setCell ⟨br, 1, none⟩ (.int .i64 (pd (dmade i j y1) 1))).setCell ⟨br, 2, none⟩ (.int .i64 (pd (dmade i j y1) 2))).setCell ⟨br, 3, none⟩ (.int .i64 (pd (dmade i j y1) 3))).heap.size = w5.heap.size := by simp
              have HRS := hide (HFS.out)
              clear r0 r1 r2 r3 f0 f1 f2 f3 HFS
              generalize ((((w5.setCell ⟨br, 0, none⟩ (.int .i64 (pd (dmade i j y1) 0))).setCell ⟨br, 1, none⟩ (.int .i64 (pd (dmade i j y1) 1))).setCell ⟨br, 2, none⟩ (.int .i64 (pd (dmade i j y1) 2))).setCell ⟨br, 3, none⟩ (.int .i64 (pd (dmade i j y1) 3))) = W5 at *
              have q0 := (cell_blk (i := 0) (hoth wr.heap.size (by omega))).trans q0
              have q1 := (cell_blk (i := 1) (hoth wr.heap.size (by omega))).trans q1
              have hoS := HO5.out.keepAt (w' := W5) (fun g hg => hoth g (fun e => HAP.out (by rw [hg, e])))
              have HDS5 := hide (HD5.out.keepAt (w' := W5) (fun g hg => hoth g (by injection hg with hg; rw [← hg]; exact HGB.out)))
              have hWs : w.heap.size ≤ W5.heap.size := by omega
              have HNB := hide (show (some wr.heap.size : Option Nat) ≠ u4.ownBlock from fun e => absurd (HOB.out _ e.symm).2 (by omega))
              have HNR := hide (show (some br : Option Nat) ≠ u4.ownBlock from fun e => HAP.out e.symm)
              have HND := hide (show (some gd : Option Nat) ≠ u4.ownBlock from fun e => HGD.out e.symm)
              have hgs := (HDS5.out.blk (b := gd) rfl).2
              have zW : wr.heap.size < W5.heap.size := by omega
              have hbW : br < W5.heap.size := by omega
              clear hoth HO5 HD5 HB5 HOB HAP HGD HDS HOUT hss hs5
              go_wp2_with (at_builtin; refine wpList_app_Db_at rfl _ _ 23 rfl Try.underlying23 w.heap.size _ (L ++ ds.take k) rfl hoS ⟨(i : Int), (j : Int)⟩ _ rfl hWs hLk ?_; intro v' w' hown' hb' hoth' hsz' hblk'; have HV := hide hown'; have HBV := hide hb'; have HOTH := hide hoth'; have HBLK := hide hblk'; clear hown' hb' hoth' hblk' q0 q1)
              go_roundw
              case rel =>
                refine ⟨k + 1, dmade i j y1, by omega, by go_num, HNx.out, HRS.out.of_block (HOTH.out br (by omega) HNR.out), by omega, ?_, HDS5.out.keepAt (fun g hg => by injection hg with hg; rw [← hg]; exact HOTH.out gd hgs HND.out), HBS.out.trans HBV.out, ?_, ?_⟩
                · rw [← HTK.out]; exact HV.out
                · intro e
                  rcases HBLK.out br e with h | h
                  · exact HNR.out h.symm
                  · omega
                · intro e
                  rcases HBLK.out gd e with h | h
                  · exact HND.out h.symm
                  · omega
              case measure => simp [intOf]; omega
            · have hke : k = ds.length := by omega
              have HN := hide (show y1 = N from by
                have := hpl
                rw [hke, List.take_length, HP1.out] at this
                injection this with this; exact this.symm)
              have HLD := hide (show L ++ ds.take k = L ++ ds from by rw [hke, List.take_length])
              have hki : ¬ (k : Int) < (ds.length : Int) := by omega
              obtain ⟨r0, r1, r2, r3⟩ := four_cells hrow
              clear hrow hke hpl
              go_wp2_with fail
              have hrowN := row4_alloc wr y1 36
              have zN : wr.heap.size < (wr.alloc (.cells #[.int .i64 (pd y1 0), .int .i64 (pd y1 1), .int .i64 (pd y1 2), .int .i64 (pd y1 3)] 36)).heap.size := by simp
              go_roundg f
              case measure => omega
              case rel => exact ⟨L ++ ds, y1, wr.heap.size, rfl, hsz, zN, hrowN, hy3, HY.out, HN.out ▸ HP4.out, by rw [← HLD.out]; exact HOUT.out.keep (fun _ _ hg => Below.heap_alloc _ _ _ hg), by rw [HN.out, List.append_assoc]; exact HTL2.out, HBB.out.alloc hsz _, fun e => absurd (HOUT.out.blk e).2 (by omega)⟩
    · have H := hide (quoOk_no2 h3)
      have h3i : ¬ (zs.length : Int) = 3 := by omega
      rw [quoL_no H.out, H.out]
      clear hf h3
      go_enter Try.func6, Try.ntmps6
      go_wp2_with fail
      refine (HG.out _ hr).mono ?_; rintro e w' ⟨rfl, rfl⟩
      go_wp2_with fail
      go_ret2
      exact madeRDb_none (Below.refl _ _)
end Go.Proofs.Ytkpcncgmljapeaa
