
/-
  QUOTIENTS, THE MODEL's WAY: QuotientDoublings.
-/
import Derived.Test.YtkpcncgmljapeaaQdO
import Derived.Test.YtkpcncgmljapeaaDoub
import Derived.Test.YtkpcncgmljapeaaDbM
import Derived.Test.YtkpcncgmljapeaaFewH
import Derived.Deep.LoopGhost
import Derived.Deep.Cut
import Derived.Maps.AppendAt
namespace Go.Proofs.Ytkpcncgmljapeaa
open Go.RowKit Go.Deep
set_option linter.unusedVariables false

theorem OwnIDb.blk {w : World} {base n : Nat} {v : Value} {xs : List Int} (h : OwnIDb w base v n xs) {b : Nat} (hb : v.ownBlock = some b) : base ≤ b ∧ b < w.heap.size := by
  rcases h.form with ⟨rfl, _⟩ | ⟨g, c, rfl, h1, h2⟩
  · cases hb
  · injection hb with hb; subst hb; exact ⟨h1, h2⟩
theorem own_blk {w : World} {base : Nat} {e : TypeId} {u : Value} {zs : List Int} (h : Own w base e u zs) {b : Nat} (hb : u.ownBlock = some b) : base ≤ b ∧ b < w.heap.size := by
  rcases h.form with ⟨rfl, _⟩ | ⟨g, c, rfl, h1, h2, _⟩
  · cases hb
  · injection hb with hb; subst hb; exact ⟨h1, h2⟩
theorem own_keepAt {w w' : World} {base g n c : Nat} {e : TypeId} {zs : List Int} (h : Own w base e (.slice (some ⟨g, 0, none⟩) n c) zs) (hk : w'.heap[g]? = w.heap[g]?) : Own w' base e (.slice (some ⟨g, 0, none⟩) n c) zs := by
  refine ⟨h.1, ?_⟩
  rcases h.2 with ⟨h1, _⟩ | ⟨g', cap, cur, h1, hb, hg, r⟩
  · cases h1
  · cases h1
    exact .inr ⟨_, _, cur, rfl, hb, hk.trans hg, r⟩
theorem cell_blk {w w' : World} {g i : Nat} (h : w'.heap[g]? = w.heap[g]?) : w'.cell? ⟨g, i, none⟩ = w.cell? ⟨g, i, none⟩ := by
  unfold World.cell?; simp only [h]
/-- 'out = append(out, d)', and which block turned. -/
theorem wpList_app_Db_at {wr : World} {ops : Array Oper} {rest : List Oper} {o : Oper} {a : Act} {Q : Exit → Act → World → Prop} (hgd : o.guard = none) (s x : Operand) (t : TypeId)
    (ho : o.op = .call { callee := .builtin .append, args := #[s, x], argTypes := #[t, t] }) (ht : Try.prog.underlying t = some (.slice 33))
    (base : Nat) (v : Value) (ms : List Db) (hs : a.eval s = v) (hown : OwnIDb wr base v ms.length (numsDb ms)) (d : Db) (c : Nat) (hx : a.eval x = .slice (some ⟨wr.heap.size, 0, none⟩) 1 c)
    (hbase : base ≤ wr.heap.size) (hlen : ms.length < 1000000)
    (h : ∀ v' w', OwnIDb w' base v' (ms ++ [d]).length (numsDb (ms ++ [d])) → Below base wr w' → (∀ k, k < wr.heap.size → some k ≠ v.ownBlock → w'.heap[k]? = wr.heap[k]?) → wr.heap.size ≤ w'.heap.size →
      (∀ b, v'.ownBlock = some b → v.ownBlock = some b ∨ wr.heap.size ≤ b) → wpList Try.prog ops Q rest (a.put o.dst v') w') :
    wpList Try.prog ops Q (o :: rest) a (wr.alloc (.cells #[.int .i64 d.x0, .int .i64 d.x1] 33)) := by
  obtain ⟨i0, hi, hz0, hz1, hz2⟩ := info_parts infoDb
  refine wpList_append_own_at _ hgd s x t ho base 33 i0 (.agg #[.int .i64 0, .int .i64 0]) 2 16 ht hi hz0 hz1 hz2 rfl (by decide) v ms.length ((numsDb ms).map (Value.int .i64)) hs ((hown.keep fun _ _ hg => Below.heap_alloc _ _ _ hg).1)
    ⟨wr.heap.size, 0, none⟩ 1 c [.int .i64 d.x0, .int .i64 d.x1] hx rfl ?_ ?_ (by unfold maxLen; omega) (by omega) (by simp; omega) ?_
  · intro j u hj
    match j, hj with
    | 0, hj => simp at hj; subst hj; rw [add_head]; simp
    | 1, hj => simp at hj; subst hj; rw [add_head]; simp
  · intro u hu; simp at hu; rcases hu with rfl | rfl <;> rfl
  · intro v' w' h1 h2 _ h4
    have hB : Below base wr w' := by
      refine (((Below.refl base wr).alloc hbase _).grown h2 (by simp; omega) ?_)
      intro k hk
      exact (World.ownsRow.lt hown.1 k hk).1
    refine h v' w' ⟨?_, ?_⟩ hB ?_ hB.size ?_
    · rw [numsDb_append, List.length_append, List.map_append, show numsDb [d] = [d.x0, d.x1] from by rw [numsDb_cons]; rfl]
      exact h1
    · rw [numsDb_length]
    · intro k hk hne
      rw [h2.block k (by simp; omega) hne]
      exact Below.heap_alloc _ _ _ hk
    · intro b hb
      rcases h4 with h4 | h4
      · exact .inl (h4 ▸ hb)
      · rw [h4] at hb; injection hb with hb; exact .inr (by simp at hb; omega)

/-- Between two rounds of the model: f bounds the rounds that are left. -/
def QRel (T : List Db) (w : World) (f : Nat) (v nw : Value) (wr : World) : Prop :=
  ∃ (L : List Db) (ys : List Int) (gn c : Nat), nw = .slice (some ⟨gn, 0, none⟩) 3 c ∧ Own wr w.heap.size 3 nw ys ∧ ys.length = 3 ∧ small ys ∧ lo ys ≤ f ∧ OwnIDb wr w.heap.size v L.length (numsDb L) ∧ L ++ qall f ys = T ∧ Below w.heap.size w wr ∧ v.ownBlock ≠ some gn
/-- Between two digits: k bounds the quotient that is left. -/
def DRel (a b c : Nat) (R : List Db) (N : List Int) (w : World) (k : Nat) (v nw qv : Value) (wr : World) : Prop :=
  ∃ (q : Nat) (L : List Db) (ys : List Int) (gn c' : Nat), q ≤ k ∧ q ≤ 40 ∧ qv = .int .i64 q ∧ nw = .slice (some ⟨gn, 0, none⟩) 3 c' ∧ Own wr w.heap.size 3 nw ys ∧ ys.length = 3 ∧ small ys ∧ OwnIDb wr w.heap.size v L.length (numsDb L) ∧ L ++ digs a b c q = R ∧ dplay ys (digs a b c q) = some N ∧ Below w.heap.size w wr ∧ v.ownBlock ≠ some gn

set_option maxRecDepth 1000000 in
set_option maxHeartbeats 4000000 in
theorem specQuotientDoublings_any (A : Option Addr) (n c B : Nat) (zs : List Int) (w : World) (hr : Ints w B A n zs) (hB : B ≤ w.heap.size) (hn : n ≤ 17592186044416) :
    Calls Try.prog 4 #[.slice A n c] w (MadeRDb (quoL zs) (quoOk zs) w) := by
  obtain rfl := hr.len
  have HG := hide (fun W (h : Ints W B A zs.length zs) => dbGood_any A zs.length c B zs W h hn)
  cases hf : few zs
  · have H := hide (quoOk_no1 hf)
    rw [hf] at HG
    rw [quoL_no H.out, H.out]
    clear hf
    go_enter Try.func4, Try.ntmps4
    go_wp2_with fail
    refine (HG.out _ hr).mono ?_; rintro e w' ⟨rfl, rfl⟩
    go_wp2_with fail
    go_ret2
    exact madeRDb_none (Below.refl _ _)
  · rw [hf] at HG
    by_cases h3 : zs.length = 3
    · have HK := hide (quoOk_yes hf h3)
      have hs := (few_small hf).1
      have hT := quoL_len zs
      rw [quoL_yes HK.out] at hT
      rw [quoL_yes HK.out, HK.out]
      have HS := hide hs
      have H3 := hide h3
      have h3i : (zs.length : Int) = 3 := by omega
      have hl0 : lo zs ≤ ((41 : Nat) : Int) := by have := lo_bd hs h3; omega
      have HL0 := hide hl0
      have HO := hide (fun W (h : Ints W B A zs.length zs) (h' : B ≤ W.heap.size) => l1Own_any A zs.length c B zs W h h' (by omega) (by omega))
      generalize hTe : qall 41 zs = T at *
      have HTE := hide hTe
      clear hf hs h3 hTe hl0
      go_enter Try.func4, Try.ntmps4
      go_wp2_with fail
      refine (HG.out _ hr).mono ?_; rintro e w' ⟨rfl, rfl⟩
      go_wp2_with fail
      refine (HO.out _ hr hB).mono ?_; rintro e w1 ⟨g1, c1, rfl, _, _, _, _, hown1, hb1⟩
      have HOWN1 := hide hown1
      have HB1 := hide hb1
      clear hown1 hb1
      go_wp2_with fail
      go_simp
      go_loopg [4, 5] 41 (QRel T w)
      case atStart => exact ⟨[], zs, g1, c1, by rw [H3.out], HOWN1.out, H3.out, HS.out, HL0.out, OwnIDb.nil _ _, by rw [HTE.out]; rfl, HB1.out, by intro e; cases e⟩
      case round =>
        clear HTE HS HL0 HOWN1 HB1 HO HG
        obtain ⟨L, ys, gn, c2, rfl, hnow, hy3, hys, hlo, hout, hTL, hb, hap⟩ := hrel
        have HAP := hide hap
        clear hap
        obtain ⟨ia, ib, ic, o⟩ := qord ys hys hy3
        have ha3 := o.ha; have hb3 := o.hb; have hc3 := o.hc
        have hsz := hb.size
        have HY3 := hide hy3
        have HDO := hide (dbOrder_any (some ⟨gn, 0, none⟩) 3 c2 wr.heap.size ys wr (by have := hnow.ints; rw [hy3] at this; exact this) (Nat.le_refl _) (by omega))
        have HEQ := hide o.eq
        have HNOW := hide hnow
        have HOUT := hide hout
        have HTL := hide hTL
        have HB := hide hb
        have HYS := hide hys
        have HOR := hide o
        have HLO := hide hlo
        clear hnow hout hTL hb hys hlo o hy3
        go_wp2_with fail
        refine HDO.out.mono ?_; rw [HEQ.out]; rintro e w2 ⟨v6, rfl, hown6, hb2⟩
        obtain ⟨A6, c6, rfl, _, _⟩ := hown6.shape
        obtain ⟨g6, rfl, e0⟩ := own_get hown6 (k := 0) (by simp)
        obtain ⟨_, hg6, e1⟩ := own_get hown6 (k := 1) (by simp)
        obtain rfl : g6 = _ := by injection hg6 with hg6; injection hg6
        obtain ⟨_, hg6', e2⟩ := own_get hown6 (k := 2) (by simp)
        obtain rfl : g6 = _ := by injection hg6' with hg6'; injection hg6'
        have e0 : w2.cell? ⟨g6, 0, none⟩ = some (.int .i64 (ia : Int)) := e0
        have e1 : w2.cell? ⟨g6, 1, none⟩ = some (.int .i64 (ib : Int)) := e1
        have e2 : w2.cell? ⟨g6, 2, none⟩ = some (.int .i64 (ic : Int)) := e2
        have hlen6 : [(ia : Int), (ib : Int), (ic : Int)].length = 3 := rfl
        rw [hlen6]
        have HB2 := hide hb2
        clear hown6 hb2 hg6 hg6' hlen6
        have hnow2 := HNOW.out.below HB2.out
        obtain ⟨_, hgn, ea⟩ := own_get (n := 3) hnow2 (k := ia) (by rw [HY3.out]; exact ha3)
        obtain rfl : gn = _ := by injection hgn with hgn; injection hgn
        clear hgn
        obtain ⟨_, hgn, eb⟩ := own_get (n := 3) hnow2 (k := ib) (by rw [HY3.out]; exact hb3)
        obtain rfl : gn = _ := by injection hgn with hgn; injection hgn
        have hxa := HOR.out.lo0
        have hxab := HOR.out.le1
        have hxb := HOR.out.hi ib hb3
        have ha3i : (ia : Int) < 3 := by omega
        have hb3i : (ib : Int) < 3 := by omega
        have HNOW2 := hide hnow2
        clear hgn hnow2
        by_cases hz : ys.getD ia 0 = 0
        · have HT := hide (show L = T from by
            have := HTL.out
            rw [qall_none (by rw [HOR.out.lo_]; omega), List.append_nil] at this
            exact this)
          have hz0 : (ys.getD ia 0 == 0) = true := by simpa using hz
          generalize ys.getD ia 0 = x at *
          generalize ys.getD ib 0 = y at *
          go_wp2_with fail
          go_region
          go_wp2_with fail
          have hout2 := HOUT.out.below HB2.out
          obtain ⟨A9, c9, rfl⟩ := hout2.shape
          go_ret2
          rw [← HT.out]
          exact ⟨A9, c9, rfl, hout2.keep (fun _ _ _ => rfl), (HB.out.trans (HB2.out.mono hsz)).drew⟩
        · have h0 : 0 < ys.getD ia 0 := by omega
          obtain ⟨p1, p2, p3, p4, p5⟩ := qround HYS.out HY3.out HOR.out h0
          have hz0 : (ys.getD ia 0 == 0) = false := by simpa using hz
          have hq0 : 0 ≤ ys.getD ib 0 / ys.getD ia 0 := Int.ediv_nonneg (by omega) (by omega)
          have hqt : ys.getD ib 0 / ys.getD ia 0 = ((ys.getD ib 0 / ys.getD ia 0).toNat : Int) := by omega
          have hfk : ∃ f, gk = f + 1 := by
            have := HLO.out; have h1 := HOR.out.lo_
            exact ⟨gk - 1, by omega⟩
          obtain ⟨f, rfl⟩ := hfk
          have hTL := HTL.out
          rw [qall_some (by rw [HOR.out.lo_]; omega), HOR.out.digs_] at hTL
          have HP1 := hide p1
          have HP2 := hide p2
          have HP3 := hide p3
          have HP4 := hide (show lo (qnext ys) ≤ (f : Int) from by have := HLO.out; omega)
          have HQT := hide hqt
          have HTL2 := hide hTL
          clear p1 p2 p3 p4 hTL hqt hq0 HTL HLO
          generalize qnext ys = N at *
          generalize hq00 : (ys.getD ib 0 / ys.getD ia 0).toNat = q0 at *
          clear hq00
          generalize hxa' : ys.getD ia 0 = x at *
          generalize hyb' : ys.getD ib 0 = y at *
          have HXA := hide hxa'
          clear hxa' hyb'
          go_wp2_with fail
          go_region
          go_wp2_with fail
          go_region
          go_wp2_with fail
          go_simp
          go_loopg [4, 5, 10] q0 (DRel ia ib ic (L ++ digs ia ib ic q0) N w)
          case atStart => exact ⟨q0, L, ys, gn, c2, Nat.le_refl _, p5, by rw [HQT.out], rfl, HNOW2.out, HY3.out, HYS.out, (HOUT.out.below HB2.out).keep (fun _ _ _ => rfl), rfl, HP1.out, below_drewN (HB.out.trans (HB2.out.mono hsz)) 2, HAP.out⟩
          case round =>
            clear HNOW2 HY3 HYS HOUT HP1 HQT e0 e1 e2 ea eb HNOW HOR HEQ HDO HAP
            obtain ⟨q, L1, y1, g1, c1', hqk, hq40, rfl, rfl, hnow, hy3, hys, hout, hR, hpl, hb, hap⟩ := hrel
            have hsz := hb.size
            have HNW := hide hnow
            have HY3 := hide hy3
            have HYS := hide hys
            have HO1 := hide hout
            have HR := hide hR
            have HBB := hide hb
            have HAP := hide hap
            have hL1 : L1.length < 1000000 := by
              have e1 := congrArg List.length hR
              have e2 := congrArg List.length HTL2.out
              simp only [List.length_append] at e1 e2
              omega
            have HNL := hide (own_blk hnow (b := g1) rfl)
            have HOL := hide (fun b => hout.blk (b := b))
            clear hnow hy3 hys hout hR hb hap
            by_cases hq : q = 0
            · subst hq
              have HN := hide (show y1 = N from by rw [digs_zero] at hpl; injection hpl)
              have HL1 := hide (show L1 = L ++ digs ia ib ic q0 from by have := HR.out; rwa [digs_zero, List.append_nil] at this)
              clear hpl HR
              go_wp2_with fail
              go_roundg f
              case measure => omega
              case rel => exact ⟨L1, y1, g1, c1', rfl, HNW.out, HY3.out, HYS.out, HN.out ▸ HP4.out, HO1.out, by rw [HL1.out, ← HTL2.out, HN.out, List.append_assoc], HBB.out, HAP.out⟩
            · obtain ⟨kk, rfl⟩ : ∃ kk, gk = kk + 1 := ⟨gk - 1, by omega⟩
              have hq0 : (0 : Int) < (q : Int) := by omega
              by_cases hod : q % 2 = 1
              · have hodI : (q : Int) % 2 = 1 := by omega
                rw [digs_one hod] at hpl
                obtain ⟨_, _, hij, hle, hpl2, hs2, h32⟩ := dplay_step hpl HYS.out HY3.out
                have HPL := hide hpl2
                have HS2 := hide hs2
                have H32 := hide h32
                have HR2 := hide (show (L1 ++ [⟨(ib : Int), (ia : Int)⟩]) ++ digs ia ib ic (q / 2) = L ++ digs ia ib ic q0 from by have := HR.out; rw [digs_one hod] at this; rw [List.append_assoc]; exact this)
                have HMK := hide (fun W (h : Ints W W.heap.size (some ⟨g1, 0, none⟩) 3 y1) => dbMake_any (some ⟨g1, 0, none⟩) 3 c1' W.heap.size y1 ib ia W h (Nat.le_refl _) (by omega) HYS.out (by omega) (by omega) hij hle)
                clear hpl hpl2 hs2 h32 HR hle hij
                go_upto_region 15 with fail
                have k0 : (wr.alloc (.cells #[.int .i64 (ib : Int), .int .i64 (ia : Int)] 33)).cell? ⟨wr.heap.size, 0, none⟩ = some (.int .i64 (ib : Int)) := by simp
                have k1 : (wr.alloc (.cells #[.int .i64 (ib : Int), .int .i64 (ia : Int)] 33)).cell? ⟨wr.heap.size, 1, none⟩ = some (.int .i64 (ia : Int)) := by simp
                have z0 : wr.heap.size < (wr.alloc (.cells #[.int .i64 (ib : Int), .int .i64 (ia : Int)] 33)).heap.size := by simp
                have hbw : Below wr.heap.size wr (wr.alloc (.cells #[.int .i64 (ib : Int), .int .i64 (ia : Int)] 33)) := (Below.refl _ _).alloc (Nat.le_refl _) _
                generalize (wr.alloc (.cells #[.int .i64 (ib : Int), .int .i64 (ia : Int)] 33)) = W0 at *
                have hoW := HO1.out.below hbw
                have hnW := HNW.out.below hbw
                have HBW := hide (HBB.out.trans (hbw.mono hsz))
                have hWs : w.heap.size ≤ W0.heap.size := by omega
                have HNB := hide (show (some wr.heap.size : Option Nat) ≠ u4.ownBlock from fun e => absurd (HOL.out _ e.symm).2 (by omega))
                have HNG := hide (show (some g1 : Option Nat) ≠ u4.ownBlock from fun e => HAP.out e.symm)
                have HNW0 := hide hnW
                have HNL2 := HNL.out.2
                clear hbw hnW HOL HAP
                go_wp2_with (at_builtin; refine wpList_app_Db_at rfl _ _ 23 rfl Try.underlying23 w.heap.size _ L1 rfl hoW ⟨(ib : Int), (ia : Int)⟩ _ rfl hWs hL1 ?_; intro v' w' hown' hb' hoth hsz' hblk'; have q0 := (cell_blk (i := 0) (hoth wr.heap.size z0 HNB.out)).trans k0; have q1 := (cell_blk (i := 1) (hoth wr.heap.size z0 HNB.out)).trans k1; have HV := hide hown'; have HBV := hide hb'; have HOTH := hide hoth; have HBLK := hide hblk'; clear hown' hb' hoth hblk' k0 k1)
                have hnV := own_keepAt HNW0.out (HOTH.out g1 (by omega) HNG.out)
                have hnI := hnV.ints
                rw [HY3.out] at hnI
                have hszv := HBV.out.size
                refine (HMK.out _ hnI).mono ?_
                rintro e w5 ⟨g5, c5, rfl, hg5, hg5s, _, _, hown5, hb5⟩
                rw [H32.out] at hown5 ⊢
                go_wp2_with fail
                go_roundg kk
                case measure => omega
                case rel => exact ⟨q / 2, L1 ++ [⟨(ib : Int), (ia : Int)⟩], dmade ib ia y1, g5, c5, by omega, by omega, by rw [show ((q / 2 : Nat) : Int) = (q : Int) / 2 from by omega], rfl, hown5.less (by omega), H32.out, HS2.out, HV.out.below hb5, HR2.out, HPL.out, (HBW.out.trans HBV.out).trans (hb5.mono (by omega)), fun e => absurd (HV.out.blk e).2 (by omega)⟩
              · have hodI : ¬ (q : Int) % 2 = 1 := by omega
                rw [digs_two hq hod] at hpl
                obtain ⟨_, _, hij, hle, hpl2, hs2, h32⟩ := dplay_step hpl HYS.out HY3.out
                have HPL := hide hpl2
                have HS2 := hide hs2
                have H32 := hide h32
                have HR2 := hide (show (L1 ++ [⟨(ic : Int), (ia : Int)⟩]) ++ digs ia ib ic (q / 2) = L ++ digs ia ib ic q0 from by have := HR.out; rw [digs_two hq hod] at this; rw [List.append_assoc]; exact this)
                have HMK := hide (fun W (h : Ints W W.heap.size (some ⟨g1, 0, none⟩) 3 y1) => dbMake_any (some ⟨g1, 0, none⟩) 3 c1' W.heap.size y1 ic ia W h (Nat.le_refl _) (by omega) HYS.out (by omega) (by omega) hij hle)
                clear hpl hpl2 hs2 h32 HR hle hij
                go_upto_region 15 with fail
                have k0 : (wr.alloc (.cells #[.int .i64 (ic : Int), .int .i64 (ia : Int)] 33)).cell? ⟨wr.heap.size, 0, none⟩ = some (.int .i64 (ic : Int)) := by simp
                have k1 : (wr.alloc (.cells #[.int .i64 (ic : Int), .int .i64 (ia : Int)] 33)).cell? ⟨wr.heap.size, 1, none⟩ = some (.int .i64 (ia : Int)) := by simp
                have z0 : wr.heap.size < (wr.alloc (.cells #[.int .i64 (ic : Int), .int .i64 (ia : Int)] 33)).heap.size := by simp
                have hbw : Below wr.heap.size wr (wr.alloc (.cells #[.int .i64 (ic : Int), .int .i64 (ia : Int)] 33)) := (Below.refl _ _).alloc (Nat.le_refl _) _
                generalize (wr.alloc (.cells #[.int .i64 (ic : Int), .int .i64 (ia : Int)] 33)) = W0 at *
                have hoW := HO1.out.below hbw
                have hnW := HNW.out.below hbw
                have HBW := hide (HBB.out.trans (hbw.mono hsz))
                have hWs : w.heap.size ≤ W0.heap.size := by omega
                have HNB := hide (show (some wr.heap.size : Option Nat) ≠ u4.ownBlock from fun e => absurd (HOL.out _ e.symm).2 (by omega))
                have HNG := hide (show (some g1 : Option Nat) ≠ u4.ownBlock from fun e => HAP.out e.symm)
                have HNW0 := hide hnW
                have HNL2 := HNL.out.2
                clear hbw hnW HOL HAP
                go_wp2_with (at_builtin; refine wpList_app_Db_at rfl _ _ 23 rfl Try.underlying23 w.heap.size _ L1 rfl hoW ⟨(ic : Int), (ia : Int)⟩ _ rfl hWs hL1 ?_; intro v' w' hown' hb' hoth hsz' hblk'; have q0 := (cell_blk (i := 0) (hoth wr.heap.size z0 HNB.out)).trans k0; have q1 := (cell_blk (i := 1) (hoth wr.heap.size z0 HNB.out)).trans k1; have HV := hide hown'; have HBV := hide hb'; have HOTH := hide hoth; have HBLK := hide hblk'; clear hown' hb' hoth hblk' k0 k1)
                have hnV := own_keepAt HNW0.out (HOTH.out g1 (by omega) HNG.out)
                have hnI := hnV.ints
                rw [HY3.out] at hnI
                have hszv := HBV.out.size
                refine (HMK.out _ hnI).mono ?_
                rintro e w5 ⟨g5, c5, rfl, hg5, hg5s, _, _, hown5, hb5⟩
                rw [H32.out] at hown5 ⊢
                go_wp2_with fail
                go_roundg kk
                case measure => omega
                case rel => exact ⟨q / 2, L1 ++ [⟨(ic : Int), (ia : Int)⟩], dmade ic ia y1, g5, c5, by omega, by omega, by rw [show ((q / 2 : Nat) : Int) = (q : Int) / 2 from by omega], rfl, hown5.less (by omega), H32.out, HS2.out, HV.out.below hb5, HR2.out, HPL.out, (HBW.out.trans HBV.out).trans (hb5.mono (by omega)), fun e => absurd (HV.out.blk e).2 (by omega)⟩
    · have H := hide (quoOk_no2 h3)
      have h3i : ¬ (zs.length : Int) = 3 := by omega
      rw [quoL_no H.out, H.out]
      clear hf h3
      go_enter Try.func4, Try.ntmps4
      go_wp2_with fail
      refine (HG.out _ hr).mono ?_; rintro e w' ⟨rfl, rfl⟩
      go_wp2_with fail
      go_ret2
      exact madeRDb_none (Below.refl _ _)
end Go.Proofs.Ytkpcncgmljapeaa
