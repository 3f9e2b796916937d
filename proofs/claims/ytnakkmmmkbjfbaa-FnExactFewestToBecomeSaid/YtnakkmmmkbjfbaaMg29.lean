import Derived.Test.YtnakkmmmkbjfbaaMg28
import Derived.Deep.LoopGhost
import Derived.WalkMore
import Derived.Test.YtnakkmmmkbjfbaaMg26

/-
  THE FIRST WAY, THE PROGRAM's WAY: the walk of firstWay.
-/
namespace Go.Proofs.Ytnakkmmmkbjfbaa
open Go.RowKit Go.Deep
open Go.Maps (Keyed)
set_option linter.unusedVariables false

/-- What the first way comes out as. -/
def FwR (zs : List Int) (pr : List Int → Bool) (w : World) (e : Ending) (w' : World) : Prop :=
  ∃ (L : List Db) (A' : Option Addr) (c' : Nat) (fnd : Bool), e = .returned (.tuple #[.slice A' L.length c', .bool fnd]) ∧ L = wayQ zs pr ∧ fnd = decide (0 ≤ fewQ zs pr) ∧ OwnIDb w' w.heap.size (.slice A' L.length c') L.length (numsDb L) ∧ Below w.heap.size w w'

set_option maxRecDepth 100000 in
set_option maxHeartbeats 8000000 in
theorem firstWay_any (zs : List Int) (fn : FuncId) (caps : Array Value) (pr : List Int → Bool) (w : World) (hs : small zs) (h2 : 2 ≤ zs.length) (h4 : zs.length ≤ 4)
    (hrun : ∀ (args : Array Value) (X : World), (callFunc fn args).run Try.prog X = .ok (.enter fn args) X)
    (hpr : ∀ (q : List Int) (X : World), small q → q.length = zs.length → Below w.heap.size w X → Calls Try.prog fn (#[.agg #[.int .i64 (pd q 0), .int .i64 (pd q 1), .int .i64 (pd q 2), .int .i64 (pd q 3)]] ++ caps) X fun e X' => e = .returned (.bool (pr q)) ∧ Below X.heap.size X X') :
    Calls Try.prog 27 #[.agg #[.int .i64 (pd zs 0), .int .i64 (pd zs 1), .int .i64 (pd zs 2), .int .i64 (pd zs 3)], .func (.func fn) #[] caps] w (FwR zs pr w) := by
  have hrow := row4_alloc w zs 42
  obtain ⟨W1, hW1⟩ : ∃ W1, W1 = w.alloc (.cells #[.int .i64 (pd zs 0), .int .i64 (pd zs 1), .int .i64 (pd zs 2), .int .i64 (pd zs 3)] 42) := ⟨_, rfl⟩
  have hs1 : W1.heap.size = w.heap.size + 1 := by rw [hW1]; simp
  have hb1 : Below w.heap.size w W1 := by rw [hW1]; exact (Below.refl _ _).alloc (Nat.le_refl _) _
  obtain ⟨c0, c1, c2, c3⟩ := four_cells hrow
  rw [← hW1] at hrow
  have HSF := hide (searchFrom_any zs fn caps pr W1 hs h2 h4 hrun fun q X h1 h2 h3 => hpr q X h1 h2 (hb1.trans (h3.mono (by omega))))
  have HRW := hide hrow
  have HB1 := hide hb1
  have HS := hide hs
  clear hrun hpr hrow hb1 hs
  go_enter Try.func27, Try.ntmps27
  go_wp2_with fail
  rw [← hW1]
  clear c0 c1 c2 c3
  refine HSF.out.mono ?_; rintro e w2 ⟨k, x, fd, rfl, hm, hno, hfd, hb2⟩
  have hsz2 := hb2.size
  have HB2 := hide (HB1.out.trans (hb2.mono (by omega)))
  have HRW2 := hide (HRW.out.of_block (hb2.block _ (by omega)))
  have HM := hide hm
  have hml := hm.lt
  have HNO := hide hno
  rcases hfd with ⟨rfl, p, hp, hpp, rfl⟩ | ⟨rfl, hk⟩
  · have hst := stop_at HS.out (by omega) h4 hp hpp hno
    obtain ⟨hfw, hwy⟩ := fewQ_some hst
    have HOK := hide (Qn_ok HS.out k)
    have hpm := List.mem_of_getElem? hp
    have hplen := Qn_plen zs k k p hp
    have hkl := (List.getElem?_eq_some_iff.1 hp).1
    have hQl := Qn_len HS.out (by omega) h4 k
    have h0 := Qn_has zs k
    have HFW := hide (show true = decide (0 ≤ fewQ zs pr) from by rw [hfw]; exact (decide_eq_true (by omega)).symm)
    have HWY := hide hwy
    have H0 := hide h0
    have HPM := hide hpm
    have hp2 : p.2.length ≤ 68921 := by omega
    clear hst hfw hwy hpm hp hpp hno hb2 hm hplen hkl hQl HNO h0 HSF
    generalize Qn zs k = Q at *
    have hlt6 : W1.heap.size + 2 < w2.heap.size := by omega
    have HI0 := hide (show FwI w w2.heap.size (W1.heap.size + 2) zs Q p.1 [] (.slice none 0 0) (w2.alloc (.cells #[.int .i64 (pd p.1 0), .int .i64 (pd p.1 1), .int .i64 (pd p.1 2), .int .i64 (pd p.1 3)] 42)) from
      ⟨OwnIDb.nil _ _, HM.out.below ((Below.refl _ _).alloc (Nat.le_refl _) _), HRW2.out.of_block (Below.heap_alloc _ _ _ (by omega)), row4_alloc w2 p.1 _, HB2.out.alloc (by omega) _, by simp, by omega, by omega⟩)
    clear HRW HB1 HB2 HRW2 HM
    go_wp2_with fail
    obtain ⟨W3, hW3⟩ : ∃ W3, W3 = w2.alloc (.cells #[.int .i64 (pd p.1 0), .int .i64 (pd p.1 1), .int .i64 (pd p.1 2), .int .i64 (pd p.1 3)] 42) := ⟨_, rfl⟩
    rw [← hW3] at HI0 ⊢
    clear hW3
    go_loopg [9] p.2.length (FwRel w w2.heap.size (W1.heap.size + 2) zs Q p.2)
    case atStart => exact ⟨p, [], rfl, HPM.out, by simp, HI0.out⟩
    case round =>
      clear HI0
      obtain ⟨q, ds, hgk, hq, hps, hI⟩ := hrel
      obtain ⟨X, hX⟩ : ∃ X, X = wr := ⟨_, rfl⟩
      subst hX
      have HI := hide hI
      have HPS := hide hps
      have HQ := hide hq
      obtain ⟨c0, c1, c2, c3⟩ := four_cells hI.r2
      obtain ⟨d0, d1, d2, d3⟩ := four_cells hI.r6
      have hst := HOK.out.state q hq
      have HST := hide hst
      clear hI hps hq
      have hEQ := equal_rows hst.2.1 h4 X
      clear hst
      by_cases heq : q.1 = zs
      · rw [decide_eq_true heq] at hEQ
        have HE := hide heq
        clear heq
        have hdl : ds.length ≤ 1000000 := by
          have := congrArg List.length HPS.out
          rw [List.length_append, List.length_reverse] at this
          omega
        have hq2 := HOK.out.top H0.out HQ.out HE.out
        have hpd : ds.reverse = p.2 := by rw [HPS.out, hq2, List.nil_append]
        have HPD := hide hpd
        clear hpd hq2
        go_wp2_with fail
        refine (ReverseOwn_any ds _ u9 X hdl HI.out.own).mono ?_
        rintro e w5 ⟨rfl, ho5, hb5⟩
        have HO5 := hide ho5
        have HB5 := hide (HI.out.below.trans (hb5.mono (by have := HI.out.lt2; omega)))
        obtain ⟨A5, c5, e5⟩ := ho5.shape
        subst e5
        clear ho5 hb5 hEQ c0 c1 c2 c3 d0 d1 d2 d3
        go_wp2_with fail
        go_ret2
        exact ⟨ds.reverse, A5, c5, true, by rw [List.length_reverse]; rfl, by rw [HPD.out]; exact HWY.out.symm, HFW.out, HO5.out.less (by have := HI.out.lt2; omega), HB5.out⟩
      · rw [decide_eq_false heq] at hEQ
        obtain ⟨q', i, j, hq', e2, hi, hj, hij, hback⟩ := HOK.out.back h4 HQ.out heq
        clear heq
        have hlk := look_at HI.out.map HOK.out h4 HQ.out
        rw [e2, lastD_snoc, hs1] at hlk
        have hdl : ds.length < 1000000 := by
          have := congrArg List.length HPS.out
          rw [List.length_append, List.length_reverse] at this
          omega
        have HH := hide (fun W => halved_any q.1 i j W HST.out.1 (by have := HST.out.2.1; omega) hi hj hij)
        rw [hback 0 (by omega), hback 1 (by omega), hback 2 (by omega), hback 3 (by omega)] at HH
        have HQ' := hide hq'
        have HE2 := hide e2
        have hszX := HI.out.size
        clear hq' e2 hback
        go_wp2_with (at_builtin; refine wpList_app_Db_at rfl (.tmp 22) (.tmp 26) 28 rfl Try.underlying28 (w2.heap.size + 1) u9 ds rfl HI.out.own ⟨(i : Int), (j : Int)⟩ 1 rfl (by omega) hdl ?_; intro v4 X4 ho4 hb4 hoth4 hsz4 hbl4; have O4 := hide ho4; have B4 := hide hb4; clear ho4 hb4 hoth4 hbl4)
        have HI4 := hide (HI.out.app O4.out B4.out)
        have hlk4 := look_at (HI4.out.map.below (Below.refl _ _).drew) HOK.out h4 HQ.out
        rw [HE2.out, lastD_snoc, hs1] at hlk4
        obtain ⟨y0, y1, y2, y3⟩ := four_cells (HI4.out.r6)
        have HST4 := hide (fun W' (h : Below X4.heap.size X4 W') => (show FwI w w2.heap.size (W1.heap.size + 2) zs Q q.1 (ds ++ [⟨(i : Int), (j : Int)⟩]) v4 W' from HI4.out.next h))
        clear c0 c1 c2 c3 d0 d1 d2 d3 hEQ hlk O4 B4
        go_region_with (go_at_call 42; (with_reducible refine (HH.out _).mono ?_); rintro e w6 ⟨rfl, hb6⟩; have HI6 := hide (HST4.out _ (below_next (Below.refl _ _).drew hb6)); obtain ⟨z0, z1, z2, z3⟩ := four_cells HI6.out.r6; obtain ⟨f0, f1, f2, f3⟩ := four_free HI6.out.r6)
        all_goals
          have HI7 := hide (HI6.out.set q'.1)
          clear z0 z1 z2 z3 f0 f1 f2 f3 y0 y1 y2 y3 hlk4 HST4
          go_wp2_with fail
          go_roundg q'.2.length
          case measure => have := congrArg List.length HE2.out; rw [List.length_append] at this; simp at this; omega
          case rel => exact ⟨q', ds ++ [⟨(i : Int), (j : Int)⟩], rfl, HQ'.out, by rw [HPS.out, HE2.out]; simp, HI7.out⟩
  · have hst := stop_none HS.out (by omega) h4 hk hno
    obtain ⟨hfw, hwy⟩ := fewQ_none hst
    have HFW := hide (show false = decide (0 ≤ fewQ zs pr) from by rw [hfw]; rfl)
    have HWY := hide hwy
    clear hst hfw hwy hk hno hm hb2 HNO HSF
    go_wp2_with fail
    go_ret2
    exact ⟨[], none, 0, false, rfl, HWY.out.symm, HFW.out, OwnIDb.nil _ _, HB2.out.alloc (by omega) _⟩
end Go.Proofs.Ytnakkmmmkbjfbaa

/-
  THE FEWEST DOUBLINGS TO OTHER HEAPS, THE MODEL's WAY: FewestToBecome.
-/
namespace Go.Proofs.Ytnakkmmmkbjfbaa
open Go.RowKit Go.Deep
set_option linter.unusedVariables false

set_option maxRecDepth 100000 in
set_option maxHeartbeats 4000000 in
/-- The model's FewestToBecome. -/
theorem specFewestToBecome_any (A : Option Addr) (n c : Nat) (zs : List Int) (A' : Option Addr) (n' c' : Nat) (gs : List Int) (w : World) (hr : Ints w w.heap.size A n zs) (hr' : Ints w w.heap.size A' n' gs) (hn : n ≤ 17592186044416) (hn' : n' ≤ 17592186044416) :
    Calls Try.prog 19 #[.slice A n c, .slice A' n' c'] w fun e w' => e = .returned (.tuple #[.int .i64 (ftbN zs gs), .bool (ftbOk zs gs)]) ∧ Below w.heap.size w w' := by
  obtain rfl := hr.len
  obtain rfl := hr'.len
  have HG := hide (dbGood_any A zs.length c w.heap.size zs w hr hn)
  cases hg : few zs
  · rw [(ftb_no1 (gs := gs) hg).1, (ftb_no1 (gs := gs) hg).2]
    rw [hg] at HG
    go_enter Try.func19, Try.ntmps19
    go_wp2_with fail
    refine HG.out.mono ?_; rintro e w' ⟨rfl, rfl⟩
    go_wp2_with fail
    go_ret2
    exact ⟨rfl, Below.refl _ _⟩
  · obtain ⟨hs, h2, h4, _⟩ := few_small hg
    rw [hg] at HG
    by_cases hl : gs.length = zs.length
    · have hle : ((gs.length : Int) != (zs.length : Int)) = false := by simp [hl]
      have HL := hide hl
      have HF := hide (dbFar_any A zs.length c w.heap.size zs w hr (Nat.le_refl _) hs (by omega) h4)
      have HST := hide (Qf_state hs)
      have hlen := Qf_len hs (by omega) h4
      have HFD := hide (fun k p (hp : (Qf zs)[k]? = some p) => fewQ_found (zs := zs) (pr := prE gs) hp)
      have HNW := hide (fewQ_nowhere (zs := zs) (pr := prE gs))
      have HYes := hide (fun (h : 0 ≤ fewQ zs (prE gs)) => ftb_yes hg hl (show ¬ fewQ zs (prE gs) < 0 by omega))
      have HNo := hide (ftb_no3 (zs := zs) (gs := gs))
      have HR' := hide hr'
      have h4' := hide h4
      clear hr hs hg hl
      generalize Qf zs = Q at *
      generalize fewQ zs (prE gs) = fw at *
      generalize ftbN zs gs = rn at *
      generalize ftbOk zs gs = rb at *
      go_enter Try.func19, Try.ntmps19
      go_wp2_with fail
      refine HG.out.mono ?_; rintro e w' ⟨rfl, rfl⟩
      go_wp2_with fail
      refine HF.out.mono ?_; rintro e w1 ⟨qv, fv, rfl, ⟨vs, hq⟩, hf, hb⟩
      obtain ⟨A6, c6, e6, _, _⟩ := hq.shape
      obtain ⟨Af, cf, ef, _, _⟩ := hf.shape
      rw [List.length_map] at e6
      rw [show (lensOf Q).length = Q.length from by unfold lensOf; rw [List.length_map]] at ef
      subst e6; subst ef
      have HQ := hide hq
      have hfi := hf.ints
      rw [show (lensOf Q).length = Q.length from by unfold lensOf; rw [List.length_map]] at hfi
      have HL2 := hide hfi
      have HB := hide hb
      have hb0 := hide hb.size
      have HG1 := hide (HR'.out.below hb (Nat.le_refl _))
      clear hq hf hb HF hfi
      go_wp2_with fail
      go_loopw [27] (fun i X => ∃ k : Nat, k ≤ Q.length ∧ i = .int .i64 (k : Int) ∧ Hid (∀ (j : Nat) (q : StP), j < k → Q[j]? = some q → prE gs q.1 = false) ∧ Hid (Below w1.heap.size w1 X))
        (fun i _ => Q.length - (intOf i).toNat)
      case atStart => exact ⟨0, Nat.zero_le _, rfl, hide (fun j q h => absurd h (by omega)), hide (Below.refl _ _)⟩
      case round =>
        obtain ⟨k, hk, rfl, HNO, HBk⟩ := hrel
        by_cases hlt : k < Q.length
        · obtain ⟨p, hp⟩ : ∃ p, Q[k]? = some p := ⟨_, List.getElem?_eq_getElem hlt⟩
          have hst := HST.out p (List.mem_of_getElem? hp)
          have hkz : k < (Q.map Prod.fst).length := by rw [List.length_map]; exact hlt
          have HQk := hide (HQ.out.below HBk.out)
          obtain ⟨ad, rfl, _, hcell⟩ := HQk.out.vals.at_ hkz
          have hrow := HQk.out.2.2.1 k hkz
          have hgk : (Q.map Prod.fst).getD k [] = p.1 := by simp [List.getD, hp]
          rw [hgk] at hrow
          obtain ⟨Ap, cp, ep, _, _⟩ := hrow.shape
          rw [ep] at hcell hrow
          have hbs := HBk.out.size
          have HH := hide (l1Same_any Ap A' p.1.length gs.length cp c' _ w.heap.size p.1 gs wr hrow.ints (HG1.out.below HBk.out hb0.out) (Nat.le_refl _) (Nat.le_trans hb0.out hbs) (by have := hst.2.1; have := h4'.out; omega) hn')
          obtain ⟨adf, rfl, _, hcf⟩ := (HL2.out.below HBk.out (Nat.le_refl _)).at_ (show k < Q.length from hlt)
          rw [show (lensOf Q).getD k 0 = (p.2.length : Int) from by unfold lensOf; simp [List.getD, hp]] at hcf
          have HP := hide hp
          have hlt3 : (k : Int) < (Q.length : Int) := by omega
          have HCF := hide (fun (X : World) (h : Below wr.heap.size wr X) => (h.cell (p := adf.add k) (by rw [block_of_add]; omega)).trans hcf)
          clear hst hrow ep hgk hkz hp hcf
          cases hin : (p.1 == gs)
          · rw [hin] at HH
            have HNO2 : Hid (∀ (j : Nat) (q : StP), j < k + 1 → Q[j]? = some q → prE gs q.1 = false) := hide (fun j q hj hq => by
              by_cases e : j = k
              · subst e
                rw [HP.out] at hq
                injection hq with hq
                subst hq
                exact hin
              · exact HNO.out j q (by omega) hq)
            clear hin
            go_wp2_with fail
            refine HH.out.mono ?_; rintro e w3 ⟨rfl, hb3⟩
            have HB3 := hide (HBk.out.trans (hb3.mono hbs))
            clear hb3
            go_wp2_with fail
            go_roundw
            case rel => exact ⟨k + 1, by omega, by go_num, HNO2, HB3⟩
            case measure => simp [intOf]; omega
          · rw [hin] at HH
            have HE := hide (HFD.out k p HP.out hin HNO.out)
            clear hin
            go_wp2_with fail
            refine HH.out.mono ?_; rintro e w3 ⟨rfl, hb3⟩
            have HB3 := hide (HBk.out.trans (hb3.mono hbs))
            have hcf := HCF.out w3 hb3
            clear hb3
            go_wp2_with fail
            go_ret2
            refine ⟨?_, HB.out.trans (HB3.out.mono hb0.out)⟩
            obtain ⟨y1, y2⟩ := HYes.out (by rw [HE.out]; omega)
            rw [y1, y2, HE.out]; rfl
        · have HE := hide (HNW.out fun j q hq => HNO.out j q (by have := (List.getElem?_eq_some_iff.1 hq).1; omega) hq)
          have hneg : ¬ (k : Int) < (Q.length : Int) := by omega
          go_wp2_with fail
          go_ret2
          refine ⟨?_, HB.out.trans (HBk.out.mono hb0.out)⟩
          obtain ⟨y1, y2⟩ := HNo.out (by rw [HE.out]; omega)
          rw [y1, y2]; rfl
    · rw [(ftb_no2 hl).1, (ftb_no2 hl).2]
      have hle : ((gs.length : Int) != (zs.length : Int)) = true := by simp; omega
      clear hr hs hg hl
      go_enter Try.func19, Try.ntmps19
      go_wp2_with fail
      refine HG.out.mono ?_; rintro e w' ⟨rfl, rfl⟩
      go_wp2_with fail
      go_ret2
      exact ⟨rfl, Below.refl _ _⟩
end Go.Proofs.Ytnakkmmmkbjfbaa
