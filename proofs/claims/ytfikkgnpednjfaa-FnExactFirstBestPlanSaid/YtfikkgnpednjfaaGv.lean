
/-
  BEST PLANS, THE PROGRAM's WAY: the closure that goes from job to job.
-/
import Derived.Test.YtfikkgnpednjfaaGvP
import Derived.Deep.RegionWith
namespace Go.Proofs.Ytfikkgnpednjfaa
open Go.RowKit Go.Deep
set_option linter.unusedVariables false

theorem K3.drewN {b0 x y z : Nat} {W W1 : World} (h : K3 b0 x y z W W1) (n : Nat) : K3 b0 x y z W (W1.drewN n) := ⟨below_drewN h.bl n, h.sv⟩
theorem Best3.drewN {W : World} {b0 x gp gl : Nat} {S : Bst} (h : Best3 W b0 x gp gl S) (n : Nat) : Best3 (W.drewN n) b0 x gp gl S := h.ob.elim fun A ⟨c, h1, h2, h3⟩ => ⟨A, c, h1, h2, h3⟩
theorem Giv.drewN {W : World} {bj bx bp bl bg gp gl c M : Nat} {A : Option Addr} {zs : List Int} (h : Giv W bj bx bp bl bg gp gl A c zs M) (n : Nat) : Giv (W.drewN n) bj bx bp bl bg gp gl A c zs M := ⟨h.jb, h.pb, h.lb, h.gb, h.zr⟩
theorem lookP_low {zs : List Int} (hz : within 0 1000 zs = true) (M d : Nat) (p l : List Int) (S : Bst) (hl : l.length = M) (hs : S.c = 0 ∨ up 0 l ≤ S.e) : ∀ j, j ≤ M → (lookP zs M d p l S j).c = 0 ∨ up 0 l ≤ (lookP zs M d p l S j).e
  | 0, _ => hs
  | j + 1, hj => by
    rw [lookP_succ]
    have hu := up_addTo (l := l) (m := j) (by omega) (vz hz (zs.length - (d + 1))).1
    exact (look_low hz M (up 0 l) d _ _ _ (by rw [addTo_length]; exact hl) hu.1 (lookP_low hz M d p l S hl hs j (by omega))).1
theorem addTo_back {l : List Int} {j : Nat} (v : Int) (h : j < l.length) : (addTo l j v).set j (l.getD j 0) = l := by
  unfold addTo
  rw [List.set_set, getD_at h, List.set_getElem_self]
theorem addTo_at {l : List Int} {j : Nat} (v : Int) (h : j < l.length) : (addTo l j v).getD j 0 = l.getD j 0 + v := by
  unfold addTo
  rw [getD_at (by rw [List.length_set]; exact h), List.getElem_set_self]
theorem take_set {P Q : List Int} {k : Nat} (h : k < P.length) (he : P.take k = Q.take k) (v : Int) : (P.set k v).take (k + 1) = Q.take k ++ [v] := by
  rw [List.take_succ_eq_append_getElem (by rw [List.length_set]; exact h), List.getElem_set_self, ← he]
  congr 1
  rw [List.take_set, List.set_eq_of_length_le (by rw [List.length_take]; omega)]

set_option maxRecDepth 100000 in
set_option maxHeartbeats 4000000 in
theorem give_any (b0 bj bx bp bl bg gp gl : Nat) (A : Option Addr) (c : Nat) (zs : List Int) (M : Nat) (hz : within 0 1000 zs = true) (ht : tot zs ≤ 9000) (hn1 : 1 ≤ zs.length) (hn9 : zs.length ≤ 9) (hM1 : 1 ≤ M) (hM4 : M ≤ 4)
    (hd : Dis bj bx bp bl bg gp gl) (hA : Away bx gp gl A) (hx : b0 ≤ bx) (hp0 : b0 ≤ gp) (hl0 : b0 ≤ gl) :
    ∀ (d k : Nat) (P l : List Int) (S : Bst) (W : World), k + d = zs.length → At zs M d (P.take k) l → P.length = zs.length → Giv W bj bx bp bl bg gp gl A c zs M → Best3 W b0 bx gp gl S → Row W gp 3 P → Row W gl 3 l →
      Ok (tot zs) S → up 0 l ≤ S.e → S.c + 4 ^ d ≤ 300000 →
      Calls Try.prog 25 #[.int .i64 (k : Int), .pointer (some ⟨bj, 0, none⟩), .pointer (some ⟨bx, 0, none⟩), .pointer (some ⟨bp, 0, none⟩), .pointer (some ⟨bl, 0, none⟩), .pointer (some ⟨bg, 0, none⟩)] W
        fun e w' => e = .returned (.tuple #[]) ∧ ∃ P', P'.length = zs.length ∧ P'.take k = P.take k ∧ Row w' gp 3 P' ∧ Row w' gl 3 l ∧ Best3 w' b0 bx gp gl (lookF zs M d (P.take k) l S) ∧ K3 b0 bx gp gl W w' := by
  intro d
  induction d with
  | zero =>
    intro k P l S W hkd hat hPl hgv hbst hrp hrl hok hup hfew
    obtain rfl : k = zs.length := by omega
    have c1 := hgv.jb.cell
    have c2 := hgv.pb.cell
    have c3 := hgv.lb.cell
    have hPt : P.take zs.length = P := List.take_of_length_le (by omega)
    have hPI := hrp.ints hrp.lt
    rw [hPl] at hPI
    have hll := hat.ll
    have hLI := hrl.ints hrl.lt
    have hgl0 := hrl.lt
    have hgp0 := hrp.lt
    rw [hll] at hLI
    have hum : up (l.getD 0 0) l = up 0 l := by
      rw [up_first 0 (by omega)]
      have := hat.nn l[0] (List.getElem_mem (by omega))
      have hge : l.getD 0 0 ≤ up (l.getD 0 0) l := up_ge _ _
      rw [getD_at (by omega)] at hge ⊢
      omega
    have HMX := hide (Max_any (some ⟨gl, 0, none⟩) M M W.heap.size l)
    have HM := hide (fun (m : Nat) => (show Calls Try.prog 27 #[.slice (some ⟨gl, 0, none⟩) M M] (W.drewN m) fun e w'' => e = .returned (.int .i64 (up 0 l)) ∧ (W.drewN m) = w'' from by
      have := HMX.out (W.drewN m) hLI (by omega) (by omega)
      rw [hum] at this
      exact this))
    have HMW := hide (show Calls Try.prog 27 #[.slice (some ⟨gl, 0, none⟩) M M] W.drew fun e w'' => e = .returned (.int .i64 (up 0 l)) ∧ W.drew = w'' from by
      have := HMX.out W.drew hLI (by omega) (by omega)
      rw [hum] at this
      exact this)
    have HSE := hide (show Calls Try.prog 26 #[.pointer (some ⟨bx, 0, none⟩), .slice (some ⟨gp, 0, none⟩) zs.length zs.length, .int .i64 (up 0 l)] W.drew
        fun r w' => r = .returned (.tuple #[]) ∧ Best3 w' b0 bx gp gl (upd S P (up 0 l)) ∧ K3 b0 bx bx bx W.drew w' from
      see_any b0 bx gp gl (some ⟨gp, 0, none⟩) zs.length zs.length P S (up 0 l) W.drew hPI hn1 hn9 (hbst.drewN 1) hx hgp0 hgl0 (by
        rcases hok with ⟨h1, _⟩ | ⟨h1, _⟩
        · exact .inl h1
        · rcases Int.lt_or_eq_of_le hup with h | h
          · exact .inr (.inl h)
          · exact .inr (.inr ⟨h1, h⟩)) (by omega))
    have HR := hide (show lookF zs M 0 (P.take zs.length) l S = upd S P (up 0 l) from by rw [hPt]; rfl)
    have HRP := hide hrp
    have HRL := hide hrl
    have HPL := hide hPl
    have hxp := hd.xp
    clear hPt hPI hLI hrp hrl hum HMX hgv hbst
    generalize up 0 l = um at *
    have hll2 := hide hll
    clear hll hat hPl
    go_enter Try.func25, Try.ntmps25
    go_wp2_with fail
    go_region_with (first
      | (go_at_call 27; (with_reducible refine HMW.out.mono ?_); rintro e w' ⟨rfl, rfl⟩)
      | (go_at_call 26; (with_reducible refine HSE.out.mono ?_); rintro e w' ⟨rfl, hb3, hk3⟩))
    all_goals
      go_wp2_with fail
      refine bodyPost_ret (results_none rfl _ _ _) rfl ?_
      have k3 : K3 b0 bx bx bx W w' := ⟨(Below.refl b0 W).drew.trans hk3.bl, hk3.sv⟩
      refine ⟨rfl, P, HPL.out, rfl, HRP.out.same (k3.sv gp hgp0 hxp.1.symm hxp.1.symm hxp.1.symm), HRL.out.same (k3.sv gl hgl0 hxp.2.1.symm hxp.2.1.symm hxp.2.1.symm), ?_, k3.wide⟩
      rw [HR.out]
      exact hb3
  | succ d ih =>
    intro k P l S W hkd hat hPl hgv hbst hrp hrl hok hup hfew
    have hkn : k < zs.length := by omega
    have hkd1 : k + 1 + d = zs.length := by omega
    have HPD := hide (show zs.length - (d + 1) = k by omega)
    have c1 := hgv.jb.cell
    have hne : ((k : Int) == (zs.length : Int)) = false := by simp; omega
    have hc3 : S.c ≤ 300000 := Nat.le_trans (Nat.le_add_right _ _) hfew
    have HLL := hide hat.ll
    have HAT := hide hat
    have HST := hide (lookP_succ zs M d (P.take k) l S)
    have HFW := hide (lookP_few zs hM4 hM1 d (P.take k) l S)
    have HAL := hide (lookP_all zs M d (P.take k) l S)
    have HPO := hide (lookP_ok hz ht hat hok)
    have HLO := hide (lookP_low hz M d (P.take k) l S hat.ll (.inr hup))
    have hule := hat.le_all hz
    have hv := vz hz k
    have hxp := hd.xp
    have hcl := hgv.lb.cell
    have HK0 := hide (K3.refl b0 bx gp gl W)
    have HG := hide hgv
    have HB := hide hbst
    have HRP := hide hrp
    have HRL := hide hrl
    have HPL := hide hPl
    generalize hvv : zs.getD k 0 = v at *
    have HVV := hide hvv
    clear hvv hgv hbst hrp hrl hPl hat
    go_enter Try.func25, Try.ntmps25
    go_wp2_with fail
    go_loopw [18] (fun jv wr => ∃ j : Nat, j ≤ M ∧ jv = .int .i64 j ∧ ∃ P', P'.length = zs.length ∧ P'.take k = P.take k ∧ Row wr gp 3 P' ∧ Row wr gl 3 l ∧ Best3 wr b0 bx gp gl (lookP zs M d (P.take k) l S j) ∧ Giv wr bj bx bp bl bg gp gl A c zs M ∧ K3 b0 bx gp gl W wr)
      (fun jv _ => M - (intOf jv).toNat)
    case atStart => exact ⟨0, Nat.zero_le _, rfl, P, HPL.out, rfl, HRP.out, HRL.out, HB.out, HG.out, HK0.out⟩
    case round =>
      obtain ⟨j, hj, rfl, P', hPl', hPt', hrp, hrl, hbst, hgv, hk3⟩ := hrel
      by_cases hjl : j < M
      · have hjn : j < l.length := by have := HLL.out; omega
        have HTO := hide (HPO.out j hj)
        have HTL := hide (HLO.out j hj)
        have HTF := hide (HFW.out j)
        have HSJ := hide (HST.out j)
        rw [HPD.out, HVV.out] at HSJ
        have HATN := hide (HAT.out.next hz hjl)
        rw [HPD.out, HVV.out] at HATN
        have hus := up_addTo (l := l) (m := j) (z := v) hjn hv.1
        have hln := HAT.out.nn l[j] (List.getElem_mem hjn)
        rw [← getD_at hjn] at hln
        have hlu : l.getD j 0 ≤ up 0 l := by rw [getD_at hjn]; exact up_mem 0 (List.getElem_mem hjn)
        have hall := HATN.out.le_all hz
        have HBACK := hide (addTo_back v hjn)
        have HATJ := hide (addTo_at v hjn)
        have HADD := hide (show addTo l j v = l.set j (l.getD j 0 + v) from rfl)
        generalize hT : lookP zs M d (P.take k) l S j = T at *
        have HTT := hide hT
        clear hT
        obtain ⟨Ab, cb, htx, _, _⟩ := hbst.ob
        have HRP1 := hide hrp
        have HRL1 := hide hrl
        have HB1 := hide hbst
        have HG1 := hide hgv
        have HK1 := hide hk3
        have HPT := hide hPt'
        have HPLN := hide hPl'
        have e1 := hgv.lb.cell
        have e2 := hgv.jb.cell
        have e3 := hrl.atD hjn
        obtain ⟨ad, hA0, hadl, e4⟩ := hgv.zr.at_ hkn
        rw [HVV.out] at e4
        have e5 := htx.c0
        have hTe : 0 ≤ T.e ∧ T.e ≤ 9000 := by
          rcases HTO.out with ⟨g1, g2⟩ | ⟨g1, g2, g3⟩ <;> omega
        have hut : up 0 l ≤ T.e := by
          rcases HTL.out with g1 | g1
          · rcases HTO.out with ⟨g2, g3⟩ | ⟨g2, g3, g4⟩ <;> omega
          · exact g1
        subst hA0
        clear hrp hrl hbst hgv hk3 hPt' hPl' htx
        generalize hu : l.getD j 0 = u at *
        have HU := hide hu
        clear hu
        by_cases hcmp : T.e < u + v
        · have HPR := hide (show lookP zs M d (P.take k) l S (j + 1) = T from by
            rw [HSJ.out]
            refine look_prune hz M d _ _ T (by rw [addTo_length]; exact HLL.out) ?_ (by omega)
            rcases HTO.out with ⟨g2, g3⟩ | ⟨g2, _⟩ <;> omega)
          go_wp2_with fail
          go_quiet (fail)
          go_wp2_with fail
          go_roundw
          case rel => exact ⟨j + 1, by omega, by go_num, P', HPLN.out, HPT.out, HRP1.out.drewN _, HRL1.out.drewN _, by rw [HPR.out]; exact HB1.out.drewN _, HG1.out.drewN _, HK1.out.drewN _⟩
          case measure => simp [intOf]; omega
        · go_wp2_with fail
          go_quiet (fail)
          have HRP2 := hide (HRP1.out.drewN nq)
          have HRL2 := hide (HRL1.out.drewN nq)
          have HB2 := hide (HB1.out.drewN nq)
          have HG2 := hide (HG1.out.drewN nq)
          have HK2 := hide (HK1.out.drewN nq)
          have hJC : (wr.drewN nq).cell? (ad.add k) = some (.int .i64 v) := e4
          have hadw : ad.block < (wr.drewN nq).heap.size := hadl
          have haw := hA ad rfl
          clear e1 e2 e3 e4 e5
          generalize wr.drewN nq = W0 at *
          obtain ⟨Ab, cb, htx, how, hawb⟩ := HB2.out.ob
          have HTX := hide htx
          have HOW := hide how
          have f1 := HG2.out.pb.cell
          have f2 := HRP2.out.atD (k := k) (by have := HPLN.out; omega)
          have f3 := HRP2.out.free k
          -- the plan's store
          have g1 := (HG2.out.lb.past (a := ⟨gp, k, none⟩) hd.l.2.1 (.int .i64 (j : Int))).cell
          have g2 := (HG2.out.jb.past (a := ⟨gp, k, none⟩) hd.j.2.1 (.int .i64 (j : Int))).cell
          have HRL3 := hide (HRL2.out.past (a := ⟨gp, k, none⟩) (by simpa using hxp.2.2.symm) (.int .i64 (j : Int)))
          have g3 := HRL3.out.atD hjn
          rw [HU.out] at g3
          have g4 := HRL3.out.free j
          have g5 : (W0.setCell ⟨gp, k, none⟩ (.int .i64 (j : Int))).cell? (ad.add k) = some (.int .i64 v) := by
            rw [World.cell?_setCell_other _ _ _ _ (by
              intro e
              have := congrArg Addr.block e
              rw [block_of_add] at this
              exact haw.2.1 (by simp at this; omega))]; exact hJC
          have K03 := hide (((K3.refl b0 bx gp gl W0).put (a := ⟨gp, k, none⟩) (.inr (.inl rfl)) hp0 (.int .i64 (j : Int))).put (a := ⟨gl, j, none⟩) (.inr (.inr rfl)) hl0 (.int .i64 (u + v)) |>.drew)
          have HRP4 := hide (((HRP2.out.put k (j : Int)).past (a := ⟨gl, j, none⟩) (by simpa using hxp.2.2) (.int .i64 (u + v))).drewN 1)
          have HRL4 := hide ((HRL3.out.put j (u + v)).drewN 1)
          have HTX4 := hide (((HTX.out.past (a := ⟨gp, k, none⟩) (by simpa using hxp.1) (.int .i64 (j : Int))).past (a := ⟨gl, j, none⟩) (by simpa using hxp.2.1) (.int .i64 (u + v))).drewN 1)
          have HG4 := hide (HG2.out.kept hd hA K03.out)
          have HO4 := hide (HOW.out.kept hawb K03.out)
          clear htx how
          go_wp2_with fail
          go_region
          change Hid (Row (((W0.setCell ⟨gp, k, none⟩ (.int .i64 (j : Int))).setCell ⟨gl, j, none⟩ (.int .i64 (u + v))).drew) gp 3 _) at HRP4
          change Hid (Row (((W0.setCell ⟨gp, k, none⟩ (.int .i64 (j : Int))).setCell ⟨gl, j, none⟩ (.int .i64 (u + v))).drew) gl 3 _) at HRL4
          change Hid (Tx (((W0.setCell ⟨gp, k, none⟩ (.int .i64 (j : Int))).setCell ⟨gl, j, none⟩ (.int .i64 (u + v))).drew) bx _ _ _ _) at HTX4
          generalize ((W0.setCell ⟨gp, k, none⟩ (.int .i64 (j : Int))).setCell ⟨gl, j, none⟩ (.int .i64 (u + v))).drew = W2 at *
          clear f1 f2 f3 g1 g2 g3 g4 g5 hJC
          rw [← HADD.out] at HRL4
          have hts := take_set (P := P') (Q := P) (k := k) (by have := HPLN.out; omega) HPT.out (j : Int)
          have hpow : M ^ d ≤ 4 ^ d := Nat.pow_le_pow_left hM4 d
          have hm1 : j * M ^ d ≤ 3 * 4 ^ d := Nat.mul_le_mul (by omega) hpow
          have h4d : 4 ^ (d + 1) = 4 ^ d * 4 := Nat.pow_succ ..
          have HIH := hide (ih (k + 1) (P'.set k (j : Int)) (addTo l j v) T W2 hkd1 (by rw [hts]; exact HATN.out) (by rw [List.length_set]; exact HPLN.out) HG4.out ⟨Ab, cb, HTX4.out, HO4.out, hawb⟩ HRP4.out HRL4.out HTO.out
            (hus.2.2 T.e hut (by have := HU.out; omega)) (by have := HTF.out; omega))
          rw [hts, show ((k + 1 : Nat) : Int) = (k : Int) + 1 by omega, ← HSJ.out] at HIH
          have HTS := hide hts
          clear hts hpow hm1 h4d
          have g6 := HG4.out.gb.cell
          go_wp2_with fail
          refine HIH.out.mono ?_
          rintro e w3 ⟨rfl, P3, hp3l, hp3t, hrp3, hrl3, hb3, hk33⟩
          have HG5 := hide (HG4.out.kept hd hA hk33)
          have HK5 := hide ((HK2.out.next K03.out).next hk33)
          have HP3T := hide (show P3.take k = P.take k from by
            have := congrArg (List.take k) hp3t
            rw [List.take_take, show min k (k + 1) = k by omega, List.take_append_of_le_length (by rw [List.length_take]; have := HPL.out; omega), List.take_take, show min k k = k by omega] at this
            exact this)
          obtain ⟨A5, c5, htx5, how5, haw5⟩ := hb3.ob
          have HTX5 := hide htx5
          have HOW5 := hide how5
          have HRP5 := hide hrp3
          have HRL5 := hide hrl3
          have HP3L := hide hp3l
          have q1 := HG5.out.lb.cell
          have q2 := HG5.out.jb.cell
          obtain ⟨ad5, hA5, _, q3⟩ := HG5.out.zr.at_ hkn
          obtain rfl : ad = ad5 := by injection hA5
          rw [HVV.out] at q3
          have q4 := HRL5.out.atD (k := j) (by rw [addTo_length]; exact hjn)
          rw [HATJ.out] at q4
          have q5 := HRL5.out.free j
          clear hp3t hrp3 hrl3 hb3 hk33 htx5 how5 hp3l hA5 g6
          go_wp2_with fail
          go_region
          have K5 := (K3.refl b0 bx gp gl w3).put (a := ⟨gl, j, none⟩) (.inr (.inr rfl)) hl0 (.int .i64 u) |>.drew
          have HK6 := hide (HK5.out.next K5)
          have HG6 := hide (HG5.out.kept hd hA K5)
          have HB6 := hide (show Best3 (w3.setCell ⟨gl, j, none⟩ (.int .i64 u)).drew b0 bx gp gl (lookP zs M d (P.take k) l S (j + 1)) from
            ⟨A5, c5, (HTX5.out.past (a := ⟨gl, j, none⟩) (by simpa using hxp.2.1) _).drewN 1, HOW5.out.kept haw5 K5, haw5⟩)
          have HRP6 := hide ((HRP5.out.past (a := ⟨gl, j, none⟩) (by simpa using hxp.2.2) (.int .i64 u)).drewN 1)
          have HRL6 := hide (show Row (w3.setCell ⟨gl, j, none⟩ (.int .i64 u)).drew gl 3 l from by
            have := (HRL5.out.put j u).drewN 1
            rw [HBACK.out] at this
            exact this)
          clear K5 q1 q2 q3 q4 q5
          go_wp2_with fail
          go_roundw
          case rel => exact ⟨j + 1, by omega, by go_num, P3, HP3L.out, HP3T.out, HRP6.out, HRL6.out, HB6.out, HG6.out, HK6.out⟩
          case measure => simp [intOf]; omega
      · obtain rfl : j = M := by omega
        go_wp2_with fail
        go_end0
        exact ⟨rfl, P', hPl', hPt', hrp, hrl, by rw [HAL.out]; exact hbst, hk3⟩
end Go.Proofs.Ytfikkgnpednjfaa
