
/-
  THE PERIOD, THE PROGRAM's WAY: one ring waits.
-/
import Derived.Test.YtkhcabgpbmhimaaWk
namespace Go.Proofs.Ytkhcabgpbmhimaa
open Go.RowKit Go.Deep
set_option linter.unusedVariables false

theorem pad_eq (zs : List Int) (h : zs.length ≤ 10) (i j : Nat) : (pad10 (rit zs i) == pad10 (rit zs j)) = (rit zs i == rit zs j) := by
  rw [Bool.eq_iff_iff, beq_iff_eq, beq_iff_eq]
  exact ⟨fun e => pad10_inj (by rw [rit_length, rit_length]) e, fun e => by rw [e]⟩
/-- A number that lies in memory, for a measure. -/
def numAt (w : World) (b j : Nat) : Nat := match w.cell? ⟨b, j, none⟩ with | some v => (intOf v).toNat | none => 0
theorem numAt_of {w : World} {b j : Nat} {k : Int} (h : w.cell? ⟨b, j, none⟩ = some (.int .i64 k)) : numAt w b j = k.toNat := by unfold numAt; rw [h]; rfl
/-- A step out of a row of its own. -/
theorem step_row (b : Nat) (bd bs : Nat) (zs : List Int) (t : Nat) (w : World) (hg : rgood zs = true) (hS : StepAt w bd bs zs.length) (hA : ArrAt w b 43 (pad10 (rit zs t))) :
    Calls Try.prog 33 #[.slice (some ⟨b, 0, none⟩) 10 10, .pointer (some ⟨bd, 0, none⟩), .pointer (some ⟨bs, 0, none⟩)] w fun e w' => e = .returned (aggA (pad10 (rit zs (t + 1)))) ∧ Below w.heap.size w w' := by
  obtain ⟨h1, h2, h3⟩ := rgood_of hg
  have hp : (pad10 (rit zs t)).length = 10 := pad10_len (by rw [rit_length]; exact h2)
  have hi := hA.ints 10 (by omega)
  rw [List.take_of_length_le (by omega)] at hi
  have ht : rit zs t = (pad10 (rit zs t)).take zs.length := by have := pad10_take (rit zs t); rw [rit_length] at this; exact this.symm
  exact stepFn_any (some ⟨b, 0, none⟩) 10 10 w.heap.size bd bs zs.length (pad10 (rit zs t)) (rit zs t) w hi (Nat.le_refl _) hS ht ⟨h1, h2⟩ h2 (Nat.le_refl _) (by unfold maxLen; omega) (rit_within h3 t)

/-- Where the search for the period stands. -/
def PerRel (b bd bs : Nat) (zs ag : List Int) (m p : Nat) (l : Int) (w : World) (pt rw : Value) (wr : World) : Prop :=
  ∃ P q b4 : Nat, pt = .int .i64 P ∧ rw = .pointer (some ⟨b4, 0, none⟩) ∧ 1 ≤ q ∧ q ≤ P ∧ P ≤ 2 * (m + p) ∧ w.heap.size < b4 ∧
    ArrAt wr w.heap.size 43 (pad10 (rit zs (P - 1))) ∧ ArrAt wr b4 43 (pad10 (rit zs (P - 1 + q))) ∧ WkAt wr b zs.length (stepF bd bs) (pad10 zs) ag l q ∧ But b w wr ∧ ∀ r, 1 ≤ r → r < q → rit zs (P - 1 + r) ≠ rit zs (P - 1)

set_option maxRecDepth 100000 in
set_option maxHeartbeats 4000000 in
theorem findPeriod_any (b bd bs : Nat) (zs ag : List Int) (m p : Nat) (l p0 : Int) (w : World) (hg : rgood zs = true) (hc : Cyc (rit zs) m p) (hmp : m + p ≤ 10024)
    (hW : WkAt w b zs.length (stepF bd bs) (pad10 zs) ag l p0) (hS : StepAt w bd bs zs.length) (h1 : bd ≠ b) (h2 : bs ≠ b) :
    Calls Try.prog 26 #[.pointer (some ⟨b, 0, none⟩)] w
      fun e w' => e = .returned (.tuple #[]) ∧ WkAt w' b zs.length (stepF bd bs) (pad10 zs) ag l p ∧ But b w w' := by
  have HW := hide hW
  have HS := hide hS
  have hbw := hW.lt
  have HG := hide hg
  have HP := hide (pad10_len (zs := zs) (rgood_of hg).2.1)
  have HPt := hide (fun t => pad10_len (zs := rit zs t) (by rw [rit_length]; exact (rgood_of hg).2.1))
  have hzl := hide zero10_len
  have HC := hide hc
  clear hW hS hg hc
  go_enter Try.func26, Try.ntmps26
  go_wp2_with (first
    | (with_reducible refine wpList_wk_load rfl (.tmp 7) rfl b 2 (pad10 zs) rfl HP.out HW.out.start ?_)
    | (with_reducible refine wpList_arr_new (o := ⟨some 2, _, _, _, _, _⟩) rfl rfl ?_; intro w1 hA1 hb1 hs1; have A1 := hide hA1; have B1 := hide (But.of_below hb1 (Nat.le_of_lt hbw)); have W1 := hide (HW.out.next hb1); clear hA1 hb1 hs1)
    | (with_reducible refine wpList_arr_store rfl (.tmp 2) (.tmp 8) rfl w.heap.size _ _ (pad10 zs) rfl rfl HP.out hzl.out A1.out ?_; intro w2 hA2 ho2; have A2 := hide hA2; have B2 := hide (B1.out.own ho2 (Nat.le_refl _) hbw); have W2 := hide (W1.out.same (ho2.rest b (Nat.ne_of_lt hbw))); have hcp2 := W2.out.cp; have hfz2 := W2.out.frozen 23; clear hA2 ho2))
  have A3 := hide (A2.out.past (a := ⟨b, 23, none⟩) (Nat.ne_of_gt hbw) (.int .i64 1))
  have B3 := hide (B2.out.set 23 (.int .i64 1))
  have W3 := hide (W2.out.setP 1)
  clear hcp2 hfz2
  clear A1 B1 W1 A2 B2 W2
  generalize w2.setCell ⟨b, 23, none⟩ (.int .i64 1) = w3 at *
  have S3 := hide (B3.out.step HS.out h1 h2)
  have hf3 : w3.cell? ⟨b, 1, none⟩ = some (.func (.func 33) #[] #[.pointer (some ⟨bd, 0, none⟩), .pointer (some ⟨bs, 0, none⟩)]) := W3.out.cF
  have hcut := ring_cut_all w.heap.size 0
  refine wp_region_any (by kernel_rfl) ?_
  change wpAny _ _ _ _ _ _ _ (World.drew _)
  refine wpAny_take (i := 0) (v := ?_) rfl (by kernel_rfl) (by kernel_rfl) (by kernel_rfl) (fun _ _ _ h => h) (Or.inl ⟨rfl, ?_⟩) ?_
  rotate_left
  · intro w; go_simp; first | done | (with_reducible rfl)
  refine wpAny_take (i := 1) (v := ?_) rfl (by kernel_rfl) (by kernel_rfl) (by kernel_rfl) (fun _ _ _ h => h) (Or.inl ⟨rfl, ?_⟩) ?_
  rotate_left
  · intro w; go_simp; first | done | (with_reducible rfl)
  refine wpAny_take (i := 2) (v := ?_) rfl (by kernel_rfl) (by kernel_rfl) (by kernel_rfl) (fun _ _ _ h => h) (Or.inl ⟨rfl, ?_⟩) ?_
  rotate_left
  · intro w; go_simp; first | done | (with_reducible rfl)
  refine wpAny_take (i := 4) (v := ?_) rfl (by kernel_rfl) (by kernel_rfl) (by kernel_rfl) (fun _ _ _ h => h) (Or.inl ⟨rfl, ?_⟩) ?_
  rotate_left
  · intro w; go_simp; first | done | (with_reducible rfl)
  have hb34 : Below w3.heap.size w3 w3.drew := (Below.refl _ _).drew
  have Ad := hide (A3.out.next hb34)
  have Bd := hide (B3.out.next hb34 hbw)
  have Wd := hide (W3.out.next hb34)
  have Sd := hide (S3.out.next hb34)
  have hfd : w3.drew.cell? ⟨b, 1, none⟩ = some (.func (.func 33) #[] #[.pointer (some ⟨bd, 0, none⟩), .pointer (some ⟨bs, 0, none⟩)]) := hf3
  generalize w3.drew = wd at *
  clear hb34 hf3
  have HLd := hide Ad.out.lt
  refine wpAny_ready (rs := [3, 6]) (by kernel_rfl) (by simp) ?_
  refine AllReady.cons rfl (fun K hK => ?_) (AllReady.cons rfl (fun K hK => ?_) AllReady.nil)
  focus
    go_simp
    refine hK _ _ ?_
    clear hK K
    refine wpAny_ready (rs := [5, 6]) (by kernel_rfl) (by simp) ?_
    refine AllReady.cons rfl (fun K hK => ?_) (AllReady.cons rfl (fun K hK => ?_) AllReady.nil)
    focus
      go_simp
      refine (step_row w.heap.size bd bs zs 0 _ HG.out Sd.out Ad.out).mono ?_
      rintro e w5 ⟨rfl, hb5⟩
      refine hK _ _ ?_
      clear hK K
      have Ac := hide (Ad.out.next hb5)
      have Bc := hide (Bd.out.next hb5 hbw)
      have Wc := hide (Wd.out.next hb5)
      have Sc := hide (Sd.out.next hb5)
      refine wpAny_ready (rs := [6]) (by kernel_rfl) (by simp) ?_
      refine AllReady.cons rfl (fun K hK => ?_) AllReady.nil
      refine step_arr_new rfl rfl ?_
      intro wn hA' hb' hs'
      have Nwn := hide hA'
      have Xwn := hide hb'
      have Awn := hide (Ac.out.next hb')
      have Bwn := hide (Bc.out.next hb' hbw)
      have Wwn := hide (Wc.out.next hb')
      have Swn := hide (Sc.out.next hb')
      clear hA' hb' hs'
      refine hK _ _ ?_
      clear hK K
      refine wpAny_ready (rs := [7]) (by kernel_rfl) (by simp) ?_
      refine AllReady.cons rfl (fun K hK => ?_) AllReady.nil
      refine step_arr_store rfl (.tmp 4) (.tmp 17) rfl w5.heap.size _ _ (pad10 (rit zs (0 + 1))) rfl rfl (HPt.out _) hzl.out Nwn.out ?_
      intro w6 hN6 ho6
      have N6 := hide hN6
      have A6 := hide (Awn.out.same (ho6.rest w.heap.size (Nat.ne_of_lt Ac.out.lt)))
      have B6 := hide (Bwn.out.own ho6 (Nat.le_of_lt Ac.out.lt) hbw)
      have W6 := hide (Wwn.out.same (ho6.rest b (Nat.ne_of_lt (Nat.lt_trans hbw Ac.out.lt))))
      have hL4 : w.heap.size < w5.heap.size := Ac.out.lt
      clear hN6 ho6
      refine hK _ _ ?_
      clear hK K
      refine wpAny_done (by kernel_rfl) ?_ _
    rotate_left
    focus
      refine step_arr_new rfl rfl ?_
      intro wn hA' hb' hs'
      have Nwn := hide hA'
      have Xwn := hide hb'
      have Awn := hide (Ad.out.next hb')
      have Bwn := hide (Bd.out.next hb' hbw)
      have Wwn := hide (Wd.out.next hb')
      have Swn := hide (Sd.out.next hb')
      clear hA' hb' hs'
      refine hK _ _ ?_
      clear hK K
      refine wpAny_ready (rs := [5]) (by kernel_rfl) (by simp) ?_
      refine AllReady.cons rfl (fun K hK => ?_) AllReady.nil
      go_simp
      refine (step_row w.heap.size bd bs zs 0 _ HG.out Swn.out Awn.out).mono ?_
      rintro e w5 ⟨rfl, hb5⟩
      refine hK _ _ ?_
      clear hK K
      have Ac := hide (Awn.out.next hb5)
      have Bc := hide (Bwn.out.next hb5 hbw)
      have Wc := hide (Wwn.out.next hb5)
      have Sc := hide (Swn.out.next hb5)
      have Nc := hide (Nwn.out.next hb5)
      refine wpAny_ready (rs := [7]) (by kernel_rfl) (by simp) ?_
      refine AllReady.cons rfl (fun K hK => ?_) AllReady.nil
      refine step_arr_store rfl (.tmp 4) (.tmp 17) rfl wd.heap.size _ _ (pad10 (rit zs (0 + 1))) rfl rfl (HPt.out _) hzl.out Nc.out ?_
      intro w6 hN6 ho6
      have N6 := hide hN6
      have A6 := hide (Ac.out.same (ho6.rest w.heap.size (Nat.ne_of_lt HLd.out)))
      have B6 := hide (Bc.out.own ho6 (Nat.le_of_lt HLd.out) hbw)
      have W6 := hide (Wc.out.same (ho6.rest b (Nat.ne_of_lt (Nat.lt_trans hbw HLd.out))))
      have hL4 : w.heap.size < wd.heap.size := HLd.out
      clear hN6 ho6
      refine hK _ _ ?_
      clear hK K
      refine wpAny_done (by kernel_rfl) ?_ _
  rotate_left 2
  focus
    refine step_arr_new rfl rfl ?_
    intro wn hA' hb' hs'
    have Nwn := hide hA'
    have Xwn := hide hb'
    have Awn := hide (Ad.out.next hb')
    have Bwn := hide (Bd.out.next hb' hbw)
    have Wwn := hide (Wd.out.next hb')
    have Swn := hide (Sd.out.next hb')
    clear hA' hb' hs'
    refine hK _ _ ?_
    clear hK K
    have hfn := (Xwn.out.cell (p := ⟨b, 1, none⟩) (Wd.out.lt)).trans hfd
    refine wpAny_ready (rs := [3]) (by kernel_rfl) (by simp) ?_
    refine AllReady.cons rfl (fun K hK => ?_) AllReady.nil
    go_simp
    refine hK _ _ ?_
    clear hK K
    refine wpAny_ready (rs := [5]) (by kernel_rfl) (by simp) ?_
    refine AllReady.cons rfl (fun K hK => ?_) AllReady.nil
    go_simp
    refine (step_row w.heap.size bd bs zs 0 _ HG.out Swn.out Awn.out).mono ?_
    rintro e w5 ⟨rfl, hb5⟩
    refine hK _ _ ?_
    clear hK K
    have Ac := hide (Awn.out.next hb5)
    have Bc := hide (Bwn.out.next hb5 hbw)
    have Wc := hide (Wwn.out.next hb5)
    have Sc := hide (Swn.out.next hb5)
    have Nc := hide (Nwn.out.next hb5)
    refine wpAny_ready (rs := [7]) (by kernel_rfl) (by simp) ?_
    refine AllReady.cons rfl (fun K hK => ?_) AllReady.nil
    refine step_arr_store rfl (.tmp 4) (.tmp 17) rfl wd.heap.size _ _ (pad10 (rit zs (0 + 1))) rfl rfl (HPt.out _) hzl.out Nc.out ?_
    intro w6 hN6 ho6
    have N6 := hide hN6
    have A6 := hide (Ac.out.same (ho6.rest w.heap.size (Nat.ne_of_lt HLd.out)))
    have B6 := hide (Bc.out.own ho6 (Nat.le_of_lt HLd.out) hbw)
    have W6 := hide (Wc.out.same (ho6.rest b (Nat.ne_of_lt (Nat.lt_trans hbw HLd.out))))
    have hL4 : w.heap.size < wd.heap.size := HLd.out
    clear hN6 ho6
    refine hK _ _ ?_
    clear hK K
    refine wpAny_done (by kernel_rfl) ?_ _
  all_goals
    clear A3 B3 W3 S3
    try clear Nc
    clear Nwn Xwn Awn Bwn Wwn Swn Ac Bc Wc Sc Ad Bd Wd Sd hfd HLd hb5
    try clear hfn
    try clear hcut
  all_goals
    have hp1 := HC.out.pos
    go_wp2_with fail
    go_simp
    go_loopw [3, 4] (PerRel b bd bs zs ag m p l w)
      (fun pt _ wr => 4 * (m + p) + 8 - ((intOf pt).toNat + numAt wr b 23))
    case atStart => exact ⟨1, 1, _, rfl, rfl, Nat.le_refl _, Nat.le_refl _, by omega, hL4, A6.out, N6.out, W6.out, B6.out, fun r h1 h2 => absurd h2 (by omega)⟩
    case round =>
      clear A6 B6 W6 N6 hL4
      obtain ⟨P, q, b4, rfl, rfl, hq1, hqP, hPm, hb4, hA, hN, hW, hB, hne⟩ := hrel
      have AA := hide hA
      have NN := hide hN
      have WW := hide hW
      have BB := hide hB
      have NE := hide hne
      have SS := hide (hB.step HS.out h1 h2)
      have hb4b : b4 ≠ b := by omega
      have hlt4 := hN.lt
      have NM := hide (numAt_of hW.cp)
      clear hA hN hB hne
      by_cases he : rit zs (P - 1 + q) = rit zs (P - 1)
      · have HE := hide (show (pad10 (rit zs (P - 1 + q)) == pad10 (rit zs (P - 1))) = true by rw [he]; simp)
        have hqp := hide (HC.out.waited (rit_told zs) (P - 1) q hq1 he NE.out)
        clear he hW
        go_wp2_with (first
          | (with_reducible refine wpList_arr_load (o := ⟨some 18, _, _, _, _, _⟩) rfl (.tmp 4) rfl b4 _ _ rfl (HPt.out _) NN.out ?_)
          | (with_reducible refine wpList_arr_load (o := ⟨some 19, _, _, _, _, _⟩) rfl (.tmp 2) rfl w.heap.size _ _ rfl (HPt.out _) AA.out ?_)
          | (with_reducible refine wpList_arr_neq (o := ⟨some 20, _, _, _, _, _⟩) rfl (.tmp 18) (.tmp 19) _ rfl _ _ rfl rfl (HPt.out _) (HPt.out _) true HE.out ?_))
        go_end0
        exact ⟨rfl, by have := WW.out; rw [hqp.out] at this; exact this, BB.out⟩
      · have HE := hide (show (pad10 (rit zs (P - 1 + q)) == pad10 (rit zs (P - 1))) = false by rw [pad_eq zs (rgood_of HG.out).2.1, beq_eq_false_iff_ne]; exact he)
        have hcp := hW.cp
        have hfz := hW.frozen 23
        have HNE := hide (show ∀ r, 1 ≤ r → r < q + 1 → rit zs (P - 1 + r) ≠ rit zs (P - 1) from fun r a c => if e : r = q then by subst e; exact he else NE.out r a (by omega))
        clear he hW
        by_cases hqq : q = P
        · subst hqq
          have hPv := HC.out.in_vain (rit_told zs) (q - 1) q (by omega) (fun r a c => HNE.out r a (by omega))
          have HT1 := hide (show q - 1 + q = 2 * q - 1 by omega)
          have HT3 := hide (show 2 * (q : Int) = ((2 * q : Nat) : Int) by omega)
          clear hqP
          go_wp2_with (first
            | (with_reducible refine wpList_arr_load (o := ⟨some 18, _, _, _, _, _⟩) rfl (.tmp 4) rfl b4 _ _ rfl (HPt.out _) NN.out ?_)
            | (with_reducible refine wpList_arr_load (o := ⟨some 19, _, _, _, _, _⟩) rfl (.tmp 2) rfl w.heap.size _ _ rfl (HPt.out _) AA.out ?_)
            | (with_reducible refine wpList_arr_neq (o := ⟨some 20, _, _, _, _, _⟩) rfl (.tmp 18) (.tmp 19) _ rfl _ _ rfl rfl (HPt.out _) (HPt.out _) false HE.out ?_)
            | (with_reducible refine wpList_arr_load (o := ⟨some 33, _, _, _, _, _⟩) rfl (.tmp 4) rfl b4 _ _ rfl (HPt.out _) NN.out ?_)
            | (with_reducible refine wpList_arr_store rfl (.tmp 2) (.tmp 33) rfl w.heap.size _ _ (pad10 (rit zs (q - 1 + q))) rfl rfl (HPt.out _) (HPt.out _) AA.out ?_; intro wa hAa hoa; have Ba := hide (BB.out.own hoa (Nat.le_refl _) hbw); have Wa := hide (WW.out.same (hoa.rest b (Nat.ne_of_lt hbw))); have Na := hide (NN.out.same (hoa.rest b4 (Nat.ne_of_gt hb4))); have hcpa := Wa.out.cp; have hfza := Wa.out.frozen 23; have A7 := hide ((hAa.past (a := ⟨b, 23, none⟩) (Nat.ne_of_gt hbw) (.int .i64 0)).past (a := ⟨b, 23, none⟩) (Nat.ne_of_gt hbw) (.int .i64 1)); have N7 := hide ((Na.out.past (a := ⟨b, 23, none⟩) hb4b (.int .i64 0)).past (a := ⟨b, 23, none⟩) hb4b (.int .i64 1)); have W7 := hide ((Wa.out.setP 0).setP 1); have B7 := hide ((Ba.out.set 23 (.int .i64 0)).set 23 (.int .i64 1)); have hlta : w.heap.size < wa.heap.size := hAa.lt; have HZ7 := hide (show ((wa.setCell ⟨b, 23, none⟩ (.int .i64 0)).setCell ⟨b, 23, none⟩ (.int .i64 1)).heap.size = wa.heap.size by simp); clear hAa hoa)
            | (with_reducible refine wpList_arr_load (o := ⟨some 46, _, _, _, _, _⟩) rfl (.tmp 4) rfl b4 _ _ rfl (HPt.out _) N7.out ?_)
            | (with_reducible refine wpList_arr_new (o := ⟨some 4, _, _, _, _, _⟩) rfl rfl ?_; intro wn hA' hb' hs'; have Nn := hide hA'; have Bn := hide (B7.out.next hb' hbw); have An := hide (A7.out.next hb'); have Wn := hide (W7.out.next hb'); clear hA' hb' hs')
            | (with_reducible refine wpList_arr_store rfl (.tmp 4) (.tmp 46) rfl _ _ _ (pad10 (rit zs (q - 1 + q))) rfl rfl (HPt.out _) hzl.out Nn.out ?_; intro w8 hN8 ho8; rw [HZ7.out] at hN8 ho8; have N8 := hide hN8; have A8 := hide (An.out.same (ho8.rest w.heap.size (Nat.ne_of_lt hlta))); have W8 := hide (Wn.out.same (ho8.rest b (Nat.ne_of_lt (Nat.lt_trans hbw hlta)))); have B8 := hide (Bn.out.own ho8 (Nat.le_of_lt hlta) hbw);  clear hN8 ho8))
          have S8 := hide (B8.out.step HS.out h1 h2)
          have hf8 : w8.cell? ⟨b, 1, none⟩ = some (.func (.func 33) #[] #[.pointer (some ⟨bd, 0, none⟩), .pointer (some ⟨bs, 0, none⟩)]) := W8.out.cF
          have hcut := ring_cut_all wa.heap.size 0
          have HD := hide (step_row wa.heap.size bd bs zs (q - 1 + q) w8.drew HG.out S8.out N8.out)
          go_still_tail 5, (by kernel_rfl)
          change wpList _ _ _ _ _ w8.drew
          go_wp2_with fail
          refine HD.out.mono ?_; rintro e w9 ⟨rfl, hb9⟩
          have hb9' : Below w8.heap.size w8 w9 := (Below.refl _ _).drew.trans hb9
          have A9 := hide (A8.out.next hb9')
          have N9 := hide (N8.out.next hb9')
          have B9 := hide (B8.out.next hb9' hbw)
          have W9 := hide (W8.out.next hb9')
          clear hb9 hb9' hf8 hcut
          go_wp2_with (with_reducible refine wpList_arr_store rfl (.tmp 4) (.tmp 26) rfl wa.heap.size _ _ (pad10 (rit zs ((q - 1 + q) + 1))) rfl rfl (HPt.out _) (HPt.out _) N9.out ?_; intro w10 hN10 ho10; have N10 := hide hN10; have A10 := hide (A9.out.same (ho10.rest w.heap.size (Nat.ne_of_lt hlta))); have W10 := hide (W9.out.same (ho10.rest b (Nat.ne_of_lt (Nat.lt_trans hbw hlta)))); have B10 := hide (B9.out.own ho10 (Nat.le_of_lt hlta) hbw); clear hN10 ho10)
          have NM10 := hide (numAt_of W10.out.cp)
          go_simp
          go_roundw
          case rel => exact ⟨2 * q, 1, wa.heap.size, by rw [← HT3.out], rfl, Nat.le_refl _, by omega, by omega, hlta, by rw [← HT1.out]; exact A10.out, by rw [← HT1.out]; exact N10.out, W10.out, B10.out, fun r a c => absurd c (by omega)⟩
          case measure => rw [NM10.out, NM.out]; simp [intOf]; omega
        · have hqP' : q < P := by omega
          have HQ := hide (show (q : Int) + 1 = ((q + 1 : Nat) : Int) by omega)
          have hqe : ((q : Int) == (P : Int)) = false := by simp; omega
          have HT2 := hide (show P - 1 + q + 1 = P - 1 + (q + 1) by omega)
          have A7 := hide (AA.out.past (a := ⟨b, 23, none⟩) (Nat.ne_of_gt hbw) (.int .i64 ((q : Int) + 1)))
          have N7 := hide (NN.out.past (a := ⟨b, 23, none⟩) hb4b (.int .i64 ((q : Int) + 1)))
          have W7 := hide (WW.out.setP ((q : Int) + 1))
          have B7 := hide (BB.out.set 23 (.int .i64 ((q : Int) + 1)))
          have hlta : w.heap.size < wr.heap.size := AA.out.lt
          have HZ7 := hide (show (wr.setCell ⟨b, 23, none⟩ (.int .i64 ((q : Int) + 1))).heap.size = wr.heap.size by simp)
          have hq10 : q ≤ 20048 := by omega
          clear hqq
          go_wp2_with (first
            | (with_reducible refine wpList_arr_load (o := ⟨some 18, _, _, _, _, _⟩) rfl (.tmp 4) rfl b4 _ _ rfl (HPt.out _) NN.out ?_)
            | (with_reducible refine wpList_arr_load (o := ⟨some 19, _, _, _, _, _⟩) rfl (.tmp 2) rfl w.heap.size _ _ rfl (HPt.out _) AA.out ?_)
            | (with_reducible refine wpList_arr_neq (o := ⟨some 20, _, _, _, _, _⟩) rfl (.tmp 18) (.tmp 19) _ rfl _ _ rfl rfl (HPt.out _) (HPt.out _) false HE.out ?_)
            | (with_reducible refine wpList_arr_load (o := ⟨some 46, _, _, _, _, _⟩) rfl (.tmp 4) rfl b4 _ _ rfl (HPt.out _) N7.out ?_)
            | (with_reducible refine wpList_arr_new (o := ⟨some 4, _, _, _, _, _⟩) rfl rfl ?_; intro wn hA' hb' hs'; have Nn := hide hA'; have Bn := hide (B7.out.next hb' hbw); have An := hide (A7.out.next hb'); have Wn := hide (W7.out.next hb'); clear hA' hb' hs')
            | (with_reducible refine wpList_arr_store rfl (.tmp 4) (.tmp 46) rfl _ _ _ (pad10 (rit zs (P - 1 + q))) rfl rfl (HPt.out _) hzl.out Nn.out ?_; intro w8 hN8 ho8; rw [HZ7.out] at hN8 ho8; have N8 := hide hN8; have A8 := hide (An.out.same (ho8.rest w.heap.size (Nat.ne_of_lt hlta))); have W8 := hide (Wn.out.same (ho8.rest b (Nat.ne_of_lt (Nat.lt_trans hbw hlta)))); have B8 := hide (Bn.out.own ho8 (Nat.le_of_lt hlta) hbw);  clear hN8 ho8))
          have S8 := hide (B8.out.step HS.out h1 h2)
          have hf8 : w8.cell? ⟨b, 1, none⟩ = some (.func (.func 33) #[] #[.pointer (some ⟨bd, 0, none⟩), .pointer (some ⟨bs, 0, none⟩)]) := W8.out.cF
          have hcut := ring_cut_all wr.heap.size 0
          have HD := hide (step_row wr.heap.size bd bs zs (P - 1 + q) w8.drew HG.out S8.out N8.out)
          go_still_tail 5, (by kernel_rfl)
          change wpList _ _ _ _ _ w8.drew
          go_wp2_with fail
          refine HD.out.mono ?_; rintro e w9 ⟨rfl, hb9⟩
          have hb9' : Below w8.heap.size w8 w9 := (Below.refl _ _).drew.trans hb9
          have A9 := hide (A8.out.next hb9')
          have N9 := hide (N8.out.next hb9')
          have B9 := hide (B8.out.next hb9' hbw)
          have W9 := hide (W8.out.next hb9')
          clear hb9 hb9' hf8 hcut
          go_wp2_with (with_reducible refine wpList_arr_store rfl (.tmp 4) (.tmp 26) rfl wr.heap.size _ _ (pad10 (rit zs ((P - 1 + q) + 1))) rfl rfl (HPt.out _) (HPt.out _) N9.out ?_; intro w10 hN10 ho10; have N10 := hide hN10; have A10 := hide (A9.out.same (ho10.rest w.heap.size (Nat.ne_of_lt hlta))); have W10 := hide (W9.out.same (ho10.rest b (Nat.ne_of_lt (Nat.lt_trans hbw hlta)))); have B10 := hide (B9.out.own ho10 (Nat.le_of_lt hlta) hbw); clear hN10 ho10)
          have NM10 := hide (numAt_of W10.out.cp)
          go_simp
          go_roundw
          case rel => exact ⟨P, q + 1, wr.heap.size, rfl, rfl, by omega, by omega, hPm, hlta, A10.out, by rw [← HT2.out]; exact N10.out, by rw [← HQ.out]; exact W10.out, B10.out, HNE.out⟩
          case measure => rw [NM10.out, NM.out]; simp [intOf]; omega
end Go.Proofs.Ytkhcabgpbmhimaa
