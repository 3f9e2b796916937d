
/-
  THE LEAD, THE PROGRAM's WAY: two rings go on, one of them a period ahead.
-/
import Derived.Test.YtkhcabgpbmhimaaWkA
namespace Go.Proofs.Ytkhcabgpbmhimaa
open Go.RowKit Go.Deep
set_option linter.unusedVariables false

section
variable {ops : Array Oper} {o : Oper} {a : Act} {w : World} {K : Act → World → Prop} {Q : Exit → Act → World → Prop} {E : Prop}
theorem step_arr_load (hgd : o.guard = none) (x : Operand) (ho : o.op = .load 43 x) (b : Nat) (t : TypeId) (xs : List Int)
    (hx : a.eval x = .pointer (some ⟨b, 0, none⟩)) (hl : xs.length = 10) (hL : ArrAt w b t xs) (h : K (a.put o.dst (aggA xs)) w) :
    if Region.wanted o (yielded ops a.tmps) = true then Oper.wp Try.prog o a w K Q else E := by
  rw [if_pos (by simp [Region.wanted, hgd])]
  exact wp_load_row 43 x ho b hx t _ (0, 0) _ hL ringArr rfl (by rw [sizeRow]; simp [hl]) h
theorem step_arr_neq (hgd : o.guard = none) (x y : Operand) (r : TypeId) (ho : o.op = .binOp .neq 43 x y r) (xs ys : List Int)
    (hx : a.eval x = aggA xs) (hy : a.eval y = aggA ys) (hlx : xs.length = 10) (hly : ys.length = 10) (e : Bool) (he : (xs == ys) = e) (h : K (a.put o.dst (.bool (!e))) w) :
    if Region.wanted o (yielded ops a.tmps) = true then Oper.wp Try.prog o a w K Q else E := by
  rw [if_pos (by simp [Region.wanted, hgd])]
  subst he
  unfold Oper.wp execOp
  have hgd2 : (eqGuard .neq 43 x y (aggA xs) (aggA ys)).run Try.prog w = .ok () w := run_eqGuard_agg w .neq 43 x y _ _ rowGuardR
  simp only [ho, hx, hy, Sem.run_bind, hgd2, Result.andThen_ok, neq_rowsR xs ys hlx hly w]
  exact h
end

/-- A step out of the first that comes again. -/
theorem step_wk (b bd bs : Nat) (zs st : List Int) (t : Nat) (l p : Int) (F : Value) (n : Int) (w : World) (hg : rgood zs = true) (hS : StepAt w bd bs zs.length) (hW : WkAt w b n F st (pad10 (rit zs t)) l p) :
    Calls Try.prog 33 #[.slice (some ⟨b, 12, none⟩) 10 10, .pointer (some ⟨bd, 0, none⟩), .pointer (some ⟨bs, 0, none⟩)] w fun e w' => e = .returned (aggA (pad10 (rit zs (t + 1)))) ∧ Below w.heap.size w w' := by
  obtain ⟨h1, h2, h3⟩ := rgood_of hg
  have hp : (pad10 (rit zs t)).length = 10 := pad10_len (by rw [rit_length]; exact h2)
  have hi : Ints w w.heap.size (some ⟨b, 12, none⟩) 10 (pad10 (rit zs t)) := ⟨hp, fun _ => ⟨_, rfl, hW.lt, fun k hk => by
    rw [Addr.add_mid]
    exact hW.again k _ (by rw [List.getElem?_map, List.getElem?_eq_getElem (by omega)]; simp [List.getD, List.getElem?_eq_getElem (show k < (pad10 (rit zs t)).length by omega)])⟩⟩
  have ht : rit zs t = (pad10 (rit zs t)).take zs.length := by have := pad10_take (rit zs t); rw [rit_length] at this; exact this.symm
  exact stepFn_any (some ⟨b, 12, none⟩) 10 10 w.heap.size bd bs zs.length (pad10 (rit zs t)) (rit zs t) w hi (Nat.le_refl _) hS ht ⟨h1, h2⟩ h2 (Nat.le_refl _) (by unfold maxLen; omega) (rit_within h3 t)

/-- Where the search for the lead stands. -/
def LeadRel (b bd bs : Nat) (zs : List Int) (m p : Nat) (w : World) (rw : Value) (wr : World) : Prop :=
  ∃ k b2 : Nat, rw = .pointer (some ⟨b2, 0, none⟩) ∧ k ≤ m ∧ w.heap.size ≤ b2 ∧ ArrAt wr b2 43 (pad10 (rit zs (k + p))) ∧ WkAt wr b zs.length (stepF bd bs) (pad10 zs) (pad10 (rit zs k)) k p ∧ But b w wr

set_option maxRecDepth 100000 in
set_option maxHeartbeats 4000000 in
theorem findLead_any (b bd bs : Nat) (zs ag : List Int) (m p : Nat) (w : World) (hg : rgood zs = true) (hc : Cyc (rit zs) m p) (hmp : m + p ≤ 10024)
    (hW : WkAt w b zs.length (stepF bd bs) (pad10 zs) ag 0 p) (hS : StepAt w bd bs zs.length) (h1 : bd ≠ b) (h2 : bs ≠ b) :
    Calls Try.prog 27 #[.pointer (some ⟨b, 0, none⟩)] w
      fun e w' => e = .returned (.tuple #[]) ∧ WkAt w' b zs.length (stepF bd bs) (pad10 zs) (pad10 (rit zs m)) m p ∧ But b w w' := by
  have HW := hide hW
  have HS := hide hS
  have hbw := hW.lt
  have HG := hide hg
  have HP := hide (pad10_len (zs := zs) (rgood_of hg).2.1)
  have HPt := hide (fun t => pad10_len (zs := rit zs t) (by rw [rit_length]; exact (rgood_of hg).2.1))
  have hzl := hide zero10_len
  have HC := hide hc
  clear hW hS hg hc
  go_enter Try.func27, Try.ntmps27
  go_wp2_with (first
    | (with_reducible refine wpList_wk_load rfl (.tmp 6) rfl b 2 (pad10 zs) rfl HP.out HW.out.start ?_)
    | (with_reducible refine wpList_wk_store rfl (.tmp 9) (.tmp 7) rfl b _ _ _ _ (pad10 zs) _ _ rfl rfl HP.out HW.out ?_; intro w1 hW1 ho1; have W1 := hide hW1; have B1 := hide (But.of_lone ho1); have hcp1 := hW1.cp; clear hW1 ho1))
  have HA := hide (after_any b bd bs zs (pad10 zs) 0 p p w1 HG.out (by omega) W1.out (B1.out.step HS.out h1 h2))
  refine HA.out.mono ?_; rintro e w2 ⟨rfl, hb2⟩
  have W2 := hide (W1.out.next hb2)
  have B2 := hide (B1.out.next hb2 hbw)
  clear hb2 hcp1 HA
  go_wp2_with (first
    | (with_reducible refine wpList_arr_new (o := ⟨some 2, _, _, _, _, _⟩) rfl rfl ?_; intro w3 hN3 hb3 hs3; have N3 := hide hN3; have W3 := hide (W2.out.next hb3); have B3 := hide (B2.out.next hb3 hbw); clear hN3 hb3 hs3)
    | (with_reducible refine wpList_arr_store rfl (.tmp 2) (.tmp 15) rfl w2.heap.size _ _ (pad10 (rit zs p)) rfl rfl (HPt.out _) hzl.out N3.out ?_; intro w4 hN4 ho4; have N4 := hide hN4; have W4 := hide (W3.out.same (ho4.rest b (Nat.ne_of_lt W2.out.lt))); have B4 := hide (B3.out.own ho4 B2.out.size hbw); clear hN4 ho4))
  go_simp
  have hs2 := B2.out.size
  have hz0 : Hid (0 + p = p) := hide (Nat.zero_add p)
  go_loopw [2] (LeadRel b bd bs zs m p w) (fun _ wr => m - numAt wr b 22)
  case atStart => exact ⟨0, _, rfl, Nat.zero_le _, hs2, by rw [hz0.out]; exact N4.out, W4.out, B4.out⟩
  case round =>
    clear W1 B1 W2 B2 N3 W3 B3 N4 W4 B4 hs2
    obtain ⟨k, b2, rfl, hk, hb2, hN, hW, hB⟩ := hrel
    have NN := hide hN
    have WW := hide hW
    have BB := hide hB
    have NM := hide (numAt_of hW.cl)
    have hb2b : b2 ≠ b := by omega
    clear hN hW hB
    by_cases hlt : k < m
    · have HE := hide (show (pad10 (rit zs (k + p)) == pad10 (rit zs k)) = false by
        rw [pad_eq zs (rgood_of HG.out).2.1, beq_eq_false_iff_ne]
        exact HC.out.lead k hlt p HC.out.pos)
      go_wp2_with fail
      refine wp_region_any (by kernel_rfl) ?_
      change wpAny _ _ _ _ _ _ _ (World.drew _)
      have hdd : Below wr.heap.size wr wr.drew := (Below.refl _ _).drew
      have NNd := hide (NN.out.next hdd)
      have WWd := hide (WW.out.next hdd)
      have BBd := hide (BB.out.next hdd hbw)
      generalize wr.drew = wd at *
      clear hdd NN WW BB
      refine wpAny_take (i := 1) (oi := ⟨some 17, _, _, _, _, _⟩) (v := ?_) rfl (by kernel_rfl) (by kernel_rfl) (by kernel_rfl) (fun _ _ _ h => h) (Or.inl ⟨rfl, ?_⟩) ?_
      rotate_left
      · intro w; go_simp; first | done | (with_reducible rfl)
      refine wpAny_take (i := 2) (oi := ⟨some 18, _, _, _, _, _⟩) (v := ?_) rfl (by kernel_rfl) (by kernel_rfl) (by kernel_rfl) (fun _ _ _ h => h) (Or.inl ⟨rfl, ?_⟩) ?_
      rotate_left
      · intro w; go_simp; first | done | (with_reducible rfl)
      refine wpAny_take (i := 3) (oi := ⟨some 19, _, _, _, _, _⟩) (v := ?_) rfl (by kernel_rfl) (by kernel_rfl) (by kernel_rfl) (fun _ _ _ h => h) (Or.inl ⟨rfl, ?_⟩) ?_
      rotate_left
      · intro w; go_simp; first | done | (with_reducible rfl)
      refine wpAny_ready (rs := [0, 4]) (by kernel_rfl) (by simp) ?_
      refine AllReady.cons (o := ⟨some 16, _, _, _, _, _⟩) rfl (fun K hK => ?_) (AllReady.cons (o := ⟨some 20, _, _, _, _, _⟩) rfl (fun K hK => ?_) AllReady.nil)
      focus
        refine step_arr_load rfl (.tmp 2) rfl b2 _ _ rfl (HPt.out _) NNd.out ?_
        refine hK _ _ ?_
        clear hK K
        try simp only [Act.put, List.setIfInBounds_toArray, List.set_cons_zero, List.set_cons_succ]
        refine wpAny_ready (rs := [4]) (by kernel_rfl) (by simp) ?_
        refine AllReady.cons (o := ⟨some 20, _, _, _, _, _⟩) rfl (fun K hK => ?_) AllReady.nil
        refine step_wk_load rfl (.tmp 19) rfl b 12 _ rfl (HPt.out _) WWd.out.again ?_
        refine hK _ _ ?_
        clear hK K
        try simp only [Act.put, List.setIfInBounds_toArray, List.set_cons_zero, List.set_cons_succ]
        refine wpAny_ready (rs := [5]) (by kernel_rfl) (by simp) ?_
        refine AllReady.cons (o := ⟨some 21, _, _, _, _, _⟩) rfl (fun K hK => ?_) AllReady.nil
        refine step_arr_neq rfl (.tmp 16) (.tmp 20) _ rfl (pad10 (rit zs (k + p))) (pad10 (rit zs k)) rfl rfl (HPt.out _) (HPt.out _) false HE.out ?_
        refine hK _ _ ?_
        clear hK K
        refine wpAny_done (by kernel_rfl) ?_ _
      rotate_left
      focus
        refine step_wk_load rfl (.tmp 19) rfl b 12 _ rfl (HPt.out _) WWd.out.again ?_
        refine hK _ _ ?_
        clear hK K
        try simp only [Act.put, List.setIfInBounds_toArray, List.set_cons_zero, List.set_cons_succ]
        refine wpAny_ready (rs := [0]) (by kernel_rfl) (by simp) ?_
        refine AllReady.cons (o := ⟨some 16, _, _, _, _, _⟩) rfl (fun K hK => ?_) AllReady.nil
        refine step_arr_load rfl (.tmp 2) rfl b2 _ _ rfl (HPt.out _) NNd.out ?_
        refine hK _ _ ?_
        clear hK K
        try simp only [Act.put, List.setIfInBounds_toArray, List.set_cons_zero, List.set_cons_succ]
        refine wpAny_ready (rs := [5]) (by kernel_rfl) (by simp) ?_
        refine AllReady.cons (o := ⟨some 21, _, _, _, _, _⟩) rfl (fun K hK => ?_) AllReady.nil
        refine step_arr_neq rfl (.tmp 16) (.tmp 20) _ rfl (pad10 (rit zs (k + p))) (pad10 (rit zs k)) rfl rfl (HPt.out _) (HPt.out _) false HE.out ?_
        refine hK _ _ ?_
        clear hK K
        refine wpAny_done (by kernel_rfl) ?_ _
      all_goals
        go_wp2_with fail
        go_simp
        go_wp2_with fail
        refine wp_region_any (by kernel_rfl) ?_
        change wpAny _ _ _ _ _ _ _ (World.drew _)
        have hdd : Below wd.heap.size wd wd.drew := (Below.refl _ _).drew
        have N1 := hide (NNd.out.next hdd)
        have W1 := hide (WWd.out.next hdd)
        have B1 := hide (BBd.out.next hdd hbw)
        have hf1 : wd.drew.cell? ⟨b, 1, none⟩ = some (.func (.func 33) #[] #[.pointer (some ⟨bd, 0, none⟩), .pointer (some ⟨bs, 0, none⟩)]) := W1.out.cF
        have hcut := ring_cut_all b 12
        generalize wd.drew = we at *
        clear hdd
        refine wpAny_take (i := 0) (oi := ⟨some 28, _, _, _, _, _⟩) (v := ?_) rfl (by kernel_rfl) (by kernel_rfl) (by kernel_rfl) (fun _ _ _ h => h) (Or.inl ⟨rfl, ?_⟩) ?_
        rotate_left
        · intro w; go_simp; first | done | (with_reducible rfl)
        refine wpAny_take (i := 1) (oi := ⟨some 29, _, _, _, _, _⟩) (v := ?_) rfl (by kernel_rfl) (by kernel_rfl) (by kernel_rfl) (fun _ _ _ h => h) (Or.inl ⟨rfl, ?_⟩) ?_
        rotate_left
        · intro w; go_simp; first | done | (with_reducible rfl)
        refine wpAny_take (i := 2) (oi := ⟨some 30, _, _, _, _, _⟩) (v := ?_) rfl (by kernel_rfl) (by kernel_rfl) (by kernel_rfl) (fun _ _ _ h => h) (Or.inl ⟨rfl, ?_⟩) ?_
        rotate_left
        · intro w; go_simp; first | done | (with_reducible rfl)
        refine wpAny_take (i := 3) (oi := ⟨some 31, _, _, _, _, _⟩) (v := ?_) rfl (by kernel_rfl) (by kernel_rfl) (by kernel_rfl) (fun _ _ _ h => h) (Or.inl ⟨rfl, ?_⟩) ?_
        rotate_left
        · intro w; go_simp; first | done | (with_reducible rfl)
        refine wpAny_take (i := 5) (oi := ⟨some 33, _, _, _, _, _⟩) (v := ?_) rfl (by kernel_rfl) (by kernel_rfl) (by kernel_rfl) (fun _ _ _ h => h) (Or.inl ⟨rfl, ?_⟩) ?_
        rotate_left
        · intro w; go_simp; first | done | (with_reducible rfl)
        refine wpAny_take (i := 6) (oi := ⟨some 34, _, _, _, _, _⟩) (v := ?_) rfl (by kernel_rfl) (by kernel_rfl) (by kernel_rfl) (fun _ _ _ h => h) (Or.inl ⟨rfl, ?_⟩) ?_
        rotate_left
        · intro w; go_simp; first | done | (with_reducible rfl)
        refine wpAny_take (i := 7) (oi := ⟨some 35, _, _, _, _, _⟩) (v := ?_) rfl (by kernel_rfl) (by kernel_rfl) (by kernel_rfl) (fun _ _ _ h => h) (Or.inl ⟨rfl, ?_⟩) ?_
        rotate_left
        · intro w; go_simp; first | done | (with_reducible rfl)
        refine wpAny_take (i := 8) (oi := ⟨some 36, _, _, _, _, _⟩) (v := ?_) rfl (by kernel_rfl) (by kernel_rfl) (by kernel_rfl) (fun _ _ _ h => h) (Or.inl ⟨rfl, ?_⟩) ?_
        rotate_left
        · intro w; go_simp; first | done | (with_reducible rfl)
        refine wpAny_ready (rs := [4]) (by kernel_rfl) (by simp) ?_
        refine AllReady.cons (o := ⟨some 32, _, _, _, _, _⟩) rfl (fun K hK => ?_) AllReady.nil
        go_simp
        refine hK _ _ ?_
        clear hK K
        try simp only [Act.put, List.setIfInBounds_toArray, List.set_cons_zero, List.set_cons_succ]
        refine wpAny_ready (rs := [9]) (by kernel_rfl) (by simp) ?_
        refine AllReady.cons (o := ⟨some 37, _, _, _, _, _⟩) rfl (fun K hK => ?_) AllReady.nil
        go_simp
        refine (step_wk b bd bs zs _ k _ _ _ _ _ HG.out (B1.out.step HS.out h1 h2) W1.out).mono ?_
        rintro e w5 ⟨rfl, hb5⟩
        refine hK _ _ ?_
        clear hK K
        have N5 := hide (N1.out.next hb5)
        have B5 := hide (B1.out.next hb5 hbw)
        have W5 := hide (W1.out.next hb5)
        clear hf1 hcut
        refine wpAny_take (i := 10) (oi := ⟨some 38, _, _, _, _, _⟩) (v := ?_) rfl (by kernel_rfl) (by kernel_rfl) (by kernel_rfl) (fun _ _ _ h => h) (Or.inl ⟨rfl, ?_⟩) ?_
        rotate_left
        · intro w; go_simp; first | done | (with_reducible rfl)
        refine wpAny_take (i := 11) (oi := ⟨some 39, _, _, _, _, _⟩) (v := ?_) rfl (by kernel_rfl) (by kernel_rfl) (by kernel_rfl) (fun _ _ _ h => h) (Or.inl ⟨rfl, ?_⟩) ?_
        rotate_left
        · intro w; go_simp; first | done | (with_reducible rfl)
        refine wpAny_ready (rs := [12]) (by kernel_rfl) (by simp) ?_
        refine AllReady.cons (o := ⟨none, _, _, _, _, _⟩) rfl (fun K hK => ?_) AllReady.nil
        refine step_wk_store rfl (.tmp 39) (.tmp 37) rfl b _ _ _ _ (pad10 (rit zs (k + 1))) _ _ rfl rfl (HPt.out _) W5.out ?_
        intro w6 hW6 ho6
        have W6 := hide hW6
        have N6 := hide (N5.out.same (ho6.rest b2 hb2b))
        have B6 := hide (B5.out.trans (But.of_lone ho6))
        have hcl6 := hW6.cl
        have hfz6 := hW6.frozen 22
        clear hW6 ho6
        refine hK _ _ ?_
        clear hK K
        refine wpAny_done (by kernel_rfl) ?_ _
        have HK := hide (show (k : Int) + 1 = ((k + 1 : Nat) : Int) by omega)
        have W7 := hide (W6.out.setL ((k : Int) + 1))
        have N7 := hide (N6.out.past (a := ⟨b, 22, none⟩) hb2b (.int .i64 ((k : Int) + 1)))
        have B7 := hide (B6.out.set 22 (.int .i64 ((k : Int) + 1)))
        have HZ7 := hide (show (w6.setCell ⟨b, 22, none⟩ (.int .i64 ((k : Int) + 1))).heap.size = w6.heap.size by simp)
        have hlt6 := W6.out.lt
        have hs6 := B6.out.size
        go_wp2_with (first
          | (with_reducible refine wpList_arr_load (o := ⟨some 47, _, _, _, _, _⟩) rfl (.tmp 2) rfl b2 _ _ rfl (HPt.out _) N7.out ?_)
          | (with_reducible refine wpList_arr_new (o := ⟨some 2, _, _, _, _, _⟩) rfl rfl ?_; intro wn hA' hb' hs'; have Nn := hide hA'; have Bn := hide (B7.out.next hb' hbw); have Wn := hide (W7.out.next hb'); clear hA' hb' hs')
          | (with_reducible refine wpList_arr_store rfl (.tmp 2) (.tmp 47) rfl _ _ _ (pad10 (rit zs (k + p))) rfl rfl (HPt.out _) hzl.out Nn.out ?_; intro w8 hN8 ho8; rw [HZ7.out] at hN8 ho8; have N8 := hide hN8; have W8 := hide (Wn.out.same (ho8.rest b (Nat.ne_of_lt hlt6))); have B8 := hide (Bn.out.own ho8 hs6 hbw); clear hN8 ho8))
        have S8 := hide (B8.out.step HS.out h1 h2)
        have hf8 : w8.cell? ⟨b, 1, none⟩ = some (.func (.func 33) #[] #[.pointer (some ⟨bd, 0, none⟩), .pointer (some ⟨bs, 0, none⟩)]) := W8.out.cF
        have hcut := ring_cut_all w6.heap.size 0
        have HD := hide (step_row w6.heap.size bd bs zs (k + p) w8.drew HG.out S8.out N8.out)
        go_still_tail 5, (by kernel_rfl)
        change wpList _ _ _ _ _ w8.drew
        go_wp2_with fail
        refine HD.out.mono ?_; rintro e w9 ⟨rfl, hb9⟩
        have hb9' : Below w8.heap.size w8 w9 := (Below.refl _ _).drew.trans hb9
        have N9 := hide (N8.out.next hb9')
        have B9 := hide (B8.out.next hb9' hbw)
        have W9 := hide (W8.out.next hb9')
        clear hb9 hb9' hf8 hcut
        go_wp2_with (with_reducible refine wpList_arr_store rfl (.tmp 2) (.tmp 27) rfl w6.heap.size _ _ (pad10 (rit zs (k + p + 1))) rfl rfl (HPt.out _) (HPt.out _) N9.out ?_; intro w10 hN10 ho10; have N10 := hide hN10; have W10 := hide (W9.out.same (ho10.rest b (Nat.ne_of_lt hlt6))); have B10 := hide (B9.out.own ho10 hs6 hbw); clear hN10 ho10)
        have NM10 := hide (numAt_of W10.out.cl)
        have HT := hide (show k + p + 1 = k + 1 + p by omega)
        go_simp
        go_roundw
        case rel => exact ⟨k + 1, w6.heap.size, rfl, by omega, hs6, by rw [← HT.out]; exact N10.out, by rw [← HK.out]; exact W10.out, B10.out⟩
        case measure => rw [NM10.out, NM.out]; simp; omega
    · obtain rfl : k = m := by omega
      have HE := hide (show (pad10 (rit zs (k + p)) == pad10 (rit zs k)) = true by rw [HC.out.again]; simp)
      go_wp2_with fail
      refine wp_region_any (by kernel_rfl) ?_
      change wpAny _ _ _ _ _ _ _ (World.drew _)
      have hdd : Below wr.heap.size wr wr.drew := (Below.refl _ _).drew
      have NNd := hide (NN.out.next hdd)
      have WWd := hide (WW.out.next hdd)
      have BBd := hide (BB.out.next hdd hbw)
      generalize wr.drew = wd at *
      clear hdd NN WW BB
      refine wpAny_take (i := 1) (oi := ⟨some 17, _, _, _, _, _⟩) (v := ?_) rfl (by kernel_rfl) (by kernel_rfl) (by kernel_rfl) (fun _ _ _ h => h) (Or.inl ⟨rfl, ?_⟩) ?_
      rotate_left
      · intro w; go_simp; first | done | (with_reducible rfl)
      refine wpAny_take (i := 2) (oi := ⟨some 18, _, _, _, _, _⟩) (v := ?_) rfl (by kernel_rfl) (by kernel_rfl) (by kernel_rfl) (fun _ _ _ h => h) (Or.inl ⟨rfl, ?_⟩) ?_
      rotate_left
      · intro w; go_simp; first | done | (with_reducible rfl)
      refine wpAny_take (i := 3) (oi := ⟨some 19, _, _, _, _, _⟩) (v := ?_) rfl (by kernel_rfl) (by kernel_rfl) (by kernel_rfl) (fun _ _ _ h => h) (Or.inl ⟨rfl, ?_⟩) ?_
      rotate_left
      · intro w; go_simp; first | done | (with_reducible rfl)
      refine wpAny_ready (rs := [0, 4]) (by kernel_rfl) (by simp) ?_
      refine AllReady.cons (o := ⟨some 16, _, _, _, _, _⟩) rfl (fun K hK => ?_) (AllReady.cons (o := ⟨some 20, _, _, _, _, _⟩) rfl (fun K hK => ?_) AllReady.nil)
      focus
        refine step_arr_load rfl (.tmp 2) rfl b2 _ _ rfl (HPt.out _) NNd.out ?_
        refine hK _ _ ?_
        clear hK K
        try simp only [Act.put, List.setIfInBounds_toArray, List.set_cons_zero, List.set_cons_succ]
        refine wpAny_ready (rs := [4]) (by kernel_rfl) (by simp) ?_
        refine AllReady.cons (o := ⟨some 20, _, _, _, _, _⟩) rfl (fun K hK => ?_) AllReady.nil
        refine step_wk_load rfl (.tmp 19) rfl b 12 _ rfl (HPt.out _) WWd.out.again ?_
        refine hK _ _ ?_
        clear hK K
        try simp only [Act.put, List.setIfInBounds_toArray, List.set_cons_zero, List.set_cons_succ]
        refine wpAny_ready (rs := [5]) (by kernel_rfl) (by simp) ?_
        refine AllReady.cons (o := ⟨some 21, _, _, _, _, _⟩) rfl (fun K hK => ?_) AllReady.nil
        refine step_arr_neq rfl (.tmp 16) (.tmp 20) _ rfl (pad10 (rit zs (k + p))) (pad10 (rit zs k)) rfl rfl (HPt.out _) (HPt.out _) true HE.out ?_
        refine hK _ _ ?_
        clear hK K
        refine wpAny_done (by kernel_rfl) ?_ _
      rotate_left
      focus
        refine step_wk_load rfl (.tmp 19) rfl b 12 _ rfl (HPt.out _) WWd.out.again ?_
        refine hK _ _ ?_
        clear hK K
        try simp only [Act.put, List.setIfInBounds_toArray, List.set_cons_zero, List.set_cons_succ]
        refine wpAny_ready (rs := [0]) (by kernel_rfl) (by simp) ?_
        refine AllReady.cons (o := ⟨some 16, _, _, _, _, _⟩) rfl (fun K hK => ?_) AllReady.nil
        refine step_arr_load rfl (.tmp 2) rfl b2 _ _ rfl (HPt.out _) NNd.out ?_
        refine hK _ _ ?_
        clear hK K
        try simp only [Act.put, List.setIfInBounds_toArray, List.set_cons_zero, List.set_cons_succ]
        refine wpAny_ready (rs := [5]) (by kernel_rfl) (by simp) ?_
        refine AllReady.cons (o := ⟨some 21, _, _, _, _, _⟩) rfl (fun K hK => ?_) AllReady.nil
        refine step_arr_neq rfl (.tmp 16) (.tmp 20) _ rfl (pad10 (rit zs (k + p))) (pad10 (rit zs k)) rfl rfl (HPt.out _) (HPt.out _) true HE.out ?_
        refine hK _ _ ?_
        clear hK K
        refine wpAny_done (by kernel_rfl) ?_ _
      all_goals
        go_wp2_with fail
        go_simp
        try go_end0
        exact ⟨rfl, WWd.out, BBd.out⟩
end Go.Proofs.Ytkhcabgpbmhimaa
