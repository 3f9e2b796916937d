
/-
  THE RING BEHIND MANY STEPS, THE PROGRAM's WAY: RingAfter.
-/
import Derived.Test.YthmagflffffgfaaWkH
namespace Go.Proofs.Ythmagflffffgfaa
open Go.RowKit Go.Deep
set_option linter.unusedVariables false

set_option maxRecDepth 100000 in
set_option maxHeartbeats 2000000 in
theorem RingAfter_any (A : Option Addr) (n c : Nat) (zs : List Int) (b : Int) (w : World) (hr : Ints w w.heap.size A n zs) (hn : n ≤ 17592186044416) :
    Calls Try.prog 7 #[.slice A n c, .int .i64 b] w (MadeR (aftR zs b) (aftOk zs b) w) := by
  obtain rfl := hr.len
  have hzl := hide zero10_len
  cases hg : rgood zs
  · have h1 : aftOk zs b = false := by simp [aftOk, hg]
    rw [h1, show aftR zs b = [] from by simp [aftR, h1]]
    clear h1
    go_enter Try.func7, Try.ntmps7
    go_wp2_with fail
    refine (walkFrom_no A zs.length c zs w hr hn hg).mono ?_; rintro e w1 ⟨rfl, hb1⟩
    have B1 := hide hb1
    clear hb1
    go_wp2_with (first
      | (with_reducible refine wpList_wk_new (o := ⟨some 6, _, _, _, _, _⟩) rfl rfl ?_; intro w4 hW4 hb4; have N4 := hide hW4; have B4 := hide (below_next B1.out hb4); clear hW4 hb4)
      | (with_reducible refine wpList_wk_put rfl (.tmp 6) (.tmp 11) rfl w1.heap.size _ _ _ _ _ _ _ _ _ _ _ _ rfl rfl nilF_one hzl.out hzl.out N4.out ?_; intro w5 hW5 ho5; have W5 := hide hW5; have B5 := hide (B4.out.trans (ho5.below.mono B1.out.size)); have hcl := hW5.cl; have hcp := hW5.cp; have hc0 := hW5.c0; clear hW5 ho5))
    go_ret2
    exact madeR_none B5.out
  · have hg2 := (rgood_of hg).2.1
    have hg1 := (rgood_of hg).1
    have HP := hide (pad10_len hg2)
    have HPl := hide (lastF_pad hg)
    by_cases hin : 0 ≤ b ∧ b ≤ 1000000000
    · have hd1 : decide (0 ≤ b ∧ b ≤ 1000000000) = true := by simpa using hin
      obtain ⟨k, rfl⟩ := Int.eq_ofNat_of_zero_le hin.1
      have h1 : aftOk zs k = true := by unfold aftOk; rw [hg, hd1]; rfl
      rw [h1, show aftR zs k = rit zs (aftN zs k) from by simp [aftR, h1]]
      have hk : k ≤ 1000000000 := by omega
      have hp1 := (cycF hg).1.pos
      have hmp := (cycF hg).2
      have HPt := hide (fun t => pad10_len (zs := rit zs t) (by rw [rit_length]; exact hg2))
      clear hin h1 hd1
      by_cases hlt : leadF zs < k
      · have HN := hide (show aftN zs k = leadF zs + (k - leadF zs) % perF zs by unfold aftN; rw [if_pos hlt])
        obtain ⟨T, hT⟩ : ∃ T, T = leadF zs + (k - leadF zs) % perF zs := ⟨_, rfl⟩
        have hmod := Nat.mod_lt (k - leadF zs) hp1
        have ht9 : T ≤ 1000000000 := by omega
        have e1 : IntKind.i64.wrap ((k : Int) - (leadF zs : Int)) = ((k - leadF zs : Nat) : Int) := by rw [IntWalk.i64_in _ (by omega)]; omega
        have hmi : 0 ≤ ((k - leadF zs : Nat) : Int) % (perF zs : Int) ∧ ((k - leadF zs : Nat) : Int) % (perF zs : Int) < (perF zs : Int) := ⟨Int.emod_nonneg _ (by omega), Int.emod_lt_of_pos _ (by omega)⟩
        have HE3 := hide (show wrap64 ((leadF zs : Int) + ((k - leadF zs : Nat) : Int) % (perF zs : Int)) = (T : Int) by
          rw [← IntWalk.i64_left, IntWalk.i64_in _ (by omega), hT, Int.natCast_add, Int.natCast_emod])
        have HTT := hide (show aftN zs k = T by rw [HN.out, hT])
        have HTk := hide (show (pad10 (rit zs T)).take zs.length = rit zs T by have := pad10_take (rit zs T); rw [rit_length] at this; exact this)
        have HLt := hide (rit_length zs T)
        have hpn : ¬ (perF zs : Int) = 0 := by omega
        rw [HTT.out]
        clear hT hmod hmi
        go_enter Try.func7, Try.ntmps7
        go_wp2_with fail
        refine (walkFrom_yes A zs.length c zs w hr hg).mono ?_; rintro e w1 ⟨bd, bs, rfl, hbd, hbs, hs1, hb1⟩
        have S1 := hide hs1
        have hbd1 : bd < w1.heap.size := hs1.2.2.1
        have hbs1 : bs < w1.heap.size := hs1.2.2.2
        have B1 := hide hb1
        clear hs1 hb1
        go_wp2_with (first
          | (with_reducible refine wpList_wk_new (o := ⟨some 6, _, _, _, _, _⟩) rfl rfl ?_; intro w4 hW4 hb4; have N4 := hide hW4; have B4 := hide (below_next B1.out hb4); have S4 := hide (S1.out.next hb4); clear hW4 hb4)
          | (with_reducible refine wpList_wk_put rfl (.tmp 6) (.tmp 11) rfl w1.heap.size _ _ _ _ _ _ _ _ _ _ _ _ rfl rfl (stepF_one bd bs) HP.out HPl.out N4.out ?_; intro w5 hW5 ho5; have W5 := hide hW5; have B5 := hide (B4.out.trans (ho5.below.mono B1.out.size)); have S5 := hide (S4.out.same (ho5.rest bd (Nat.ne_of_lt hbd1)) (ho5.rest bs (Nat.ne_of_lt hbs1)) (by rw [ho5.size]; exact Nat.le_refl _)); have hcl := hW5.cl; have hcp := hW5.cp; have hc0 := hW5.c0; clear hW5 ho5))
        go_quiet (fail)
        rw [HE3.out]
        go_wp2_with fail
        have hdn : Below w5.heap.size w5 (w5.drewN nq) := below_drewN (Below.refl _ _) nq
        have Sc := hide (S5.out.next hdn)
        have Wc := hide (W5.out.next hdn)
        have Bc := hide (below_next B5.out hdn)
        clear hdn e1 hcl hcp hc0
        generalize w5.drewN nq = wc at *
        clear S5 W5 B5 S4 N4 B4 S1 B1
        refine wp_region_any (by kernel_rfl) ?_
        change wpAny _ _ _ _ _ _ _ (World.drew _)
        have hbdd : Below wc.heap.size wc wc.drew := (Below.refl _ _).drew
        have Sd := hide (Sc.out.next hbdd)
        have Wd := hide (Wc.out.next hbdd)
        have Bd := hide (below_next Bc.out hbdd)
        have hc0d := Wd.out.c0
        generalize wc.drew = wd at *
        clear hbdd
        refine wpAny_take (i := 0) (oi := ⟨some 37, _, _, _, _, _⟩) (v := ?_) rfl (by kernel_rfl) (by kernel_rfl) (by kernel_rfl) (fun _ _ _ h => h) (Or.inl ⟨rfl, ?_⟩) ?_
        rotate_left
        · intro w; go_simp; first | done | (with_reducible rfl)
        refine wpAny_take (i := 2) (oi := ⟨some 39, _, _, _, _, _⟩) (v := ?_) rfl (by kernel_rfl) (by kernel_rfl) (by kernel_rfl) (fun _ _ _ h => h) (Or.inl ⟨rfl, ?_⟩) ?_
        rotate_left
        · intro w; go_simp; first | done | (with_reducible rfl)
        refine wpAny_ready (rs := [1, 3]) (by kernel_rfl) (by simp) ?_
        refine AllReady.cons (o := ⟨some 38, _, _, _, _, _⟩) rfl (fun K hK => ?_) (AllReady.cons (o := ⟨some 40, _, _, _, _, _⟩) rfl (fun K hK => ?_) AllReady.nil)
        focus
          go_simp
          refine (after_any w1.heap.size bd bs zs _ _ _ T _ hg ht9 Wd.out Sd.out).mono ?_
          rintro e w7 ⟨rfl, hb7⟩
          refine hK _ _ ?_
          clear hK K
          have B7 := hide (below_next Bd.out hb7)
          have hc07 := (Wd.out.next hb7).c0
          refine wpAny_ready (rs := [3]) (by kernel_rfl) (by simp) ?_
          refine AllReady.cons (o := ⟨some 40, _, _, _, _, _⟩) rfl (fun K hK => ?_) AllReady.nil
          go_simp
          refine hK _ _ ?_
          clear hK K
          refine wpAny_ready (rs := [4]) (by kernel_rfl) (by simp) ?_
          refine AllReady.cons (o := ⟨some 41, _, _, _, _, _⟩) rfl (fun K hK => ?_) AllReady.nil
          go_simp
          refine (rowList_any (pad10 (rit zs T)) zs.length w7 (HPt.out T) (by omega) hg2).mono ?_
          rw [HTk.out]
          rintro e w8 ⟨g8, c8, rfl, _, _, hc8, hc8', hown8, hb8⟩
          refine hK _ _ ?_
          clear hK K
          have B8 := hide (below_next B7.out hb8)
          have O8 := hide (hown8.less B7.out.size)
          clear hown8 hb8 hb7
          refine wpAny_ready (rs := [5]) (by kernel_rfl) (by simp) ?_
          refine AllReady.cons (o := ⟨some 4, _, _, _, _, _⟩) rfl (fun K hK => ?_) AllReady.nil
          go_simp
          refine hK _ _ ?_
          clear hK K
          refine wpAny_ready (rs := [6]) (by kernel_rfl) (by simp) ?_
          refine AllReady.cons (o := ⟨some 5, _, _, _, _, _⟩) rfl (fun K hK => ?_) AllReady.nil
          go_simp
          refine hK _ _ ?_
          clear hK K
          refine wpAny_done (by kernel_rfl) ?_ _
        rotate_left
        focus
          go_simp
          refine hK _ _ ?_
          clear hK K
          refine wpAny_ready (rs := [1]) (by kernel_rfl) (by simp) ?_
          refine AllReady.cons (o := ⟨some 38, _, _, _, _, _⟩) rfl (fun K hK => ?_) AllReady.nil
          go_simp
          refine (after_any w1.heap.size bd bs zs _ _ _ T _ hg ht9 Wd.out Sd.out).mono ?_
          rintro e w7 ⟨rfl, hb7⟩
          refine hK _ _ ?_
          clear hK K
          have B7 := hide (below_next Bd.out hb7)
          refine wpAny_ready (rs := [4]) (by kernel_rfl) (by simp) ?_
          refine AllReady.cons (o := ⟨some 41, _, _, _, _, _⟩) rfl (fun K hK => ?_) AllReady.nil
          go_simp
          refine (rowList_any (pad10 (rit zs T)) zs.length w7 (HPt.out T) (by omega) hg2).mono ?_
          rw [HTk.out]
          rintro e w8 ⟨g8, c8, rfl, _, _, hc8, hc8', hown8, hb8⟩
          refine hK _ _ ?_
          clear hK K
          have B8 := hide (below_next B7.out hb8)
          have O8 := hide (hown8.less B7.out.size)
          clear hown8 hb8 hb7
          refine wpAny_ready (rs := [5]) (by kernel_rfl) (by simp) ?_
          refine AllReady.cons (o := ⟨some 4, _, _, _, _, _⟩) rfl (fun K hK => ?_) AllReady.nil
          go_simp
          refine hK _ _ ?_
          clear hK K
          refine wpAny_ready (rs := [6]) (by kernel_rfl) (by simp) ?_
          refine AllReady.cons (o := ⟨some 5, _, _, _, _, _⟩) rfl (fun K hK => ?_) AllReady.nil
          go_simp
          refine hK _ _ ?_
          clear hK K
          refine wpAny_done (by kernel_rfl) ?_ _
        all_goals
          go_wp2_with fail
          go_ret2
          exact ⟨_, c8, by rw [HLt.out]; rfl, hc8, hc8', O8.out, B8.out⟩
      · have HTT := hide (show aftN zs k = k by unfold aftN; rw [if_neg hlt])
        obtain ⟨T, hT⟩ : ∃ T, T = k := ⟨_, rfl⟩
        subst hT
        have ht9 := hk
        have HTk := hide (show (pad10 (rit zs T)).take zs.length = rit zs T by have := pad10_take (rit zs T); rw [rit_length] at this; exact this)
        have HLt := hide (rit_length zs T)
        rw [HTT.out]
        go_enter Try.func7, Try.ntmps7
        go_wp2_with fail
        refine (walkFrom_yes A zs.length c zs w hr hg).mono ?_; rintro e w1 ⟨bd, bs, rfl, hbd, hbs, hs1, hb1⟩
        have S1 := hide hs1
        have hbd1 : bd < w1.heap.size := hs1.2.2.1
        have hbs1 : bs < w1.heap.size := hs1.2.2.2
        have B1 := hide hb1
        clear hs1 hb1
        go_wp2_with (first
          | (with_reducible refine wpList_wk_new (o := ⟨some 6, _, _, _, _, _⟩) rfl rfl ?_; intro w4 hW4 hb4; have N4 := hide hW4; have B4 := hide (below_next B1.out hb4); have S4 := hide (S1.out.next hb4); clear hW4 hb4)
          | (with_reducible refine wpList_wk_put rfl (.tmp 6) (.tmp 11) rfl w1.heap.size _ _ _ _ _ _ _ _ _ _ _ _ rfl rfl (stepF_one bd bs) HP.out HPl.out N4.out ?_; intro w5 hW5 ho5; have W5 := hide hW5; have B5 := hide (B4.out.trans (ho5.below.mono B1.out.size)); have S5 := hide (S4.out.same (ho5.rest bd (Nat.ne_of_lt hbd1)) (ho5.rest bs (Nat.ne_of_lt hbs1)) (by rw [ho5.size]; exact Nat.le_refl _)); have hcl := hW5.cl; have hcp := hW5.cp; have hc0 := hW5.c0; clear hW5 ho5))
        clear S4 N4 B4 S1 B1
        refine wp_region_any (by kernel_rfl) ?_
        change wpAny _ _ _ _ _ _ _ (World.drew _)
        have hbdd : Below w5.heap.size w5 w5.drew := (Below.refl _ _).drew
        have Sd := hide (S5.out.next hbdd)
        have Wd := hide (W5.out.next hbdd)
        have Bd := hide (below_next B5.out hbdd)
        have hc0d := Wd.out.c0
        generalize w5.drew = wd at *
        clear hbdd
        refine wpAny_take (i := 0) (oi := ⟨some 37, _, _, _, _, _⟩) (v := ?_) rfl (by kernel_rfl) (by kernel_rfl) (by kernel_rfl) (fun _ _ _ h => h) (Or.inl ⟨rfl, ?_⟩) ?_
        rotate_left
        · intro w; go_simp; first | done | (with_reducible rfl)
        refine wpAny_take (i := 2) (oi := ⟨some 39, _, _, _, _, _⟩) (v := ?_) rfl (by kernel_rfl) (by kernel_rfl) (by kernel_rfl) (fun _ _ _ h => h) (Or.inl ⟨rfl, ?_⟩) ?_
        rotate_left
        · intro w; go_simp; first | done | (with_reducible rfl)
        refine wpAny_ready (rs := [1, 3]) (by kernel_rfl) (by simp) ?_
        refine AllReady.cons (o := ⟨some 38, _, _, _, _, _⟩) rfl (fun K hK => ?_) (AllReady.cons (o := ⟨some 40, _, _, _, _, _⟩) rfl (fun K hK => ?_) AllReady.nil)
        focus
          go_simp
          refine (after_any w1.heap.size bd bs zs _ _ _ T _ hg ht9 Wd.out Sd.out).mono ?_
          rintro e w7 ⟨rfl, hb7⟩
          refine hK _ _ ?_
          clear hK K
          have B7 := hide (below_next Bd.out hb7)
          have hc07 := (Wd.out.next hb7).c0
          refine wpAny_ready (rs := [3]) (by kernel_rfl) (by simp) ?_
          refine AllReady.cons (o := ⟨some 40, _, _, _, _, _⟩) rfl (fun K hK => ?_) AllReady.nil
          go_simp
          refine hK _ _ ?_
          clear hK K
          refine wpAny_ready (rs := [4]) (by kernel_rfl) (by simp) ?_
          refine AllReady.cons (o := ⟨some 41, _, _, _, _, _⟩) rfl (fun K hK => ?_) AllReady.nil
          go_simp
          refine (rowList_any (pad10 (rit zs T)) zs.length w7 (HPt.out T) (by omega) hg2).mono ?_
          rw [HTk.out]
          rintro e w8 ⟨g8, c8, rfl, _, _, hc8, hc8', hown8, hb8⟩
          refine hK _ _ ?_
          clear hK K
          have B8 := hide (below_next B7.out hb8)
          have O8 := hide (hown8.less B7.out.size)
          clear hown8 hb8 hb7
          refine wpAny_ready (rs := [5]) (by kernel_rfl) (by simp) ?_
          refine AllReady.cons (o := ⟨some 4, _, _, _, _, _⟩) rfl (fun K hK => ?_) AllReady.nil
          go_simp
          refine hK _ _ ?_
          clear hK K
          refine wpAny_ready (rs := [6]) (by kernel_rfl) (by simp) ?_
          refine AllReady.cons (o := ⟨some 5, _, _, _, _, _⟩) rfl (fun K hK => ?_) AllReady.nil
          go_simp
          refine hK _ _ ?_
          clear hK K
          refine wpAny_done (by kernel_rfl) ?_ _
        rotate_left
        focus
          go_simp
          refine hK _ _ ?_
          clear hK K
          refine wpAny_ready (rs := [1]) (by kernel_rfl) (by simp) ?_
          refine AllReady.cons (o := ⟨some 38, _, _, _, _, _⟩) rfl (fun K hK => ?_) AllReady.nil
          go_simp
          refine (after_any w1.heap.size bd bs zs _ _ _ T _ hg ht9 Wd.out Sd.out).mono ?_
          rintro e w7 ⟨rfl, hb7⟩
          refine hK _ _ ?_
          clear hK K
          have B7 := hide (below_next Bd.out hb7)
          refine wpAny_ready (rs := [4]) (by kernel_rfl) (by simp) ?_
          refine AllReady.cons (o := ⟨some 41, _, _, _, _, _⟩) rfl (fun K hK => ?_) AllReady.nil
          go_simp
          refine (rowList_any (pad10 (rit zs T)) zs.length w7 (HPt.out T) (by omega) hg2).mono ?_
          rw [HTk.out]
          rintro e w8 ⟨g8, c8, rfl, _, _, hc8, hc8', hown8, hb8⟩
          refine hK _ _ ?_
          clear hK K
          have B8 := hide (below_next B7.out hb8)
          have O8 := hide (hown8.less B7.out.size)
          clear hown8 hb8 hb7
          refine wpAny_ready (rs := [5]) (by kernel_rfl) (by simp) ?_
          refine AllReady.cons (o := ⟨some 4, _, _, _, _, _⟩) rfl (fun K hK => ?_) AllReady.nil
          go_simp
          refine hK _ _ ?_
          clear hK K
          refine wpAny_ready (rs := [6]) (by kernel_rfl) (by simp) ?_
          refine AllReady.cons (o := ⟨some 5, _, _, _, _, _⟩) rfl (fun K hK => ?_) AllReady.nil
          go_simp
          refine hK _ _ ?_
          clear hK K
          refine wpAny_done (by kernel_rfl) ?_ _
        all_goals
          go_wp2_with fail
          go_ret2
          exact ⟨_, c8, by rw [HLt.out]; rfl, hc8, hc8', O8.out, B8.out⟩
    · have hd1 : decide (0 ≤ b ∧ b ≤ 1000000000) = false := by simpa using hin
      have h1 : aftOk zs b = false := by unfold aftOk; rw [hd1]; simp
      rw [h1, show aftR zs b = [] from by simp [aftR, h1]]
      clear h1 hd1
      by_cases hb0 : 0 ≤ b
      · have hb1 : ¬ b ≤ 1000000000 := fun h => hin ⟨hb0, h⟩
        clear hin
        go_enter Try.func7, Try.ntmps7
        go_wp2_with fail
        refine (walkFrom_yes A zs.length c zs w hr hg).mono ?_; rintro e w1 ⟨bd, bs, rfl, hbd, hbs, hs1, hb1⟩
        have S1 := hide hs1
        have hbd1 : bd < w1.heap.size := hs1.2.2.1
        have hbs1 : bs < w1.heap.size := hs1.2.2.2
        have B1 := hide hb1
        clear hs1 hb1
        go_wp2_with (first
          | (with_reducible refine wpList_wk_new (o := ⟨some 6, _, _, _, _, _⟩) rfl rfl ?_; intro w4 hW4 hb4; have N4 := hide hW4; have B4 := hide (below_next B1.out hb4); have S4 := hide (S1.out.next hb4); clear hW4 hb4)
          | (with_reducible refine wpList_wk_put rfl (.tmp 6) (.tmp 11) rfl w1.heap.size _ _ _ _ _ _ _ _ _ _ _ _ rfl rfl (stepF_one bd bs) HP.out HPl.out N4.out ?_; intro w5 hW5 ho5; have W5 := hide hW5; have B5 := hide (B4.out.trans (ho5.below.mono B1.out.size)); have S5 := hide (S4.out.same (ho5.rest bd (Nat.ne_of_lt hbd1)) (ho5.rest bs (Nat.ne_of_lt hbs1)) (by rw [ho5.size]; exact Nat.le_refl _)); have hcl := hW5.cl; have hcp := hW5.cp; have hc0 := hW5.c0; clear hW5 ho5))
        go_ret2
        exact madeR_none B5.out
      · clear hin
        go_enter Try.func7, Try.ntmps7
        go_wp2_with fail
        refine (walkFrom_yes A zs.length c zs w hr hg).mono ?_; rintro e w1 ⟨bd, bs, rfl, hbd, hbs, hs1, hb1⟩
        have S1 := hide hs1
        have hbd1 : bd < w1.heap.size := hs1.2.2.1
        have hbs1 : bs < w1.heap.size := hs1.2.2.2
        have B1 := hide hb1
        clear hs1 hb1
        go_wp2_with (first
          | (with_reducible refine wpList_wk_new (o := ⟨some 6, _, _, _, _, _⟩) rfl rfl ?_; intro w4 hW4 hb4; have N4 := hide hW4; have B4 := hide (below_next B1.out hb4); have S4 := hide (S1.out.next hb4); clear hW4 hb4)
          | (with_reducible refine wpList_wk_put rfl (.tmp 6) (.tmp 11) rfl w1.heap.size _ _ _ _ _ _ _ _ _ _ _ _ rfl rfl (stepF_one bd bs) HP.out HPl.out N4.out ?_; intro w5 hW5 ho5; have W5 := hide hW5; have B5 := hide (B4.out.trans (ho5.below.mono B1.out.size)); have S5 := hide (S4.out.same (ho5.rest bd (Nat.ne_of_lt hbd1)) (ho5.rest bs (Nat.ne_of_lt hbs1)) (by rw [ho5.size]; exact Nat.le_refl _)); have hcl := hW5.cl; have hcp := hW5.cp; have hc0 := hW5.c0; clear hW5 ho5))
        go_ret2
        exact madeR_none B5.out
theorem RingAfter_w (A : Option Addr) (n c B : Nat) (zs : List Int) (b : Int) (w : World) (hr : Ints w B A n zs) (hB : B ≤ w.heap.size) (hn : n ≤ 17592186044416) :
    Calls Try.prog 7 #[.slice A n c, .int .i64 b] w (MadeR (aftR zs b) (aftOk zs b) w) := RingAfter_any A n c zs b w (hr.more hB) hn
end Go.Proofs.Ythmagflffffgfaa
