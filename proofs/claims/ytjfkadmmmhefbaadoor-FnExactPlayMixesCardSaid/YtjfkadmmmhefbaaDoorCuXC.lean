
/-
  PLAYS OF MIXES, THE MODEL's WAY: cuPlay.
-/
import Derived.Test.YtjfkadmmmhefbaaDoorCuX
import Derived.Test.YtjfkadmmmhefbaaDoorSs
import Derived.Test.YtjfkadmmmhefbaaDoorSums
import Derived.Deep.RegionHeld3
import Derived.Deep.RegionWith
import Derived.Deep.RegionLaw
namespace Go.Proofs.YtjfkadmmmhefbaaDoor
open Go.RowKit Go.Deep
set_option linter.unusedVariables false

theorem red_same {zs : List Int} {u : Nat} (h : cuOk zs (u : Int) = true) : redZ u zs = zs ∧ redU u zs = u := by
  obtain ⟨_, _, hu, hw, ho⟩ := cuOk_of h
  have h1 := twos_zero (u : Int) zs hu hw
  rw [ho, Int.toNat_natCast] at h1
  have h2 : twos u zs = 0 := by simpa using h1
  unfold redZ redU
  rw [h2]
  simp

set_option maxHeartbeats 4000000 in
set_option maxRecDepth 100000 in
theorem cuPlay_any (A : Option Addr) (n c B : Nat) (zs : List Int) (u : Int) (MA : Option Addr) (mn mc : Nat) (vs : List Value) (ms : List (List Int)) (w : World) (hr : Ints w B A n zs) (hv : Vals w B MA mn vs) (hi : IntVs w B vs ms)
    (hB : B ≤ w.heap.size) (hask : pmAsk zs u ms = true) :
    Calls Tryd.prog 17 #[.agg #[.slice A n c, .int .i64 u], .slice MA mn mc] w (MadeCB (pmL zs u ms) (pmU zs u ms) (pmOk zs u ms) w) := by
  obtain rfl := hr.len
  obtain rfl : ms.length = mn := (hv.1.symm.trans hi.1).symm
  obtain ⟨X0, X1, kb, ks⟩ := two_boxes w (.slice A zs.length c) (.int .i64 u) (.slice none 0 0) (.int .i64 0) 28 28
  have HAsk := hide hask
  unfold pmAsk at hask
  rw [Bool.and_eq_true, decide_eq_true_iff] at hask
  obtain ⟨hc, h50⟩ := hask
  obtain ⟨g2, g6, hu, hw, _⟩ := cuOk_of hc
  have hub := isU_bd hu
  obtain ⟨j, hj, huj⟩ := isU_of hu
  obtain ⟨x, rfl⟩ := Int.eq_ofNat_of_zero_le (show 0 ≤ u from by omega)
  have hwz := within_toNat hw
  have HL := hide (cuLow_any A zs.length c B zs x j _ (hr.below kb hB) (Nat.le_trans hB kb.size) (by omega) (by omega) (by exact_mod_cast huj) (by omega) (within_of (fun k hk => by have := hwz zs[k] (List.getElem_mem hk); omega)))
  rw [(red_same hc).1, (red_same hc).2] at HL
  have HX0 := hide X0
  have HX1 := hide X1
  have HKB := hide kb
  have HKS := hide ks
  have HR := hide hr
  have HV := hide hv
  have HI := hide hi
  have HC := hide hc
  have k0 := X0.c0
  have k1 := X0.c1
  have h0 : 0 < zs.length := by omega
  clear X0 X1 kb ks hr hv hi hc hu hw hwz hub huj hj
  go_enter Tryd.func17, Tryd.ntmps17
  go_wp2_with fail
  refine HL.out.mono ?_; rintro e w3 ⟨A', c1, rfl, hc1, hc2, hown, hb3⟩
  obtain ⟨g, rfl, hg1, hg2⟩ := hown.head h0
  have HW3 := hide (HKB.out.trans (hb3.mono HKB.out.size))
  have HSZ := hide (show w.heap.size + 2 ≤ w3.heap.size ∧ w.heap.size + 2 ≤ g ∧ g < w3.heap.size from by have := hb3.size; have := HKS.out; omega)
  have FX := hide (Bx.new w3 28 (.slice (some ⟨g, 0, none⟩) zs.length c1) (.int .i64 (x : Int)))
  have FP := hide ((HX0.out.next hb3).alloc (.cells #[.slice (some ⟨g, 0, none⟩) zs.length c1, .int .i64 (x : Int)] 28))
  have FR := hide ((HX1.out.next hb3).alloc (.cells #[.slice (some ⟨g, 0, none⟩) zs.length c1, .int .i64 (x : Int)] 28))
  have FO := hide ((hown.alloc (.cells #[.slice (some ⟨g, 0, none⟩) zs.length c1, .int .i64 (x : Int)] 28)).less (base' := w.heap.size) (by have := HKS.out; omega))
  have FB := hide (HW3.out.alloc HW3.out.size (.cells #[.slice (some ⟨g, 0, none⟩) zs.length c1, .int .i64 (x : Int)] 28))
  clear hown hb3 hg1 hg2 HL k0 k1
  go_wp2_with fail
  generalize (w3.alloc (.cells #[.slice (some ⟨g, 0, none⟩) zs.length c1, .int .i64 (x : Int)] 28)) = W4 at *
  try go_wp2_with fail
  generalize w3.heap.size = bx at *
  clear HW3
  go_loopw [15] (fun i wr => ∃ (k : Nat), k ≤ ms.length ∧ i = .int .i64 k ∧ ∃ (ys : List Int) (v gk ck : Nat), Hid (pmix zs x (ms.take k) = some (ys, v)) ∧ Bx wr bx 28 (.slice (some ⟨gk, 0, none⟩) ys.length ck) (.int .i64 (v : Int)) ∧
      Hid (Own wr w.heap.size 3 (.slice (some ⟨gk, 0, none⟩) ys.length ck) ys ∧ gk ≠ bx ∧ w.heap.size + 2 ≤ gk ∧ ys.length ≤ ck ∧ ck ≤ maxLen) ∧ Hid (Bx wr w.heap.size 28 (.slice A zs.length c) (.int .i64 (x : Int))) ∧ Hid (Bx wr (w.heap.size + 1) 28 (.slice none 0 0) (.int .i64 0)) ∧ Below w.heap.size w wr)
    (fun i _ => ms.length - (intOf i).toNat)
  case atStart => exact ⟨0, Nat.zero_le _, rfl, zs, x, g, c1, hide rfl, FX.out, hide ⟨FO.out, by have := HSZ.out; omega, HSZ.out.2.1, hc1, hc2⟩, FP, FR, FB.out⟩
  case round =>
    obtain ⟨k, hk, rfl, ys, v, gk, ck, HP, XB, HO, XP, XR, hb⟩ := hrel
    have hsz := hb.size
    obtain ⟨hcy, hyl⟩ := pmix_ok HC.out HP.out
    have HN := hide (show w.heap.size + 2 ≤ bx from HSZ.out.1)
    by_cases hlt : k < ms.length
    · obtain ⟨ad, rfl, hab, hcell⟩ := (HV.out.below hb hB).at_ hlt
      obtain ⟨A', c', ev, hri⟩ := (HI.out.below hb hB).2 k hlt
      have hgk : ms.getD k [] = ms[k] := by simp [List.getD, hlt]
      rw [hgk] at ev hri
      rw [ev] at hcell
      have hkn : (k : Int) < (ms.length : Int) := by omega
      have HNX := hide (pmix_succ hlt HP.out)
      clear hgk ev
      generalize ms[k] = m at *
      have p0 := XP.out.c0
      have p1 := XP.out.c1
      by_cases hm2 : m.length = 2
      · match m, hm2 with
        | [mx, my], _ =>
          obtain ⟨ad2, rfl, had2, hm0⟩ := hri.at_ (show 0 < 2 by omega)
          obtain ⟨ad3, e3, _, hm1⟩ := hri.at_ (show 1 < 2 by omega)
          obtain rfl : ad3 = ad2 := by injection e3 with h; exact h.symm
          have hm0 : wr.cell? ad3 = some (.int .i64 mx) := hm0
          have hm1 : wr.cell? ⟨ad3.block, ad3.off + 1, none⟩ = some (.int .i64 my) := hm1
          have hcell : wr.cell? (ad.add k) = some (.slice (some ad3) 2 c') := hcell
          have had2 : ad3.block < B := had2
          have HT2 := hide (fun W => cuTwo_any A zs.length c (x : Int) mx my W (by omega))
          clear hri e3
          cases h2 : two zs.length mx my
          · have hmx : mixable zs.length [mx, my] = false := by
              rw [mixable_two]
              cases hd : decide (0 ≤ mx ∧ mx < my ∧ my < (zs.length : Int))
              · rfl
              · have h' := of_decide_eq_true hd
                rw [two_yes ⟨h'.1, by omega, by omega, h'.2.2, by omega⟩] at h2
                cases h2
            have H := hide (pm_stuck (u := (x : Int)) (zs := zs) (ms := ms) (by rw [Int.toNat_natCast]; exact pmix_stuck (by rw [HNX.out, hyl, hmx]; rfl)))
            rw [h2] at HT2
            have HBB := hide hb
            have HS := hide (fun W (h : Below wr.heap.size wr W) => And.intro h (And.intro (XP.out.next h).c0 (And.intro (XP.out.next h).c1 (And.intro ((h.cell (p := ad3) (by omega)).trans hm0) ((h.cell (p := ⟨ad3.block, ad3.off + 1, none⟩) (by show ad3.block < _; omega)).trans hm1)))))
            clear hmx HNX hcy hyl hb XB h2 HO HP
            go_wp2_with fail
            refine wp_region_held_drew (S := (fun W => Below wr.heap.size wr W ∧ W.cell? ⟨w.heap.size, 0, none⟩ = some (.slice A zs.length c) ∧ W.cell? ⟨w.heap.size, 1, none⟩ = some (.int .i64 (x : Int)) ∧ W.cell? ad3 = some (.int .i64 mx) ∧ W.cell? ⟨ad3.block, ad3.off + 1, none⟩ = some (.int .i64 my))) (by kernel_rfl) ?_ (fun hHeld => ?_)
            · exact HS.out _ (Below.refl _ _).drew
            refine wpAnyH_take (i := 0) (v := ?_) rfl (by kernel_rfl) (by kernel_rfl) (by kernel_rfl) (fun _ _ _ h => h) (Or.inl ⟨by rfl, ?_⟩) (by assumption) ?_
            rotate_left
            · (intro w hSw; (try dsimp only at hSw); go_simp; first | done | (with_reducible rfl))
            try go_simp
            refine wpAnyH_take (i := 1) (v := ?_) rfl (by kernel_rfl) (by kernel_rfl) (by kernel_rfl) (fun _ _ _ h => h) (Or.inl ⟨by rfl, ?_⟩) (by assumption) ?_
            rotate_left
            · (intro w hSw; (try dsimp only at hSw); go_simp; first | done | (with_reducible rfl))
            try go_simp
            refine wpAnyH_take (i := 2) (v := ?_) rfl (by kernel_rfl) (by kernel_rfl) (by kernel_rfl) (fun _ _ _ h => h) (Or.inl ⟨by rfl, ?_⟩) (by assumption) ?_
            rotate_left
            · (intro w hSw; (try dsimp only at hSw); go_simp; first | done | (with_reducible rfl))
            try go_simp
            refine wpAnyH_take (i := 3) (v := ?_) rfl (by kernel_rfl) (by kernel_rfl) (by kernel_rfl) (fun _ _ _ h => h) (Or.inl ⟨by rfl, ?_⟩) (by assumption) ?_
            rotate_left
            · (intro w hSw; (try dsimp only at hSw); go_simp; first | done | (with_reducible rfl))
            try go_simp
            refine wpAnyH_take (i := 4) (v := ?_) rfl (by kernel_rfl) (by kernel_rfl) (by kernel_rfl) (fun _ _ _ h => h) (Or.inl ⟨by rfl, ?_⟩) (by assumption) ?_
            rotate_left
            · (intro w hSw; (try dsimp only at hSw); go_simp; first | done | (with_reducible rfl))
            try go_simp
            refine wpAnyH_take (i := 5) (v := ?_) rfl (by kernel_rfl) (by kernel_rfl) (by kernel_rfl) (fun _ _ _ h => h) (Or.inl ⟨by rfl, ?_⟩) (by assumption) ?_
            rotate_left
            · (intro w hSw; (try dsimp only at hSw); go_simp; first | done | (with_reducible rfl))
            try go_simp
            refine wpAnyH_take (i := 6) (v := ?_) rfl (by kernel_rfl) (by kernel_rfl) (by kernel_rfl) (fun _ _ _ h => h) (Or.inl ⟨by rfl, ?_⟩) (by assumption) ?_
            rotate_left
            · (intro w hSw; (try dsimp only at hSw); go_simp; first | done | (with_reducible rfl))
            try go_simp
            refine wpAnyH_take (i := 7) (v := ?_) rfl (by kernel_rfl) (by kernel_rfl) (by kernel_rfl) (fun _ _ _ h => h) (Or.inl ⟨by rfl, ?_⟩) (by assumption) ?_
            rotate_left
            · (intro w hSw; (try dsimp only at hSw); go_simp; first | done | (with_reducible rfl))
            try go_simp
            refine wpAnyH_take (i := 8) (v := ?_) rfl (by kernel_rfl) (by kernel_rfl) (by kernel_rfl) (fun _ _ _ h => h) (Or.inl ⟨by rfl, ?_⟩) (by assumption) ?_
            rotate_left
            · (intro w hSw; (try dsimp only at hSw); go_simp; first | done | (with_reducible rfl))
            try go_simp
            refine wpAnyH_take (i := 9) (v := ?_) rfl (by kernel_rfl) (by kernel_rfl) (by kernel_rfl) (fun _ _ _ h => h) (Or.inl ⟨by rfl, ?_⟩) (by assumption) ?_
            rotate_left
            · (intro w hSw; (try dsimp only at hSw); go_simp; first | done | (with_reducible rfl))
            try go_simp
            refine wpAnyH_take (i := 10) (v := ?_) rfl (by kernel_rfl) (by kernel_rfl) (by kernel_rfl) (fun _ _ _ h => h) (Or.inl ⟨by rfl, ?_⟩) (by assumption) ?_
            rotate_left
            · (intro w hSw; (try dsimp only at hSw); go_simp; first | done | (with_reducible rfl))
            try go_simp
            refine wpAnyH_ready (rs := [11]) (by kernel_rfl) (by simp) ?_
            refine AllReadyH.cons rfl (fun K hK => ?_) AllReadyH.nil
            go_simp
            go_at_call 31; (with_reducible refine (HT2.out _).mono ?_); rintro e w5 ⟨rfl, hb5⟩
            go_wp2_with fail
            refine hK.out _ _ ?_ (fun hHeld => ?_)
            · exact HS.out _ (below_next (And.left (by assumption)) hb5)
            clear hK K
            try go_simp
            refine wpAnyH_take (i := 12) (v := ?_) rfl (by kernel_rfl) (by kernel_rfl) (by kernel_rfl) (fun _ _ _ h => h) (Or.inl ⟨by rfl, ?_⟩) (by assumption) ?_
            rotate_left
            · (intro w hSw; (try dsimp only at hSw); go_simp; first | done | (with_reducible rfl))
            try go_simp
            refine wpAnyH_take (i := 13) (v := ?_) rfl (by kernel_rfl) (by kernel_rfl) (by kernel_rfl) (fun _ _ _ h => h) (Or.inl ⟨by rfl, ?_⟩) (by assumption) ?_
            rotate_left
            · (intro w hSw; (try dsimp only at hSw); go_simp; first | done | (with_reducible rfl))
            try go_simp
            refine wpAnyH_take (i := 14) (v := ?_) rfl (by kernel_rfl) (by kernel_rfl) (by kernel_rfl) (fun _ _ _ h => h) (Or.inl ⟨by rfl, ?_⟩) (by assumption) ?_
            rotate_left
            · (intro w hSw; (try dsimp only at hSw); go_simp; first | done | (with_reducible rfl))
            try go_simp
            refine wpAnyH_take (i := 15) (v := undef) rfl (by kernel_rfl) (by kernel_rfl) (by kernel_rfl) (fun _ _ _ h => h) (Or.inr ⟨by kernel_rfl, rfl⟩) (by assumption) ?_
            try go_simp
            refine wpAnyH_take (i := 16) (v := undef) rfl (by kernel_rfl) (by kernel_rfl) (by kernel_rfl) (fun _ _ _ h => h) (Or.inr ⟨by kernel_rfl, rfl⟩) (by assumption) ?_
            try go_simp
            refine wpAnyH_take (i := 17) (v := undef) rfl (by kernel_rfl) (by kernel_rfl) (by kernel_rfl) (fun _ _ _ h => h) (Or.inr ⟨by kernel_rfl, rfl⟩) (by assumption) ?_
            try go_simp
            refine wpAnyH_take (i := 18) (v := undef) rfl (by kernel_rfl) (by kernel_rfl) (by kernel_rfl) (fun _ _ _ h => h) (Or.inr ⟨by kernel_rfl, rfl⟩) (by assumption) ?_
            try go_simp
            refine wpAnyH_take (i := 19) (v := undef) rfl (by kernel_rfl) (by kernel_rfl) (by kernel_rfl) (fun _ _ _ h => h) (Or.inr ⟨by kernel_rfl, rfl⟩) (by assumption) ?_
            try go_simp
            refine wpAnyH_take (i := 20) (v := undef) rfl (by kernel_rfl) (by kernel_rfl) (by kernel_rfl) (fun _ _ _ h => h) (Or.inr ⟨by kernel_rfl, rfl⟩) (by assumption) ?_
            try go_simp
            refine wpAnyH_take (i := 21) (v := undef) rfl (by kernel_rfl) (by kernel_rfl) (by kernel_rfl) (fun _ _ _ h => h) (Or.inr ⟨by kernel_rfl, rfl⟩) (by assumption) ?_
            try go_simp
            refine wpAnyH_take (i := 22) (v := ?_) rfl (by kernel_rfl) (by kernel_rfl) (by kernel_rfl) (fun _ _ _ h => h) (Or.inl ⟨by rfl, ?_⟩) (by assumption) ?_
            rotate_left
            · (intro w hSw; (try dsimp only at hSw); go_simp; first | done | (with_reducible rfl))
            try go_simp
            refine wpAnyH_done (by kernel_rfl) ?_ _
            have hB5 : Below wr.heap.size wr w5 := And.left (by assumption : Below wr.heap.size wr w5 ∧ _)
            have HB5 := hide hB5
            clear hB5 hb5
            have bR := XR.out.next HB5.out
            have e0 := bR.c0
            have e1 := bR.c1
            have f0 := bR.f 0
            have f1 := bR.f 1
            have R1 := bR.set0 (.slice none 0 0)
            have R2 := R1.set1 (.int .i64 0)
            have e2 := R1.c1
            have f2 := R1.f 1
            have i0 := R2.c0
            have i1 := R2.c1
            have HBn := hide (((HBB.out.trans (HB5.out.mono hsz)).setCell (p := ⟨w.heap.size + 1, 0, none⟩) (by simp) (.slice none 0 0)).setCell (p := ⟨w.heap.size + 1, 1, none⟩) (by simp) (.int .i64 0))
            clear R1 R2 bR
            go_wp2_with fail
            rw [(pm_no H.out).1, (pm_no H.out).2, H.out]
            refine bodyPost_ret (v := .tuple #[.agg #[.slice none 0 0, .int .i64 0], .bool false]) (by simp [results, Tryd.results17, go_sem, i0, i1]) rfl (madeCB_no _ _ ?_)
            exact HBn.out
          · have h2b := two_bd h2
            rw [h2] at HT2
            have HBB := hide hb
            have HS := hide (fun W (h : Below wr.heap.size wr W) => And.intro h (And.intro (XP.out.next h).c0 (And.intro (XP.out.next h).c1 (And.intro ((h.cell (p := ad3) (by omega)).trans hm0) ((h.cell (p := ⟨ad3.block, ad3.off + 1, none⟩) (by show ad3.block < _; omega)).trans hm1)))))
            rcases Int.lt_or_gt_of_ne h2b.2.2.2.2 with hlt' | hgt'
            · have hmx : mixable zs.length [mx, my] = true := by rw [mixable_two]; exact decide_eq_true ⟨h2b.1, hlt', h2b.2.2.2.1⟩
              have hgf : decide (my < mx) = false := decide_eq_false (by omega)
              obtain ⟨a, rfl⟩ := Int.eq_ofNat_of_zero_le h2b.1
              obtain ⟨b, rfl⟩ := Int.eq_ofNat_of_zero_le h2b.2.2.1
              have hgn : ¬ (b < a) := by omega
              have hgd : decide (b < a) = false := decide_eq_false hgn
              obtain ⟨q2, q6, hu, hw, _⟩ := cuOk_of hcy
              have hub := isU_bd hu
              obtain ⟨jv, _, hjv⟩ := isU_of hu
              have hwy : within 0 2000000000 ys = true := within_of (fun k hk => by have := within_toNat hw ys[k] (List.getElem_mem hk); omega)
              obtain ⟨mf1, mf2, mf3⟩ := mix_facts (a := a) (b := b) hcy (by omega) (by omega)
              have HNX := hide (show pmix zs x (ms.take (k + 1)) = if isU (mixU ys v a b : Nat) then some (mixZ ys v a b, mixU ys v a b) else none from by
                rw [HNX.out, hyl, hmx]; simp)
              have HMM := hide (fun W (h : Below wr.heap.size wr W) => cuMix_any (some ⟨gk, 0, none⟩) ys.length ck wr.heap.size ys v jv a b W (HO.out.1.ints.below h (Nat.le_refl _)) h.size (by omega) (by omega) (by exact_mod_cast hjv) (by omega) hwy (by omega) (by omega))
              have hfz : 0 < (mixZ ys v a b).length := by omega
              clear hmx hcy hyl hwy hu hw mf1 mf2 mf3 q2 q6 hub h2 h2b hlt' hjv
              generalize mixZ ys v a b = fz at *
              generalize mixU ys v a b = fu at *
              have HFZ := hide hfz
              have HXB := hide XB
              clear hb XB hfz HP
              go_wp2_with fail
              refine wp_region_held_drew (S := (fun W => Below wr.heap.size wr W ∧ W.cell? ⟨w.heap.size, 0, none⟩ = some (.slice A zs.length c) ∧ W.cell? ⟨w.heap.size, 1, none⟩ = some (.int .i64 (x : Int)) ∧ W.cell? ad3 = some (.int .i64 (a : Int)) ∧ W.cell? ⟨ad3.block, ad3.off + 1, none⟩ = some (.int .i64 (b : Int)))) (by kernel_rfl) ?_ (fun hHeld => ?_)
              · exact HS.out _ (Below.refl _ _).drew
              refine wpAnyH_take (i := 0) (v := ?_) rfl (by kernel_rfl) (by kernel_rfl) (by kernel_rfl) (fun _ _ _ h => h) (Or.inl ⟨by rfl, ?_⟩) (by assumption) ?_
              rotate_left
              · (intro w hSw; (try dsimp only at hSw); go_simp; first | done | (with_reducible rfl))
              try go_simp
              refine wpAnyH_take (i := 1) (v := ?_) rfl (by kernel_rfl) (by kernel_rfl) (by kernel_rfl) (fun _ _ _ h => h) (Or.inl ⟨by rfl, ?_⟩) (by assumption) ?_
              rotate_left
              · (intro w hSw; (try dsimp only at hSw); go_simp; first | done | (with_reducible rfl))
              try go_simp
              refine wpAnyH_take (i := 2) (v := ?_) rfl (by kernel_rfl) (by kernel_rfl) (by kernel_rfl) (fun _ _ _ h => h) (Or.inl ⟨by rfl, ?_⟩) (by assumption) ?_
              rotate_left
              · (intro w hSw; (try dsimp only at hSw); go_simp; first | done | (with_reducible rfl))
              try go_simp
              refine wpAnyH_take (i := 3) (v := ?_) rfl (by kernel_rfl) (by kernel_rfl) (by kernel_rfl) (fun _ _ _ h => h) (Or.inl ⟨by rfl, ?_⟩) (by assumption) ?_
              rotate_left
              · (intro w hSw; (try dsimp only at hSw); go_simp; first | done | (with_reducible rfl))
              try go_simp
              refine wpAnyH_take (i := 4) (v := ?_) rfl (by kernel_rfl) (by kernel_rfl) (by kernel_rfl) (fun _ _ _ h => h) (Or.inl ⟨by rfl, ?_⟩) (by assumption) ?_
              rotate_left
              · (intro w hSw; (try dsimp only at hSw); go_simp; first | done | (with_reducible rfl))
              try go_simp
              refine wpAnyH_take (i := 5) (v := ?_) rfl (by kernel_rfl) (by kernel_rfl) (by kernel_rfl) (fun _ _ _ h => h) (Or.inl ⟨by rfl, ?_⟩) (by assumption) ?_
              rotate_left
              · (intro w hSw; (try dsimp only at hSw); go_simp; first | done | (with_reducible rfl))
              try go_simp
              refine wpAnyH_take (i := 6) (v := ?_) rfl (by kernel_rfl) (by kernel_rfl) (by kernel_rfl) (fun _ _ _ h => h) (Or.inl ⟨by rfl, ?_⟩) (by assumption) ?_
              rotate_left
              · (intro w hSw; (try dsimp only at hSw); go_simp; first | done | (with_reducible rfl))
              try go_simp
              refine wpAnyH_take (i := 7) (v := ?_) rfl (by kernel_rfl) (by kernel_rfl) (by kernel_rfl) (fun _ _ _ h => h) (Or.inl ⟨by rfl, ?_⟩) (by assumption) ?_
              rotate_left
              · (intro w hSw; (try dsimp only at hSw); go_simp; first | done | (with_reducible rfl))
              try go_simp
              refine wpAnyH_take (i := 8) (v := ?_) rfl (by kernel_rfl) (by kernel_rfl) (by kernel_rfl) (fun _ _ _ h => h) (Or.inl ⟨by rfl, ?_⟩) (by assumption) ?_
              rotate_left
              · (intro w hSw; (try dsimp only at hSw); go_simp; first | done | (with_reducible rfl))
              try go_simp
              refine wpAnyH_take (i := 9) (v := ?_) rfl (by kernel_rfl) (by kernel_rfl) (by kernel_rfl) (fun _ _ _ h => h) (Or.inl ⟨by rfl, ?_⟩) (by assumption) ?_
              rotate_left
              · (intro w hSw; (try dsimp only at hSw); go_simp; first | done | (with_reducible rfl))
              try go_simp
              refine wpAnyH_take (i := 10) (v := ?_) rfl (by kernel_rfl) (by kernel_rfl) (by kernel_rfl) (fun _ _ _ h => h) (Or.inl ⟨by rfl, ?_⟩) (by assumption) ?_
              rotate_left
              · (intro w hSw; (try dsimp only at hSw); go_simp; first | done | (with_reducible rfl))
              try go_simp
              refine wpAnyH_ready (rs := [11]) (by kernel_rfl) (by simp) ?_
              refine AllReadyH.cons rfl (fun K hK => ?_) AllReadyH.nil
              go_simp
              go_at_call 31; (with_reducible refine (HT2.out _).mono ?_); rintro e w5 ⟨rfl, hb5⟩
              go_wp2_with fail
              refine hK.out _ _ ?_ (fun hHeld => ?_)
              · exact HS.out _ (below_next (And.left (by assumption)) hb5)
              clear hK K
              try go_simp
              refine wpAnyH_take (i := 12) (v := ?_) rfl (by kernel_rfl) (by kernel_rfl) (by kernel_rfl) (fun _ _ _ h => h) (Or.inl ⟨by rfl, ?_⟩) (by assumption) ?_
              rotate_left
              · (intro w hSw; (try dsimp only at hSw); go_simp; first | done | (with_reducible rfl))
              try go_simp
              refine wpAnyH_take (i := 13) (v := ?_) rfl (by kernel_rfl) (by kernel_rfl) (by kernel_rfl) (fun _ _ _ h => h) (Or.inl ⟨by rfl, ?_⟩) (by assumption) ?_
              rotate_left
              · (intro w hSw; (try dsimp only at hSw); go_simp; first | done | (with_reducible rfl))
              try go_simp
              refine wpAnyH_take (i := 14) (v := ?_) rfl (by kernel_rfl) (by kernel_rfl) (by kernel_rfl) (fun _ _ _ h => h) (Or.inl ⟨by rfl, ?_⟩) (by assumption) ?_
              rotate_left
              · (intro w hSw; (try dsimp only at hSw); go_simp; first | done | (with_reducible rfl))
              try go_simp
              refine wpAnyH_take (i := 15) (v := ?_) rfl (by kernel_rfl) (by kernel_rfl) (by kernel_rfl) (fun _ _ _ h => h) (Or.inl ⟨by rfl, ?_⟩) (by assumption) ?_
              rotate_left
              · (intro w hSw; (try dsimp only at hSw); go_simp; first | done | (with_reducible rfl))
              try go_simp
              refine wpAnyH_take (i := 16) (v := ?_) rfl (by kernel_rfl) (by kernel_rfl) (by kernel_rfl) (fun _ _ _ h => h) (Or.inl ⟨by rfl, ?_⟩) (by assumption) ?_
              rotate_left
              · (intro w hSw; (try dsimp only at hSw); go_simp; first | done | (with_reducible rfl))
              try go_simp
              refine wpAnyH_take (i := 17) (v := ?_) rfl (by kernel_rfl) (by kernel_rfl) (by kernel_rfl) (fun _ _ _ h => h) (Or.inl ⟨by rfl, ?_⟩) (by assumption) ?_
              rotate_left
              · (intro w hSw; (try dsimp only at hSw); go_simp; first | done | (with_reducible rfl))
              try go_simp
              refine wpAnyH_take (i := 18) (v := ?_) rfl (by kernel_rfl) (by kernel_rfl) (by kernel_rfl) (fun _ _ _ h => h) (Or.inl ⟨by rfl, ?_⟩) (by assumption) ?_
              rotate_left
              · (intro w hSw; (try dsimp only at hSw); go_simp; first | done | (with_reducible rfl))
              try go_simp
              refine wpAnyH_take (i := 19) (v := ?_) rfl (by kernel_rfl) (by kernel_rfl) (by kernel_rfl) (fun _ _ _ h => h) (Or.inl ⟨by rfl, ?_⟩) (by assumption) ?_
              rotate_left
              · (intro w hSw; (try dsimp only at hSw); go_simp; first | done | (with_reducible rfl))
              try go_simp
              refine wpAnyH_take (i := 20) (v := ?_) rfl (by kernel_rfl) (by kernel_rfl) (by kernel_rfl) (fun _ _ _ h => h) (Or.inl ⟨by rfl, ?_⟩) (by assumption) ?_
              rotate_left
              · (intro w hSw; (try dsimp only at hSw); go_simp; first | done | (with_reducible rfl))
              try go_simp
              refine wpAnyH_take (i := 21) (v := ?_) rfl (by kernel_rfl) (by kernel_rfl) (by kernel_rfl) (fun _ _ _ h => h) (Or.inl ⟨by rfl, ?_⟩) (by assumption) ?_
              rotate_left
              · (intro w hSw; (try dsimp only at hSw); go_simp; first | done | (with_reducible rfl))
              try go_simp
              refine wpAnyH_take (i := 22) (v := ?_) rfl (by kernel_rfl) (by kernel_rfl) (by kernel_rfl) (fun _ _ _ h => h) (Or.inl ⟨by rfl, ?_⟩) (by assumption) ?_
              rotate_left
              · (intro w hSw; (try dsimp only at hSw); go_simp; first | done | (with_reducible rfl))
              try go_simp
              refine wpAnyH_done (by kernel_rfl) ?_ _
              have hB5 : Below wr.heap.size wr w5 := And.left (by assumption : Below wr.heap.size wr w5 ∧ _)
              have HB5 := hide hB5
              clear hB5 hb5
              have XB5 := hide (HXB.out.next HB5.out)
              have XP5 := hide (XP.out.next HB5.out)
              have XR5 := hide (XR.out.next HB5.out)
              have B5 := hide (HBB.out.trans (HB5.out.mono hsz))
              have m0 : w5.cell? ad3 = some (.int .i64 (a : Int)) := (HB5.out.cell (p := ad3) (by omega)).trans hm0
              have m1 : w5.cell? ⟨ad3.block, ad3.off + 1, none⟩ = some (.int .i64 (b : Int)) := (HB5.out.cell (p := ⟨ad3.block, ad3.off + 1, none⟩) (by show ad3.block < _; omega)).trans hm1
              have HM5 := hide (fun W (h : Below w5.heap.size w5 W) => HMM.out W (HB5.out.trans (h.mono HB5.out.size)))
              have hs5 : w.heap.size ≤ w5.heap.size := B5.out.size
              have HN5 := hide (show w.heap.size + 2 ≤ w5.heap.size ∧ bx < w5.heap.size from by have := XB5.out.lt; have := HN.out; omega)
              have had5 : ad3.block < w5.heap.size := by omega
              have HS5 := hide (fun W (h : Below w5.heap.size w5 W) => And.intro h (And.intro (XB5.out.next h).c0 (And.intro (XB5.out.next h).c1 (And.intro ((h.cell (p := ad3) had5).trans m0) ((h.cell (p := ⟨ad3.block, ad3.off + 1, none⟩) had5).trans m1)))))
              clear HMM HB5 HS HBB hm0 hm1 XP XR HXB p0 p1 hcell
              go_wp2_with fail
              go_region_held3 (fun W => Below w5.heap.size w5 W ∧ W.cell? ⟨bx, 0, none⟩ = some (.slice (some ⟨gk, 0, none⟩) ys.length ck) ∧ W.cell? ⟨bx, 1, none⟩ = some (.int .i64 (v : Int)) ∧ W.cell? ad3 = some (.int .i64 (a : Int)) ∧ W.cell? ⟨ad3.block, ad3.off + 1, none⟩ = some (.int .i64 (b : Int)))
                (first | exact HS5.out _ (Below.refl _ _).drew | exact HS5.out _ (below_next (And.left (by assumption)) hb6) | exact HS5.out _ (Below.alloc (And.left (by assumption)) (Below.size (And.left (by assumption))) _) | exact HS5.out _ (Below.setCell (Below.setCell HW6.out (Nat.le_refl _) _) (Nat.le_refl _) _) | exact HS5.out _ (Below.alloc HW6.out (Below.size HW6.out) _) | go_keep)
                (first
                | (go_at_call 32; (with_reducible refine (HM5.out _ (And.left (by assumption))).mono ?_); rintro e w6 ⟨Ar, cr, rfl, hr1, hr2, hro, hb6⟩; obtain ⟨gr, rfl, hgr, hgr2⟩ := hro.head HFZ.out; have HW6 : Hid (Below w5.heap.size w5 w6) := hide (by first | exact below_next (w1 := w5.drew) (Below.refl _ _).drew hb6 | exact below_next (w1 := (w5.alloc _).drew) ((Below.refl _ _).alloc (Nat.le_refl _) _).drew hb6); first
                  | (have qz : Bx w6 w5.heap.size 28 (.slice none 0 0) (.int .i64 0) := (Bx.new w5.drew 28 (.slice none 0 0) (.int .i64 0)).next hb6; have HQ := hide qz; have HN2 := hide (show w5.heap.size < gr from by have : (w5.alloc (.cells #[.slice none 0 0, .int .i64 0] 28)).heap.size ≤ gr := hgr; simp at this; omega); have qr := qz.set0 (.slice (some ⟨gr, 0, none⟩) fz.length cr); have q1 := qz.c0; have q2 := qz.f 0; have q5 := qz.c1; have q6 := qz.f 1; have q3 := qr.c1; have q4 := qr.f 1; clear qz qr)
                  | skip))
              all_goals
                have hgr' : w5.heap.size ≤ gr := by first | exact hgr | (have := HN2.out; omega)
                first
                | (have NB := hide ((HQ.out.set0 (.slice (some ⟨gr, 0, none⟩) fz.length cr)).set1 (.int .i64 (fu : Int)))
                   have XB7 := hide (((XB5.out.next HW6.out).setOther (a := ⟨w5.heap.size, 0, none⟩) (by have := HN5.out; simp; omega) (.slice (some ⟨gr, 0, none⟩) fz.length cr)).setOther (a := ⟨w5.heap.size, 1, none⟩) (by have := HN5.out; simp; omega) (.int .i64 (fu : Int)))
                   have P7 := hide (((XP5.out.next HW6.out).setOther (a := ⟨w5.heap.size, 0, none⟩) (by have := HN5.out; simp; omega) (.slice (some ⟨gr, 0, none⟩) fz.length cr)).setOther (a := ⟨w5.heap.size, 1, none⟩) (by have := HN5.out; simp; omega) (.int .i64 (fu : Int)))
                   have R7 := hide (((XR5.out.next HW6.out).setOther (a := ⟨w5.heap.size, 0, none⟩) (by have := HN5.out; simp; omega) (.slice (some ⟨gr, 0, none⟩) fz.length cr)).setOther (a := ⟨w5.heap.size, 1, none⟩) (by have := HN5.out; simp; omega) (.int .i64 (fu : Int)))
                   have O7 := hide (Own.two (hro.less (base' := w.heap.size) (by simp; omega)) (b := w5.heap.size) (by have := HN2.out; omega) (.slice (some ⟨gr, 0, none⟩) fz.length cr) (.int .i64 (fu : Int)))
                   have B7 := hide (((B5.out.trans (HW6.out.mono hs5)).setCell (p := ⟨w5.heap.size, 0, none⟩) (by simp; omega) (.slice (some ⟨gr, 0, none⟩) fz.length cr)).setCell (p := ⟨w5.heap.size, 1, none⟩) (by simp; omega) (.int .i64 (fu : Int)))
                   have N7 := hide (show gr ≠ bx ∧ w.heap.size + 2 ≤ gr ∧ w5.heap.size ≠ bx from by have := HN5.out; omega)
                   clear HQ HN2 q1 q2 q3 q4 q5 q6
                   generalize ((w6.setCell ⟨w5.heap.size, 0, none⟩ (.slice (some ⟨gr, 0, none⟩) fz.length cr)).setCell ⟨w5.heap.size, 1, none⟩ (.int .i64 (fu : Int))) = W7 at *
                   clear hro hb6 HW6 hgr hgr2 hgr' XB5 XP5 XR5 B5 HM5 HS5 m0 m1
                   generalize w5.heap.size = bn at *)
                | (have NB := hide (Bx.new w6 28 (.slice (some ⟨gr, 0, none⟩) fz.length cr) (.int .i64 (fu : Int)))
                   have XB7 := hide ((XB5.out.next HW6.out).alloc (.cells #[(.slice (some ⟨gr, 0, none⟩) fz.length cr), (.int .i64 (fu : Int))] 28))
                   have P7 := hide ((XP5.out.next HW6.out).alloc (.cells #[(.slice (some ⟨gr, 0, none⟩) fz.length cr), (.int .i64 (fu : Int))] 28))
                   have R7 := hide ((XR5.out.next HW6.out).alloc (.cells #[(.slice (some ⟨gr, 0, none⟩) fz.length cr), (.int .i64 (fu : Int))] 28))
                   have O7 := hide ((hro.less (base' := w.heap.size) (show w.heap.size ≤ w5.heap.size from hs5)).alloc (.cells #[(.slice (some ⟨gr, 0, none⟩) fz.length cr), (.int .i64 (fu : Int))] 28))
                   have B7 := hide ((B5.out.trans (HW6.out.mono hs5)).alloc (Nat.le_trans hs5 HW6.out.size) (.cells #[(.slice (some ⟨gr, 0, none⟩) fz.length cr), (.int .i64 (fu : Int))] 28))
                   have N7 := hide (show gr ≠ bx ∧ w.heap.size + 2 ≤ gr ∧ w6.heap.size ≠ bx from by have := HN5.out; have := HW6.out.size; omega)
                   generalize (w6.alloc (.cells #[(.slice (some ⟨gr, 0, none⟩) fz.length cr), (.int .i64 (fu : Int))] 28)) = W7 at *
                   clear hro hb6 HW6 hgr hgr2 hgr' XB5 XP5 XR5 B5 HM5 HS5 m0 m1
                   generalize w6.heap.size = bn at *)
                cases hiu : isU (fu : Int)
                · have H := hide (pm_stuck (u := (x : Int)) (zs := zs) (ms := ms) (by rw [Int.toNat_natCast]; exact pmix_stuck (by rw [HNX.out, hiu]; rfl)))
                  clear hiu HNX
                  have bR := R7.out
                  have e0 := bR.c0
                  have e1 := bR.c1
                  have f0 := bR.f 0
                  have f1 := bR.f 1
                  have R1 := bR.set0 (.slice none 0 0)
                  have R2 := R1.set1 (.int .i64 0)
                  have e2 := R1.c1
                  have f2 := R1.f 1
                  have i0 := R2.c0
                  have i1 := R2.c1
                  have HBn := hide ((B7.out.setCell (p := ⟨w.heap.size + 1, 0, none⟩) (by simp) (.slice none 0 0)).setCell (p := ⟨w.heap.size + 1, 1, none⟩) (by simp) (.int .i64 0))
                  clear R1 R2 bR
                  go_wp2_with fail
                  rw [(pm_no H.out).1, (pm_no H.out).2, H.out]
                  refine bodyPost_ret (v := .tuple #[.agg #[.slice none 0 0, .int .i64 0], .bool false]) (by simp [results, Tryd.results17, go_sem, i0, i1]) rfl (madeCB_no _ _ ?_)
                  exact HBn.out
                · have HP' := hide (show pmix zs x (ms.take (k + 1)) = some (fz, fu) from by rw [HNX.out, hiu]; rfl)
                  clear hiu HNX
                  have n0 := NB.out.c0
                  have n1 := NB.out.c1
                  have b0 := XB7.out.c0
                  have b1 := XB7.out.c1
                  have b2 := XB7.out.f 0
                  have b3 := XB7.out.f 1
                  have Y1 := XB7.out.set0 (.slice (some ⟨gr, 0, none⟩) fz.length cr)
                  have b4 := Y1.c1
                  have b5 := Y1.f 1
                  have Q := hide (Y1.set1 (.int .i64 (fu : Int)))
                  have P8 := hide ((P7.out.setOther (a := ⟨bx, 0, none⟩) (by have := HN.out; simp; omega) (.slice (some ⟨gr, 0, none⟩) fz.length cr)).setOther (a := ⟨bx, 1, none⟩) (by have := HN.out; simp; omega) (.int .i64 (fu : Int)))
                  have R8 := hide ((R7.out.setOther (a := ⟨bx, 0, none⟩) (by have := HN.out; simp; omega) (.slice (some ⟨gr, 0, none⟩) fz.length cr)).setOther (a := ⟨bx, 1, none⟩) (by have := HN.out; simp; omega) (.int .i64 (fu : Int)))
                  have O8 := hide (Own.two O7.out (b := bx) N7.out.1 (.slice (some ⟨gr, 0, none⟩) fz.length cr) (.int .i64 (fu : Int)))
                  have B8 := hide ((B7.out.setCell (p := ⟨bx, 0, none⟩) (by have := HN.out; simp; omega) (.slice (some ⟨gr, 0, none⟩) fz.length cr)).setCell (p := ⟨bx, 1, none⟩) (by have := HN.out; simp; omega) (.int .i64 (fu : Int)))
                  clear Y1
                  go_wp2_with fail
                  all_goals first | exact ⟨k + 1, by omega, by go_num, fz, fu, gr, cr, HP', Q.out, hide ⟨O8.out, N7.out.1, N7.out.2.1, hr1, hr2⟩, P8, R8, B8.out⟩ | (simp [intOf]; omega) | (refine ⟨⟨k + 1, by omega, by go_num, fz, fu, gr, cr, HP', Q.out, hide ⟨O8.out, N7.out.1, N7.out.2.1, hr1, hr2⟩, P8, R8, B8.out⟩, ?_⟩; (simp [intOf]; omega))
            · have hmx : mixable zs.length [mx, my] = false := by rw [mixable_two]; exact decide_eq_false (by omega)
              have hgf : decide (my < mx) = true := decide_eq_true (by omega)
              have H := hide (pm_stuck (u := (x : Int)) (zs := zs) (ms := ms) (by rw [Int.toNat_natCast]; exact pmix_stuck (by rw [HNX.out, hyl, hmx]; rfl)))
              clear hmx HNX hcy hyl hb XB h2 h2b HO HP hgt'
              go_wp2_with fail
              refine wp_region_held_drew (S := (fun W => Below wr.heap.size wr W ∧ W.cell? ⟨w.heap.size, 0, none⟩ = some (.slice A zs.length c) ∧ W.cell? ⟨w.heap.size, 1, none⟩ = some (.int .i64 (x : Int)) ∧ W.cell? ad3 = some (.int .i64 mx) ∧ W.cell? ⟨ad3.block, ad3.off + 1, none⟩ = some (.int .i64 my))) (by kernel_rfl) ?_ (fun hHeld => ?_)
              · exact HS.out _ (Below.refl _ _).drew
              refine wpAnyH_take (i := 0) (v := ?_) rfl (by kernel_rfl) (by kernel_rfl) (by kernel_rfl) (fun _ _ _ h => h) (Or.inl ⟨by rfl, ?_⟩) (by assumption) ?_
              rotate_left
              · (intro w hSw; (try dsimp only at hSw); go_simp; first | done | (with_reducible rfl))
              try go_simp
              refine wpAnyH_take (i := 1) (v := ?_) rfl (by kernel_rfl) (by kernel_rfl) (by kernel_rfl) (fun _ _ _ h => h) (Or.inl ⟨by rfl, ?_⟩) (by assumption) ?_
              rotate_left
              · (intro w hSw; (try dsimp only at hSw); go_simp; first | done | (with_reducible rfl))
              try go_simp
              refine wpAnyH_take (i := 2) (v := ?_) rfl (by kernel_rfl) (by kernel_rfl) (by kernel_rfl) (fun _ _ _ h => h) (Or.inl ⟨by rfl, ?_⟩) (by assumption) ?_
              rotate_left
              · (intro w hSw; (try dsimp only at hSw); go_simp; first | done | (with_reducible rfl))
              try go_simp
              refine wpAnyH_take (i := 3) (v := ?_) rfl (by kernel_rfl) (by kernel_rfl) (by kernel_rfl) (fun _ _ _ h => h) (Or.inl ⟨by rfl, ?_⟩) (by assumption) ?_
              rotate_left
              · (intro w hSw; (try dsimp only at hSw); go_simp; first | done | (with_reducible rfl))
              try go_simp
              refine wpAnyH_take (i := 4) (v := ?_) rfl (by kernel_rfl) (by kernel_rfl) (by kernel_rfl) (fun _ _ _ h => h) (Or.inl ⟨by rfl, ?_⟩) (by assumption) ?_
              rotate_left
              · (intro w hSw; (try dsimp only at hSw); go_simp; first | done | (with_reducible rfl))
              try go_simp
              refine wpAnyH_take (i := 5) (v := ?_) rfl (by kernel_rfl) (by kernel_rfl) (by kernel_rfl) (fun _ _ _ h => h) (Or.inl ⟨by rfl, ?_⟩) (by assumption) ?_
              rotate_left
              · (intro w hSw; (try dsimp only at hSw); go_simp; first | done | (with_reducible rfl))
              try go_simp
              refine wpAnyH_take (i := 6) (v := ?_) rfl (by kernel_rfl) (by kernel_rfl) (by kernel_rfl) (fun _ _ _ h => h) (Or.inl ⟨by rfl, ?_⟩) (by assumption) ?_
              rotate_left
              · (intro w hSw; (try dsimp only at hSw); go_simp; first | done | (with_reducible rfl))
              try go_simp
              refine wpAnyH_take (i := 7) (v := ?_) rfl (by kernel_rfl) (by kernel_rfl) (by kernel_rfl) (fun _ _ _ h => h) (Or.inl ⟨by rfl, ?_⟩) (by assumption) ?_
              rotate_left
              · (intro w hSw; (try dsimp only at hSw); go_simp; first | done | (with_reducible rfl))
              try go_simp
              refine wpAnyH_take (i := 8) (v := ?_) rfl (by kernel_rfl) (by kernel_rfl) (by kernel_rfl) (fun _ _ _ h => h) (Or.inl ⟨by rfl, ?_⟩) (by assumption) ?_
              rotate_left
              · (intro w hSw; (try dsimp only at hSw); go_simp; first | done | (with_reducible rfl))
              try go_simp
              refine wpAnyH_take (i := 9) (v := ?_) rfl (by kernel_rfl) (by kernel_rfl) (by kernel_rfl) (fun _ _ _ h => h) (Or.inl ⟨by rfl, ?_⟩) (by assumption) ?_
              rotate_left
              · (intro w hSw; (try dsimp only at hSw); go_simp; first | done | (with_reducible rfl))
              try go_simp
              refine wpAnyH_take (i := 10) (v := ?_) rfl (by kernel_rfl) (by kernel_rfl) (by kernel_rfl) (fun _ _ _ h => h) (Or.inl ⟨by rfl, ?_⟩) (by assumption) ?_
              rotate_left
              · (intro w hSw; (try dsimp only at hSw); go_simp; first | done | (with_reducible rfl))
              try go_simp
              refine wpAnyH_ready (rs := [11]) (by kernel_rfl) (by simp) ?_
              refine AllReadyH.cons rfl (fun K hK => ?_) AllReadyH.nil
              go_simp
              go_at_call 31; (with_reducible refine (HT2.out _).mono ?_); rintro e w5 ⟨rfl, hb5⟩
              go_wp2_with fail
              refine hK.out _ _ ?_ (fun hHeld => ?_)
              · exact HS.out _ (below_next (And.left (by assumption)) hb5)
              clear hK K
              try go_simp
              refine wpAnyH_take (i := 12) (v := ?_) rfl (by kernel_rfl) (by kernel_rfl) (by kernel_rfl) (fun _ _ _ h => h) (Or.inl ⟨by rfl, ?_⟩) (by assumption) ?_
              rotate_left
              · (intro w hSw; (try dsimp only at hSw); go_simp; first | done | (with_reducible rfl))
              try go_simp
              refine wpAnyH_take (i := 13) (v := ?_) rfl (by kernel_rfl) (by kernel_rfl) (by kernel_rfl) (fun _ _ _ h => h) (Or.inl ⟨by rfl, ?_⟩) (by assumption) ?_
              rotate_left
              · (intro w hSw; (try dsimp only at hSw); go_simp; first | done | (with_reducible rfl))
              try go_simp
              refine wpAnyH_take (i := 14) (v := ?_) rfl (by kernel_rfl) (by kernel_rfl) (by kernel_rfl) (fun _ _ _ h => h) (Or.inl ⟨by rfl, ?_⟩) (by assumption) ?_
              rotate_left
              · (intro w hSw; (try dsimp only at hSw); go_simp; first | done | (with_reducible rfl))
              try go_simp
              refine wpAnyH_take (i := 15) (v := ?_) rfl (by kernel_rfl) (by kernel_rfl) (by kernel_rfl) (fun _ _ _ h => h) (Or.inl ⟨by rfl, ?_⟩) (by assumption) ?_
              rotate_left
              · (intro w hSw; (try dsimp only at hSw); go_simp; first | done | (with_reducible rfl))
              try go_simp
              refine wpAnyH_take (i := 16) (v := ?_) rfl (by kernel_rfl) (by kernel_rfl) (by kernel_rfl) (fun _ _ _ h => h) (Or.inl ⟨by rfl, ?_⟩) (by assumption) ?_
              rotate_left
              · (intro w hSw; (try dsimp only at hSw); go_simp; first | done | (with_reducible rfl))
              try go_simp
              refine wpAnyH_take (i := 17) (v := ?_) rfl (by kernel_rfl) (by kernel_rfl) (by kernel_rfl) (fun _ _ _ h => h) (Or.inl ⟨by rfl, ?_⟩) (by assumption) ?_
              rotate_left
              · (intro w hSw; (try dsimp only at hSw); go_simp; first | done | (with_reducible rfl))
              try go_simp
              refine wpAnyH_take (i := 18) (v := ?_) rfl (by kernel_rfl) (by kernel_rfl) (by kernel_rfl) (fun _ _ _ h => h) (Or.inl ⟨by rfl, ?_⟩) (by assumption) ?_
              rotate_left
              · (intro w hSw; (try dsimp only at hSw); go_simp; first | done | (with_reducible rfl))
              try go_simp
              refine wpAnyH_take (i := 19) (v := ?_) rfl (by kernel_rfl) (by kernel_rfl) (by kernel_rfl) (fun _ _ _ h => h) (Or.inl ⟨by rfl, ?_⟩) (by assumption) ?_
              rotate_left
              · (intro w hSw; (try dsimp only at hSw); go_simp; first | done | (with_reducible rfl))
              try go_simp
              refine wpAnyH_take (i := 20) (v := ?_) rfl (by kernel_rfl) (by kernel_rfl) (by kernel_rfl) (fun _ _ _ h => h) (Or.inl ⟨by rfl, ?_⟩) (by assumption) ?_
              rotate_left
              · (intro w hSw; (try dsimp only at hSw); go_simp; first | done | (with_reducible rfl))
              try go_simp
              refine wpAnyH_take (i := 21) (v := ?_) rfl (by kernel_rfl) (by kernel_rfl) (by kernel_rfl) (fun _ _ _ h => h) (Or.inl ⟨by rfl, ?_⟩) (by assumption) ?_
              rotate_left
              · (intro w hSw; (try dsimp only at hSw); go_simp; first | done | (with_reducible rfl))
              try go_simp
              refine wpAnyH_take (i := 22) (v := ?_) rfl (by kernel_rfl) (by kernel_rfl) (by kernel_rfl) (fun _ _ _ h => h) (Or.inl ⟨by rfl, ?_⟩) (by assumption) ?_
              rotate_left
              · (intro w hSw; (try dsimp only at hSw); go_simp; first | done | (with_reducible rfl))
              try go_simp
              refine wpAnyH_done (by kernel_rfl) ?_ _
              have hB5 : Below wr.heap.size wr w5 := And.left (by assumption : Below wr.heap.size wr w5 ∧ _)
              have HB5 := hide hB5
              clear hB5 hb5
              have bR := XR.out.next HB5.out
              have e0 := bR.c0
              have e1 := bR.c1
              have f0 := bR.f 0
              have f1 := bR.f 1
              have R1 := bR.set0 (.slice none 0 0)
              have R2 := R1.set1 (.int .i64 0)
              have e2 := R1.c1
              have f2 := R1.f 1
              have i0 := R2.c0
              have i1 := R2.c1
              have HBn := hide (((HBB.out.trans (HB5.out.mono hsz)).setCell (p := ⟨w.heap.size + 1, 0, none⟩) (by simp) (.slice none 0 0)).setCell (p := ⟨w.heap.size + 1, 1, none⟩) (by simp) (.int .i64 0))
              clear R1 R2 bR
              go_wp2_with fail
              rw [(pm_no H.out).1, (pm_no H.out).2, H.out]
              refine bodyPost_ret (v := .tuple #[.agg #[.slice none 0 0, .int .i64 0], .bool false]) (by simp [results, Tryd.results17, go_sem, i0, i1]) rfl (madeCB_no _ _ ?_)
              exact HBn.out
      · have hmx : mixable zs.length m = false := decide_eq_false (fun h => hm2 h.1)
        have hne : ((m.length : Int) != 2) = true := by simp; omega
        have H := hide (pm_stuck (u := (x : Int)) (zs := zs) (ms := ms) (by rw [Int.toNat_natCast]; exact pmix_stuck (by rw [HNX.out, hyl, hmx]; rfl)))
        have HBB := hide hb
        clear hmx HNX hcy hyl hb XB hm2 HO HP
        go_wp2_with fail
        go_region
        have bR : Bx wr.drew (w.heap.size + 1) 28 (.slice none 0 0) (.int .i64 0) := XR.out
        have HBB := hide (show Below w.heap.size w wr.drew from HBB.out.drew)
        generalize wr.drew = W9 at *
        have e0 := bR.c0
        have e1 := bR.c1
        have f0 := bR.f 0
        have f1 := bR.f 1
        have R1 := bR.set0 (.slice none 0 0)
        have R2 := R1.set1 (.int .i64 0)
        have e2 := R1.c1
        have f2 := R1.f 1
        have i0 := R2.c0
        have i1 := R2.c1
        have HBn := hide ((HBB.out.setCell (p := ⟨w.heap.size + 1, 0, none⟩) (by simp) (.slice none 0 0)).setCell (p := ⟨w.heap.size + 1, 1, none⟩) (by simp) (.int .i64 0))
        clear R1 R2 bR
        go_wp2_with fail
        rw [(pm_no H.out).1, (pm_no H.out).2, H.out]
        refine bodyPost_ret (v := .tuple #[.agg #[.slice none 0 0, .int .i64 0], .bool false]) (by simp [results, Tryd.results17, go_sem, i0, i1]) rfl (madeCB_no _ _ ?_)
        exact HBn.out
    · obtain rfl : k = ms.length := by omega
      have hp := HP.out
      rw [List.take_length] at hp
      have H := hide (pm_yes HAsk.out hp)
      have hbR := XR.out
      have y0 := XB.c0
      have y1 := XB.c1
      have e0 := hbR.c0
      have e1 := hbR.c1
      have f0 := hbR.f 0
      have f1 := hbR.f 1
      have R1 := hbR.set0 (.slice (some ⟨gk, 0, none⟩) ys.length ck)
      have R2 := R1.set1 (.int .i64 (v : Int))
      have e2 := R1.c1
      have f2 := R1.f 1
      have i0 := R2.c0
      have i1 := R2.c1
      have HOw := hide (Own.two HO.out.1 (b := w.heap.size + 1) (by have := HO.out.2.2.1; omega) (.slice (some ⟨gk, 0, none⟩) ys.length ck) (.int .i64 (v : Int)))
      have HBn := hide ((hb.setCell (p := ⟨w.heap.size + 1, 0, none⟩) (by simp) (.slice (some ⟨gk, 0, none⟩) ys.length ck)).setCell (p := ⟨w.heap.size + 1, 1, none⟩) (by simp) (.int .i64 (v : Int)))
      have hcc := hide (And.intro HO.out.2.2.2.1 HO.out.2.2.2.2)
      clear R1 R2 hbR hb hp HP XB hcy hyl
      have hkn : ((ms.length : Int) < (ms.length : Int)) = False := by simp
      go_wp2_with fail
      rw [H.out.1, H.out.2.1, H.out.2.2]
      exact bodyPost_ret (v := .tuple #[.agg #[(.slice (some ⟨gk, 0, none⟩) ys.length ck), .int .i64 (v : Int)], .bool true]) (by simp [results, Tryd.results17, go_sem, i0, i1]) rfl ⟨some ⟨gk, 0, none⟩, ck, rfl, hcc.out.1, hcc.out.2, HOw.out, HBn.out⟩
end Go.Proofs.YtjfkadmmmhefbaaDoor
