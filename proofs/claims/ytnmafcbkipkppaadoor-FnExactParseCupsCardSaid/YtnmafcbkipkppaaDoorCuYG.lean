
/-
  THE MODEL's ParseCups. (Printed by mkcy.py.)
-/
import Derived.Test.YtnmafcbkipkppaaDoorCuYP
import Derived.Test.YtnmafcbkipkppaaDoorCuO
import Derived.Test.YtnmafcbkipkppaaDoorCuS
import Derived.Test.YtnmafcbkipkppaaDoorBox
import Derived.Test.YtnmafcbkipkppaaDoorApp
import Derived.Deep.RegionLaw
import Derived.Deep.RegionHeld3
namespace Go.Proofs.YtnmafcbkipkppaaDoor
open Go.RowKit Go.Deep
set_option linter.unusedVariables false

theorem ints_one (w : World) (x : Int) (t : TypeId) : Ints ((w.alloc (.cells #[.int .i64 x] t)).drew) (w.heap.size + 1) (some ⟨w.heap.size, 0, none⟩) 1 [x] :=
  ⟨rfl, fun _ => ⟨_, rfl, Nat.lt_succ_self _, fun k hk => by
    obtain rfl : k = 0 := by omega
    show (w.alloc (.cells #[.int .i64 x] t)).cell? _ = _
    simp [Addr.add]⟩⟩

set_option maxRecDepth 1000000 in
set_option maxHeartbeats 4000000 in
theorem cuParse_any (l : List UInt8) (hl : l.length ≤ 1048576) (w : World) :
    Calls Tryd.prog 9 #[.string (bs l)] w (MadeCB (ycL l) (ycU l) (ycOk l) w) := by
  have hlen := str_len l
  have b0 : Below w.heap.size w (w.alloc (.cells #[.slice none 0 0, .int .i64 0] 24)) := (Below.refl _ _).alloc (Nat.le_refl _) _
  have X0 := hide (Bx.new w 24 (.slice none 0 0) (.int .i64 0))
  have HS1 := hide (fun W => l1Split_any47 l W (by omega))
  have HB0 := hide b0
  have HLS0 := hide (show (w.alloc (.cells #[.slice none 0 0, .int .i64 0] 24)).heap.size = w.heap.size + 1 from by simp)
  clear b0
  by_cases hbad : 80 < l.length ∨ (sp47 l).length ≠ 2
  · have HP : ycP l = none := by rcases hbad with h | h; exact yc_long h; exact yc_not2 h
    obtain ⟨e1, e2, e3⟩ := yc_none HP
    rw [e1, e2, e3]
    clear e1 e2 e3 HP
    have HBAD : Hid (80 < (l.length : Int) ∨ (¬ 80 < (l.length : Int)) ∧ ¬ ((sp47 l).length : Int) = 2) := hide (by omega)
    clear hbad
    generalize hs : bs l = s at *
    clear hs
    generalize (sp47 l).length = n at *
    go_enter Tryd.func9, Tryd.ntmps9
    go_wp2_with fail
    refine (HS1.out _).mono ?_; rintro e w1 ⟨A, c, rfl, _, _, hown, hb1⟩
    have X1 := hide (X0.out.next hb1)
    have q1 := hide (below_next HB0.out hb1)
    have x0 := X1.out.c0
    have x1 := X1.out.c1
    have k0 := X1.out.f 0
    have k1 := X1.out.f 1
    have V := (X1.out.set0 (.slice none 0 0)).set1 (.int .i64 0)
    have V0 := V.c0
    have V1 := V.c1
    clear V hown hb1
    rcases HBAD.out with h1 | ⟨h1, h2⟩
    · go_wp2_with fail
      exact bodyPost_ret (v := .tuple #[.agg #[.slice none 0 0, .int .i64 0], .bool false]) (by simp [results, Tryd.results9, go_sem, V0, V1]) rfl (madeCB_no _ _ ((q1.out.setCell (Nat.le_refl _) _).setCell (Nat.le_refl _) _))
    · have h2b : ((n : Int) != 2) = true := by simpa using h2
      go_wp2_with fail
      exact bodyPost_ret (v := .tuple #[.agg #[.slice none 0 0, .int .i64 0], .bool false]) (by simp [results, Tryd.results9, go_sem, V0, V1]) rfl (madeCB_no _ _ ((q1.out.setCell (Nat.le_refl _) _).setCell (Nat.le_refl _) _))
  · have h80 : ¬ 80 < (l.length : Int) := by omega
    obtain ⟨a, b, hsp⟩ : ∃ a b, sp47 l = [a, b] := by
      have h2 : (sp47 l).length = 2 := by omega
      match hq : sp47 l, h2 with
      | [a, b], _ => exact ⟨a, b, rfl⟩
    have hla : a.length ≤ l.length := sp_piece_len47 l a (by rw [hsp]; exact List.mem_cons_self)
    have hlb : b.length ≤ l.length := sp_piece_len47 l b (by rw [hsp]; exact List.mem_cons_of_mem _ List.mem_cons_self)
    have HE := hide (yc_two hsp)
    have HNO := hide (fun h => yc_none (l := l) h)
    have HYE := hide (fun zs u h => yc_some (l := l) (u := u) (zs := zs) h)
    rw [hsp] at HS1
    have HRB := hide (fun W => cuRead_any b W (by omega))
    have HSA := hide (fun W => l1Split_any45 a W (by omega))
    have hpl := sp_length45 a
    have hcl : a.count 45 ≤ a.length := List.count_le_length
    have hwn : (sp45 a).length ≤ 81 := by omega
    have Hpc := hide (fun (x : List UInt8) (hx : x ∈ sp45 a) => show x.length ≤ 1099511627776 from by have := sp_piece_len45 a x hx; omega)
    have HCO := hide (show partsOf a = (sp45 a).map rdc from rfl)
    rw [HCO.out] at HE
    clear hsp hbad hla hlb hpl hcl HCO
    generalize ycP l = pp at *
    generalize ycL l = yl at *
    generalize ycU l = yu at *
    generalize ycOk l = yo at *
    generalize rdc b = ru at *
    generalize sp45 a = ws at *
    generalize bs l = s at *
    generalize hza : bs a = za at *
    have HZA := hide hza
    generalize hzb : bs b = zb at *
    have HZB := hide hzb
    clear hza hzb
    go_enter Tryd.func9, Tryd.ntmps9
    go_wp2_with fail
    refine (HS1.out _).mono ?_; rintro e w1 ⟨A1, c1, rfl, _, _, hown1, hb1⟩
    have hl2 : ([a, b] : List (List UInt8)).length = 2 := rfl
    rw [hl2] at hown1 ⊢
    obtain ⟨g1, e1, hg1⟩ : ∃ g1, A1 = some ⟨g1, 0, none⟩ ∧ g1 < w1.heap.size := by
      rcases hown1.form with ⟨_, h⟩ | ⟨g, c, h, _, h', _⟩
      · cases h
      · injection h with h; exact ⟨g, h, h'⟩
    subst e1
    have hc0 : w1.cell? ⟨g1, 0, none⟩ = some (.string za) := (World.ownsRow.cellAt hown1 0 (by simp)).trans (by rw [← HZA.out]; rfl)
    have hc1 : w1.cell? ⟨g1, 1, none⟩ = some (.string zb) := (World.ownsRow.cellAt hown1 1 (by simp)).trans (by rw [← HZB.out]; rfl)
    have S1 := hide (show w.heap.size + 1 ≤ w1.heap.size from by rw [← HLS0.out]; exact hb1.size)
    have X1 := hide (X0.out.next hb1)
    have q1 := hide (below_next HB0.out hb1)
    clear hb1 hown1 hl2
    have X2 := hide (X1.out.alloc (.cells #[.slice none 0 0, .int .i64 0] 24))
    have P2 := hide (Bx.new w1 24 (.slice none 0 0) (.int .i64 0))
    have q2 := hide (q1.out.alloc q1.out.size (.cells #[.slice none 0 0, .int .i64 0] 24))
    have hb2 : Below w1.heap.size w1 (w1.alloc (.cells #[.slice none 0 0, .int .i64 0] 24)) := (Below.refl _ _).alloc (Nat.le_refl _) _
    have hd0 := (hb2.cell (p := ⟨g1, 0, none⟩) hg1).trans hc0
    have HD2 := hide ((hb2.cell (p := ⟨g1, 1, none⟩) hg1).trans hc1)
    have S2 := hide (show (w1.alloc (.cells #[.slice none 0 0, .int .i64 0] 24)).heap.size = w1.heap.size + 1 from by simp)
    clear hb2 hc1
    go_wp2_with fail
    generalize hW2 : (w1.alloc (.cells #[.slice none 0 0, .int .i64 0] 24)) = W2 at *
    have hpb : w.heap.size < w1.heap.size := by have := S1.out; omega
    generalize w1.heap.size = pb at *
    refine (HSA.out _).mono ?_; rintro e w3 ⟨A3, c3, rfl, _, _, hown3, hb3⟩
    have HSt := hide hown3.strs
    have HA3 : Hid (∀ ad, A3 = some ad → pb < ad.block) := hide fun ad e => by
      rcases hown3.form with ⟨e1, _⟩ | ⟨g, c, e1, hb, _⟩
      · injection e1 with e1; rw [e1] at e; cases e
      · injection e1 with e1; rw [e1] at e; injection e with e; rw [← e]; have := S2.out; show pb < g; omega
    have S3 := hide hb3.size
    have hw3 : w.heap.size < w3.heap.size := by have := S2.out; have := S3.out; omega
    have hp3 : pb < w3.heap.size := by have := S2.out; have := S3.out; omega
    have HX3 := hide (P2.out.next hb3)
    have HY3 := hide (X2.out.next hb3)
    have HB3 := hide (below_next q2.out hb3)
    have HD3 := hide ((hb3.cell (p := ⟨g1, 1, none⟩) (show g1 < W2.heap.size by have := S2.out; omega)).trans HD2.out)
    clear hown3 hb3 hd0
    go_wp2_with fail
    go_loopw [24] (fun i wr => ∃ k : Nat, k ≤ ws.length ∧ i = .int .i64 k ∧ (∃ Av cv, Hid (Bx wr pb 24 (.slice Av ((ws.map rdc).take k).length cv) (.int .i64 0)) ∧ Hid (Own wr w3.heap.size 3 (.slice Av ((ws.map rdc).take k).length cv) ((ws.map rdc).take k))) ∧
        Hid (Bx wr w.heap.size 24 (.slice none 0 0) (.int .i64 0)) ∧ Hid (Below w.heap.size w wr) ∧ Hid (Strs wr w3.heap.size A3 ws.length ws) ∧ Hid (w3.heap.size ≤ wr.heap.size) ∧ Hid (wr.cell? ⟨g1, 1, none⟩ = some (.string zb)))
      (fun i _ => ws.length - (intOf i).toNat)
    case atStart => exact ⟨0, Nat.zero_le _, rfl, ⟨none, 0, HX3, hide (Own.nil _ _ _)⟩, HY3, HB3, HSt, hide (Nat.le_refl _), HD3⟩
    case round =>
      obtain ⟨k, hk, rfl, ⟨Av, cv, HX, HO⟩, HY, HB, HST, HSZ, HD⟩ := hrel
      by_cases hlt : k < ws.length
      · obtain ⟨ad, hada, hab, hcell⟩ := HST.out.at_ hlt
        have HG := hide (show ws.getD k [] = ws[k] from by simp [List.getD, List.getElem?_eq_getElem hlt])
        rw [HG.out] at hcell
        have HM := hide (show (ws.map rdc).take (k + 1) = (ws.map rdc).take k ++ [rdc (ws[k]'hlt)] from by
          rw [List.take_add_one, List.getElem?_map, List.getElem?_eq_getElem hlt]; rfl)
        have hll : ((ws.map rdc).take k).length ≤ 81 := by rw [List.length_take, List.length_map]; omega
        have HRa := hide (fun W => cuRead_any (ws[k]'hlt) W (Hpc.out _ (List.getElem_mem hlt)))
        generalize (ws.map rdc).take k = ms at *
        generalize hms : (ws.map rdc).take (k + 1) = ms' at HM
        have Hms := hide hms
        clear hms
        generalize ws[k] = pc at *
        generalize rdc pc = x0 at *
        generalize bs pc = pz at *
        subst hada
        have p1 := HX.out.c0
        go_wp2_with fail
        refine wp_region_held_drew (S := (fun _ => True)) (by kernel_rfl) ?_ (fun hHeld => ?_)
        · trivial
        refine wpAnyH_take (i := 0) (v := ?_) rfl (by kernel_rfl) (by kernel_rfl) (by kernel_rfl) (fun _ _ _ h => h) (Or.inl ⟨by rfl, ?_⟩) (by assumption) ?_
        rotate_left
        · (intro w hSw; (try dsimp only at hSw); go_simp; first | done | (with_reducible rfl))
        try go_simp
        refine wpAnyH_take (i := 2) (v := ?_) rfl (by kernel_rfl) (by kernel_rfl) (by kernel_rfl) (fun _ _ _ h => h) (Or.inl ⟨by rfl, ?_⟩) (by assumption) ?_
        rotate_left
        · (intro w hSw; (try dsimp only at hSw); go_simp; first | done | (with_reducible rfl))
        try go_simp
        refine wpAnyH_ready (rs := [1, 3]) (by kernel_rfl) (by simp) ?_
        refine AllReadyH.cons rfl (fun K hK => ?_) (AllReadyH.cons rfl (fun K hK => ?_) AllReadyH.nil)
        · go_simp
          refine hK.out _ _ trivial (fun hHeld => ?_)
          clear hK K
          try go_simp
          refine wpAnyH_ready (rs := [3]) (by kernel_rfl) (by simp) ?_
          refine AllReadyH.cons rfl (fun K hK => ?_) AllReadyH.nil
          go_simp
          go_at_call 18; (with_reducible refine (HRa.out _).mono ?_); rintro e w' ⟨rfl, rfl⟩
          go_wp2_with fail
          refine hK.out _ _ trivial (fun hHeld => ?_)
          clear hK K
          try go_simp
          refine wpAnyH_ready (rs := [4]) (by kernel_rfl) (by simp) ?_
          refine AllReadyH.cons rfl (fun K hK => ?_) AllReadyH.nil
          go_simp
          have FBn := hide (show Below wr.heap.size wr (wr.alloc (.cells #[.int .i64 x0] 3)).drew from ((Below.refl _ _).alloc (Nat.le_refl _) _).drew)
          clear p1
          have p1 := (HX.out.next FBn.out).c0
          refine hK.out _ _ trivial (fun hHeld => ?_)
          clear hK K
          try go_simp
          refine wpAnyH_ready (rs := [5]) (by kernel_rfl) (by simp) ?_
          refine AllReadyH.cons rfl (fun K hK => ?_) AllReadyH.nil
          refine step_app_ints rfl (.tmp 29) (.tmp 32) 22 3 rfl Tryd.underlying22 infoInt w3.heap.size _ ms rfl (HO.out.below FBn.out) ⟨wr.heap.size, 0, none⟩ 1 1 (wr.heap.size + 1) [x0] rfl (ints_one wr x0 3) (Nat.le_trans HSZ.out FBn.out.size) (by omega) ?_
          intro v6 w6 hown6 hb6
          rw [← HM.out] at hown6
          obtain ⟨A6, c6, rfl, h61, h62⟩ := hown6.shape
          have F6 := hide (show Below w3.heap.size wr w6 from (FBn.out.mono HSZ.out).trans hb6)
          have X6 := hide (HX.out.below F6.out hp3)
          have Y6 := hide (HY.out.below F6.out hw3)
          have B6 := hide (HB.out.trans (F6.out.mono (by omega)))
          have ST6 := hide (HST.out.below F6.out (Nat.le_refl _))
          have S6 := hide (Nat.le_trans HSZ.out F6.out.size)
          have D6 := hide ((F6.out.cell (p := ⟨g1, 1, none⟩) (show g1 < w3.heap.size by omega)).trans HD.out)
          have O6 := hide hown6
          clear hown6 hb6 p1 h61 h62
          have p1 := X6.out.c0
          have pf := X6.out.f 0
          refine hK.out _ _ trivial (fun hHeld => ?_)
          clear hK K
          try go_simp
          refine wpAnyH_take (i := 6) (v := ?_) rfl (by kernel_rfl) (by kernel_rfl) (by kernel_rfl) (fun _ _ _ h => h) (Or.inl ⟨by rfl, ?_⟩) (by assumption) ?_
          rotate_left
          · (intro w hSw; (try dsimp only at hSw); go_simp; first | done | (with_reducible rfl))
          try go_simp
          refine wpAnyH_ready (rs := [7]) (by kernel_rfl) (by simp) ?_
          refine AllReadyH.cons rfl (fun K hK => ?_) AllReadyH.nil
          go_simp
          refine hK.out _ _ trivial (fun hHeld => ?_)
          clear hK K
          try go_simp
          refine wpAnyH_done (by kernel_rfl) ?_ _
          have X7 := hide (X6.out.set0 (.slice A6 ms'.length c6))
          have Y7 := hide (Y6.out.setOther (a := ⟨pb, 0, none⟩) (by simp; omega) (.slice A6 ms'.length c6))
          have O7 := hide (O6.out.keep (w' := w6.setCell ⟨pb, 0, none⟩ (.slice A6 ms'.length c6)) fun g hg _ => Below.heap_setCell _ _ _ _ (by simp; omega))
          have B7 := hide (B6.out.setCell (p := ⟨pb, 0, none⟩) (by simp; omega) (.slice A6 ms'.length c6))
          have ST7 : Hid (Strs (w6.setCell ⟨pb, 0, none⟩ (.slice A6 ms'.length c6)) w3.heap.size (some ad) ws.length ws) := hide ⟨ST6.out.1, fun hn => by
            obtain ⟨ad', e, hb, hc⟩ := ST6.out.2 hn
            have h : (w6.setCell ⟨pb, 0, none⟩ (.slice A6 ms'.length c6)).heap[ad'.block]? = w6.heap[ad'.block]? := Below.heap_setCell _ _ _ _ (by have := HA3.out ad' e; simp; omega)
            exact ⟨ad', e, hb, fun j hj => (show (w6.setCell ⟨pb, 0, none⟩ (.slice A6 ms'.length c6)).cell? (ad'.add j) = w6.cell? (ad'.add j) from by simp only [World.cell?, block_of_add, h]).trans (hc j hj)⟩⟩
          have D7 : Hid ((w6.setCell ⟨pb, 0, none⟩ (.slice A6 ms'.length c6)).cell? ⟨g1, 1, none⟩ = some (.string zb)) := hide (by
            have h : (w6.setCell ⟨pb, 0, none⟩ (.slice A6 ms'.length c6)).heap[g1]? = w6.heap[g1]? := Below.heap_setCell _ _ _ _ (by simp; omega)
            exact (show (w6.setCell ⟨pb, 0, none⟩ (.slice A6 ms'.length c6)).cell? ⟨g1, 1, none⟩ = w6.cell? ⟨g1, 1, none⟩ from by simp only [World.cell?, h]).trans D6.out)
          have S7 := hide (show w3.heap.size ≤ (w6.setCell ⟨pb, 0, none⟩ (.slice A6 ms'.length c6)).heap.size from by have := S6.out; simp; omega)
          clear p1 pf X6 Y6 O6 B6 ST6 S6 F6 FBn D6
          generalize (w6.setCell ⟨pb, 0, none⟩ (.slice A6 ms'.length c6)) = W7 at *
          go_wp2_with fail
          go_roundw
          case rel => exact ⟨k + 1, by omega, by go_num, by rw [Hms.out]; exact ⟨A6, c6, X7, O7⟩, Y7, B7, ST7, S7, D7⟩
          case measure => simp [intOf]; omega
        · go_simp
          go_at_call 18; (with_reducible refine (HRa.out _).mono ?_); rintro e w' ⟨rfl, rfl⟩
          go_wp2_with fail
          refine hK.out _ _ trivial (fun hHeld => ?_)
          clear hK K
          try go_simp
          refine wpAnyH_ready (rs := [1, 4]) (by kernel_rfl) (by simp) ?_
          refine AllReadyH.cons rfl (fun K hK => ?_) (AllReadyH.cons rfl (fun K hK => ?_) AllReadyH.nil)
          · go_simp
            refine hK.out _ _ trivial (fun hHeld => ?_)
            clear hK K
            try go_simp
            refine wpAnyH_ready (rs := [4]) (by kernel_rfl) (by simp) ?_
            refine AllReadyH.cons rfl (fun K hK => ?_) AllReadyH.nil
            go_simp
            have FBn := hide (show Below wr.heap.size wr (wr.alloc (.cells #[.int .i64 x0] 3)).drew from ((Below.refl _ _).alloc (Nat.le_refl _) _).drew)
            clear p1
            have p1 := (HX.out.next FBn.out).c0
            refine hK.out _ _ trivial (fun hHeld => ?_)
            clear hK K
            try go_simp
            refine wpAnyH_ready (rs := [5]) (by kernel_rfl) (by simp) ?_
            refine AllReadyH.cons rfl (fun K hK => ?_) AllReadyH.nil
            refine step_app_ints rfl (.tmp 29) (.tmp 32) 22 3 rfl Tryd.underlying22 infoInt w3.heap.size _ ms rfl (HO.out.below FBn.out) ⟨wr.heap.size, 0, none⟩ 1 1 (wr.heap.size + 1) [x0] rfl (ints_one wr x0 3) (Nat.le_trans HSZ.out FBn.out.size) (by omega) ?_
            intro v6 w6 hown6 hb6
            rw [← HM.out] at hown6
            obtain ⟨A6, c6, rfl, h61, h62⟩ := hown6.shape
            have F6 := hide (show Below w3.heap.size wr w6 from (FBn.out.mono HSZ.out).trans hb6)
            have X6 := hide (HX.out.below F6.out hp3)
            have Y6 := hide (HY.out.below F6.out hw3)
            have B6 := hide (HB.out.trans (F6.out.mono (by omega)))
            have ST6 := hide (HST.out.below F6.out (Nat.le_refl _))
            have S6 := hide (Nat.le_trans HSZ.out F6.out.size)
            have D6 := hide ((F6.out.cell (p := ⟨g1, 1, none⟩) (show g1 < w3.heap.size by omega)).trans HD.out)
            have O6 := hide hown6
            clear hown6 hb6 p1 h61 h62
            have p1 := X6.out.c0
            have pf := X6.out.f 0
            refine hK.out _ _ trivial (fun hHeld => ?_)
            clear hK K
            try go_simp
            refine wpAnyH_take (i := 6) (v := ?_) rfl (by kernel_rfl) (by kernel_rfl) (by kernel_rfl) (fun _ _ _ h => h) (Or.inl ⟨by rfl, ?_⟩) (by assumption) ?_
            rotate_left
            · (intro w hSw; (try dsimp only at hSw); go_simp; first | done | (with_reducible rfl))
            try go_simp
            refine wpAnyH_ready (rs := [7]) (by kernel_rfl) (by simp) ?_
            refine AllReadyH.cons rfl (fun K hK => ?_) AllReadyH.nil
            go_simp
            refine hK.out _ _ trivial (fun hHeld => ?_)
            clear hK K
            try go_simp
            refine wpAnyH_done (by kernel_rfl) ?_ _
            have X7 := hide (X6.out.set0 (.slice A6 ms'.length c6))
            have Y7 := hide (Y6.out.setOther (a := ⟨pb, 0, none⟩) (by simp; omega) (.slice A6 ms'.length c6))
            have O7 := hide (O6.out.keep (w' := w6.setCell ⟨pb, 0, none⟩ (.slice A6 ms'.length c6)) fun g hg _ => Below.heap_setCell _ _ _ _ (by simp; omega))
            have B7 := hide (B6.out.setCell (p := ⟨pb, 0, none⟩) (by simp; omega) (.slice A6 ms'.length c6))
            have ST7 : Hid (Strs (w6.setCell ⟨pb, 0, none⟩ (.slice A6 ms'.length c6)) w3.heap.size (some ad) ws.length ws) := hide ⟨ST6.out.1, fun hn => by
              obtain ⟨ad', e, hb, hc⟩ := ST6.out.2 hn
              have h : (w6.setCell ⟨pb, 0, none⟩ (.slice A6 ms'.length c6)).heap[ad'.block]? = w6.heap[ad'.block]? := Below.heap_setCell _ _ _ _ (by have := HA3.out ad' e; simp; omega)
              exact ⟨ad', e, hb, fun j hj => (show (w6.setCell ⟨pb, 0, none⟩ (.slice A6 ms'.length c6)).cell? (ad'.add j) = w6.cell? (ad'.add j) from by simp only [World.cell?, block_of_add, h]).trans (hc j hj)⟩⟩
            have D7 : Hid ((w6.setCell ⟨pb, 0, none⟩ (.slice A6 ms'.length c6)).cell? ⟨g1, 1, none⟩ = some (.string zb)) := hide (by
              have h : (w6.setCell ⟨pb, 0, none⟩ (.slice A6 ms'.length c6)).heap[g1]? = w6.heap[g1]? := Below.heap_setCell _ _ _ _ (by simp; omega)
              exact (show (w6.setCell ⟨pb, 0, none⟩ (.slice A6 ms'.length c6)).cell? ⟨g1, 1, none⟩ = w6.cell? ⟨g1, 1, none⟩ from by simp only [World.cell?, h]).trans D6.out)
            have S7 := hide (show w3.heap.size ≤ (w6.setCell ⟨pb, 0, none⟩ (.slice A6 ms'.length c6)).heap.size from by have := S6.out; simp; omega)
            clear p1 pf X6 Y6 O6 B6 ST6 S6 F6 FBn D6
            generalize (w6.setCell ⟨pb, 0, none⟩ (.slice A6 ms'.length c6)) = W7 at *
            go_wp2_with fail
            go_roundw
            case rel => exact ⟨k + 1, by omega, by go_num, by rw [Hms.out]; exact ⟨A6, c6, X7, O7⟩, Y7, B7, ST7, S7, D7⟩
            case measure => simp [intOf]; omega
          · go_simp
            have FBn := hide (show Below wr.heap.size wr (wr.alloc (.cells #[.int .i64 x0] 3)).drew from ((Below.refl _ _).alloc (Nat.le_refl _) _).drew)
            clear p1
            have p1 := (HX.out.next FBn.out).c0
            refine hK.out _ _ trivial (fun hHeld => ?_)
            clear hK K
            try go_simp
            refine wpAnyH_ready (rs := [1]) (by kernel_rfl) (by simp) ?_
            refine AllReadyH.cons rfl (fun K hK => ?_) AllReadyH.nil
            go_simp
            refine hK.out _ _ trivial (fun hHeld => ?_)
            clear hK K
            try go_simp
            refine wpAnyH_ready (rs := [5]) (by kernel_rfl) (by simp) ?_
            refine AllReadyH.cons rfl (fun K hK => ?_) AllReadyH.nil
            refine step_app_ints rfl (.tmp 29) (.tmp 32) 22 3 rfl Tryd.underlying22 infoInt w3.heap.size _ ms rfl (HO.out.below FBn.out) ⟨wr.heap.size, 0, none⟩ 1 1 (wr.heap.size + 1) [x0] rfl (ints_one wr x0 3) (Nat.le_trans HSZ.out FBn.out.size) (by omega) ?_
            intro v6 w6 hown6 hb6
            rw [← HM.out] at hown6
            obtain ⟨A6, c6, rfl, h61, h62⟩ := hown6.shape
            have F6 := hide (show Below w3.heap.size wr w6 from (FBn.out.mono HSZ.out).trans hb6)
            have X6 := hide (HX.out.below F6.out hp3)
            have Y6 := hide (HY.out.below F6.out hw3)
            have B6 := hide (HB.out.trans (F6.out.mono (by omega)))
            have ST6 := hide (HST.out.below F6.out (Nat.le_refl _))
            have S6 := hide (Nat.le_trans HSZ.out F6.out.size)
            have D6 := hide ((F6.out.cell (p := ⟨g1, 1, none⟩) (show g1 < w3.heap.size by omega)).trans HD.out)
            have O6 := hide hown6
            clear hown6 hb6 p1 h61 h62
            have p1 := X6.out.c0
            have pf := X6.out.f 0
            refine hK.out _ _ trivial (fun hHeld => ?_)
            clear hK K
            try go_simp
            refine wpAnyH_take (i := 6) (v := ?_) rfl (by kernel_rfl) (by kernel_rfl) (by kernel_rfl) (fun _ _ _ h => h) (Or.inl ⟨by rfl, ?_⟩) (by assumption) ?_
            rotate_left
            · (intro w hSw; (try dsimp only at hSw); go_simp; first | done | (with_reducible rfl))
            try go_simp
            refine wpAnyH_ready (rs := [7]) (by kernel_rfl) (by simp) ?_
            refine AllReadyH.cons rfl (fun K hK => ?_) AllReadyH.nil
            go_simp
            refine hK.out _ _ trivial (fun hHeld => ?_)
            clear hK K
            try go_simp
            refine wpAnyH_done (by kernel_rfl) ?_ _
            have X7 := hide (X6.out.set0 (.slice A6 ms'.length c6))
            have Y7 := hide (Y6.out.setOther (a := ⟨pb, 0, none⟩) (by simp; omega) (.slice A6 ms'.length c6))
            have O7 := hide (O6.out.keep (w' := w6.setCell ⟨pb, 0, none⟩ (.slice A6 ms'.length c6)) fun g hg _ => Below.heap_setCell _ _ _ _ (by simp; omega))
            have B7 := hide (B6.out.setCell (p := ⟨pb, 0, none⟩) (by simp; omega) (.slice A6 ms'.length c6))
            have ST7 : Hid (Strs (w6.setCell ⟨pb, 0, none⟩ (.slice A6 ms'.length c6)) w3.heap.size (some ad) ws.length ws) := hide ⟨ST6.out.1, fun hn => by
              obtain ⟨ad', e, hb, hc⟩ := ST6.out.2 hn
              have h : (w6.setCell ⟨pb, 0, none⟩ (.slice A6 ms'.length c6)).heap[ad'.block]? = w6.heap[ad'.block]? := Below.heap_setCell _ _ _ _ (by have := HA3.out ad' e; simp; omega)
              exact ⟨ad', e, hb, fun j hj => (show (w6.setCell ⟨pb, 0, none⟩ (.slice A6 ms'.length c6)).cell? (ad'.add j) = w6.cell? (ad'.add j) from by simp only [World.cell?, block_of_add, h]).trans (hc j hj)⟩⟩
            have D7 : Hid ((w6.setCell ⟨pb, 0, none⟩ (.slice A6 ms'.length c6)).cell? ⟨g1, 1, none⟩ = some (.string zb)) := hide (by
              have h : (w6.setCell ⟨pb, 0, none⟩ (.slice A6 ms'.length c6)).heap[g1]? = w6.heap[g1]? := Below.heap_setCell _ _ _ _ (by simp; omega)
              exact (show (w6.setCell ⟨pb, 0, none⟩ (.slice A6 ms'.length c6)).cell? ⟨g1, 1, none⟩ = w6.cell? ⟨g1, 1, none⟩ from by simp only [World.cell?, h]).trans D6.out)
            have S7 := hide (show w3.heap.size ≤ (w6.setCell ⟨pb, 0, none⟩ (.slice A6 ms'.length c6)).heap.size from by have := S6.out; simp; omega)
            clear p1 pf X6 Y6 O6 B6 ST6 S6 F6 FBn D6
            generalize (w6.setCell ⟨pb, 0, none⟩ (.slice A6 ms'.length c6)) = W7 at *
            go_wp2_with fail
            go_roundw
            case rel => exact ⟨k + 1, by omega, by go_num, by rw [Hms.out]; exact ⟨A6, c6, X7, O7⟩, Y7, B7, ST7, S7, D7⟩
            case measure => simp [intOf]; omega
      · have hkl : (ws.map rdc).take k = ws.map rdc := List.take_of_length_le (by rw [List.length_map]; omega)
        rw [hkl] at HX HO
        have hn0 : (ws.map rdc).length ≤ 1000 := by rw [List.length_map]; omega
        clear hkl HST Hpc HSA
        generalize ws.map rdc = zs at *
        obtain ⟨Av', cv', e, hcv1, hcv2⟩ := HO.out.shape
        injection e with e1 e2 e3
        subst e1 e3
        have d1 := HD.out
        have p0 := HX.out.c0
        have p1 := HX.out.c1
        have pf1 := HX.out.f 1
        have X5 := hide (HX.out.set1 (.int .i64 ru))
        have Y5 := hide (HY.out.setOther (a := ⟨pb, 1, none⟩) (by simp; omega) (.int .i64 ru))
        have O5 := hide (HO.out.keep (w' := wr.setCell ⟨pb, 1, none⟩ (.int .i64 ru)) fun g hg _ => Below.heap_setCell _ _ _ _ (by simp; omega))
        have B5 := hide (HB.out.setCell (p := ⟨pb, 1, none⟩) (by simp; omega) (.int .i64 ru))
        go_wp2_with fail
        refine (HRB.out _).mono ?_; rintro e w' ⟨rfl, rfl⟩
        have q0 := X5.out.c0
        have q1 := X5.out.c1
        go_wp2_with fail
        generalize (wr.setCell ⟨pb, 1, none⟩ (.int .i64 ru)) = W5 at *
        refine (cuGood_any Av zs.length cv W5.heap.size zs ru W5 O5.out.ints (Nat.le_refl _) (by omega)).mono ?_; rintro e w6 ⟨rfl, hb6⟩
        have X6 := hide (X5.out.next hb6)
        have Y6 := hide (Y5.out.next hb6)
        have O6 := hide (O5.out.below hb6)
        have B6 := hide (below_next B5.out hb6)
        clear hb6 q0 q1 p0 p1 pf1 d1
        have q0 := X6.out.c0
        have q1 := X6.out.c1
        have y0 := Y6.out.c0
        have y1 := Y6.out.c1
        have k0 := Y6.out.f 0
        have k1 := Y6.out.f 1
        cases hg : cuOk zs ru
        · have hp : pp = none := by rw [HE.out, hg]; rfl
          obtain ⟨rfl, rfl, rfl⟩ := HNO.out hp
          clear hp hg HE HNO HYE
          have V := (Y6.out.set0 (.slice none 0 0)).set1 (.int .i64 0)
          have V0 := V.c0
          have V1 := V.c1
          clear V
          go_wp2_with fail
          exact bodyPost_ret (v := .tuple #[.agg #[.slice none 0 0, .int .i64 0], .bool false]) (by simp [results, Tryd.results9, go_sem, V0, V1]) rfl (madeCB_no _ _ ((B6.out.setCell (Nat.le_refl _) _).setCell (Nat.le_refl _) _))
        · have hp : pp = some (zs, ru) := by rw [HE.out, hg]; rfl
          obtain ⟨hy1, hy2, hy3⟩ := HYE.out zs ru hp
          replace hy1 := hy1.symm
          replace hy2 := hy2.symm
          replace hy3 := hy3.symm
          subst hy1 hy2 hy3
          clear hp hg HE HNO HYE
          have V := (Y6.out.set0 (.slice Av zs.length cv)).set1 (.int .i64 ru)
          have V0 := V.c0
          have V1 := V.c1
          clear V
          go_wp2_with fail
          refine bodyPost_ret (v := .tuple #[.agg #[.slice Av zs.length cv, .int .i64 ru], .bool true]) (by simp [results, Tryd.results9, go_sem, V0, V1]) rfl ⟨Av, cv, rfl, hcv1, hcv2, ?_, (B6.out.setCell (Nat.le_refl _) _).setCell (Nat.le_refl _) _⟩
          refine (O6.out.keep (fun g hg hl => ?_)).less (by omega)
          have h1 : g ≠ w.heap.size := by omega
          exact (Below.heap_setCell _ _ _ _ h1).trans (Below.heap_setCell _ _ _ _ h1)

set_option maxRecDepth 1000000 in
theorem specParseCups_any (l : List UInt8) (hl : l.length ≤ 1048576) (w : World) :
    Calls Tryd.prog 4 #[.string (bs l)] w (MadeCB (ycL l) (ycU l) (ycOk l) w) := by
  have b0 : Below w.heap.size w (w.alloc (.cells #[.slice none 0 0, .int .i64 0] 24)) := (Below.refl _ _).alloc (Nat.le_refl _) _
  have X0 := hide (Bx.new w 24 (.slice none 0 0) (.int .i64 0))
  have HP := hide (cuParse_any l hl (w.alloc (.cells #[.slice none 0 0, .int .i64 0] 24)))
  have HB0 := hide b0
  have S0 := hide (show (w.alloc (.cells #[.slice none 0 0, .int .i64 0] 24)).heap.size = w.heap.size + 1 from by simp)
  clear b0
  generalize bs l = s at *
  generalize ycL l = zs at *
  generalize ycU l = u at *
  generalize ycOk l = yo at *
  go_enter Tryd.func4, Tryd.ntmps4
  go_wp2_with fail
  generalize (w.alloc (.cells #[.slice none 0 0, .int .i64 0] 24)) = W0 at *
  refine HP.out.mono ?_; rintro e w1 ⟨A, c, rfl, hc1, hc2, hown, hb1⟩
  have q1 := hide (below_next HB0.out hb1)
  have X1 := hide (X0.out.next hb1)
  have O1 := hide hown
  clear hown hb1
  have x0 := X1.out.c0
  have x1 := X1.out.c1
  have k0 := X1.out.f 0
  have k1 := X1.out.f 1
  have V := (X1.out.set0 (.slice A zs.length c)).set1 (.int .i64 u)
  have V0 := V.c0
  have V1 := V.c1
  clear V
  go_wp2_with fail
  refine bodyPost_ret (v := .tuple #[.agg #[.slice A zs.length c, .int .i64 u], .bool yo]) (by simp [results, Tryd.results4, go_sem, V0, V1]) rfl ⟨A, c, rfl, hc1, hc2, ?_, (q1.out.setCell (Nat.le_refl _) _).setCell (Nat.le_refl _) _⟩
  refine (O1.out.keep (fun g hg hl => ?_)).less (by have := S0.out; omega)
  have h1 : g ≠ w.heap.size := by have := S0.out; omega
  exact (Below.heap_setCell _ _ _ _ h1).trans (Below.heap_setCell _ _ _ _ h1)
end Go.Proofs.YtnmafcbkipkppaaDoor
