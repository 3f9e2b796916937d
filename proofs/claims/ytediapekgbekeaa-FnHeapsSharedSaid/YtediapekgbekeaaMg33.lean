import Derived.Test.YtediapekgbekeaaMg32
import Derived.Test.YtediapekgbekeaaMg03
import Derived.Deep.RegionHeld3
import Derived.Deep.RegionWith
import Derived.Deep.RegionLaw
import Derived.BigRegion

/-
  PLAYS OF MOVES, THE MODEL's.
-/
namespace Go.Proofs.Ytediapekgbekeaa
open Go.RowKit Go.Deep

end Go.Proofs.Ytediapekgbekeaa

/-
  PLAYS OF MOVES, THE PROGRAM's.
-/
namespace Go.Proofs.Ytediapekgbekeaa
open Go.RowKit Go.Deep
set_option linter.unusedVariables false

set_option maxHeartbeats 1600000 in
/-- The program's PlayMoves. -/
theorem PlayMoves_any (A A' : Option Addr) (n c n' c' B B' : Nat) (zs : List Int) (ms : List Mv) (w : World) (hr : Ints w B A n zs) (hB : B ≤ w.heap.size) (hn : n ≤ 17592186044416)
    (hm : Mvs w B' A' n' ms) (hB' : B' ≤ w.heap.size) (hn' : n' ≤ 1099511627776) :
    Calls Try.prog 28 #[.slice A n c, .slice A' n' c'] w (MadeR (playL zs ms) (playOk zs ms) w) := by
  obtain rfl := hr.len
  obtain rfl := hm.len
  cases hg : good zs
  · have H1 := hide (playOk_bad (ms := ms) hg)
    rw [playL_no H1.out, H1.out]
    have hgb : good zs = false := hg
    go_enter Try.func28, Try.ntmps28
    go_wp2_with fail
    refine (AreHeaps_any _ _ _ _ _ _ hr hn).mono ?_; rintro e w' ⟨rfl, rfl⟩; rw [hgb]
    go_wp2_with fail
    go_ret2
    exact madeR_none (Below.refl _ _)
  · have hgb : good zs = true := hg
    have hle := (good_of hg).2.1
    have hle1 := (good_of hg).1
    have HG := hide hg
    clear hg
    by_cases hl : ms.length ≤ 100
    · go_enter Try.func28, Try.ntmps28
      go_wp2_with fail
      refine (AreHeaps_any _ _ _ _ _ _ hr hn).mono ?_; rintro e w' ⟨rfl, rfl⟩; rw [hgb]
      go_wp2_with fail
      refine (Clone_any _ _ _ _ _ _ hr hB (by omega) (by omega)).mono ?_
      rintro e w1 ⟨g, cap, rfl, hga, hgb1, hca, hcb, hown1, hb1⟩
      have s1 := hb1.size
      go_wp2_with fail
      go_loopw [21] (fun i wr => ∃ (k : Nat) (ys : List Int), k ≤ ms.length ∧ i = .int .i64 k ∧ Hid (play zs (ms.take k) = some ys) ∧ Own wr w.heap.size 3 (.slice (some ⟨g, 0, none⟩) zs.length cap) ys ∧ Below w.heap.size w wr)
        (fun i _ => ms.length - (intOf i).toNat)
      case atStart => exact ⟨0, zs, Nat.zero_le _, rfl, hide rfl, hown1, hb1⟩
      case round =>
        obtain ⟨k, ys, hk, rfl, hplay, hown, hb⟩ := hrel
        have hsz := hb.size
        have hpc := play_calm zs (ms.take k) ys (calm_of_good HG.out) hplay.out
        have hcalm := hpc.1
        have Hyl := hide hpc.2
        clear hpc
        by_cases hlt : k < ms.length
        · have Hnext := hide (play_take_succ zs ms k hlt ys hplay.out)
          obtain ⟨b, off, rfl, hab, hc0, hc1, hc2⟩ := (hm.below hb hB').at_ hlt hlt
          generalize ms[k] = m at *
          have hgw : g < wr.heap.size := by
            rcases hown.form with ⟨h, _⟩ | ⟨g', _, h, _, h3, _⟩
            · cases h
            · injection h with h; injection h with h; injection h with h; omega
          cases hok : mvOk (zs.length : Int) m
          · have hcan : canMv ys m.f m.t m.c = false := by
              refine canMv_no (fun h => ?_)
              have := mvOk_yes (n := (zs.length : Int)) (m := m) (by rw [← Hyl.out]; omega)
              rw [this] at hok; cases hok
            have Hbad := hide (playOk_stuck (zs := zs) (play_stuck zs ms (k + 1) (by rw [Hnext.out, hcan]; rfl)))
            have HM := hide (fun W => isMoveAmong_any (zs.length : Int) m W)
            rw [hok] at HM
            clear hok hcan
            go_wp2_with fail
            have hbo := hb.alloc hsz (.cells #[.int .i64 m.f, .int .i64 m.t, .int .i64 m.c] 43)
            have k0 : (wr.alloc (.cells #[.int .i64 m.f, .int .i64 m.t, .int .i64 m.c] 43)).cell? ⟨wr.heap.size, 0, none⟩ = some (.int .i64 m.f) := by simp
            have k1 : (wr.alloc (.cells #[.int .i64 m.f, .int .i64 m.t, .int .i64 m.c] 43)).cell? ⟨wr.heap.size, 1, none⟩ = some (.int .i64 m.t) := by simp
            have k2 : (wr.alloc (.cells #[.int .i64 m.f, .int .i64 m.t, .int .i64 m.c] 43)).cell? ⟨wr.heap.size, 2, none⟩ = some (.int .i64 m.c) := by simp
            have hz0 : wr.heap.size < (wr.alloc (.cells #[.int .i64 m.f, .int .i64 m.t, .int .i64 m.c] 43)).heap.size := by simp
            generalize (wr.alloc (.cells #[.int .i64 m.f, .int .i64 m.t, .int .i64 m.c] 43)) = W0 at *
            generalize wr.heap.size = bx at *
            have HS : Hid (∀ W', Below W0.heap.size W0 W' → (Below W0.heap.size W0 W' ∧ W'.cell? ⟨bx, 0, none⟩ = some (.int .i64 m.f) ∧ W'.cell? ⟨bx, 1, none⟩ = some (.int .i64 m.t) ∧ W'.cell? ⟨bx, 2, none⟩ = some (.int .i64 m.c))) :=
              hide fun W' h => ⟨h, (h.cell (p := ⟨bx, 0, none⟩) hz0).trans k0, (h.cell (p := ⟨bx, 1, none⟩) hz0).trans k1, (h.cell (p := ⟨bx, 2, none⟩) hz0).trans k2⟩
            refine wp_region_any (by kernel_rfl) ?_
            change wpAny _ _ _ _ _ _ _ (World.drew _)
            refine wpAny_take (i := 0) (v := ?_) rfl (by kernel_rfl) (by kernel_rfl) (by kernel_rfl) (fun _ _ _ h => h) (Or.inl ⟨rfl, ?_⟩) ?_
            rotate_left
            · intro w; go_simp; first | done | (with_reducible rfl)
            refine wpAny_take (i := 1) (v := ?_) rfl (by kernel_rfl) (by kernel_rfl) (by kernel_rfl) (fun _ _ _ h => h) (Or.inl ⟨rfl, ?_⟩) ?_
            rotate_left
            · intro w; go_simp; first | done | (with_reducible rfl)
            refine wpAny_ready (rs := [2]) (by kernel_rfl) (by simp) ?_
            refine AllReady.cons rfl (fun K hK => ?_) AllReady.nil
            go_simp
            refine hK _ _ ?_
            clear hK K
            refine wpAny_ready (rs := [3]) (by kernel_rfl) (by simp) ?_
            refine AllReady.cons rfl (fun K hK => ?_) AllReady.nil
            go_simp
            go_wp2_with (go_at_call 54; with_reducible refine (HM.out _).mono ?_; rintro e w' ⟨rfl, hb'⟩)
            refine wpAny_ready (rs := [4]) (by kernel_rfl) (by simp) ?_
            refine AllReady.cons rfl (fun K hK => ?_) AllReady.nil
            go_simp
            refine hK _ _ ?_
            clear hK K
            refine wpAny_ready (rs := [5]) (by kernel_rfl) (by simp) ?_
            refine AllReady.cons rfl (fun K hK => ?_) AllReady.nil
            go_simp
            refine hK _ _ ?_
            clear hK K
            refine wpAny_take (i := 6) (v := undef) rfl (by kernel_rfl) (by kernel_rfl) (by kernel_rfl) (fun _ _ _ h => h) (Or.inr ⟨by kernel_rfl, rfl⟩) ?_
            refine wpAny_take (i := 7) (v := undef) rfl (by kernel_rfl) (by kernel_rfl) (by kernel_rfl) (fun _ _ _ h => h) (Or.inr ⟨by kernel_rfl, rfl⟩) ?_
            go_simp
            refine wpAny_take (i := 8) (v := undef) rfl (by kernel_rfl) (by kernel_rfl) (by kernel_rfl) (fun _ _ _ h => h) (Or.inr ⟨by kernel_rfl, rfl⟩) ?_
            refine wpAny_take (i := 9) (v := undef) rfl (by kernel_rfl) (by kernel_rfl) (by kernel_rfl) (fun _ _ _ h => h) (Or.inr ⟨by kernel_rfl, rfl⟩) ?_
            go_simp
            refine wpAny_take (i := 10) (v := undef) rfl (by kernel_rfl) (by kernel_rfl) (by kernel_rfl) (fun _ _ _ h => h) (Or.inr ⟨by kernel_rfl, rfl⟩) ?_
            refine wpAny_take (i := 11) (v := undef) rfl (by kernel_rfl) (by kernel_rfl) (by kernel_rfl) (fun _ _ _ h => h) (Or.inr ⟨by kernel_rfl, rfl⟩) ?_
            go_simp
            refine wpAny_take (i := 12) (v := undef) rfl (by kernel_rfl) (by kernel_rfl) (by kernel_rfl) (fun _ _ _ h => h) (Or.inr ⟨by kernel_rfl, rfl⟩) ?_
            go_simp
            refine wpAny_take (i := 13) (v := undef) rfl (by kernel_rfl) (by kernel_rfl) (by kernel_rfl) (fun _ _ _ h => h) (Or.inr ⟨by kernel_rfl, rfl⟩) ?_
            go_simp
            refine wpAny_ready (rs := [14]) (by kernel_rfl) (by simp) ?_
            refine AllReady.cons rfl (fun K hK => ?_) AllReady.nil
            go_simp
            refine hK _ _ ?_
            clear hK K
            refine wpAny_done (by kernel_rfl) ?_ _
            go_wp2_with fail
            go_ret2
            rw [playL_no Hbad.out, Hbad.out]
            exact madeR_none (below_next (w1 := W0.drew) hbo.drew hb')
          · have hokb := hok
            unfold mvOk at hokb
            have hb6 : 0 ≤ m.f ∧ m.f < zs.length ∧ 0 ≤ m.t ∧ m.t < zs.length ∧ m.f ≠ m.t ∧ 1 ≤ m.c := by simpa using hokb
            clear hokb
            have HM := hide (fun W => isMoveAmong_any (zs.length : Int) m W)
            rw [hok] at HM
            clear hok
            obtain ⟨mf, mt, mc⟩ := m
            simp only at hb6 HM Hnext hc0 hc1 hc2
            obtain ⟨q1, q2, q3, q4, q5, q6⟩ := hb6
            obtain ⟨i, rfl⟩ := Int.eq_ofNat_of_zero_le q1
            obtain ⟨j, rfl⟩ := Int.eq_ofNat_of_zero_le q3
            have hil : i < zs.length := by omega
            have hiy : i < ys.length := by rw [Hyl.out]; exact hil
            have hoi : ∀ o, (wr.alloc o).cell? ⟨g, i, none⟩ = some (.int .i64 ys[i]) := by
              intro o
              have h := hown.alloc o
              unfold Own at h
              rw [Hyl.out] at h
              rw [World.ownsRow.cellAt h i (by omega)]; simp [hiy]
            have hzi := calm_get hcalm i hiy
            have Hzi := hide (show ys.getD i 0 = ys[i] from by simp [List.getD, hiy])
            have ai : (i : Int) < (zs.length : Int) := by omega
            by_cases hcz : mc ≤ ys[i]
            · have hcan : canMv ys (i : Int) (j : Int) mc = true := canMv_yes ⟨by rw [Hyl.out]; omega, by rw [Hyl.out]; omega, q5, q6, by rw [Int.toNat_natCast, Hzi.out]; exact hcz⟩
              have d5 : decide (ys[i] < mc) = false := by simp; omega
              have Hgood := hide (show play zs (ms.take (k + 1)) = some _ from by rw [Hnext.out, hcan]; rfl)
              clear hcan
              go_wp2_with fail
              have hbo := hb.alloc hsz (.cells #[.int .i64 (i : Int), .int .i64 (j : Int), .int .i64 mc] 43)
              have k0 : (wr.alloc (.cells #[.int .i64 (i : Int), .int .i64 (j : Int), .int .i64 mc] 43)).cell? ⟨wr.heap.size, 0, none⟩ = some (.int .i64 (i : Int)) := by simp
              have k1 : (wr.alloc (.cells #[.int .i64 (i : Int), .int .i64 (j : Int), .int .i64 mc] 43)).cell? ⟨wr.heap.size, 1, none⟩ = some (.int .i64 (j : Int)) := by simp
              have k2 : (wr.alloc (.cells #[.int .i64 (i : Int), .int .i64 (j : Int), .int .i64 mc] 43)).cell? ⟨wr.heap.size, 2, none⟩ = some (.int .i64 mc) := by simp
              have hz0 : wr.heap.size < (wr.alloc (.cells #[.int .i64 (i : Int), .int .i64 (j : Int), .int .i64 mc] 43)).heap.size := by simp
              have k3 := hoi (.cells #[.int .i64 (i : Int), .int .i64 (j : Int), .int .i64 mc] 43)
              have own0 := hown.alloc (.cells #[.int .i64 (i : Int), .int .i64 (j : Int), .int .i64 mc] 43)
              clear hoi
              generalize (wr.alloc (.cells #[.int .i64 (i : Int), .int .i64 (j : Int), .int .i64 mc] 43)) = W0 at *
              generalize wr.heap.size = bx at *
              have HS : Hid (∀ W', Below W0.heap.size W0 W' → (Below W0.heap.size W0 W' ∧ W'.cell? ⟨bx, 0, none⟩ = some (.int .i64 (i : Int)) ∧ W'.cell? ⟨bx, 1, none⟩ = some (.int .i64 (j : Int)) ∧ W'.cell? ⟨bx, 2, none⟩ = some (.int .i64 mc) ∧ W'.cell? ⟨g, i, none⟩ = some (.int .i64 ys[i]))) :=
                hide fun W' h => ⟨h, (h.cell (p := ⟨bx, 0, none⟩) hz0).trans k0, (h.cell (p := ⟨bx, 1, none⟩) hz0).trans k1, (h.cell (p := ⟨bx, 2, none⟩) hz0).trans k2, (h.cell (p := ⟨g, i, none⟩) (show g < W0.heap.size by omega)).trans k3⟩
              first | go_region_held3 (fun W => Below W0.heap.size W0 W ∧ W.cell? ⟨bx, 0, none⟩ = some (.int .i64 (i : Int)) ∧ W.cell? ⟨bx, 1, none⟩ = some (.int .i64 (j : Int)) ∧ W.cell? ⟨bx, 2, none⟩ = some (.int .i64 mc) ∧ W.cell? ⟨g, i, none⟩ = some (.int .i64 ys[i])) (first | exact HS.out _ (Below.refl _ _).drew | exact HS.out _ (below_next (And.left (by assumption)) hb') | go_keep) (first | (go_at_call 54; with_reducible refine (HM.out _).mono ?_; rintro e w' ⟨rfl, hb'⟩)) | fail
              obtain ⟨hB0, e0, e1, e2, e3⟩ := (show Below W0.heap.size W0 w' ∧ w'.cell? ⟨bx, 0, none⟩ = some (.int .i64 (i : Int)) ∧ w'.cell? ⟨bx, 1, none⟩ = some (.int .i64 (j : Int)) ∧ w'.cell? ⟨bx, 2, none⟩ = some (.int .i64 mc) ∧ w'.cell? ⟨g, i, none⟩ = some (.int .i64 ys[i]) from by assumption)
              have ownw := own0.below hB0
              go_wp2_with fail
              refine (carry_any _ _ _ _ ys i j mc _ ownw Hyl.out (by omega) hil (by omega) (by omega) hcalm (by omega) (by omega)).mono ?_
              rintro e w5 ⟨rfl, own5, hb5, hoth5⟩
              clear hoth5
              go_wp2_with fail
              go_roundw
              case rel => exact ⟨k + 1, _, by omega, by go_num, by simpa using Hgood, own5, (hbo.trans (hB0.mono hbo.size)).trans hb5⟩
              case measure => simp [intOf]; omega
            · have hcan : canMv ys (i : Int) (j : Int) mc = false := canMv_no (fun h => hcz (by have := h.2.2.2.2; rwa [Int.toNat_natCast, Hzi.out] at this))
              have d5 : decide (ys[i] < mc) = true := by simp; omega
              have Hbad := hide (playOk_stuck (zs := zs) (play_stuck zs ms (k + 1) (by rw [Hnext.out, hcan]; rfl)))
              clear hcan
              go_wp2_with fail
              have hbo := hb.alloc hsz (.cells #[.int .i64 (i : Int), .int .i64 (j : Int), .int .i64 mc] 43)
              have k0 : (wr.alloc (.cells #[.int .i64 (i : Int), .int .i64 (j : Int), .int .i64 mc] 43)).cell? ⟨wr.heap.size, 0, none⟩ = some (.int .i64 (i : Int)) := by simp
              have k1 : (wr.alloc (.cells #[.int .i64 (i : Int), .int .i64 (j : Int), .int .i64 mc] 43)).cell? ⟨wr.heap.size, 1, none⟩ = some (.int .i64 (j : Int)) := by simp
              have k2 : (wr.alloc (.cells #[.int .i64 (i : Int), .int .i64 (j : Int), .int .i64 mc] 43)).cell? ⟨wr.heap.size, 2, none⟩ = some (.int .i64 mc) := by simp
              have hz0 : wr.heap.size < (wr.alloc (.cells #[.int .i64 (i : Int), .int .i64 (j : Int), .int .i64 mc] 43)).heap.size := by simp
              have k3 := hoi (.cells #[.int .i64 (i : Int), .int .i64 (j : Int), .int .i64 mc] 43)
              have own0 := hown.alloc (.cells #[.int .i64 (i : Int), .int .i64 (j : Int), .int .i64 mc] 43)
              clear hoi
              generalize (wr.alloc (.cells #[.int .i64 (i : Int), .int .i64 (j : Int), .int .i64 mc] 43)) = W0 at *
              generalize wr.heap.size = bx at *
              have HS : Hid (∀ W', Below W0.heap.size W0 W' → (Below W0.heap.size W0 W' ∧ W'.cell? ⟨bx, 0, none⟩ = some (.int .i64 (i : Int)) ∧ W'.cell? ⟨bx, 1, none⟩ = some (.int .i64 (j : Int)) ∧ W'.cell? ⟨bx, 2, none⟩ = some (.int .i64 mc) ∧ W'.cell? ⟨g, i, none⟩ = some (.int .i64 ys[i]))) :=
                hide fun W' h => ⟨h, (h.cell (p := ⟨bx, 0, none⟩) hz0).trans k0, (h.cell (p := ⟨bx, 1, none⟩) hz0).trans k1, (h.cell (p := ⟨bx, 2, none⟩) hz0).trans k2, (h.cell (p := ⟨g, i, none⟩) (show g < W0.heap.size by omega)).trans k3⟩
              first | go_region_held3 (fun W => Below W0.heap.size W0 W ∧ W.cell? ⟨bx, 0, none⟩ = some (.int .i64 (i : Int)) ∧ W.cell? ⟨bx, 1, none⟩ = some (.int .i64 (j : Int)) ∧ W.cell? ⟨bx, 2, none⟩ = some (.int .i64 mc) ∧ W.cell? ⟨g, i, none⟩ = some (.int .i64 ys[i])) (first | exact HS.out _ (Below.refl _ _).drew | exact HS.out _ (below_next (And.left (by assumption)) hb') | go_keep) (first | (go_at_call 54; with_reducible refine (HM.out _).mono ?_; rintro e w' ⟨rfl, hb'⟩)) | fail
              obtain ⟨hB0, e0, e1, e2, e3⟩ := (show Below W0.heap.size W0 w' ∧ w'.cell? ⟨bx, 0, none⟩ = some (.int .i64 (i : Int)) ∧ w'.cell? ⟨bx, 1, none⟩ = some (.int .i64 (j : Int)) ∧ w'.cell? ⟨bx, 2, none⟩ = some (.int .i64 mc) ∧ w'.cell? ⟨g, i, none⟩ = some (.int .i64 ys[i]) from by assumption)
              go_wp2_with fail
              go_ret2
              rw [playL_no Hbad.out, Hbad.out]
              exact madeR_none (hbo.trans (hB0.mono hbo.size))
        · have hfull : play zs ms = some ys := by
            have := hplay.out
            rwa [List.take_of_length_le (by omega)] at this
          have Hy := hide (playOk_yes HG.out hl hfull)
          have Hf := hide hfull
          have hl5 : zs.length ≤ cap := hca
          clear hfull
          go_wp2_with fail
          go_ret2
          rw [playL_yes Hy.out Hf.out, Hy.out]
          exact ⟨_, cap, by rw [Hyl.out]; rfl, by rw [Hyl.out]; exact hl5, hcb, by rw [Hyl.out]; exact hown, hb⟩
    · have H1 := hide (playOk_long (zs := zs) hl)
      rw [playL_no H1.out, H1.out]
      go_enter Try.func28, Try.ntmps28
      go_wp2_with fail
      refine (AreHeaps_any _ _ _ _ _ _ hr hn).mono ?_; rintro e w' ⟨rfl, rfl⟩; rw [hgb]
      go_wp2_with fail
      go_ret2
      exact madeR_none (Below.refl _ _)
end Go.Proofs.Ytediapekgbekeaa
