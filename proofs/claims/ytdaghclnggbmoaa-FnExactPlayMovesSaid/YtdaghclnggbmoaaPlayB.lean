
/-
  PLAYS OF MOVES, THE MODEL's.
-/
import Derived.Test.YtdaghclnggbmoaaPlay
import Derived.Test.YtdaghclnggbmoaaLaws0
namespace Go.Proofs.Ytdaghclnggbmoaa
open Go.RowKit Go.Deep

/-- The model's PlayMoves. -/
theorem specPlayMoves_any (A A' : Option Addr) (n c n' c' B B' : Nat) (zs : List Int) (ms : List Mv) (w : World) (hr : Ints w B A n zs) (hB : B ≤ w.heap.size) (hn : n ≤ 17592186044416)
    (hm : Mvs w B' A' n' ms) (hB' : B' ≤ w.heap.size) (hn' : n' ≤ 1099511627776) :
    Calls Try.prog 22 #[.slice A n c, .slice A' n' c'] w (MadeR (playL zs ms) (playOk zs ms) w) := by
  obtain rfl := hr.len
  obtain rfl := hm.len
  cases hg : good zs
  · have H1 := hide (playOk_bad (ms := ms) hg)
    rw [playL_no H1.out, H1.out]
    have hgb : good zs = false := hg
    go_enter Try.func22, Try.ntmps22
    go_wp2_with fail
    refine (hpGood_any _ _ _ _ _ _ hr hn).mono ?_; rintro e w' ⟨rfl, rfl⟩; rw [hgb]
    go_wp2_with fail
    go_ret2
    exact madeR_none (Below.refl _ _)
  · have hgb : good zs = true := hg
    have hle := (good_of hg).2.1
    have hle1 := (good_of hg).1
    have HG := hide hg
    clear hg
    by_cases hl : ms.length ≤ 100
    · go_enter Try.func22, Try.ntmps22
      go_wp2_with fail
      refine (hpGood_any _ _ _ _ _ _ hr hn).mono ?_; rintro e w' ⟨rfl, rfl⟩; rw [hgb]
      go_wp2_with fail
      refine (l1Own_any _ _ _ _ _ _ hr hB (by omega) (by omega)).mono ?_
      rintro e w1 ⟨g1, c1, rfl, hga1, hgb1, hca1, hcb1, hown1, hb1⟩
      have s1 := hb1.size
      have hm1 := hm.below hb1 hB'
      go_wp2_with fail
      go_loopw [6, 23] (fun v i wr => ∃ (k : Nat) (ys : List Int) (A2 : Option Addr) (c2 : Nat), k ≤ ms.length ∧ i = .int .i64 k ∧ v = .slice A2 ys.length c2 ∧ Hid (play zs (ms.take k) = some ys) ∧ Own wr w.heap.size 3 (.slice A2 ys.length c2) ys ∧
          ys.length ≤ c2 ∧ c2 ≤ maxLen ∧ Below w.heap.size w wr)
        (fun _ i _ => ms.length - (intOf i).toNat)
      case atStart => exact ⟨0, zs, _, c1, Nat.zero_le _, rfl, rfl, hide rfl, hown1, hca1, hcb1, hb1⟩
      case round =>
        obtain ⟨k, ys, A2, c2, hk, rfl, rfl, hplay, hown, hyc, hcm, hb⟩ := hrel
        have hsz := hb.size
        by_cases hlt : k < ms.length
        · have hpc := play_calm zs (ms.take k) ys (calm_of_good HG.out) hplay.out
          have Hnext := hide (play_take_succ zs ms k hlt ys hplay.out)
          have hcalm := hpc.1
          have hyl := hpc.2
          have Hyl := hide hyl
          clear hyl hpc
          have hyl1 : 1 ≤ ys.length := by rw [Hyl.out]; omega
          have hyl2 : ys.length ≤ 12 := by rw [Hyl.out]; omega
          obtain ⟨b, off, rfl, hab, hc0, hc1, hc2⟩ := (hm.below hb hB').at_ hlt hlt
          generalize ms[k] = m at *
          go_wp2_with fail
          have hx : Ints (wr.alloc (.cells #[.int .i64 m.f, .int .i64 m.t, .int .i64 m.c] 44)) wr.heap.size A2 ys.length ys := hown.ints.alloc (Nat.le_refl _) _
          have hb2 := hb.alloc hsz (.cells #[.int .i64 m.f, .int .i64 m.t, .int .i64 m.c] 44)
          refine (hpMove_any _ _ _ _ _ _ _ _ _ hx (by simp) hyl1 hyl2 hcalm).mono ?_
          cases hcan : canMv ys m.f m.t m.c
          · rw [movedR_no hcan]
            rintro e w3 ⟨A3, c3, rfl, _, _, _, hb3⟩
            have Hbad := hide (playOk_stuck (zs := zs) (play_stuck zs ms (k + 1) (by rw [Hnext.out, hcan]; rfl)))
            go_wp2_with fail
            go_ret2
            rw [playL_no Hbad.out, Hbad.out]
            exact madeR_none (below_next hb2 hb3)
          · rw [movedR_yes hcan]
            rintro e w3 ⟨A3, c3, rfl, h31, h32, hown3, hb3⟩
            have Hgood := hide (show play zs (ms.take (k + 1)) = some _ from by rw [Hnext.out, hcan]; rfl)
            go_wp2_with fail
            go_roundw
            case rel => exact ⟨k + 1, _, A3, c3, by omega, by go_num, rfl, Hgood, hown3.less hb2.size, h31, h32, below_next hb2 hb3⟩
            case measure => simp [intOf]; omega
        · have hfull : play zs ms = some ys := by
            have := hplay.out
            rwa [List.take_of_length_le (by omega)] at this
          have Hy := hide (playOk_yes HG.out hl hfull)
          have Hf := hide hfull
          clear hfull
          go_wp2_with fail
          go_ret2
          rw [playL_yes Hy.out Hf.out, Hy.out]
          exact ⟨A2, c2, rfl, hyc, hcm, hown, hb⟩
    · have H1 := hide (playOk_long (zs := zs) hl)
      rw [playL_no H1.out, H1.out]
      go_enter Try.func22, Try.ntmps22
      go_wp2_with fail
      refine (hpGood_any _ _ _ _ _ _ hr hn).mono ?_; rintro e w' ⟨rfl, rfl⟩; rw [hgb]
      go_wp2_with fail
      go_ret2
      exact madeR_none (Below.refl _ _)
end Go.Proofs.Ytdaghclnggbmoaa
