
/-
  COSTS OF MOVES, THE MODEL's.
-/
import Derived.Test.YtdaghclnggbmoaaCost
namespace Go.Proofs.Ytdaghclnggbmoaa
open Go.RowKit Go.Deep

/-- The model's CostOfMoves. -/
theorem specCostOfMoves_any (A : Option Addr) (n c B : Nat) (ms : List Mv) (w : World) (hr : Mvs w B A n ms) (hB : B ≤ w.heap.size) (hn : n ≤ 1099511627776) :
    Calls Try.prog 13 #[.slice A n c] w fun e w' => e = .returned (.tuple #[.int .i64 (costN ms), .bool (costOk ms)]) ∧ Below w.heap.size w w' := by
  obtain rfl := hr.len
  by_cases hl : ms.length ≤ 100
  · go_enter Try.func13, Try.ntmps13
    go_wp2_with fail
    go_loopw [4, 12] (fun s i wr => ∃ k : Nat, k ≤ ms.length ∧ i = .int .i64 k ∧ s = .int .i64 (costs (ms.take k)) ∧ okTo ms k ∧ Below w.heap.size w wr)
      (fun _ i _ => ms.length - (intOf i).toNat)
    case atStart => exact ⟨0, Nat.zero_le _, rfl, rfl, fun m hm => by simp at hm, Below.refl _ _⟩
    case round =>
      obtain ⟨k, hk, rfl, rfl, hok, hb⟩ := hrel
      have hs := okTo_bd hok hl
      have HOk := hide hok
      clear hok
      by_cases hlt : k < ms.length
      · have Hs := hide (costs_take_succ ms k hlt)
        have Hbad := hide (fun h => costOk_bad (ms := ms) k hlt h)
        have Hnext := hide (fun h => okTo_succ hlt HOk.out h)
        have hsz := hb.size
        obtain ⟨b, off, rfl, hab, hc0, hc1, hc2⟩ := (hr.below hb hB).at_ hlt hlt
        generalize ms[k] = m at *
        generalize costs (ms.take k) = s0 at *
        by_cases h1 : 0 ≤ m.f ∧ m.f ≤ 11
        · have d1 : decide (0 ≤ m.f ∧ m.f ≤ 11) = true := by simpa using h1
          by_cases h2 : 0 ≤ m.t ∧ m.t ≤ 11
          · have d2 : decide (0 ≤ m.t ∧ m.t ≤ 11) = true := by simpa using h2
            by_cases h3 : m.f = m.t
            · have d3 : (m.f == m.t) = true := by simpa using h3
              have H1 : Hid (costOk1 m = false) := hide (by unfold costOk1 mvOk; simp; omega)
              clear h3
              go_wp2_with fail
              refine (l1In_any _ _ _ _).mono ?_; rintro e w' ⟨rfl, rfl⟩; rw [d1]
              go_wp2_with fail
              refine (l1In_any _ _ _ _).mono ?_; rintro e w' ⟨rfl, rfl⟩; rw [d2]
              go_wp2_with fail
              go_ret2
              have Hno := Hbad.out H1.out
              exact ⟨by rw [costN_no Hno, Hno]; rfl, hb.alloc hsz _⟩
            · have d3 : (m.f == m.t) = false := by simpa using h3
              by_cases h4 : 1 ≤ m.c ∧ m.c ≤ 1000
              · have d4 : decide (1 ≤ m.c ∧ m.c ≤ 1000) = true := by simpa using h4
                have H1 : Hid (costOk1 m = true) := hide (by unfold costOk1 mvOk; simp; omega)
                have hcb := cost1_bd H1.out
                have Hcost := hide (show cost1 m = m.c * size1 (m.f - m.t) from rfl)
                rw [Hcost.out] at hcb Hs
                clear h3
                have hb3 := hb.alloc hsz (.cells #[.int .i64 m.f, .int .i64 m.t, .int .i64 m.c] 44)
                have HA := hide (fun (W : World) => l1Abs_any (m.f - m.t) (by omega) (by omega) W)
                generalize size1 (m.f - m.t) = sz at *
                go_wp2_with fail
                refine (l1In_any _ _ _ _).mono ?_; rintro e w' ⟨rfl, rfl⟩; rw [d1]
                go_wp2_with fail
                refine (l1In_any _ _ _ _).mono ?_; rintro e w' ⟨rfl, rfl⟩; rw [d2]
                go_wp2_with fail
                refine (l1In_any _ _ _ _).mono ?_; rintro e w' ⟨rfl, rfl⟩; rw [d4]
                go_wp2_with fail
                go_quiet ((go_at_call 31; exact quiet_left (HA.out _)))
                go_wp2_with fail
                go_roundw
                case rel => exact ⟨k + 1, by omega, by go_num, by rw [Hs.out], Hnext.out H1.out, below_drewN hb3 _⟩
                case measure => simp [intOf]; omega
              · have d4 : decide (1 ≤ m.c ∧ m.c ≤ 1000) = false := by simpa using h4
                have H1 : Hid (costOk1 m = false) := hide (by unfold costOk1 mvOk; simp; omega)
                clear h3
                go_wp2_with fail
                refine (l1In_any _ _ _ _).mono ?_; rintro e w' ⟨rfl, rfl⟩; rw [d1]
                go_wp2_with fail
                refine (l1In_any _ _ _ _).mono ?_; rintro e w' ⟨rfl, rfl⟩; rw [d2]
                go_wp2_with fail
                refine (l1In_any _ _ _ _).mono ?_; rintro e w' ⟨rfl, rfl⟩; rw [d4]
                go_wp2_with fail
                go_ret2
                have Hno := Hbad.out H1.out
                exact ⟨by rw [costN_no Hno, Hno]; rfl, hb.alloc hsz _⟩
          · have d2 : decide (0 ≤ m.t ∧ m.t ≤ 11) = false := by simpa using h2
            have H1 : Hid (costOk1 m = false) := hide (by unfold costOk1 mvOk; simp; omega)
            go_wp2_with fail
            refine (l1In_any _ _ _ _).mono ?_; rintro e w' ⟨rfl, rfl⟩; rw [d1]
            go_wp2_with fail
            refine (l1In_any _ _ _ _).mono ?_; rintro e w' ⟨rfl, rfl⟩; rw [d2]
            go_wp2_with fail
            go_ret2
            have Hno := Hbad.out H1.out
            exact ⟨by rw [costN_no Hno, Hno]; rfl, hb.alloc hsz _⟩
        · have d1 : decide (0 ≤ m.f ∧ m.f ≤ 11) = false := by simpa using h1
          have H1 : Hid (costOk1 m = false) := hide (by unfold costOk1 mvOk; simp; omega)
          go_wp2_with fail
          refine (l1In_any _ _ _ _).mono ?_; rintro e w' ⟨rfl, rfl⟩; rw [d1]
          go_wp2_with fail
          go_ret2
          have Hno := Hbad.out H1.out
          exact ⟨by rw [costN_no Hno, Hno]; rfl, hb.alloc hsz _⟩
      · go_wp2_with fail
        go_ret2
        have Hy := costOk_yes hl (fun m hm => HOk.out m (by rw [List.take_of_length_le (by omega)]; exact hm))
        exact ⟨by rw [costN_yes Hy, Hy, List.take_of_length_le (by omega)]; rfl, hb⟩
  · have H1 := hide (costOk_long hl)
    have H2 := hide (costN_no H1.out)
    go_enter Try.func13, Try.ntmps13
    go_wp2_with fail
    go_ret2
    exact ⟨by rw [H1.out, H2.out]; rfl, Below.refl _ _⟩
end Go.Proofs.Ytdaghclnggbmoaa
