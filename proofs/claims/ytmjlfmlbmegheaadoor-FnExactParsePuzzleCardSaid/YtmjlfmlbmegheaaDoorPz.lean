
/-
  CLUES AND PUZZLES, THE MODEL's WAY: pzHeaps, pzClue, pzGood, IsPuzzle.
-/
import Derived.Test.YtmjlfmlbmegheaaDoorPzP
import Derived.Test.YtmjlfmlbmegheaaDoorGood
import Derived.Deep.Cut
import Derived.Test.YtmjlfmlbmegheaaDoorBox
namespace Go.Proofs.YtmjlfmlbmegheaaDoor
open Go.RowKit Go.Deep
set_option linter.unusedVariables false

theorem pzHeaps_any (h : Int) (w : World) :
    Calls Tryd.prog 29 #[.int .i64 h] w fun e w' => e = .returned (.bool (decide (2 ≤ h ∧ h ≤ 4))) ∧ w = w' := by
  go_enter Tryd.func29, Tryd.ntmps29
  go_wp2_with fail
  refine (l1In_any _ _ _ _).mono ?_; rintro e w' ⟨rfl, rfl⟩
  go_wp2_with fail
  go_ret
  exact ⟨ret_bool (by simp), rfl⟩

set_option maxHeartbeats 4000000 in
set_option maxRecDepth 100000 in
theorem pzClue_any (h : Int) (c : Cl) (w : World) (hh : 2 ≤ h ∧ h ≤ 4) :
    Calls Tryd.prog 30 #[.int .i64 h, .agg #[.int .i64 c.x0, .int .i64 c.x1, .int .i64 c.x2, .int .i64 c.x3]] w fun e w' => e = .returned (.bool (clueOk h c)) ∧ Below w.heap.size w w' := by
  have HI := hide (fun x lo hi W => l1In_any x lo hi W)
  obtain ⟨h1, h2⟩ := hh
  have HN : Hid (pzNone c = decide (c.x1 = 0 ∧ c.x2 = 0)) := hide rfl
  go_enter Tryd.func30, Tryd.ntmps30
  go_upto_region 1 with fail
  go_cut [5] from 7 (fun s5 wc => s5 = .bool (pzNone c) ∧ wc = w.alloc (.cells #[.int .i64 c.x0, .int .i64 c.x1, .int .i64 c.x2, .int .i64 c.x3] 44))
  case first =>
    by_cases ha : c.x1 = 0
    · by_cases hb : c.x2 = 0
      all_goals
        go_wp2_with fail
        go_meet
        case rel => exact ⟨by rw [HN.out]; simp [ha, hb], by simp [ha, hb]⟩
    · go_wp2_with fail
      go_meet
      case rel => exact ⟨by rw [HN.out]; simp [ha], by simp [ha]⟩
  case rest =>
    obtain ⟨rfl, rfl⟩ := hcut
    go_upto_region 2 with fail
    go_cut [6] from 7 (fun s6 wc => s6 = .bool (pzTwo h c.x1 c.x2) ∧ wc = w.alloc (.cells #[.int .i64 c.x0, .int .i64 c.x1, .int .i64 c.x2, .int .i64 c.x3] 44))
    case first =>
      have HT : Hid (pzTwo h c.x1 c.x2 = (decide (0 ≤ c.x1 ∧ c.x1 ≤ h - 1) && (decide (0 ≤ c.x2 ∧ c.x2 ≤ h - 1) && decide (c.x1 ≠ c.x2)))) := hide rfl
      cases hA : decide (0 ≤ c.x1 ∧ c.x1 ≤ h - 1)
      · have HA := hide hA
        clear hA
        go_wp2_with fail
        refine (HI.out _ _ _ _).mono ?_; rintro e w' ⟨rfl, rfl⟩; rw [HA.out]
        go_wp2_with fail
        go_meet
        case rel => exact ⟨by rw [HT.out, HA.out]; rfl, rfl⟩
      · have HA := hide hA
        clear hA
        cases hB : decide (0 ≤ c.x2 ∧ c.x2 ≤ h - 1)
        · have HB := hide hB
          clear hB
          go_wp2_with fail
          refine (HI.out _ _ _ _).mono ?_; rintro e w' ⟨rfl, rfl⟩; rw [HA.out]
          go_wp2_with fail
          refine (HI.out _ _ _ _).mono ?_; rintro e w' ⟨rfl, rfl⟩; rw [HB.out]
          go_wp2_with fail
          go_meet
          case rel => exact ⟨by rw [HT.out, HA.out, HB.out]; rfl, rfl⟩
        · have HB := hide hB
          clear hB
          go_wp2_with fail
          refine (HI.out _ _ _ _).mono ?_; rintro e w' ⟨rfl, rfl⟩; rw [HA.out]
          go_wp2_with fail
          refine (HI.out _ _ _ _).mono ?_; rintro e w' ⟨rfl, rfl⟩; rw [HB.out]
          go_wp2_with fail
          go_meet
          case rel => exact ⟨by rw [HT.out, HA.out, HB.out]; by_cases e : c.x1 = c.x2 <;> simp [e], rfl⟩
    case rest =>
      obtain ⟨rfl, rfl⟩ := hcut
      have HB := hide (show Below w.heap.size w (w.alloc (.cells #[.int .i64 c.x0, .int .i64 c.x1, .int .i64 c.x2, .int .i64 c.x3] 44)) from (Below.refl _ _).alloc (Nat.le_refl _) _)
      have HO := hide (clueOk_eq h c)
      generalize pzNone c = nn at *
      generalize pzTwo h c.x1 c.x2 = tt at *
      obtain ⟨k, k1, k2, k3⟩ := c
      by_cases e0 : k = 0
      · subst e0
        have HO2 := hide (HO.out.trans (clueOk2_0 _ _ _ _ _ _))
        clear HO
        cases nn
        · go_wp2_with fail
          go_ret
          exact ⟨ret_bool HO2.out.symm, HB.out⟩
        · go_wp2_with fail
          refine (HI.out _ _ _ _).mono ?_; rintro e w' ⟨rfl, rfl⟩
          go_wp2_with fail
          go_ret
          exact ⟨ret_bool (by rw [HO2.out]; simp), HB.out⟩
      · by_cases e3 : k = 3
        · subst e3
          have HO2 := hide (HO.out.trans (clueOk2_3 _ _ _ _ _ _))
          clear HO
          cases nn
          · go_wp2_with fail
            go_ret
            exact ⟨ret_bool HO2.out.symm, HB.out⟩
          · go_wp2_with fail
            refine (HI.out _ _ _ _).mono ?_; rintro e w' ⟨rfl, rfl⟩
            go_wp2_with fail
            go_ret
            exact ⟨ret_bool (by rw [HO2.out]; simp), HB.out⟩
        · by_cases e1 : k = 1
          · subst e1
            have HO2 := hide (HO.out.trans (clueOk2_1 _ _ _ _ _ _))
            clear HO
            cases tt
            · go_wp2_with fail
              go_ret
              exact ⟨ret_bool HO2.out.symm, HB.out⟩
            · go_wp2_with fail
              refine (HI.out _ _ _ _).mono ?_; rintro e w' ⟨rfl, rfl⟩
              go_wp2_with fail
              go_ret
              exact ⟨ret_bool (by rw [HO2.out]; simp), HB.out⟩
          · by_cases e2 : k = 2
            · subst e2
              have HO2 := hide (HO.out.trans (clueOk2_2 _ _ _ _ _ _))
              clear HO
              cases hA : decide (0 ≤ k1 ∧ k1 ≤ 5)
              · have HA := hide hA
                rw [hA] at HO2
                clear hA
                go_wp2_with fail
                refine (HI.out _ _ _ _).mono ?_; rintro e w' ⟨rfl, rfl⟩; rw [HA.out]
                go_wp2_with fail
                go_ret
                exact ⟨ret_bool HO2.out.symm, HB.out⟩
              · have HA := hide hA
                rw [hA] at HO2
                clear hA
                by_cases hz : k2 = 0
                · subst hz
                  go_wp2_with fail
                  refine (HI.out _ _ _ _).mono ?_; rintro e w' ⟨rfl, rfl⟩; rw [HA.out]
                  go_wp2_with fail
                  refine (HI.out _ _ _ _).mono ?_; rintro e w' ⟨rfl, rfl⟩
                  go_wp2_with fail
                  go_ret
                  exact ⟨ret_bool (by rw [HO2.out]; simp), HB.out⟩
                · have HZ := hide hz
                  go_wp2_with fail
                  refine (HI.out _ _ _ _).mono ?_; rintro e w' ⟨rfl, rfl⟩; rw [HA.out]
                  go_wp2_with fail
                  go_ret
                  exact ⟨ret_bool (by rw [HO2.out]; simp [HZ.out]), HB.out⟩
            · by_cases e4 : k = 4
              · subst e4
                have HO2 := hide (HO.out.trans (clueOk2_4 _ _ _ _ _ _))
                clear HO
                cases tt
                · go_wp2_with fail
                  go_ret
                  exact ⟨ret_bool HO2.out.symm, HB.out⟩
                · go_wp2_with fail
                  refine (HI.out _ _ _ _).mono ?_; rintro e w' ⟨rfl, rfl⟩
                  go_wp2_with fail
                  go_ret
                  exact ⟨ret_bool (by rw [HO2.out]; simp), HB.out⟩
              · by_cases e5 : k = 5
                · subst e5
                  have HO2 := hide (HO.out.trans (clueOk2_5 _ _ _ _ _ _))
                  clear HO
                  cases nn
                  · go_wp2_with fail
                    go_ret
                    exact ⟨ret_bool HO2.out.symm, HB.out⟩
                  · go_wp2_with fail
                    refine (HI.out _ _ _ _).mono ?_; rintro e w' ⟨rfl, rfl⟩
                    go_wp2_with fail
                    go_ret
                    exact ⟨ret_bool (by rw [HO2.out]; simp), HB.out⟩
                · have HO2 := hide (HO.out.trans (clueOk2_n _ _ _ _ _ _ e0 e3 e1 e2 e4 e5))
                  clear HO
                  go_wp2_with fail
                  go_ret
                  exact ⟨ret_bool HO2.out.symm, HB.out⟩

set_option maxHeartbeats 4000000 in
set_option maxRecDepth 100000 in
theorem pzGood_any (A : Option Addr) (n c B : Nat) (cs : List Cl) (h : Int) (w : World) (hr : Cls w B A n cs) (hB : B ≤ w.heap.size) (hn : n ≤ 17592186044416) :
    Calls Tryd.prog 15 #[.agg #[.int .i64 h, .slice A n c]] w fun e w' => e = .returned (.bool (pzOk h cs)) ∧ Below w.heap.size w w' := by
  obtain rfl := hr.len
  have X0 := hide (Bx.new w 30 (.int .i64 h) (.slice A cs.length c))
  have B0 := hide (show Below w.heap.size w (w.alloc (.cells #[.int .i64 h, .slice A cs.length c] 30)) from (Below.refl _ _).alloc (Nat.le_refl _) _)
  have HH := hide (fun W => pzHeaps_any h W)
  by_cases hh : 2 ≤ h ∧ h ≤ 4
  · have HC := hide (fun cl W => pzClue_any h cl W hh)
    have HD := hide (decide_eq_true hh)
    obtain ⟨hh1, hh2⟩ := hh
    by_cases h6 : cs.length ≤ 6
    · have HP : Hid (pzOk h cs = cluesOk h cs) := hide (by unfold pzOk; rw [decide_eq_true (show 2 ≤ h ∧ h ≤ 4 from ⟨hh1, hh2⟩), decide_eq_true h6]; rfl)
      have h6' : ¬ (6 : Int) < (cs.length : Int) := by omega
      go_enter Tryd.func15, Tryd.ntmps15
      go_wp2_with fail
      refine (HH.out _).mono ?_; rintro e w' ⟨rfl, rfl⟩; rw [HD.out]
      go_wp2_with fail
      go_loopw [18] (fun i wr => ∃ k : Nat, k ≤ cs.length ∧ i = .int .i64 k ∧ Hid (∀ (j : Nat) (hj : j < cs.length), j < k → clueOk h cs[j] = true) ∧ Bx wr w.heap.size 30 (.int .i64 h) (.slice A cs.length c) ∧ Below w.heap.size w wr)
        (fun i _ => cs.length - (intOf i).toNat)
      case atStart => exact ⟨0, Nat.zero_le _, rfl, hide (fun j _ hj => by omega), X0.out, B0.out⟩
      case round =>
        obtain ⟨k, hk, rfl, Hall, X, hb⟩ := hrel
        have hsz := hb.size
        by_cases hlt : k < cs.length
        · obtain ⟨b, off, rfl, hab, hc0, hc1, hc2, hc3⟩ := (hr.below hb hB).at_ hlt hlt
          have HCk := hide (HC.out cs[k])
          have hx0 := (X.alloc (.cells #[.int .i64 cs[k].x0, .int .i64 cs[k].x1, .int .i64 cs[k].x2, .int .i64 cs[k].x3] 44)).c0
          cases ho : clueOk h cs[k]
          · have HN := hide (cluesOk_not k hlt ho)
            rw [ho] at HCk
            clear ho
            go_wp2_with fail
            refine (HCk.out _).mono ?_; rintro e w2 ⟨rfl, hb2⟩
            have HB2 := hide (hb.trans (((Below.refl _ wr).alloc (Nat.le_refl _) _).trans (hb2.mono (by simp)) |>.mono hsz))
            clear hb2
            go_wp2_with fail
            go_ret
            exact ⟨ret_bool (by rw [HP.out, HN.out]), HB2.out⟩
          · rw [ho] at HCk
            have HO := hide ho
            clear ho
            go_wp2_with fail
            refine (HCk.out _).mono ?_; rintro e w2 ⟨rfl, hb2⟩
            have HB2 := hide (hb.trans (((Below.refl _ wr).alloc (Nat.le_refl _) _).trans (hb2.mono (by simp)) |>.mono hsz))
            have HX2 := hide ((X.alloc _).next hb2)
            clear hb2
            go_wp2_with fail
            go_roundw
            case rel => exact ⟨k + 1, by omega, by go_num, hide (fun j hj hjk => if e : j = k then by subst e; exact HO.out else Hall.out j hj (by omega)), HX2.out, HB2.out⟩
            case measure => simp [intOf]; omega
        · have HY := hide (cluesOk_of (h := h) (cs := cs) (fun j hj => Hall.out j hj (by omega)))
          go_wp2_with fail
          go_ret
          exact ⟨ret_bool (by rw [HP.out, HY.out]), hb⟩
    · have HP : Hid (pzOk h cs = false) := hide (by unfold pzOk; rw [decide_eq_false h6]; simp)
      have h6' : (6 : Int) < (cs.length : Int) := by omega
      go_enter Tryd.func15, Tryd.ntmps15
      go_wp2_with fail
      refine (HH.out _).mono ?_; rintro e w' ⟨rfl, rfl⟩; rw [HD.out]
      go_wp2_with fail
      go_ret
      exact ⟨ret_bool HP.out.symm, B0.out⟩
  · have HP : Hid (pzOk h cs = false) := hide (by unfold pzOk; rw [decide_eq_false hh]; rfl)
    have HD := hide (decide_eq_false hh)
    clear hh
    go_enter Tryd.func15, Tryd.ntmps15
    go_wp2_with fail
    refine (HH.out _).mono ?_; rintro e w' ⟨rfl, rfl⟩; rw [HD.out]
    go_wp2_with fail
    go_ret
    exact ⟨ret_bool HP.out.symm, B0.out⟩

end Go.Proofs.YtmjlfmlbmegheaaDoor
