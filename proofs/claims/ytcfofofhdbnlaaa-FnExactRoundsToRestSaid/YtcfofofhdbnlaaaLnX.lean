
/-
  THE MODEL'S FireInOrder.
-/
import Derived.Test.YtcfofofhdbnlaaaLnU
namespace Go.Proofs.Ytcfofofhdbnlaaa
open Go.RowKit Go.Deep
set_option linter.unusedVariables false

theorem chips_once {zs ts : List Int} {p : Nat} (h : ts.length = zs.length) (hp : p < zs.length) : chipsOf (chipsOf zs ts) (once zs.length p) = chipsOf zs (more ts p 1) := by
  rw [chipsOf_chipsOf zs ts _ h (once_length _ _), ← h, plus_once ts p (by omega)]

set_option maxRecDepth 100000 in
theorem specFireInOrder_any (A A' : Option Addr) (n c n' c' B B' : Nat) (zs os : List Int) (w : World) (hr : Ints w B A n zs) (hr' : Ints w B' A' n' os) (hB : B ≤ w.heap.size) (hB' : B' ≤ w.heap.size) (hn : n ≤ 17592186044416) (hn' : n' ≤ 17592186044416) :
    Calls Try.prog 17 #[.slice A n c, .slice A' n' c'] w (MadeR (ordR zs os) (ordOk zs os) w) := by
  obtain rfl := hr.len
  obtain rfl := hr'.len
  have HA := hide (chGood_any A zs.length c B zs w hr hn)
  cases hg : hgood zs
  · have e := orderF_no (zs := zs) (os := os) (by rw [hg]; simp)
    rw [(ordR_none e).1, (ordR_none e).2]
    rw [hg] at HA
    clear hg e
    go_enter Try.func17, Try.ntmps17
    go_wp2_with fail
    refine HA.out.mono ?_; rintro e w' ⟨rfl, rfl⟩
    go_wp2_with fail
    go_ret2
    exact madeR_none (Below.refl _ _)
  · rw [hg] at HA
    by_cases ho : os.length ≤ 100
    · obtain ⟨h1, h20, _⟩ := hgood_of hg
      have HG := hide hg
      have HO := hide (orderF_yes hg ho)
      have hoi : ¬ (100 < (os.length : Int)) := by omega
      have hoL := hide ho
      have HC := hide (l1Own_any A zs.length c B zs w hr hB (by omega) (by omega))
      have H1 := hide (fun p (hp : p < zs.length) W => chOnce_any zs.length p W hp h20)
      clear hg ho
      go_enter Try.func17, Try.ntmps17
      go_wp2_with fail
      refine HA.out.mono ?_; rintro e w' ⟨rfl, rfl⟩
      go_wp2_with fail
      refine HC.out.mono ?_
      rintro e w1 ⟨g, c1, rfl, hg1, hg2, hc1, hc2, hown, hb1⟩
      have HOW := hide hown
      have HB1 := hide hb1
      have s1 := hb1.size
      clear hown hb1 hg1 hg2 hc1 hc2
      go_wp2_with fail
      have hn0 := hide (noF_length zs.length)
      have hfirst := hide (show chipsOf zs (noF zs.length) = zs from chipsOf_noF zs _)
      clear HC HA
      go_loopw [6, 21] (fun v i wr => ∃ (k : Nat) (ts : List Int), k ≤ os.length ∧ i = .int .i64 k ∧ ts.length = zs.length ∧ upto ts (k : Int) ∧ runF zs (noF zs.length) os = runF zs ts (os.drop k) ∧
          Own wr w.heap.size 3 v (chipsOf zs ts) ∧ Below w.heap.size w wr)
        (fun _ i _ => os.length - (intOf i).toNat)
      case atStart => exact ⟨0, noF zs.length, Nat.zero_le _, rfl, hn0.out, upto_noF _ _ (Int.le_refl _), by rw [List.drop_zero], by rw [hfirst.out]; exact HOW.out, HB1.out⟩
      case round =>
        obtain ⟨k, ts, hk, rfl, htl, hup, hrun, hownr, hbr⟩ := hrel
        have HL := hide (chipsOf_length zs ts)
        obtain ⟨A2, c2, hv, hc3, hc4⟩ := hownr.shape
        rw [HL.out] at hv hc3
        subst hv
        have hI2 := hownr.ints
        rw [HL.out] at hI2
        have HOr := hide hownr
        have HBr := hide hbr
        have HT := hide htl
        have HU := hide hup
        have HRun := hide hrun
        have sr := hbr.size
        clear htl hup hrun hownr
        by_cases hlt : k < os.length
        · obtain ⟨ad, rfl, hab, hcell⟩ := (hr'.below hbr hB').at_ hlt
          have HD := hide (runF_drop (zs := zs) (ts := ts) hlt)
          generalize os.getD k 0 = p at *
          clear hbr
          by_cases hp : 0 ≤ p ∧ p ≤ (zs.length : Int) - 1
          · have d1 : decide ((0 : Int) ≤ p ∧ p ≤ (zs.length : Int) - 1) = true := by simpa using hp
            obtain ⟨j, rfl⟩ := Int.eq_ofNat_of_zero_le hp.1
            have hj : j < zs.length := by omega
            obtain ⟨ad2, rfl, _, hc5⟩ := hI2.at_ hj
            rw [chipsOf_getD _ _ _ hj] at hc5
            have hab2 := ableAt_yes (zs := zs) (ts := ts) hj
            by_cases h2 : 2 ≤ rowAt zs ts (j + 1)
            · have ha : ableAt zs ts (j : Int) = true := by rw [hab2, decide_eq_true h2]
              have hjt : j < ts.length := by rw [HT.out]; exact hj
              have HE := hide (show runF zs (noF zs.length) os = runF zs (more ts j 1) (os.drop (k + 1)) from by rw [HRun.out, HD.out, runF_yes ha, Int.toNat_natCast])
              have HU2 := hide (upto_more HU.out j hjt)
              have HT2 := hide (show (more ts j 1).length = zs.length from by rw [more_length]; exact HT.out)
              have hz2 : ∀ q : Nat, -1000000000 ≤ (chipsOf zs ts).getD q 0 ∧ (chipsOf zs ts).getD q 0 ≤ 1000000000 := fun q => by
                by_cases hq : q < zs.length
                · rw [chipsOf_getD _ _ _ hq]
                  have := rowAt_bd HG.out HU.out (q + 1)
                  have := hoL.out
                  omega
                · rw [getD_over _ _ (by rw [HL.out]; omega)]; omega
              have hu1 := once_upto zs.length j hj
              have HF := hide (fun A' c' B' W (hW : Ints W wr.heap.size (some ad2) zs.length (chipsOf zs ts)) (hT : Ints W B' A' zs.length (once zs.length j)) h3 h4 => chFire_any (some ad2) A' zs.length c2 c' wr.heap.size B' (chipsOf zs ts) (once zs.length j) W hW hT h3 h4 (by omega) h20 hz2 (small_of hu1 (by omega)))
              rw [chips_once HT.out hj] at HF
              have HOL := hide (once_length zs.length j)
              have H1j := hide (H1.out j hj)
              have HL2 := hide (chipsOf_length zs (more ts j 1))
              clear hz2 hu1 ha hab2 hjt
              generalize rowAt zs ts (j + 1) = x at *
              go_wp2_with fail
              refine (l1In_any _ _ _ _).mono ?_; rintro e w' ⟨rfl, rfl⟩; rw [d1]
              go_wp2_with fail
              refine (H1j.out _).mono ?_
              rintro e w5 ⟨g5, c5, rfl, _, _, hc6, _, hown5, hb5⟩
              rw [HOL.out]
              have hT5 := hown5.ints
              rw [HOL.out] at hT5
              have hI5 := hI2.below hb5 (Nat.le_refl _)
              have s5 := hb5.size
              go_wp2_with fail
              refine (HF.out _ c5 _ _ hI5 hT5 s5 (Nat.le_refl _)).mono ?_
              rintro e w6 ⟨g6, c6, rfl, _, _, hc7, hc8, hown6, hb6⟩
              rw [HL2.out]
              have HO6 := hide (hown6.less (Nat.le_trans sr s5))
              rw [HL2.out] at HO6
              have HB6 := hide (HBr.out.trans ((below_next hb5 hb6).mono sr))
              clear hown6 hb6 hown5 hb5
              go_wp2_with fail
              go_roundw
              case rel => exact ⟨k + 1, more ts j 1, by omega, by go_num, HT2.out, by push_cast; exact HU2.out, HE.out, HO6.out, HB6.out⟩
              case measure => simp [intOf]; omega
            · have ha : ableAt zs ts (j : Int) = false := by rw [hab2, decide_eq_false h2]
              have HE := hide (show runF zs (noF zs.length) os = none from by rw [HRun.out, HD.out]; exact runF_no ha)
              have HN := hide (ordR_none (HO.out.trans HE.out))
              clear ha hab2
              generalize rowAt zs ts (j + 1) = x at *
              go_wp2_with fail
              refine (l1In_any _ _ _ _).mono ?_; rintro e w' ⟨rfl, rfl⟩; rw [d1]
              go_wp2_with fail
              go_ret2
              rw [HN.out.1, HN.out.2]
              exact madeR_none HBr.out
          · have d1 : decide ((0 : Int) ≤ p ∧ p ≤ (zs.length : Int) - 1) = false := by rw [decide_eq_false_iff_not]; exact hp
            have ha : ableAt zs ts p = false := ableAt_no (by unfold isAt; rw [decide_eq_false_iff_not]; omega)
            have HE := hide (show runF zs (noF zs.length) os = none from by rw [HRun.out, HD.out]; exact runF_no ha)
            have HN := hide (ordR_none (HO.out.trans HE.out))
            clear ha hp
            go_wp2_with fail
            refine (l1In_any _ _ _ _).mono ?_; rintro e w' ⟨rfl, rfl⟩; rw [d1]
            go_wp2_with fail
            go_ret2
            rw [HN.out.1, HN.out.2]
            exact madeR_none HBr.out
        · have HE := hide (show runF zs (noF zs.length) os = some ts from by rw [HRun.out, List.drop_eq_nil_of_le (by omega), runF_nil])
          have HN := hide (ordR_some (HO.out.trans HE.out))
          clear hbr
          go_wp2_with fail
          go_ret2
          rw [HN.out.1, HN.out.2]
          exact ⟨A2, c2, by rw [HL.out]; rfl, by rw [HL.out]; exact hc3, hc4, by rw [HL.out]; have := HOr.out; exact this, HBr.out⟩
    · have e := orderF_no (zs := zs) (os := os) (fun h => ho h.2)
      have hoi : 100 < (os.length : Int) := by omega
      rw [(ordR_none e).1, (ordR_none e).2]
      clear hg e ho
      go_enter Try.func17, Try.ntmps17
      go_wp2_with fail
      refine HA.out.mono ?_; rintro e w' ⟨rfl, rfl⟩
      go_wp2_with fail
      go_ret2
      exact madeR_none (Below.refl _ _)
end Go.Proofs.Ytcfofofhdbnlaaa
