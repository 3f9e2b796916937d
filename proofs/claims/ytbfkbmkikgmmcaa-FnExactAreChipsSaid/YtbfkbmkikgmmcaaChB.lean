
/-
  CLASSES AND CHIPS THAT COME AGAIN, BOTH WAYS: ClassOfChips, AreSameClass, DoComeAgain.
-/
import Derived.Test.YtbfkbmkikgmmcaaCh
namespace Go.Proofs.Ytbfkbmkikgmmcaa
open Go.RowKit Go.Deep

/-- The model's ClassOfChips. -/
theorem specClassOfChips_any (A : Option Addr) (n c B : Nat) (zs : List Int) (w : World) (hr : Ints w B A n zs) (hn : n ≤ 17592186044416) :
    Calls Try.prog 15 #[.slice A n c] w fun e w' => e = .returned (.tuple #[.int .i64 (classN zs), .bool (hgood zs)]) ∧ w = w' := by
  obtain rfl := hr.len
  cases hg : hgood zs
  · have H1 := hide (classN_no hg)
    have hgb : hgood zs = false := hg
    go_enter Try.func15, Try.ntmps15
    go_wp2_with fail
    refine (chGood_any _ _ _ _ _ _ hr hn).mono ?_; rintro e w' ⟨rfl, rfl⟩; rw [hgb]
    go_wp2_with fail
    go_ret2
    exact ⟨by rw [H1.out]; rfl, rfl⟩
  · have H1 := hide (classN_yes hg)
    have hgb : hgood zs = true := hg
    go_enter Try.func15, Try.ntmps15
    go_wp2_with fail
    refine (chGood_any _ _ _ _ _ _ hr hn).mono ?_; rintro e w' ⟨rfl, rfl⟩; rw [hgb]
    go_wp2_with fail
    refine (chClass_any _ _ _ _ _ _ hr hgb).mono ?_; rintro e w' ⟨rfl, rfl⟩
    go_wp2_with fail
    go_ret2
    exact ⟨by rw [H1.out]; rfl, rfl⟩

/-- The program's ClassOfChips. -/
theorem ClassOfChips_any (A : Option Addr) (n c B : Nat) (zs : List Int) (w : World) (hr : Ints w B A n zs) (hn : n ≤ 17592186044416) :
    Calls Try.prog 16 #[.slice A n c] w fun e w' => e = .returned (.tuple #[.int .i64 (classN zs), .bool (hgood zs)]) ∧ w = w' := by
  obtain rfl := hr.len
  cases hg : hgood zs
  · have H1 := hide (classN_no hg)
    have hgb : hgood zs = false := hg
    go_enter Try.func16, Try.ntmps16
    go_wp2_with fail
    refine (AreChips_any _ _ _ _ _ _ hr hn).mono ?_; rintro e w' ⟨rfl, rfl⟩; rw [hgb]
    go_wp2_with fail
    go_ret2
    exact ⟨by rw [H1.out]; rfl, rfl⟩
  · have H1 := hide (classN_yes hg)
    have HG := hide hg
    have hAC := hide (AreChips_any A zs.length c B zs w hr hn)
    obtain ⟨hg1, hg2, _⟩ := hgood_of hg
    clear hg
    go_enter Try.func16, Try.ntmps16
    go_wp2_with fail
    refine hAC.out.mono ?_; rintro e w' ⟨rfl, rfl⟩; rw [HG.out]
    clear hAC
    go_wp2_with fail
    go_loop [4, 12] (fun s i => ∃ k : Nat, k ≤ zs.length ∧ i = .int .i64 k ∧ s = .int .i64 (csumTo zs k))
      (fun _ i => zs.length - (intOf i).toNat)
    case atStart => exact ⟨0, Nat.zero_le _, rfl, rfl⟩
    case round =>
      obtain ⟨k, hk, rfl, rfl⟩ := hrel
      have hs := csumTo_bd HG.out k hk
      by_cases hlt : k < zs.length
      · have hs2 := csumTo_bd HG.out (k + 1) (by omega)
        have Hs := hide (show csumTo zs (k + 1) = csumTo zs k + zs.getD k 0 * ((k : Int) + 1) from rfl)
        have hk2 := hgood_getD HG.out k hlt
        obtain ⟨ad, rfl, hab, hcell⟩ := hr.at_ hlt
        rw [Hs.out] at hs2
        have hp1 : 0 ≤ zs.getD k 0 * ((k : Int) + 1) := Int.mul_nonneg hk2.1 (by omega)
        generalize zs.getD k 0 = a at *
        generalize csumTo zs k = b at *
        go_wp2
        go_round
        case rel => exact ⟨k + 1, by omega, by go_num, by rw [Hs.out]⟩
        case measure => simp [intOf]; omega
      · obtain rfl : k = zs.length := by omega
        have hc : clsOf zs = csumTo zs zs.length % ((zs.length : Int) + 1) := rfl
        have HC := hide hc
        clear hc
        generalize csumTo zs zs.length = b at *
        go_wp2
        go_ret2
        exact ⟨by rw [H1.out, HC.out]; rfl, rfl⟩

theorem hboth_of {zs ys : List Int} (h : hboth zs ys = true) : hgood zs = true ∧ hgood ys = true ∧ zs.length = ys.length := by
  unfold hboth at h; simpa [and_assoc] using h
/-- The model's chBoth. -/
theorem chBoth_any (A A' : Option Addr) (n c n' c' B B' : Nat) (zs ys : List Int) (w : World) (hr : Ints w B A n zs) (hr' : Ints w B' A' n' ys) (hn : n ≤ 17592186044416) (hn' : n' ≤ 17592186044416) :
    Calls Try.prog 33 #[.slice A n c, .slice A' n' c'] w fun e w' => e = .returned (.bool (hboth zs ys)) ∧ w = w' := by
  have hl1 := hr.len
  have hl2 := hr'.len
  cases hg : hgood zs
  · have H1 := hide (show hboth zs ys = false from by unfold hboth; simp [hg])
    go_enter Try.func33, Try.ntmps33
    go_wp2_with fail
    refine (chGood_any _ _ _ _ _ _ hr hn).mono ?_; rintro e w' ⟨rfl, rfl⟩; rw [hg]
    go_wp2_with fail
    go_ret
    exact ⟨by rw [H1.out]; rfl, rfl⟩
  · cases hh : hgood ys
    · have H1 := hide (show hboth zs ys = false from by unfold hboth; simp [hh])
      go_enter Try.func33, Try.ntmps33
      go_wp2_with fail
      refine (chGood_any _ _ _ _ _ _ hr hn).mono ?_; rintro e w' ⟨rfl, rfl⟩; rw [hg]
      go_wp2_with fail
      refine (chGood_any _ _ _ _ _ _ hr' hn').mono ?_; rintro e w' ⟨rfl, rfl⟩; rw [hh]
      go_wp2_with fail
      go_ret
      exact ⟨by rw [H1.out]; rfl, rfl⟩
    · by_cases hl : n = n'
      · subst hl
        have H1 := hide (show hboth zs ys = true from by unfold hboth; rw [hg, hh, show zs.length = ys.length from by omega]; simp)
        clear hl1 hl2
        go_enter Try.func33, Try.ntmps33
        go_wp2_with fail
        refine (chGood_any _ _ _ _ _ _ hr hn).mono ?_; rintro e w' ⟨rfl, rfl⟩; rw [hg]
        go_wp2_with fail
        refine (chGood_any _ _ _ _ _ _ hr' hn').mono ?_; rintro e w' ⟨rfl, rfl⟩; rw [hh]
        go_wp2_with fail
        go_ret
        exact ⟨by rw [H1.out]; rfl, rfl⟩
      · have H1 := hide (show hboth zs ys = false from by unfold hboth; rw [decide_eq_false (show ¬ zs.length = ys.length from by omega)]; simp)
        have hl3 : ((n : Int) == (n' : Int)) = false := by simp; omega
        clear hl1 hl2
        go_enter Try.func33, Try.ntmps33
        go_wp2_with fail
        refine (chGood_any _ _ _ _ _ _ hr hn).mono ?_; rintro e w' ⟨rfl, rfl⟩; rw [hg]
        go_wp2_with fail
        refine (chGood_any _ _ _ _ _ _ hr' hn').mono ?_; rintro e w' ⟨rfl, rfl⟩; rw [hh]
        go_wp2_with fail
        go_ret
        exact ⟨by rw [H1.out]; rfl, rfl⟩

/-- The model's AreSameClass. -/
theorem specAreSameClass_any (A A' : Option Addr) (n c n' c' B B' : Nat) (zs ys : List Int) (w : World) (hr : Ints w B A n zs) (hr' : Ints w B' A' n' ys) (hn : n ≤ 17592186044416) (hn' : n' ≤ 17592186044416) :
    Calls Try.prog 17 #[.slice A n c, .slice A' n' c'] w fun e w' => e = .returned (.tuple #[.bool (sameN zs ys), .bool (hboth zs ys)]) ∧ w = w' := by
  obtain rfl := hr.len
  obtain rfl := hr'.len
  cases hg : hboth zs ys
  · have H1 := hide (show sameN zs ys = false from by unfold sameN; simp [hg])
    go_enter Try.func17, Try.ntmps17
    go_wp2_with fail
    refine (chBoth_any _ _ _ _ _ _ _ _ _ _ _ hr hr' hn hn').mono ?_; rintro e w' ⟨rfl, rfl⟩; rw [hg]
    go_wp2_with fail
    go_ret2
    exact ⟨by rw [H1.out]; rfl, rfl⟩
  · have H1 := hide (show sameN zs ys = (clsOf zs == clsOf ys) from by unfold sameN; rw [hg, Bool.true_and])
    obtain ⟨h1, h2, -⟩ := hboth_of hg
    have K1 := hide (chClass_any A zs.length c B zs w hr h1)
    have K2 := hide (chClass_any A' ys.length c' B' ys w hr' h2)
    have KB := hide (chBoth_any A A' zs.length c ys.length c' B B' zs ys w hr hr' hn hn')
    generalize sameN zs ys = sn at *
    generalize clsOf zs = ca at *
    generalize clsOf ys = cb at *
    go_enter Try.func17, Try.ntmps17
    go_wp2_with fail
    refine (chBoth_any _ _ _ _ _ _ _ _ _ _ _ hr hr' hn hn').mono ?_; rintro e w' ⟨rfl, rfl⟩; rw [hg]
    go_wp2_with fail
    refine K1.out.mono ?_; rintro e w' ⟨rfl, rfl⟩
    go_wp2_with fail
    refine K2.out.mono ?_; rintro e w' ⟨rfl, rfl⟩
    go_wp2_with fail
    go_ret2
    exact ⟨by rw [H1.out]; rfl, rfl⟩

/-- The program's AreSameClass. -/
theorem AreSameClass_any (A A' : Option Addr) (n c n' c' B B' : Nat) (zs ys : List Int) (w : World) (hr : Ints w B A n zs) (hr' : Ints w B' A' n' ys) (hn : n ≤ 17592186044416) (hn' : n' ≤ 17592186044416) :
    Calls Try.prog 18 #[.slice A n c, .slice A' n' c'] w fun e w' => e = .returned (.tuple #[.bool (sameN zs ys), .bool (hboth zs ys)]) ∧ w = w' := by
  have hl1 := hr.len
  have hl2 := hr'.len
  have K1 := hide (ClassOfChips_any A n c B zs w hr hn)
  have K2 := hide (ClassOfChips_any A' n' c' B' ys w hr' hn')
  cases hg : hgood zs
  · have H1 := hide (show hboth zs ys = false from by unfold hboth; simp [hg])
    have H2 := hide (show sameN zs ys = false from by unfold sameN; simp [H1.out])
    go_enter Try.func18, Try.ntmps18
    go_wp2_with fail
    refine K1.out.mono ?_; rintro e w' ⟨rfl, rfl⟩; rw [hg]
    go_wp2_with fail
    refine K2.out.mono ?_; rintro e w' ⟨rfl, rfl⟩
    go_wp2_with fail
    go_ret2
    exact ⟨by rw [H1.out, H2.out]; rfl, rfl⟩
  · cases hh : hgood ys
    · have H1 := hide (show hboth zs ys = false from by unfold hboth; simp [hh])
      have H2 := hide (show sameN zs ys = false from by unfold sameN; simp [H1.out])
      go_enter Try.func18, Try.ntmps18
      go_wp2_with fail
      refine K1.out.mono ?_; rintro e w' ⟨rfl, rfl⟩; rw [hg]
      go_wp2_with fail
      refine K2.out.mono ?_; rintro e w' ⟨rfl, rfl⟩; rw [hh]
      go_wp2_with fail
      go_ret2
      exact ⟨by rw [H1.out, H2.out]; rfl, rfl⟩
    · by_cases hl : n = n'
      · subst hl
        have H1 := hide (show hboth zs ys = true from by unfold hboth; rw [hg, hh, show zs.length = ys.length from by omega]; simp)
        have H2 := hide (show sameN zs ys = (clsOf zs == clsOf ys) from by unfold sameN; rw [H1.out, Bool.true_and])
        have C1 := hide (classN_yes hg)
        have C2 := hide (classN_yes hh)
        clear hl1 hl2
        generalize sameN zs ys = sn at *
        generalize classN zs = na at *
        generalize classN ys = nb at *
        generalize clsOf zs = ca at *
        generalize clsOf ys = cb at *
        go_enter Try.func18, Try.ntmps18
        go_wp2_with fail
        refine K1.out.mono ?_; rintro e w' ⟨rfl, rfl⟩; rw [hg, C1.out]
        go_wp2_with fail
        refine K2.out.mono ?_; rintro e w' ⟨rfl, rfl⟩; rw [hh, C2.out]
        go_wp2_with fail
        go_ret2
        exact ⟨by rw [H1.out, H2.out]; rfl, rfl⟩
      · have H1 := hide (show hboth zs ys = false from by unfold hboth; rw [decide_eq_false (show ¬ zs.length = ys.length from by omega)]; simp)
        have H2 := hide (show sameN zs ys = false from by unfold sameN; simp [H1.out])
        have hl3 : ¬ ((n : Int) = (n' : Int)) := by omega
        clear hl1 hl2
        generalize classN zs = na at *
        generalize classN ys = nb at *
        go_enter Try.func18, Try.ntmps18
        go_wp2_with fail
        refine K1.out.mono ?_; rintro e w' ⟨rfl, rfl⟩; rw [hg]
        go_wp2_with fail
        refine K2.out.mono ?_; rintro e w' ⟨rfl, rfl⟩; rw [hh]
        go_wp2_with fail
        go_ret2
        exact ⟨by rw [H1.out, H2.out]; rfl, rfl⟩

/-- The model's chComes. -/
theorem chComes_any (A : Option Addr) (n c B : Nat) (zs : List Int) (w : World) (hr : Ints w B A n zs) (hg : hgood zs = true) :
    Calls Try.prog 34 #[.slice A n c] w fun e w' => e = .returned (.bool (comes zs)) ∧ w = w' := by
  obtain rfl := hr.len
  obtain ⟨hg1, hg2, _⟩ := hgood_of hg
  have HG := hide hg
  clear hg
  go_enter Try.func34, Try.ntmps34
  go_wp2
  go_loop [3, 8] (fun s i => ∃ k : Nat, k ≤ zs.length ∧ i = .int .i64 k ∧ s = .int .i64 (noneTo zs k : Int) ∧ ∀ j : Nat, j < k → zs.getD j 0 ≤ 1)
    (fun _ i => zs.length - (intOf i).toNat)
  case atStart => exact ⟨0, Nat.zero_le _, rfl, rfl, fun j hj => by omega⟩
  case round =>
    obtain ⟨k, hk, rfl, rfl, hall⟩ := hrel
    have HA := hide hall
    clear hall
    have hs := noneTo_bd zs k
    by_cases hlt : k < zs.length
    · have hk2 := hgood_getD HG.out k hlt
      have HN := hide (comes_no (zs := zs) k hlt)
      have HY := hide (noneTo_yes zs k)
      have HO := hide (noneTo_no zs k)
      have HS := hide (show zs.getD k 0 ≤ 1 → ∀ j : Nat, j < k + 1 → zs.getD j 0 ≤ 1 from fun h j hj => by
        by_cases e : j = k
        · rw [e]; exact h
        · exact HA.out j (by omega))
      obtain ⟨ad, rfl, hab, hcell⟩ := hr.at_ hlt
      generalize zs.getD k 0 = a at *
      by_cases h1 : 1 < a
      · go_wp2
        go_ret
        exact ⟨by rw [HN.out h1]; rfl, rfl⟩
      · by_cases h0 : a = 0
        · subst h0
          go_wp2
          go_round
          case rel => exact ⟨k + 1, by omega, by go_num, by rw [HY.out rfl]; push_cast; rfl, HS.out (by omega)⟩
          case measure => simp [intOf]; omega
        · go_wp2
          go_round
          case rel => exact ⟨k + 1, by omega, by go_num, by rw [HO.out h0], HS.out (by omega)⟩
          case measure => simp [intOf]; omega
    · obtain rfl : k = zs.length := by omega
      have HC := hide (show comes zs = decide ((noneTo zs zs.length : Int) < 2) from by
        unfold comes
        rw [rested_of HA.out, Bool.true_and]
        apply decide_eq_decide.2
        omega)
      generalize noneTo zs zs.length = b at *
      go_wp2
      go_ret
      exact ⟨by rw [HC.out]; rfl, rfl⟩

/-- The model's DoComeAgain. -/
theorem specDoComeAgain_any (A : Option Addr) (n c B : Nat) (zs : List Int) (w : World) (hr : Ints w B A n zs) (hn : n ≤ 17592186044416) :
    Calls Try.prog 19 #[.slice A n c] w fun e w' => e = .returned (.tuple #[.bool (comesN zs), .bool (hgood zs)]) ∧ w = w' := by
  obtain rfl := hr.len
  cases hg : hgood zs
  · have H1 := hide (comesN_no hg)
    have hgb : hgood zs = false := hg
    go_enter Try.func19, Try.ntmps19
    go_wp2_with fail
    refine (chGood_any _ _ _ _ _ _ hr hn).mono ?_; rintro e w' ⟨rfl, rfl⟩; rw [hgb]
    go_wp2_with fail
    go_ret2
    exact ⟨by rw [H1.out]; rfl, rfl⟩
  · have H1 := hide (comesN_yes hg)
    have hgb : hgood zs = true := hg
    go_enter Try.func19, Try.ntmps19
    go_wp2_with fail
    refine (chGood_any _ _ _ _ _ _ hr hn).mono ?_; rintro e w' ⟨rfl, rfl⟩; rw [hgb]
    go_wp2_with fail
    refine (chComes_any _ _ _ _ _ _ hr hgb).mono ?_; rintro e w' ⟨rfl, rfl⟩
    go_wp2_with fail
    go_ret2
    exact ⟨by rw [H1.out]; rfl, rfl⟩
end Go.Proofs.Ytbfkbmkikgmmcaa
