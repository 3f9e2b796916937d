
/-
  CANDIES, BOTH WAYS, THE SECOND PART: the model's cyStep, l1Same, cyRest; slices.Min, slices.Max, isLevel, isAtRest; MadeEven, IsResting.
-/
import Derived.Test.YtakddglhjebgcaaCy
import Derived.Test.YtakddglhjebgcaaFlows
namespace Go.Proofs.Ytakddglhjebgcaa
open Go.RowKit Go.Deep

theorem calm_evens {zs : List Int} {b : Int} (hb : b ≤ 999999) (h : within 0 b zs = true) : calm (evens zs) = true := within_of fun k hk => by
  have := within_get (evens_within h) k hk
  omega

/-- The model's cyStep. -/
theorem cyStep_any (A : Option Addr) (n c B : Nat) (zs : List Int) (w : World) (hr : Ints w B A n zs) (hB : B ≤ w.heap.size) (h0 : 0 < n) (hn : n < 1000000) (hc : within 0 999999 zs = true) :
    Calls Try.prog 36 #[.slice A n c] w (Made1 (cstep zs) w) := by
  have HC := hide (calm_evens (Int.le_refl _) hc)
  have HC0 := hide (show calm zs = true from within_of fun k hk => by have := within_get hc k hk; omega)
  have HL := hide (evens_length zs)
  obtain rfl := hr.len
  clear hc
  go_enter Try.func36, Try.ntmps36
  go_wp2_with fail
  refine (cyEven_any _ _ _ _ _ _ hr hB h0 hn HC0.out).mono ?_
  rintro e w1 ⟨g, c1, rfl, hg1, hg2, hc1, hc2, hown, hb1⟩
  go_wp2_with fail
  refine (cyPass_any _ _ _ _ _ _ hown.ints (Nat.le_refl _) (by rw [HL.out]; exact h0) (by rw [HL.out]; exact hn) HC.out).mono ?_
  rintro e w2 ⟨g', c2, rfl, hg3, hg4, hc3, hc4, hown2, hb2⟩
  go_wp2_with fail
  go_ret
  have := hb1.size
  have hlen : (pass (evens zs)).length = (cstep zs).length := rfl
  exact ⟨g', c2, rfl, by omega, hg4, hc3, hc4, hown2.less (by omega), below_next hb1 hb2⟩

theorem beq_false_at {zs ys : List Int} (k : Nat) (h1 : k < zs.length) (h2 : k < ys.length) (h : ¬ zs[k] = ys[k]) : (zs == ys) = false := by
  cases hc : zs == ys
  · rfl
  · have e : zs = ys := by simpa using hc
    subst e
    exact absurd rfl h
theorem beq_false_len {zs ys : List Int} (h : zs.length ≠ ys.length) : (zs == ys) = false := by
  cases hc : zs == ys
  · rfl
  · have e : zs = ys := by simpa using hc
    subst e
    exact absurd rfl h
theorem beq_true_of {zs ys : List Int} (hl : zs.length = ys.length) (h : ∀ (k : Nat) (h1 : k < zs.length) (h2 : k < ys.length), zs[k] = ys[k]) : (zs == ys) = true := by
  have e : zs = ys := List.ext_getElem hl h
  simp [e]

/-- The model's l1Same. -/
theorem l1Same_any (A A' : Option Addr) (n n' c c' B B' : Nat) (zs ys : List Int) (w : World) (hr : Ints w B A n zs) (hr' : Ints w B' A' n' ys) (hB : B ≤ w.heap.size) (hB' : B' ≤ w.heap.size) (hn : n ≤ 17592186044416) (hn' : n' ≤ 17592186044416) :
    Calls Try.prog 35 #[.slice A n c, .slice A' n' c'] w fun e w' => e = .returned (.bool (zs == ys)) ∧ Below w.heap.size w w' := by
  obtain rfl := hr.len
  obtain rfl := hr'.len
  by_cases hl : zs.length = ys.length
  · have hne : ((zs.length : Int) != (ys.length : Int)) = false := by simp; omega
    go_enter Try.func35, Try.ntmps35
    go_wp2_with fail
    go_loopw [13] (fun i wr => ∃ k : Nat, k ≤ zs.length ∧ i = .int .i64 k ∧ (∀ (j : Nat) (h1 : j < zs.length) (h2 : j < ys.length), j < k → zs[j] = ys[j]) ∧ Below w.heap.size w wr)
      (fun i _ => zs.length - (intOf i).toNat)
    case atStart => exact ⟨0, Nat.zero_le _, rfl, fun _ _ _ h => absurd h (by omega), Below.refl _ _⟩
    case round =>
      obtain ⟨k, hk, rfl, hall, hb⟩ := hrel
      have Hall := hide hall
      clear hall
      by_cases hlt : k < zs.length
      · have hlt' : k < ys.length := by omega
        obtain ⟨ad, rfl, hab, hcell⟩ := (hr.below hb hB).at_ hlt
        obtain ⟨ad', rfl, hab', hcell'⟩ := (hr'.below hb hB').at_ hlt'
        rw [getD_get hlt] at hcell
        rw [getD_get hlt'] at hcell'
        by_cases he : zs[k] = ys[k]
        · have hnee : (zs[k] != ys[k]) = false := by simp [he]
          have HE := hide (show ∀ (j : Nat) (h1 : j < zs.length) (h2 : j < ys.length), j < k + 1 → zs[j] = ys[j] from
            fun j h1 h2 hj => if e : j = k then by subst e; exact he else Hall.out j h1 h2 (by omega))
          clear he
          generalize zs[k] = z at *
          generalize ys[k] = y at *
          go_wp2_with fail
          go_quiet (fail)
          go_wp2
          go_roundw
          case rel => exact ⟨k + 1, by omega, by go_num, HE.out, below_drewN hb _⟩
          case measure => simp [intOf]; omega
        · have HF := hide (beq_false_at k hlt hlt' he)
          have hnee : (zs[k] != ys[k]) = true := by simpa using he
          clear he
          generalize zs[k] = z at *
          generalize ys[k] = y at *
          go_wp2_with fail
          go_quiet (fail)
          go_wp2
          go_ret
          exact ⟨by rw [HF.out]; rfl, below_drewN hb _⟩
      · go_wp2
        go_ret
        exact ⟨by rw [beq_true_of hl (fun k h1 h2 => Hall.out k h1 h2 (by omega))]; rfl, hb⟩
  · have hne : ((zs.length : Int) != (ys.length : Int)) = true := by simp; omega
    have HF := hide (beq_false_len hl)
    clear hl
    go_enter Try.func35, Try.ntmps35
    go_wp2_with fail
    go_ret
    exact ⟨by rw [HF.out]; rfl, Below.refl _ _⟩

/-- The model's cyRest. -/
theorem cyRest_any (A : Option Addr) (n c B : Nat) (zs : List Int) (w : World) (hr : Ints w B A n zs) (hB : B ≤ w.heap.size) (h0 : 0 < n) (hn : n < 1000000) (hc : within 0 999999 zs = true) :
    Calls Try.prog 26 #[.slice A n c] w fun e w' => e = .returned (.bool (atRest zs)) ∧ Below w.heap.size w w' := by
  have HL := hide (cstep_length zs)
  obtain rfl := hr.len
  have HR := hide (crest_eq h0)
  have HC := hide hc
  clear hc
  go_enter Try.func26, Try.ntmps26
  go_wp2_with fail
  refine (cyStep_any _ _ _ _ _ _ hr hB h0 hn HC.out).mono ?_
  rintro e w1 ⟨g, c1, rfl, hg1, hg2, hc1, hc2, hown, hb1⟩
  go_wp2_with fail
  refine (l1Same_any _ _ _ _ _ _ _ _ _ _ _ hown.ints (hr.below hb1 hB) (Nat.le_refl _) (by have := hb1.size; omega) (by rw [HL.out]; omega) (by omega)).mono ?_
  rintro e w2 ⟨rfl, hb2⟩
  go_wp2_with fail
  go_ret
  exact ⟨by rw [← HR.out]; rfl, below_next hb1 hb2⟩

/-- slices.Max of a list that is not empty. -/
theorem Max_any (A : Option Addr) (n c B : Nat) (zs : List Int) (w : World) (hr : Ints w B A n zs) (h0 : 0 < n) (hn : n < 1000000) :
    Calls Try.prog 41 #[.slice A n c] w fun e w' => e = .returned (.int .i64 (mx zs)) ∧ w = w' := by
  obtain rfl := hr.len
  have H1 := hide (mx_one zs h0)
  obtain ⟨ad, rfl, hab, hcell0⟩ := hr.at_ h0
  rw [getD_get h0, ← H1.out, show ad.add 0 = ad from by simp [Addr.add]] at hcell0
  go_enter Try.func41, Try.ntmps41
  go_wp2
  go_loop [3, 4] (fun m i => ∃ k : Nat, 1 ≤ k ∧ k ≤ zs.length ∧ i = .int .i64 k ∧ m = .int .i64 (mx (zs.take k)))
    (fun _ i => zs.length - (intOf i).toNat)
  case atStart => exact ⟨1, Nat.le_refl _, by omega, rfl, rfl⟩
  case round =>
    obtain ⟨k, hk1, hk, rfl, rfl⟩ := hrel
    by_cases hlt : k < zs.length
    · have Hs := hide (mx_take_succ zs k (by omega) hlt)
      obtain ⟨ad', had, _, hcell⟩ := hr.at_ hlt
      obtain rfl : ad' = ad := by injection had with h; exact h.symm
      clear had
      rw [getD_get hlt] at hcell
      generalize hz : zs[k] = z at *
      clear hz
      generalize mx (zs.take k) = m at *
      clear hcell0
      by_cases hc : m < z
      · have hm : max m z = z := by omega
        go_wp2
        go_round
        case rel => exact ⟨k + 1, by omega, by omega, by go_num, by rw [Hs.out, hm]⟩
        case measure => simp [intOf]; omega
      · have hm : max m z = m := by omega
        go_wp2
        go_round
        case rel => exact ⟨k + 1, by omega, by omega, by go_num, by rw [Hs.out, hm]⟩
        case measure => simp [intOf]; omega
    · go_wp2
      go_ret
      exact ⟨ret_int (by rw [List.take_of_length_le (by omega)]), rfl⟩
/-- slices.Min of a list that is not empty. -/
theorem Min_any (A : Option Addr) (n c B : Nat) (zs : List Int) (w : World) (hr : Ints w B A n zs) (h0 : 0 < n) (hn : n < 1000000) :
    Calls Try.prog 40 #[.slice A n c] w fun e w' => e = .returned (.int .i64 (mn zs)) ∧ w = w' := by
  obtain rfl := hr.len
  have H1 := hide (mn_one zs h0)
  obtain ⟨ad, rfl, hab, hcell0⟩ := hr.at_ h0
  rw [getD_get h0, ← H1.out, show ad.add 0 = ad from by simp [Addr.add]] at hcell0
  go_enter Try.func40, Try.ntmps40
  go_wp2
  go_loop [3, 4] (fun m i => ∃ k : Nat, 1 ≤ k ∧ k ≤ zs.length ∧ i = .int .i64 k ∧ m = .int .i64 (mn (zs.take k)))
    (fun _ i => zs.length - (intOf i).toNat)
  case atStart => exact ⟨1, Nat.le_refl _, by omega, rfl, rfl⟩
  case round =>
    obtain ⟨k, hk1, hk, rfl, rfl⟩ := hrel
    by_cases hlt : k < zs.length
    · have Hs := hide (mn_take_succ zs k (by omega) hlt)
      obtain ⟨ad', had, _, hcell⟩ := hr.at_ hlt
      obtain rfl : ad' = ad := by injection had with h; exact h.symm
      clear had
      rw [getD_get hlt] at hcell
      generalize hz : zs[k] = z at *
      clear hz
      generalize mn (zs.take k) = m at *
      clear hcell0
      by_cases hc : z < m
      · have hm : min m z = z := by omega
        go_wp2
        go_round
        case rel => exact ⟨k + 1, by omega, by omega, by go_num, by rw [Hs.out, hm]⟩
        case measure => simp [intOf]; omega
      · have hm : min m z = m := by omega
        go_wp2
        go_round
        case rel => exact ⟨k + 1, by omega, by omega, by go_num, by rw [Hs.out, hm]⟩
        case measure => simp [intOf]; omega
    · go_wp2
      go_ret
      exact ⟨ret_int (by rw [List.take_of_length_le (by omega)]), rfl⟩

theorem level_eq (zs : List Int) : (mn zs == mx zs) = level zs := rfl
/-- The program's isLevel. -/
theorem isLevel_any (A : Option Addr) (n c B : Nat) (zs : List Int) (w : World) (hr : Ints w B A n zs) (h0 : 0 < n) (hn : n < 1000000) :
    Calls Try.prog 37 #[.slice A n c] w fun e w' => e = .returned (.bool (level zs)) ∧ w = w' := by
  have HL := hide (level_eq zs)
  go_enter Try.func37, Try.ntmps37
  go_wp2_with fail
  refine (Min_any _ _ _ _ _ _ hr h0 hn).mono ?_; rintro e w' ⟨rfl, rfl⟩
  go_wp2_with fail
  refine (Max_any _ _ _ _ _ _ hr h0 hn).mono ?_; rintro e w' ⟨rfl, rfl⟩
  generalize mn zs = a at *
  generalize mx zs = b at *
  go_wp2_with fail
  go_ret
  exact ⟨by rw [← HL.out]; rfl, rfl⟩

/-- The program's isAtRest. -/
theorem isAtRest_any (A : Option Addr) (n c B : Nat) (zs : List Int) (w : World) (hr : Ints w B A n zs) (h0 : 0 < n) (hn : n < 1000000) (hc : calm zs = true) :
    Calls Try.prog 27 #[.slice A n c] w fun e w' => e = .returned (.bool (atRest zs)) ∧ w = w' := by
  obtain rfl := hr.len
  have hcz := calm_get hc 0 h0
  obtain ⟨ad, rfl, hab, hcell⟩ := hr.at_ h0
  rw [getD_get h0, show ad.add 0 = ad from by simp [Addr.add]] at hcell
  have HC := hide hc
  clear hc
  cases hl : level zs
  · have HA := hide (show atRest zs = false by simp [atRest, hl])
    go_enter Try.func27, Try.ntmps27
    go_wp2_with fail
    refine (isLevel_any _ _ _ _ _ _ hr h0 hn).mono ?_; rintro e w' ⟨rfl, rfl⟩; rw [hl]
    go_wp2_with fail
    go_ret
    exact ⟨by rw [HA.out]; rfl, rfl⟩
  · have HA := hide (show atRest zs = (zs[0] % 2 == 0) by simp [atRest, hl, first_get h0])
    generalize hz : zs[0] = z at *
    clear hz
    go_enter Try.func27, Try.ntmps27
    go_wp2_with fail
    refine (isLevel_any _ _ _ _ _ _ hr h0 hn).mono ?_; rintro e w' ⟨rfl, rfl⟩; rw [hl]
    go_wp2_with fail
    go_ret
    exact ⟨by rw [HA.out]; rfl, rfl⟩

/-- What MadeEven tells. -/
def evenR (zs : List Int) : List Int := if cgood zs then evens zs else []
theorem evenR_short (zs : List Int) (h : zs.length ≤ 1048576) : (evenR zs).length ≤ 1048576 := by
  unfold evenR; split
  · rw [evens_length]; exact h
  · simp
theorem good_wide {zs : List Int} (h : cgood zs = true) : within 0 999999 zs = true := within_wide (cgood_of h).2.2 (by omega) (by omega)
theorem made1_R {zs ys : List Int} {w w' : World} {e : Ending} (hl : ys = zs) (h : Made1 zs w e w') : ∃ A c, e = .returned (.slice A ys.length c) ∧ ys.length ≤ c ∧ c ≤ maxLen ∧ Own w' w.heap.size 3 (.slice A ys.length c) ys ∧ Below w.heap.size w w' := by
  subst hl
  obtain ⟨g, c, rfl, _, _, h1, h2, h3, h4⟩ := h
  exact ⟨_, c, rfl, h1, h2, h3, h4⟩

/-- The model's MadeEven. -/
theorem specMadeEven_any (A : Option Addr) (n c B : Nat) (zs : List Int) (w : World) (hr : Ints w B A n zs) (hB : B ≤ w.heap.size) (hn : n ≤ 17592186044416) :
    Calls Try.prog 12 #[.slice A n c] w (MadeR (evenR zs) (cgood zs) w) := by
  obtain rfl := hr.len
  cases hg : cgood zs
  · rw [show evenR zs = [] from by simp [evenR, hg]]
    go_enter Try.func12, Try.ntmps12
    go_wp2_with fail
    refine (cyGood_any _ _ _ _ _ _ hr hn).mono ?_; rintro e w' ⟨rfl, rfl⟩; rw [hg]
    go_wp2_with fail
    go_ret2
    exact madeR_none (Below.refl _ _)
  · rw [show evenR zs = evens zs from by simp [evenR, hg]]
    have hg0 := cgood_of hg
    have HC := hide (calm_of_good hg)
    obtain ⟨hg1, hg2, _⟩ := hg0
    go_enter Try.func12, Try.ntmps12
    go_wp2_with fail
    refine (cyGood_any _ _ _ _ _ _ hr hn).mono ?_; rintro e w' ⟨rfl, rfl⟩; rw [hg]
    go_wp2_with fail
    refine (cyEven_any _ _ _ _ _ _ hr hB (by omega) (by omega) HC.out).mono ?_
    rintro e w1 ⟨g, c1, rfl, _, _, hc1, hc2, hown, hb1⟩
    go_wp2_with fail
    go_ret2
    exact ⟨_, c1, rfl, hc1, hc2, hown, hb1⟩

/-- The program's MadeEven. -/
theorem MadeEven_any (A : Option Addr) (n c B : Nat) (zs : List Int) (w : World) (hr : Ints w B A n zs) (hB : B ≤ w.heap.size) (hn : n ≤ 17592186044416) :
    Calls Try.prog 13 #[.slice A n c] w (MadeR (evenR zs) (cgood zs) w) := by
  obtain rfl := hr.len
  cases hg : cgood zs
  · rw [show evenR zs = [] from by simp [evenR, hg]]
    go_enter Try.func13, Try.ntmps13
    go_wp2_with fail
    refine (AreCandies_any _ _ _ _ _ _ hr hn).mono ?_; rintro e w' ⟨rfl, rfl⟩; rw [hg]
    go_wp2_with fail
    go_ret2
    exact madeR_none (Below.refl _ _)
  · rw [show evenR zs = evens zs from by simp [evenR, hg]]
    have hg0 := cgood_of hg
    have HC := hide (calm_of_good hg)
    obtain ⟨hg1, hg2, _⟩ := hg0
    go_enter Try.func13, Try.ntmps13
    go_wp2_with fail
    refine (AreCandies_any _ _ _ _ _ _ hr hn).mono ?_; rintro e w' ⟨rfl, rfl⟩; rw [hg]
    go_wp2_with fail
    refine (evened_any _ _ _ _ _ _ hr hB (by omega) (by omega) HC.out).mono ?_
    rintro e w1 ⟨g, c1, rfl, _, _, hc1, hc2, hown, hb1⟩
    go_wp2_with fail
    go_ret2
    exact ⟨_, c1, rfl, hc1, hc2, hown, hb1⟩

/-- Are they candies at rest? -/
def restR (zs : List Int) : Bool := cgood zs && atRest zs

/-- The model's IsResting. -/
theorem specIsResting_any (A : Option Addr) (n c B : Nat) (zs : List Int) (w : World) (hr : Ints w B A n zs) (hB : B ≤ w.heap.size) (hn : n ≤ 17592186044416) :
    Calls Try.prog 16 #[.slice A n c] w fun e w' => e = .returned (.tuple #[.bool (restR zs), .bool (cgood zs)]) ∧ Below w.heap.size w w' := by
  obtain rfl := hr.len
  cases hg : cgood zs
  · have HR := hide (show restR zs = false by simp [restR, hg])
    go_enter Try.func16, Try.ntmps16
    go_wp2_with fail
    refine (cyGood_any _ _ _ _ _ _ hr hn).mono ?_; rintro e w' ⟨rfl, rfl⟩; rw [hg]
    go_wp2_with fail
    go_ret2
    exact ⟨by rw [HR.out]; rfl, Below.refl _ _⟩
  · have HR := hide (show restR zs = atRest zs by simp [restR, hg])
    have hg0 := cgood_of hg
    have HC := hide (good_wide hg)
    obtain ⟨hg1, hg2, _⟩ := hg0
    go_enter Try.func16, Try.ntmps16
    go_wp2_with fail
    refine (cyGood_any _ _ _ _ _ _ hr hn).mono ?_; rintro e w' ⟨rfl, rfl⟩; rw [hg]
    go_wp2_with fail
    refine (cyRest_any _ _ _ _ _ _ hr hB (by omega) (by omega) HC.out).mono ?_; rintro e w' ⟨rfl, hb⟩
    go_wp2_with fail
    go_ret2
    exact ⟨by rw [HR.out]; rfl, hb⟩

/-- The program's IsResting. -/
theorem IsResting_any (A : Option Addr) (n c B : Nat) (zs : List Int) (w : World) (hr : Ints w B A n zs) (hn : n ≤ 17592186044416) :
    Calls Try.prog 17 #[.slice A n c] w fun e w' => e = .returned (.tuple #[.bool (restR zs), .bool (cgood zs)]) ∧ w = w' := by
  obtain rfl := hr.len
  cases hg : cgood zs
  · have HR := hide (show restR zs = false by simp [restR, hg])
    go_enter Try.func17, Try.ntmps17
    go_wp2_with fail
    refine (AreCandies_any _ _ _ _ _ _ hr hn).mono ?_; rintro e w' ⟨rfl, rfl⟩; rw [hg]
    go_wp2_with fail
    go_ret2
    exact ⟨by rw [HR.out]; rfl, rfl⟩
  · have HR := hide (show restR zs = atRest zs by simp [restR, hg])
    have hg0 := cgood_of hg
    have HC := hide (calm_of_good hg)
    obtain ⟨hg1, hg2, _⟩ := hg0
    go_enter Try.func17, Try.ntmps17
    go_wp2_with fail
    refine (AreCandies_any _ _ _ _ _ _ hr hn).mono ?_; rintro e w' ⟨rfl, rfl⟩; rw [hg]
    go_wp2_with fail
    refine (isAtRest_any _ _ _ _ _ _ hr (by omega) (by omega) HC.out).mono ?_; rintro e w' ⟨rfl, rfl⟩
    go_wp2_with fail
    go_ret2
    exact ⟨by rw [HR.out]; rfl, rfl⟩
end Go.Proofs.Ytakddglhjebgcaa
