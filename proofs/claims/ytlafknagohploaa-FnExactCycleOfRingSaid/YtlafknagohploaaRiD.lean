
/-
  LEADS, PERIODS, RINGS BEHIND MANY STEPS, GREATEST NUMBERS AT LAST, THE MODEL's WAY.
-/
import Derived.Test.YtlafknagohploaaRiC
import Derived.Test.YtlafknagohploaaRiS
import Derived.Test.YtlafknagohploaaLaws0
namespace Go.Proofs.Ytlafknagohploaa
open Go.RowKit Go.Deep
set_option linter.unusedVariables false

/-- The model's LeadOfRing. -/
theorem specLeadOfRing_any (A : Option Addr) (n c : Nat) (zs : List Int) (w : World) (hr : Ints w w.heap.size A n zs) (hn : n ≤ 17592186044416) :
    Calls Try.prog 17 #[.slice A n c] w fun e w' => e = .returned (.tuple #[.int .i64 (leadR zs), .bool (rgood zs)]) ∧ Below w.heap.size w w' := by
  obtain rfl := hr.len
  cases hg : rgood zs
  · have HR := hide (show leadR zs = 0 by simp [leadR, hg])
    go_enter Try.func17, Try.ntmps17
    go_wp2_with fail
    refine (riGood_any _ _ _ _ _ _ hr hn).mono ?_; rintro e w' ⟨rfl, rfl⟩; rw [hg]
    go_wp2_with fail
    go_ret2
    exact ⟨by rw [HR.out]; rfl, Below.refl _ _⟩
  · have HR := hide (show leadR zs = (leadF zs : Int) by simp [leadR, hg])
    have HC := hide (riCycle_any A zs.length c _ zs (leadF zs) (perF zs) w hr (Nat.le_refl _) hg (cycF hg).1 (cycF hg).2)
    go_enter Try.func17, Try.ntmps17
    go_wp2_with fail
    refine (riGood_any _ _ _ _ _ _ hr hn).mono ?_; rintro e w' ⟨rfl, rfl⟩; rw [hg]
    go_wp2_with fail
    refine HC.out.mono ?_; rintro e w' ⟨rfl, hb⟩
    go_wp2_with fail
    go_ret2
    exact ⟨by rw [HR.out]; rfl, hb⟩
/-- The model's PeriodOfRing. -/
theorem specPeriodOfRing_any (A : Option Addr) (n c : Nat) (zs : List Int) (w : World) (hr : Ints w w.heap.size A n zs) (hn : n ≤ 17592186044416) :
    Calls Try.prog 19 #[.slice A n c] w fun e w' => e = .returned (.tuple #[.int .i64 (perR zs), .bool (rgood zs)]) ∧ Below w.heap.size w w' := by
  obtain rfl := hr.len
  cases hg : rgood zs
  · have HR := hide (show perR zs = 0 by simp [perR, hg])
    go_enter Try.func19, Try.ntmps19
    go_wp2_with fail
    refine (riGood_any _ _ _ _ _ _ hr hn).mono ?_; rintro e w' ⟨rfl, rfl⟩; rw [hg]
    go_wp2_with fail
    go_ret2
    exact ⟨by rw [HR.out]; rfl, Below.refl _ _⟩
  · have HR := hide (show perR zs = (perF zs : Int) by simp [perR, hg])
    have HC := hide (riCycle_any A zs.length c _ zs (leadF zs) (perF zs) w hr (Nat.le_refl _) hg (cycF hg).1 (cycF hg).2)
    go_enter Try.func19, Try.ntmps19
    go_wp2_with fail
    refine (riGood_any _ _ _ _ _ _ hr hn).mono ?_; rintro e w' ⟨rfl, rfl⟩; rw [hg]
    go_wp2_with fail
    refine HC.out.mono ?_; rintro e w' ⟨rfl, hb⟩
    go_wp2_with fail
    go_ret2
    exact ⟨by rw [HR.out]; rfl, hb⟩

/-- The model's riMost. -/
theorem mx0_take (zs : List Int) (h0 : 0 < zs.length) (h : within 0 1000 zs = true) (k : Nat) (hk : k < zs.length) : max ((zs.take k).foldl max 0) zs[k] = (zs.take (k + 1)).foldl max 0 := by
  rw [List.take_succ_eq_append_getElem hk, List.foldl_append]; rfl
theorem mx0 (zs : List Int) (h0 : 0 < zs.length) (h : within 0 1000 zs = true) : zs.foldl max 0 = mx zs := by
  have h1 := foldl_max_le zs 0
  have h2 := mx_bd h0 h
  rcases h1.2.2 with e | e
  · have := h1.2.1 _ (mx_mem h0); omega
  · have := le_mx e
    have := h1.2.1 _ (mx_mem h0)
    omega
theorem fold_take_bd (zs : List Int) (h : within 0 1000 zs = true) (k : Nat) : 0 ≤ (zs.take k).foldl max 0 := (foldl_max_le _ 0).1
theorem riMost_any (A : Option Addr) (n c B : Nat) (zs : List Int) (w : World) (hr : Ints w B A n zs) (hB : B ≤ w.heap.size) (h0 : 0 < n) (hn : n < 1000000) (hc : within 0 1000 zs = true) :
    Calls Try.prog 59 #[.slice A n c] w fun e w' => e = .returned (.int .i64 (mx zs)) ∧ w = w' := by
  obtain rfl := hr.len
  have HM := hide (mx0 zs h0 hc)
  have HT := hide (fun k hk => mx0_take zs h0 hc k hk)
  clear hc
  go_enter Try.func59, Try.ntmps59
  go_wp2_with fail
  go_loop [3, 8] (fun m i => ∃ k : Nat, k ≤ zs.length ∧ i = .int .i64 k ∧ m = .int .i64 ((zs.take k).foldl max 0))
    (fun _ i => zs.length - (intOf i).toNat)
  case atStart => exact ⟨0, Nat.zero_le _, rfl, rfl⟩
  case round =>
    obtain ⟨k, hk, rfl, rfl⟩ := hrel
    by_cases hlt : k < zs.length
    · have HS := hide (HT.out k hlt)
      obtain ⟨ad, rfl, hab, hcell⟩ := hr.at_ hlt
      rw [rget hlt] at hcell
      generalize zs[k] = z at *
      generalize (zs.take k).foldl max 0 = m at *
      go_wp2_with fail
      refine (l1Most_any _ _ _).mono ?_; rintro e w' ⟨rfl, rfl⟩; rw [HS.out]
      go_wp2_with fail
      go_round
      case rel => exact ⟨k + 1, by omega, by go_num, rfl⟩
      case measure => simp [intOf]; omega
    · go_wp2_with fail
      go_ret
      exact ⟨ret_int (by rw [List.take_of_length_le (by omega)]; exact HM.out), rfl⟩

/-- Where the model's riLast stands. -/
def LastRel (zs : List Int) (w : World) (p v m : Value) (wr : World) : Prop :=
  ∃ t : Nat, t ≤ perF zs ∧ p = .int .i64 ((perF zs - t : Nat) : Int) ∧ m = .int .i64 (if t = 0 then 0 else mx (lastF zs)) ∧ Own wr w.heap.size 3 v (rit zs (leadF zs + t)) ∧ Below w.heap.size w wr

set_option maxRecDepth 100000 in
set_option maxHeartbeats 2000000 in
theorem riLast_any (A : Option Addr) (n c B : Nat) (zs : List Int) (w : World) (hr : Ints w B A n zs) (hB : B ≤ w.heap.size) (hg : rgood zs = true) :
    Calls Try.prog 43 #[.slice A n c] w fun e w' => e = .returned (.int .i64 (mx (lastF zs))) ∧ Below w.heap.size w w' := by
  obtain rfl := hr.len
  obtain ⟨hg1, hg2, hg3⟩ := rgood_of hg
  obtain ⟨hcy, hmp⟩ := cycF hg
  have hp1 := hcy.pos
  have HR := hide hr
  have HW := hide hg3
  have HC := hide (riCycle_any A zs.length c B zs (leadF zs) (perF zs) w hr hB hg hcy hmp)
  have HM := hide (fun t => mx_last hg t)
  have HL := hide (show 0 ≤ mx (lastF zs) from (mx_bd (zs := lastF zs) (by rw [lastF_length]; omega) (rit_within hg3 _)).1)
  have HMo := hide (fun (A : Option Addr) (c t : Nat) (W : World) (h : Ints W W.heap.size A (rit zs t).length (rit zs t)) => riMost_any A (rit zs t).length c W.heap.size (rit zs t) W h (Nat.le_refl _) (by rw [rit_length]; omega) (by rw [rit_length]; omega) (rit_within hg3 t))
  have HSt := hide (fun (A : Option Addr) (c t : Nat) (W : World) (h : Ints W W.heap.size A (rit zs t).length (rit zs t)) => riStep_any A (rit zs t).length c W.heap.size (rit zs t) W h (Nat.le_refl _) (by rw [rit_length]; omega) (by rw [rit_length]; omega) (rit_within hg3 t))
  clear hr hg hcy hg3
  go_enter Try.func43, Try.ntmps43
  go_wp2_with fail
  refine HC.out.mono ?_; rintro e w1 ⟨rfl, hb1⟩
  have B1 := hide hb1
  have hs1 := hb1.size
  go_wp2_with fail
  refine (riPlay_any A zs.length c B zs (leadF zs) w1 (HR.out.below hb1 hB) (by omega) (by omega) (by omega) HW.out (by omega)).mono ?_
  rintro e w2 ⟨g2, c2, rfl, _, _, _, _, hown2, hb2⟩
  have V2 := hide (hown2.less hs1)
  have B2 := hide (below_next B1.out hb2)
  have HZ := hide (show leadF zs + 0 = leadF zs from rfl)
  clear hown2 hb2 hb1 B1
  go_wp2_with fail
  go_simp
  go_loopw [4, 5, 6] (LastRel zs w) (fun p _ _ _ => (intOf p).toNat)
  case atStart => exact ⟨0, Nat.zero_le _, rfl, rfl, V2.out, B2.out⟩
  case round =>
    clear V2 B2
    obtain ⟨t, ht, rfl, rfl, hv, hb⟩ := hrel
    have BB := hide hb
    have hsb := hb.size
    obtain ⟨A3, c3, rfl, _, _⟩ := hv.shape
    have VV := hide hv
    clear hb hv
    by_cases hlt : t < perF zs
    · obtain ⟨q, hq⟩ : ∃ q, q = perF zs - t := ⟨_, rfl⟩
      have hq1 : 0 < q := by omega
      have hq2 : q ≤ 20000 := by omega
      have HQ := hide (show q - 1 = perF zs - (t + 1) by omega)
      have HMX := hide (show max (if t = 0 then 0 else mx (lastF zs)) (mx (rit zs (leadF zs + t))) = mx (lastF zs) by
        rw [HM.out]; have := HL.out; split <;> omega)
      rw [← hq]
      clear hq
      generalize hm0 : (if t = 0 then 0 else mx (lastF zs)) = m0 at *
      clear hm0
      have HMC := hide (HMo.out A3 c3 (leadF zs + t) wr VV.out.ints)
      generalize hm1 : mx (rit zs (leadF zs + t)) = m1 at *
      clear hm1
      go_wp2_with fail
      refine HMC.out.mono ?_; rintro e w' ⟨rfl, rfl⟩
      go_wp2_with fail
      refine (l1Most_any _ _ _).mono ?_; rintro e w' ⟨rfl, rfl⟩; rw [HMX.out]
      go_wp2_with fail
      refine (HSt.out A3 c3 (leadF zs + t) _ VV.out.ints).mono ?_
      rintro e w5 ⟨g5, c5, rfl, _, _, _, _, hown5, hb5⟩
      have V5 := hide (hown5.less hsb)
      have B5 := hide (below_next BB.out hb5)
      clear hown5 hb5
      go_wp2_with fail
      go_simp
      go_roundw
      case rel => exact ⟨t + 1, by omega, by rw [← HQ.out]; congr 1; omega, by rw [if_neg (by omega)], V5.out, B5.out⟩
      case measure => simp [intOf]; omega
    · obtain rfl : t = perF zs := by omega
      have hne : ¬ perF zs = 0 := by omega
      rw [if_neg hne, Nat.sub_self]
      go_wp2_with fail
      go_ret
      exact ⟨rfl, BB.out⟩
end Go.Proofs.Ytlafknagohploaa
