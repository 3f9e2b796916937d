
/-
  CANDIES, BOTH WAYS: AreCandies and cyGood; evened and cyEven; the model's cyPass, cyStep, l1Same, cyRest; slices.Min, slices.Max, isLevel, isAtRest.
-/
import Derived.Test.YtakddglhjebgcaaGood
import Derived.Test.YtakddglhjebgcaaCopy
import Derived.Test.YtakddglhjebgcaaMark
import Derived.Test.YtakddglhjebgcaaCyP
namespace Go.Proofs.Ytakddglhjebgcaa
open Go.RowKit Go.Deep

/-- The program's AreCandies. -/
theorem AreCandies_any (A : Option Addr) (n c B : Nat) (zs : List Int) (w : World) (hr : Ints w B A n zs) (hn : n ≤ 17592186044416) :
    Calls Try.prog 10 #[.slice A n c] w fun e w' => e = .returned (.bool (cgood zs)) ∧ w = w' := by
  have hlen := hr.len
  by_cases h1 : 2 ≤ n
  · by_cases h2 : n ≤ 12
    · have hg := cgood_in (zs := zs) (by omega)
      have Hg := hide hg
      clear hg
      have hw := areWithin_any A n c B zs 0 200
      have Hw := hide hw
      clear hw
      go_enter Try.func10, Try.ntmps10
      go_wp2_with (go_at_call 23; refine (Hw.out _ hr hn).mono ?_; rintro e w' ⟨rfl, rfl⟩)
      go_ret
      exact ⟨by rw [Hg.out]; rfl, rfl⟩
    · have Hg := hide (cgood_out (zs := zs) (by omega))
      go_enter Try.func10, Try.ntmps10
      go_wp2_with fail
      go_ret
      exact ⟨by rw [Hg.out]; rfl, rfl⟩
  · have Hg := hide (cgood_out (zs := zs) (by omega))
    go_enter Try.func10, Try.ntmps10
    go_wp2_with fail
    go_ret
    exact ⟨by rw [Hg.out]; rfl, rfl⟩

/-- The model's cyGood. -/
theorem cyGood_any (A : Option Addr) (n c B : Nat) (zs : List Int) (w : World) (hr : Ints w B A n zs) (hn : n ≤ 17592186044416) :
    Calls Try.prog 22 #[.slice A n c] w fun e w' => e = .returned (.bool (cgood zs)) ∧ w = w' := by
  have hlen := hr.len
  by_cases h1 : 2 ≤ n ∧ n ≤ 12
  · have Hg := hide (cgood_in (zs := zs) (by omega))
    have hd : decide ((2 : Int) ≤ (n : Int) ∧ (n : Int) ≤ 12) = true := by simp; omega
    go_enter Try.func22, Try.ntmps22
    go_wp2_with fail
    refine (l1In_any _ _ _ _).mono ?_; rintro e w' ⟨rfl, rfl⟩; rw [hd]
    go_wp2_with fail
    refine (l1All_any _ _ _ _ _ _ _ _ hr hn).mono ?_; rintro e w' ⟨rfl, rfl⟩
    go_wp2_with fail
    go_ret
    exact ⟨by rw [Hg.out]; rfl, rfl⟩
  · have Hg := hide (cgood_out (zs := zs) (by omega))
    have hd : decide ((2 : Int) ≤ (n : Int) ∧ (n : Int) ≤ 12) = false := by simp; omega
    go_enter Try.func22, Try.ntmps22
    go_wp2_with fail
    refine (l1In_any _ _ _ _).mono ?_; rintro e w' ⟨rfl, rfl⟩; rw [hd]
    go_wp2_with fail
    go_ret
    exact ⟨by rw [Hg.out]; rfl, rfl⟩

/-- The model's AreCandies. -/
theorem specAreCandies_any (A : Option Addr) (n c B : Nat) (zs : List Int) (w : World) (hr : Ints w B A n zs) (hn : n ≤ 17592186044416) :
    Calls Try.prog 8 #[.slice A n c] w fun e w' => e = .returned (.bool (cgood zs)) ∧ w = w' := by
  go_enter Try.func8, Try.ntmps8
  go_wp2_with fail
  refine (cyGood_any _ _ _ _ _ _ hr hn).mono ?_; rintro e w' ⟨rfl, rfl⟩
  go_wp2_with fail
  go_ret
  exact ⟨rfl, rfl⟩

/-- The first k made even. -/
def emix (k : Nat) (zs : List Int) : List Int := (evens zs).take k ++ zs.drop k
theorem emix_zero (zs : List Int) : emix 0 zs = zs := by simp [emix]
theorem emix_all (zs : List Int) : emix zs.length zs = evens zs := by
  unfold emix
  rw [List.take_of_length_le (by rw [evens_length]; exact Nat.le_refl _)]; simp
theorem emix_length (k : Nat) (zs : List Int) (h : k ≤ zs.length) : (emix k zs).length = zs.length := by
  simp [emix, evens_length]; omega
theorem emix_at (k : Nat) (zs : List Int) (h : k < zs.length) : (emix k zs)[k]? = some zs[k] := by
  unfold emix
  rw [List.getElem?_append_right (by simp [evens_length]; omega), List.length_take, evens_length, Nat.min_eq_left (by omega), Nat.sub_self, List.getElem?_drop]
  simp [List.getElem?_eq_getElem h]
theorem emix_set (k : Nat) (zs : List Int) (h : k < zs.length) : (emix k zs).set k (zs[k] + zs[k] % 2) = emix (k + 1) zs := by
  have hl : ((evens zs).take k).length = k := by rw [List.length_take, evens_length]; omega
  unfold emix
  rw [List.set_append_right _ _ (by rw [hl]; exact Nat.le_refl _), hl, Nat.sub_self, List.drop_eq_getElem_cons h, List.set_cons_zero, evens_take_succ zs k h]
  simp

/-- The program's evened. -/
theorem evened_any (A : Option Addr) (n c B : Nat) (zs : List Int) (w : World) (hr : Ints w B A n zs) (hB : B ≤ w.heap.size) (h0 : 0 < n) (hn : n < 1000000) (hc : calm zs = true) :
    Calls Try.prog 25 #[.slice A n c] w (Made1 (evens zs) w) := by
  obtain rfl := hr.len
  have HE := hide (evens_length zs)
  have HC := hide hc
  clear hc
  go_enter Try.func25, Try.ntmps25
  go_wp2_with fail
  refine (Clone_any _ _ _ _ _ _ hr hB h0 hn).mono ?_
  rintro e w1 ⟨g, c1, rfl, hg1, hg2, hc1, hc2, hown, hb1⟩
  have hs1 := hb1.size
  go_wp2_with fail
  go_loopw [10] (fun i wr => ∃ k : Nat, k ≤ zs.length ∧ i = .int .i64 k ∧ Own wr w.heap.size 3 (.slice (some ⟨g, 0, none⟩) zs.length c1) (emix k zs) ∧ Below w.heap.size w wr ∧ g < wr.heap.size)
    (fun i _ => zs.length - (intOf i).toNat)
  case atStart => exact ⟨0, Nat.zero_le _, rfl, by rw [emix_zero]; exact hown, hb1, hg2⟩
  case round =>
    obtain ⟨k, hk, rfl, ho, hbl, hgl⟩ := hrel
    by_cases hlt : k < zs.length
    · have HL := hide (emix_length k zs (by omega))
      have ho' := ho
      unfold Own at ho'
      rw [HL.out] at ho'
      have hold := World.ownsRow.cellAt ho' k (by omega)
      rw [List.getElem?_map, emix_at k zs hlt, Option.map_some] at hold
      have hfz := World.ownsRow.frozenAt ho' k
      clear ho'
      have HS := hide (emix_set k zs hlt)
      have hcz := calm_get HC.out k hlt
      obtain ⟨ad, rfl, hab, hcell⟩ := (hr.below hbl hB).at_ hlt
      rw [getD_get hlt] at hcell
      go_wp2
      go_roundw
      case rel =>
        refine ⟨k + 1, by omega, by go_num, ?_, hbl.setCell hg1 _, by simpa using hgl⟩
        have := Own.stored ho HL.out k (zs[k] + zs[k] % 2)
        rw [HS.out] at this
        exact this
      case measure => simp [intOf]; omega
    · obtain rfl : k = zs.length := by omega
      rw [emix_all] at ho
      go_wp2
      go_ret
      exact ⟨g, c1, by rw [HE.out]; rfl, hg1, hgl, by rw [HE.out]; exact hc1, hc2, by rw [HE.out]; exact ho, hbl⟩

/-- The model's cyEven. -/
theorem cyEven_any (A : Option Addr) (n c B : Nat) (zs : List Int) (w : World) (hr : Ints w B A n zs) (hB : B ≤ w.heap.size) (h0 : 0 < n) (hn : n < 1000000) (hc : calm zs = true) :
    Calls Try.prog 24 #[.slice A n c] w (Made1 (evens zs) w) := by
  obtain rfl := hr.len
  have HE := hide (evens_length zs)
  have HC := hide hc
  clear hc
  go_enter Try.func24, Try.ntmps24
  go_wp2_with fail
  go_loopw [3, 8] (fun v i wr => ∃ k : Nat, k ≤ zs.length ∧ i = .int .i64 k ∧ Own wr w.heap.size 3 v ((evens zs).take k) ∧ Below w.heap.size w wr)
    (fun _ i _ => zs.length - (intOf i).toNat)
  case atStart => exact ⟨0, Nat.zero_le _, rfl, Own.nil _ _ _, Below.refl _ _⟩
  case round =>
    obtain ⟨k, hk, rfl, hown, hb⟩ := hrel
    have hsz := hb.size
    have hll : ((evens zs).take k).length < 1000000 := by rw [List.length_take, HE.out]; omega
    by_cases hlt : k < zs.length
    · have Hs := hide (evens_take_succ zs k hlt)
      have hcz := calm_get HC.out k hlt
      obtain ⟨ad, rfl, hab, hcell⟩ := (hr.below hb hB).at_ hlt
      rw [getD_get hlt] at hcell
      go_wp2_with (at_builtin; refine wpList_app_int rfl _ _ 22 3 rfl Try.underlying22 infoInt w.heap.size _ _ rfl hown _ _ rfl hsz hll ?_; intro v' w' hown' hb')
      go_roundw
      case rel => exact ⟨k + 1, by omega, by go_num, by rw [Hs.out]; exact hown', hb.trans hb'⟩
      case measure => simp [intOf]; omega
    · go_wp2_with fail
      go_ret
      rw [List.take_of_length_le (by rw [HE.out]; omega)] at hown
      exact made1_of (by rw [HE.out]; exact h0) hown hb

theorem leftOf_int (k n : Nat) (h : k < n) : ((k : Int) + (n : Int) - 1) % (n : Int) = ((leftOf k n : Nat) : Int) := by
  unfold leftOf
  rw [Int.natCast_emod]
  congr 1
  omega

/-- The model's cyPass. -/
theorem cyPass_any (A : Option Addr) (n c B : Nat) (zs : List Int) (w : World) (hr : Ints w B A n zs) (hB : B ≤ w.heap.size) (h0 : 0 < n) (hn : n < 1000000) (hc : calm zs = true) :
    Calls Try.prog 39 #[.slice A n c] w (Made1 (pass zs) w) := by
  obtain rfl := hr.len
  have HE := hide (pass_length zs)
  have HC := hide hc
  clear hc
  go_enter Try.func39, Try.ntmps39
  go_wp2_with fail
  go_loopw [3, 9] (fun v i wr => ∃ k : Nat, k ≤ zs.length ∧ i = .int .i64 k ∧ Own wr w.heap.size 3 v ((pass zs).take k) ∧ Below w.heap.size w wr)
    (fun _ i _ => zs.length - (intOf i).toNat)
  case atStart => exact ⟨0, Nat.zero_le _, rfl, Own.nil _ _ _, Below.refl _ _⟩
  case round =>
    obtain ⟨k, hk, rfl, hown, hb⟩ := hrel
    have hsz := hb.size
    have hll : ((pass zs).take k).length < 1000000 := by rw [List.length_take, HE.out]; omega
    by_cases hlt : k < zs.length
    · have hl := leftOf_lt hlt
      have Hs := hide (pass_take_succ zs k hlt)
      have HV := hide (pass1_eq zs k hlt)
      have hcz := calm_get HC.out k hlt
      have hcl := calm_get HC.out (leftOf k zs.length) hl
      have hmod := leftOf_int k zs.length hlt
      have hrb := hr.below hb hB
      obtain ⟨ad, rfl, hab, hcell⟩ := hrb.at_ hlt
      obtain ⟨ad', had, _, hcell'⟩ := hrb.at_ hl
      obtain rfl : ad' = ad := by injection had with h; exact h.symm
      clear had hrb
      rw [getD_get hlt] at hcell
      rw [getD_get hl] at hcell'
      generalize zs[leftOf k zs.length] = zl at *
      generalize leftOf k zs.length = l at *
      go_wp2_with (at_builtin; refine wpList_app_int rfl _ _ 22 3 rfl Try.underlying22 infoInt w.heap.size _ _ rfl hown _ _ rfl hsz hll ?_; intro v' w' hown' hb')
      go_roundw
      case rel => exact ⟨k + 1, by omega, by go_num, by rw [Hs.out, HV.out]; exact hown', hb.trans hb'⟩
      case measure => simp [intOf]; omega
    · go_wp2_with fail
      go_ret
      rw [List.take_of_length_le (by rw [HE.out]; omega)] at hown
      exact made1_of (by rw [HE.out]; exact h0) hown hb
end Go.Proofs.Ytakddglhjebgcaa
