
/-
  RINGS BEHIND MANY STEPS, ZEROS, GREATEST NUMBERS AT LAST, THE MODEL's WAY.
-/
import Derived.Test.YtlafknagohploaaRiD
namespace Go.Proofs.Ytlafknagohploaa
open Go.RowKit Go.Deep
set_option linter.unusedVariables false

/-- The model's GreatestAtLast. -/
theorem specGreatestAtLast_any (A : Option Addr) (n c : Nat) (zs : List Int) (w : World) (hr : Ints w w.heap.size A n zs) (hn : n ≤ 17592186044416) :
    Calls Try.prog 30 #[.slice A n c] w fun e w' => e = .returned (.tuple #[.int .i64 (galR zs), .bool (rgood zs)]) ∧ Below w.heap.size w w' := by
  obtain rfl := hr.len
  cases hg : rgood zs
  · have HR := hide (show galR zs = 0 by simp [galR, hg])
    go_enter Try.func30, Try.ntmps30
    go_wp2_with fail
    refine (riGood_any _ _ _ _ _ _ hr hn).mono ?_; rintro e w' ⟨rfl, rfl⟩; rw [hg]
    go_wp2_with fail
    go_ret2
    exact ⟨by rw [HR.out]; rfl, Below.refl _ _⟩
  · have HR := hide (show galR zs = mx (lastF zs) by simp [galR, hg])
    have HC := hide (riLast_any A zs.length c _ zs w hr (Nat.le_refl _) hg)
    go_enter Try.func30, Try.ntmps30
    go_wp2_with fail
    refine (riGood_any _ _ _ _ _ _ hr hn).mono ?_; rintro e w' ⟨rfl, rfl⟩; rw [hg]
    go_wp2_with fail
    refine HC.out.mono ?_; rintro e w' ⟨rfl, hb⟩
    go_wp2_with fail
    go_ret2
    exact ⟨by rw [HR.out]; rfl, hb⟩

/-- The model's ComesToZero. -/
theorem specComesToZero_any (A : Option Addr) (n c : Nat) (zs : List Int) (w : World) (hr : Ints w w.heap.size A n zs) (hn : n ≤ 17592186044416) :
    Calls Try.prog 26 #[.slice A n c] w fun e w' => e = .returned (.tuple #[.bool (ctzR zs), .bool (rgood zs)]) ∧ Below w.heap.size w w' := by
  obtain rfl := hr.len
  cases hg : rgood zs
  · have HR := hide (show ctzR zs = false by simp [ctzR, hg])
    go_enter Try.func26, Try.ntmps26
    go_wp2_with fail
    refine (riGood_any _ _ _ _ _ _ hr hn).mono ?_; rintro e w' ⟨rfl, rfl⟩; rw [hg]
    go_wp2_with fail
    go_ret2
    exact ⟨by rw [HR.out]; rfl, Below.refl _ _⟩
  · have HR := hide (show ctzR zs = (mx (lastF zs) == 0) by simp [ctzR, hg])
    have HC := hide (riLast_any A zs.length c _ zs w hr (Nat.le_refl _) hg)
    generalize mx (lastF zs) = m at *
    go_enter Try.func26, Try.ntmps26
    go_wp2_with fail
    refine (riGood_any _ _ _ _ _ _ hr hn).mono ?_; rintro e w' ⟨rfl, rfl⟩; rw [hg]
    go_wp2_with fail
    refine HC.out.mono ?_; rintro e w' ⟨rfl, hb⟩
    go_wp2_with fail
    go_ret2
    exact ⟨by rw [HR.out]; rfl, hb⟩

/-- The model's StepsToZero. -/
theorem specStepsToZero_any (A : Option Addr) (n c : Nat) (zs : List Int) (w : World) (hr : Ints w w.heap.size A n zs) (hn : n ≤ 17592186044416) :
    Calls Try.prog 28 #[.slice A n c] w fun e w' => e = .returned (.tuple #[.int .i64 (stzR zs), .bool (ctzR zs)]) ∧ Below w.heap.size w w' := by
  obtain rfl := hr.len
  cases hg : rgood zs
  · have HR := hide (show ctzR zs = false by simp [ctzR, hg])
    have HR2 := hide (show stzR zs = 0 by simp [stzR, HR.out])
    go_enter Try.func28, Try.ntmps28
    go_wp2_with fail
    refine (riGood_any _ _ _ _ _ _ hr hn).mono ?_; rintro e w' ⟨rfl, rfl⟩; rw [hg]
    go_wp2_with fail
    go_ret2
    exact ⟨by rw [HR.out, HR2.out]; rfl, Below.refl _ _⟩
  · have HC := hide (riLast_any A zs.length c _ zs w hr (Nat.le_refl _) hg)
    by_cases hz : mx (lastF zs) = 0
    · have HR := hide (show ctzR zs = true by simp [ctzR, hg, hz])
      have HR2 := hide (show stzR zs = (leadF zs : Int) by simp [stzR, HR.out])
      have HC2 := hide (fun W (hb : Below w.heap.size w W) => riCycle_any A zs.length c w.heap.size zs (leadF zs) (perF zs) W (hr.below hb (Nat.le_refl _)) hb.size hg (cycF hg).1 (cycF hg).2)
      rw [hz] at HC
      clear hz
      go_enter Try.func28, Try.ntmps28
      go_wp2_with fail
      refine (riGood_any _ _ _ _ _ _ hr hn).mono ?_; rintro e w' ⟨rfl, rfl⟩; rw [hg]
      go_wp2_with fail
      refine HC.out.mono ?_; rintro e w1 ⟨rfl, hb⟩
      go_wp2_with fail
      refine (HC2.out w1 hb).mono ?_; rintro e w2 ⟨rfl, hb2⟩
      go_wp2_with fail
      go_ret2
      exact ⟨by rw [HR.out, HR2.out]; rfl, below_next hb hb2⟩
    · have HR := hide (show ctzR zs = false by simp [ctzR, hg, hz])
      have HR2 := hide (show stzR zs = 0 by simp [stzR, HR.out])
      have hne : (mx (lastF zs) != 0) = true := by simp [hz]
      generalize mx (lastF zs) = m at *
      go_enter Try.func28, Try.ntmps28
      go_wp2_with fail
      refine (riGood_any _ _ _ _ _ _ hr hn).mono ?_; rintro e w' ⟨rfl, rfl⟩; rw [hg]
      go_wp2_with fail
      refine HC.out.mono ?_; rintro e w1 ⟨rfl, hb⟩
      go_wp2_with fail
      go_ret2
      exact ⟨by rw [HR.out, HR2.out]; rfl, hb⟩

/-- The model's RingAfter. -/
theorem specRingAfter_any (A : Option Addr) (n c B : Nat) (zs : List Int) (b : Int) (w : World) (hr : Ints w B A n zs) (hB : B ≤ w.heap.size) (hn : n ≤ 17592186044416) :
    Calls Try.prog 11 #[.slice A n c, .int .i64 b] w (MadeR (aftR zs b) (aftOk zs b) w) := by
  obtain rfl := hr.len
  cases hg : rgood zs
  · have h1 : aftOk zs b = false := by simp [aftOk, hg]
    rw [h1, show aftR zs b = [] from by simp [aftR, h1]]
    go_enter Try.func11, Try.ntmps11
    go_wp2_with fail
    refine (riGood_any _ _ _ _ _ _ hr hn).mono ?_; rintro e w' ⟨rfl, rfl⟩; rw [hg]
    go_wp2_with fail
    go_ret2
    exact madeR_none (Below.refl _ _)
  · by_cases hin : 0 ≤ b ∧ b ≤ 1000000000
    · have hd1 : decide (0 ≤ b ∧ b ≤ 1000000000) = true := by simpa using hin
      obtain ⟨k, rfl⟩ := Int.eq_ofNat_of_zero_le hin.1
      have h1 : aftOk zs k = true := by unfold aftOk; rw [hg, hd1]; rfl
      rw [h1, show aftR zs k = rit zs (aftN zs k) from by simp [aftR, h1]]
      have hk : k ≤ 1000000000 := by omega
      obtain ⟨hg1, hg2, hg3⟩ := rgood_of hg
      obtain ⟨hcy, hmp⟩ := cycF hg
      have hp1 := hcy.pos
      have HL := hide (rit_length zs (aftN zs k))
      have HR := hide hr
      have HW := hide hg3
      have HC := hide (riCycle_any A zs.length c B zs (leadF zs) (perF zs) w hr hB hg hcy hmp)
      clear hin h1 hr hcy hg3
      by_cases hlt : leadF zs < k
      · have HN := hide (show aftN zs k = leadF zs + (k - leadF zs) % perF zs by unfold aftN; rw [if_pos hlt])
        have HI := hide (show (leadF zs : Int) + ((k : Int) - (leadF zs : Int)) % (perF zs : Int) = ((leadF zs + (k - leadF zs) % perF zs : Nat) : Int) by rw [Int.natCast_add, Int.natCast_emod, Int.ofNat_sub (Nat.le_of_lt hlt)])
        have hmod := Nat.mod_lt (k - leadF zs) hp1
        have hmi : 0 ≤ ((k : Int) - (leadF zs : Int)) % (perF zs : Int) ∧ ((k : Int) - (leadF zs : Int)) % (perF zs : Int) < (perF zs : Int) := ⟨Int.emod_nonneg _ (by omega), Int.emod_lt_of_pos _ (by omega)⟩
        go_enter Try.func11, Try.ntmps11
        go_wp2_with fail
        refine (riGood_any _ _ _ _ _ _ HR.out hn).mono ?_; rintro e w' ⟨rfl, rfl⟩; rw [hg]
        go_wp2_with fail
        refine (l1In_any _ _ _ _).mono ?_; rintro e w' ⟨rfl, rfl⟩; rw [hd1]
        go_wp2_with fail
        refine HC.out.mono ?_; rintro e w1 ⟨rfl, hb1⟩
        go_wp2_with fail
        rw [HI.out, ← HN.out]
        refine (riPlay_any A zs.length c B zs (aftN zs k) w1 (HR.out.below hb1 hB) (by have := hb1.size; omega) (by omega) (by omega) HW.out (by rw [HN.out]; omega)).mono ?_
        rintro e w2 ⟨g2, c2, rfl, _, _, hc1, hc2, hown2, hb2⟩
        go_wp2_with fail
        go_ret2
        exact ⟨_, c2, rfl, hc1, hc2, hown2.less hb1.size, below_next hb1 hb2⟩
      · have HN := hide (show aftN zs k = k by unfold aftN; rw [if_neg hlt])
        go_enter Try.func11, Try.ntmps11
        go_wp2_with fail
        refine (riGood_any _ _ _ _ _ _ HR.out hn).mono ?_; rintro e w' ⟨rfl, rfl⟩; rw [hg]
        go_wp2_with fail
        refine (l1In_any _ _ _ _).mono ?_; rintro e w' ⟨rfl, rfl⟩; rw [hd1]
        go_wp2_with fail
        refine HC.out.mono ?_; rintro e w1 ⟨rfl, hb1⟩
        go_wp2_with fail
        refine (riPlay_any A zs.length c B zs k w1 (HR.out.below hb1 hB) (by have := hb1.size; omega) (by omega) (by omega) HW.out (by omega)).mono ?_
        rintro e w2 ⟨g2, c2, rfl, _, _, hc1, hc2, hown2, hb2⟩
        go_wp2_with fail
        go_ret2
        rw [HN.out]
        exact ⟨_, c2, rfl, hc1, hc2, hown2.less hb1.size, below_next hb1 hb2⟩
    · have hd1 : decide (0 ≤ b ∧ b ≤ 1000000000) = false := by simpa using hin
      have h1 : aftOk zs b = false := by unfold aftOk; rw [hd1]; simp
      rw [h1, show aftR zs b = [] from by simp [aftR, h1]]
      clear hin h1
      go_enter Try.func11, Try.ntmps11
      go_wp2_with fail
      refine (riGood_any _ _ _ _ _ _ hr hn).mono ?_; rintro e w' ⟨rfl, rfl⟩; rw [hg]
      go_wp2_with fail
      refine (l1In_any _ _ _ _).mono ?_; rintro e w' ⟨rfl, rfl⟩; rw [hd1]
      go_wp2_with fail
      go_ret2
      exact madeR_none (Below.refl _ _)
end Go.Proofs.Ytlafknagohploaa
