
/-
  WHAT FEW HEAPS ARE, BOTH WAYS.
-/
import Derived.Test.YtnakkmmmkbjfbaaSums
import Derived.Test.YtnakkmmmkbjfbaaRowP
namespace Go.Proofs.Ytnakkmmmkbjfbaa
open Go.RowKit Go.Deep
set_option linter.unusedVariables false

/-- The program's AreFewHeaps. -/
theorem AreFewHeaps_any (A : Option Addr) (n c B : Nat) (zs : List Int) (w : World) (hr : Ints w B A n zs) (hn : n ≤ 17592186044416) :
    Calls Try.prog 26 #[.slice A n c] w fun e w' => e = .returned (.bool (few zs)) ∧ w = w' := by
  obtain rfl := hr.len
  have HS := hide (fun W (h : Ints W B A zs.length zs) => StonesOf_any A zs.length c B zs W h hn)
  cases hg : good zs
  · have H := hide (few_no1 hg)
    rw [hg] at HS
    rw [H.out]
    clear hg
    go_enter Try.func26, Try.ntmps26
    go_wp2_with fail
    refine (HS.out _ hr).mono ?_; rintro e w' ⟨rfl, rfl⟩
    go_wp2_with fail
    go_ret
    exact ⟨rfl, rfl⟩
  · rw [hg, stonesN_yes hg] at HS
    by_cases h2 : 2 ≤ zs.length
    · by_cases h4 : zs.length ≤ 4
      · by_cases h5 : 1 ≤ tot zs
        · by_cases h6 : tot zs ≤ 40
          · have H := hide (few_yes hg ⟨h2, h4⟩ ⟨h5, h6⟩)
            rw [H.out]
            clear hg
            go_enter Try.func26, Try.ntmps26
            go_wp2_with fail
            refine (HS.out _ hr).mono ?_; rintro e w' ⟨rfl, rfl⟩
            go_wp2_with fail
            go_ret
            exact ⟨ret_bool (by simp <;> omega), rfl⟩
          · have H := hide (few_no3 (zs := zs) (by omega))
            rw [H.out]
            clear hg
            go_enter Try.func26, Try.ntmps26
            go_wp2_with fail
            refine (HS.out _ hr).mono ?_; rintro e w' ⟨rfl, rfl⟩
            go_wp2_with fail
            go_ret
            exact ⟨ret_bool (by simp <;> omega), rfl⟩
        · have H := hide (few_no3 (zs := zs) (by omega))
          rw [H.out]
          clear hg
          go_enter Try.func26, Try.ntmps26
          go_wp2_with fail
          refine (HS.out _ hr).mono ?_; rintro e w' ⟨rfl, rfl⟩
          go_wp2_with fail
          go_ret
          exact ⟨rfl, rfl⟩
      · have H := hide (few_no2 (zs := zs) (by omega))
        rw [H.out]
        clear hg
        go_enter Try.func26, Try.ntmps26
        go_wp2_with fail
        refine (HS.out _ hr).mono ?_; rintro e w' ⟨rfl, rfl⟩
        go_wp2_with fail
        go_ret
        exact ⟨rfl, rfl⟩
    · have H := hide (few_no2 (zs := zs) (by omega))
      rw [H.out]
      clear hg
      go_enter Try.func26, Try.ntmps26
      go_wp2_with fail
      refine (HS.out _ hr).mono ?_; rintro e w' ⟨rfl, rfl⟩
      go_wp2_with fail
      go_ret
      exact ⟨rfl, rfl⟩

/-- The model's dbGood. -/
theorem dbGood_any (A : Option Addr) (n c B : Nat) (zs : List Int) (w : World) (hr : Ints w B A n zs) (hn : n ≤ 17592186044416) :
    Calls Try.prog 21 #[.slice A n c] w fun e w' => e = .returned (.bool (few zs)) ∧ w = w' := by
  obtain rfl := hr.len
  have HG := hide (fun W (h : Ints W B A zs.length zs) => hpGood_any A zs.length c B zs W h hn)
  have HL := hide (fun W => l1In_any (zs.length : Int) 2 4 W)
  by_cases h2 : 2 ≤ zs.length ∧ zs.length ≤ 4
  · rw [show decide ((2 : Int) ≤ (zs.length : Int) ∧ (zs.length : Int) ≤ 4) = true from decide_eq_true (by omega)] at HL
    cases hg : good zs
    · have H := hide (few_no1 hg)
      rw [hg] at HG
      rw [H.out]
      clear hg h2
      go_enter Try.func21, Try.ntmps21
      go_wp2_with fail
      refine (HL.out _).mono ?_; rintro e w' ⟨rfl, rfl⟩
      go_wp2_with fail
      refine (HG.out _ hr).mono ?_; rintro e w' ⟨rfl, rfl⟩
      go_wp2_with fail
      go_ret
      exact ⟨rfl, rfl⟩
    · have HT := hide (fun W (h : Ints W B A zs.length zs) => hpSum_any A zs.length c B zs W h (by omega) (good_small hg))
      have HM := hide (fun W => l1In_any (tot zs) 1 40 W)
      rw [hg] at HG
      have H := hide (show few zs = decide (1 ≤ tot zs ∧ tot zs ≤ 40) from by unfold few; rw [hg, decide_eq_true h2]; rfl)
      rw [H.out]
      clear hg h2
      generalize tot zs = T at *
      generalize decide (1 ≤ T ∧ T ≤ 40) = D at *
      go_enter Try.func21, Try.ntmps21
      go_wp2_with fail
      refine (HL.out _).mono ?_; rintro e w' ⟨rfl, rfl⟩
      go_wp2_with fail
      refine (HG.out _ hr).mono ?_; rintro e w' ⟨rfl, rfl⟩
      go_wp2_with fail
      refine (HT.out _ hr).mono ?_; rintro e w' ⟨rfl, rfl⟩
      go_wp2_with fail
      refine (HM.out _).mono ?_; rintro e w' ⟨rfl, rfl⟩
      go_wp2_with fail
      go_ret
      exact ⟨rfl, rfl⟩
  · rw [show decide ((2 : Int) ≤ (zs.length : Int) ∧ (zs.length : Int) ≤ 4) = false from decide_eq_false (by omega)] at HL
    have H := hide (few_no2 (zs := zs) h2)
    rw [H.out]
    clear h2
    go_enter Try.func21, Try.ntmps21
    go_wp2_with fail
    refine (HL.out _).mono ?_; rintro e w' ⟨rfl, rfl⟩
    go_wp2_with fail
    go_ret
    exact ⟨rfl, rfl⟩

end Go.Proofs.Ytnakkmmmkbjfbaa
