
/-
  CHIPS, BOTH WAYS: AreChips and chGood, places, classes, chips that come again.
-/
import Derived.Test.YtcfofofhdbnlaaaGood
import Derived.Test.YtcfofofhdbnlaaaOne
import Derived.Test.YtcfofofhdbnlaaaChP
namespace Go.Proofs.Ytcfofofhdbnlaaa
open Go.RowKit Go.Deep

/-- The program's isNumberOfPlaces. -/
theorem isNumberOfPlaces_any (n : Int) (w : World) :
    Calls Try.prog 42 #[.int .i64 n] w fun e w' => e = .returned (.bool (isNum n)) ∧ w = w' := by
  by_cases h1 : 1 ≤ n
  · have e := isNum_yes h1
    have HE := hide e
    clear e
    go_enter Try.func42, Try.ntmps42
    go_wp2
    go_ret
    exact ⟨by rw [HE.out]; rfl, rfl⟩
  · have e := isNum_no h1
    have HE := hide e
    clear e
    go_enter Try.func42, Try.ntmps42
    go_wp2
    go_ret
    exact ⟨by rw [HE.out]; rfl, rfl⟩

/-- The program's isOneAmong, of places. -/
theorem isPlaceAmong_any (n : Nat) (p : Int) (w : World) :
    Calls Try.prog 41 #[.int .i64 n, .int .i64 p] w fun e w' => e = .returned (.bool (isAt p n)) ∧ w = w' := isOneAmong_any n p w

/-- The program's AreChips. -/
theorem AreChips_any (A : Option Addr) (n c B : Nat) (zs : List Int) (w : World) (hr : Ints w B A n zs) (hn : n ≤ 17592186044416) :
    Calls Try.prog 39 #[.slice A n c] w fun e w' => e = .returned (.bool (hgood zs)) ∧ w = w' := by
  have hlen := hr.len
  by_cases h1 : 1 ≤ n ∧ n ≤ 20
  · have Hg := hide (hgood_in (zs := zs) (by omega))
    have hd : isNum (n : Int) = true := isNum_in (by omega)
    go_enter Try.func39, Try.ntmps39
    go_wp2_with fail
    refine (isNumberOfPlaces_any _ _).mono ?_; rintro e w' ⟨rfl, rfl⟩; rw [hd]
    go_wp2_with fail
    refine (areWithin_any _ _ _ _ _ _ _ _ hr hn).mono ?_; rintro e w' ⟨rfl, rfl⟩
    go_wp2_with fail
    go_ret
    exact ⟨by rw [Hg.out]; rfl, rfl⟩
  · have Hg := hide (hgood_out (zs := zs) (by omega))
    have hd : isNum (n : Int) = false := isNum_out (by omega)
    go_enter Try.func39, Try.ntmps39
    go_wp2_with fail
    refine (isNumberOfPlaces_any _ _).mono ?_; rintro e w' ⟨rfl, rfl⟩; rw [hd]
    go_wp2_with fail
    go_ret
    exact ⟨by rw [Hg.out]; rfl, rfl⟩

/-- The model's chGood. -/
theorem chGood_any (A : Option Addr) (n c B : Nat) (zs : List Int) (w : World) (hr : Ints w B A n zs) (hn : n ≤ 17592186044416) :
    Calls Try.prog 26 #[.slice A n c] w fun e w' => e = .returned (.bool (hgood zs)) ∧ w = w' := by
  have hlen := hr.len
  by_cases h1 : 1 ≤ n ∧ n ≤ 20
  · have Hg := hide (hgood_in (zs := zs) (by omega))
    have hd : decide ((1 : Int) ≤ (n : Int) ∧ (n : Int) ≤ 20) = true := by simp; omega
    go_enter Try.func26, Try.ntmps26
    go_wp2_with fail
    refine (l1In_any _ _ _ _).mono ?_; rintro e w' ⟨rfl, rfl⟩; rw [hd]
    go_wp2_with fail
    refine (l1All_any _ _ _ _ _ _ _ _ hr hn).mono ?_; rintro e w' ⟨rfl, rfl⟩
    go_wp2_with fail
    go_ret
    exact ⟨by rw [Hg.out]; rfl, rfl⟩
  · have Hg := hide (hgood_out (zs := zs) (by omega))
    have hd : decide ((1 : Int) ≤ (n : Int) ∧ (n : Int) ≤ 20) = false := by simp; omega
    go_enter Try.func26, Try.ntmps26
    go_wp2_with fail
    refine (l1In_any _ _ _ _).mono ?_; rintro e w' ⟨rfl, rfl⟩; rw [hd]
    go_wp2_with fail
    go_ret
    exact ⟨by rw [Hg.out]; rfl, rfl⟩

/-- The model's chAsked. -/
theorem chAsked_any (A : Option Addr) (n c B : Nat) (zs : List Int) (p : Int) (w : World) (hr : Ints w B A n zs) (hn : n ≤ 17592186044416) :
    Calls Try.prog 19 #[.slice A n c, .int .i64 p] w fun e w' => e = .returned (.bool (hasked zs p)) ∧ w = w' := by
  obtain rfl := hr.len
  cases hg : hgood zs
  · have Hg := hide (show hasked zs p = false from by unfold hasked; simp [hg])
    go_enter Try.func19, Try.ntmps19
    go_wp2_with fail
    refine (chGood_any _ _ _ _ _ _ hr hn).mono ?_; rintro e w' ⟨rfl, rfl⟩; rw [hg]
    go_wp2_with fail
    go_ret
    exact ⟨by rw [Hg.out]; rfl, rfl⟩
  · have hb := (hgood_of hg).2.1
    have Hg := hide (show hasked zs p = (decide ((0 : Int) ≤ p) && decide (p ≤ ((zs.length : Int) - 1))) from by
      unfold hasked isAt; rw [hg, Bool.true_and, ← Bool.decide_and]; apply decide_eq_decide.2; omega)
    go_enter Try.func19, Try.ntmps19
    go_wp2_with fail
    refine (chGood_any _ _ _ _ _ _ hr hn).mono ?_; rintro e w' ⟨rfl, rfl⟩; rw [hg]
    go_wp2_with fail
    refine (l1In_any _ _ _ _).mono ?_; rintro e w' ⟨rfl, rfl⟩
    go_wp2_with fail
    go_ret
    exact ⟨by rw [Hg.out]; rfl, rfl⟩

end Go.Proofs.Ytcfofofhdbnlaaa
