
/-
  HIDDEN HEAPS, BOTH WAYS: pzHidden, areHidden.
-/
import Derived.Test.YtpgjhmgmfajelaaPzTP
import Derived.Test.YtpgjhmgmfajelaaPz
import Derived.Test.YtpgjhmgmfajelaaPzR
namespace Go.Proofs.Ytpgjhmgmfajelaa
open Go.RowKit Go.Deep
set_option linter.unusedVariables false

theorem pzHidden_any (A : Option Addr) (n c B : Nat) (zs : List Int) (w : World) (hr : Ints w B A n zs) (hn : n ≤ 17592186044416) :
    Calls Try.prog 34 #[.slice A n c] w fun e w' => e = .returned (.bool (hidOk zs)) ∧ w = w' := by
  obtain rfl := hr.len
  have HH := hide (fun W => pzHeaps_any (zs.length : Int) W)
  have HE : Hid (hidOk zs = (decide (2 ≤ zs.length ∧ zs.length ≤ 4) && within 0 5 zs)) := hide rfl
  by_cases hh : 2 ≤ (zs.length : Int) ∧ (zs.length : Int) ≤ 4
  · rw [decide_eq_true hh] at HH
    have HW := hide (l1All_any A zs.length c B zs 0 5 w hr hn)
    have HE2 := hide (HE.out.trans (by rw [decide_eq_true (show 2 ≤ zs.length ∧ zs.length ≤ 4 by omega), Bool.true_and]))
    clear hh HE
    go_enter Try.func34, Try.ntmps34
    go_wp2_with fail
    refine (HH.out _).mono ?_; rintro e w' ⟨rfl, rfl⟩
    go_wp2_with fail
    refine HW.out.mono ?_; rintro e w' ⟨rfl, rfl⟩
    go_wp2_with fail
    go_ret
    exact ⟨ret_bool HE2.out.symm, rfl⟩
  · rw [decide_eq_false hh] at HH
    have HE2 := hide (HE.out.trans (by rw [decide_eq_false (show ¬ (2 ≤ zs.length ∧ zs.length ≤ 4) by omega), Bool.false_and]))
    clear hh HE
    go_enter Try.func34, Try.ntmps34
    go_wp2_with fail
    refine (HH.out _).mono ?_; rintro e w' ⟨rfl, rfl⟩
    go_wp2_with fail
    go_ret
    exact ⟨ret_bool HE2.out.symm, rfl⟩

theorem areHidden_any (A : Option Addr) (n c B : Nat) (zs : List Int) (w : World) (hr : Ints w B A n zs) (hn : n ≤ 17592186044416) :
    Calls Try.prog 37 #[.slice A n c] w fun e w' => e = .returned (.bool (hidOk zs)) ∧ w = w' := by
  obtain rfl := hr.len
  have HH := hide (fun W => isHiddenCount_any (zs.length : Int) W)
  have HE : Hid (hidOk zs = (decide (2 ≤ zs.length ∧ zs.length ≤ 4) && within 0 5 zs)) := hide rfl
  by_cases hh : 2 ≤ (zs.length : Int) ∧ (zs.length : Int) ≤ 4
  · rw [decide_eq_true hh] at HH
    have HW := hide (areWithin_any A zs.length c B zs 0 5 w hr hn)
    have HE2 := hide (HE.out.trans (by rw [decide_eq_true (show 2 ≤ zs.length ∧ zs.length ≤ 4 by omega), Bool.true_and]))
    clear hh HE
    go_enter Try.func37, Try.ntmps37
    go_wp2_with fail
    refine (HH.out _).mono ?_; rintro e w' ⟨rfl, rfl⟩
    go_wp2_with fail
    refine HW.out.mono ?_; rintro e w' ⟨rfl, rfl⟩
    go_wp2_with fail
    go_ret
    exact ⟨ret_bool HE2.out.symm, rfl⟩
  · rw [decide_eq_false hh] at HH
    have HE2 := hide (HE.out.trans (by rw [decide_eq_false (show ¬ (2 ≤ zs.length ∧ zs.length ≤ 4) by omega), Bool.false_and]))
    clear hh HE
    go_enter Try.func37, Try.ntmps37
    go_wp2_with fail
    refine (HH.out _).mono ?_; rintro e w' ⟨rfl, rfl⟩
    go_wp2_with fail
    go_ret
    exact ⟨ret_bool HE2.out.symm, rfl⟩
end Go.Proofs.Ytpgjhmgmfajelaa
