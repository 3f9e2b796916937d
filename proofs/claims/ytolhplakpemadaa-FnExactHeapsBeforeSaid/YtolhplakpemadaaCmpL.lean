
/-
  slices.Compare OF LISTS OF NUMBERS.
-/
import Derived.Test.YtolhplakpemadaaWords
import Derived.Test.YtolhplakpemadaaBase
import Derived.Test.YtolhplakpemadaaLaws0
namespace Go.Proofs.Ytolhplakpemadaa
open Go.RowKit Go.Deep
set_option linter.unusedVariables false

/-- How two numbers, two lists, lie to each other. -/
def cmpI (x y : Int) : Int := if x < y then -1 else if y < x then 1 else 0
def cmpL : List Int → List Int → Int
  | [], [] => 0
  | [], _ :: _ => -1
  | _ :: _, [] => 1
  | x :: xs, y :: ys => if x < y then -1 else if y < x then 1 else cmpL xs ys
theorem cmpL_cons (x y : Int) (xs ys : List Int) : cmpL (x :: xs) (y :: ys) = if cmpI x y = 0 then cmpL xs ys else cmpI x y := by
  rw [cmpL]
  unfold cmpI
  by_cases h1 : x < y
  · simp [h1]
  · by_cases h2 : y < x <;> simp [h1, h2]
theorem cmpL_step {zs ys : List Int} {k : Nat} (h1 : k < zs.length) (h2 : k < ys.length) : cmpL (zs.drop k) (ys.drop k) = if cmpI zs[k] ys[k] = 0 then cmpL (zs.drop (k + 1)) (ys.drop (k + 1)) else cmpI zs[k] ys[k] := by
  rw [List.drop_eq_getElem_cons h1, List.drop_eq_getElem_cons h2, cmpL_cons]
theorem cmpL_more {zs ys : List Int} {k : Nat} (h1 : k < zs.length) (h2 : ys.length ≤ k) : cmpL (zs.drop k) (ys.drop k) = 1 := by
  rw [List.drop_eq_getElem_cons h1, List.drop_eq_nil_of_le h2, cmpL]
theorem cmpL_end {zs ys : List Int} {k : Nat} (h1 : zs.length ≤ k) : cmpL (zs.drop k) (ys.drop k) = if k < ys.length then -1 else 0 := by
  rw [List.drop_eq_nil_of_le h1]
  by_cases h2 : k < ys.length
  · rw [List.drop_eq_getElem_cons h2, cmpL, if_pos h2]
  · rw [List.drop_eq_nil_of_le (by omega), cmpL, if_neg h2]

set_option maxRecDepth 100000 in
theorem isNaN_any (x : Int) (w : World) : Calls Try.prog 48 #[.int .i64 x] w fun e w' => e = .returned (.bool false) ∧ w = w' := by
  have h : (x != x) = false := by simp
  go_enter Try.func48, Try.ntmps48
  go_wp2_with fail
  go_ret
  exact ⟨by first | rfl | (rw [h]; rfl) | simp, rfl⟩
set_option maxRecDepth 100000 in
theorem cmpCompare_any (x y : Int) (w : World) : Calls Try.prog 33 #[.int .i64 x, .int .i64 y] w fun e w' => e = .returned (.int .i64 (cmpI x y)) ∧ w = w' := by
  unfold cmpI
  by_cases h1 : x < y
  · rw [if_pos h1]
    go_enter Try.func33, Try.ntmps33
    go_wp2_with fail
    refine (isNaN_any _ _).mono ?_; rintro e w' ⟨rfl, rfl⟩
    go_wp2_with fail
    refine (isNaN_any _ _).mono ?_; rintro e w' ⟨rfl, rfl⟩
    go_wp2_with fail
    go_ret
    exact ⟨rfl, rfl⟩
  · rw [if_neg h1]
    by_cases h2 : y < x
    · rw [if_pos h2]
      go_enter Try.func33, Try.ntmps33
      go_wp2_with fail
      refine (isNaN_any _ _).mono ?_; rintro e w' ⟨rfl, rfl⟩
      go_wp2_with fail
      refine (isNaN_any _ _).mono ?_; rintro e w' ⟨rfl, rfl⟩
      go_wp2_with fail
      go_ret
      exact ⟨rfl, rfl⟩
    · rw [if_neg h2]
      go_enter Try.func33, Try.ntmps33
      go_wp2_with fail
      refine (isNaN_any _ _).mono ?_; rintro e w' ⟨rfl, rfl⟩
      go_wp2_with fail
      refine (isNaN_any _ _).mono ?_; rintro e w' ⟨rfl, rfl⟩
      go_wp2_with fail
      go_ret
      exact ⟨rfl, rfl⟩

set_option maxRecDepth 100000 in
set_option maxHeartbeats 1000000 in
theorem slCompare_any (A A' : Option Addr) (n n' c c' B : Nat) (zs ys : List Int) (w : World) (hr : Ints w B A n zs) (hr' : Ints w B A' n' ys) (hn : n ≤ 17592186044416) (hn' : n' ≤ 17592186044416) :
    Calls Try.prog 24 #[.slice A n c, .slice A' n' c'] w fun e w' => e = .returned (.int .i64 (cmpL zs ys)) ∧ w = w' := by
  obtain rfl := hr.len
  obtain rfl := hr'.len
  have HR := hide hr
  have HR' := hide hr'
  have HS := hide (fun k h1 h2 => cmpL_step (zs := zs) (ys := ys) (k := k) h1 h2)
  have HM := hide (fun k h1 h2 => cmpL_more (zs := zs) (ys := ys) (k := k) h1 h2)
  have HE := hide (fun k h1 => cmpL_end (zs := zs) (ys := ys) (k := k) h1)
  have H0 := hide (show cmpL zs ys = cmpL (zs.drop 0) (ys.drop 0) from rfl)
  clear hr hr'
  go_enter Try.func24, Try.ntmps24
  go_wp2_with fail
  go_loop [11] (fun i => ∃ k : Nat, k ≤ zs.length ∧ k ≤ ys.length ∧ i = .int .i64 k ∧ Hid (cmpL zs ys = cmpL (zs.drop k) (ys.drop k)))
    (fun i => zs.length - (intOf i).toNat)
  case atStart => exact ⟨0, Nat.zero_le _, Nat.zero_le _, rfl, H0⟩
  case round =>
    obtain ⟨k, hk, hk', rfl, HC⟩ := hrel
    by_cases hlt : k < zs.length
    · obtain ⟨ad, rfl, hab, hcell⟩ := HR.out.at_ hlt
      by_cases hlt' : k < ys.length
      · obtain ⟨ad', rfl, hab', hcell'⟩ := HR'.out.at_ hlt'
        have HSk := hide (HS.out k hlt hlt')
        have HX := hide (fun W => cmpCompare_any zs[k] ys[k] W)
        rw [show zs.getD k 0 = zs[k] from by simp [List.getD, hlt]] at hcell
        rw [show ys.getD k 0 = ys[k] from by simp [List.getD, hlt']] at hcell'
        generalize cmpI zs[k] ys[k] = q at *
        generalize zs[k] = x at *
        generalize ys[k] = y at *
        by_cases hq : q = 0
        · have HN := hide (show cmpL zs ys = cmpL (zs.drop (k + 1)) (ys.drop (k + 1)) from by rw [HC.out, HSk.out, if_pos hq])
          subst hq
          go_wp2_with fail
          refine (HX.out _).mono ?_; rintro e w' ⟨rfl, rfl⟩
          go_wp2_with fail
          go_round
          case rel => exact ⟨k + 1, by omega, by omega, by go_num, HN⟩
          case measure => simp [intOf]; omega
        · have HN := hide (show cmpL zs ys = q from by rw [HC.out, HSk.out, if_neg hq])
          go_wp2_with fail
          refine (HX.out _).mono ?_; rintro e w' ⟨rfl, rfl⟩
          go_wp2_with fail
          go_ret
          exact ⟨by rw [HN.out]; rfl, rfl⟩
      · have HN := hide (show cmpL zs ys = 1 from by rw [HC.out]; exact HM.out k hlt (by omega))
        go_wp2_with fail
        go_ret
        exact ⟨by rw [HN.out]; rfl, rfl⟩
    · have HN := hide (show cmpL zs ys = if k < ys.length then -1 else 0 from by rw [HC.out]; exact HE.out k (by omega))
      obtain rfl : k = zs.length := by omega
      by_cases h2 : zs.length < ys.length
      · rw [if_pos h2] at HN
        go_wp2_with fail
        go_ret
        exact ⟨by rw [HN.out]; rfl, rfl⟩
      · rw [if_neg h2] at HN
        go_wp2_with fail
        go_ret
        exact ⟨by rw [HN.out]; rfl, rfl⟩
end Go.Proofs.Ytolhplakpemadaa
