import Derived.Test.YtcbcgapnoompbaaMg01
import Derived.Test.YtcbcgapnoompbaaMg03
import Derived.Test.YtcbcgapnoompbaaMg06
import Derived.Test.YtcbcgapnoompbaaMg28

/-
  THE LAWS' OWN HELPERS: kSum, kLeast, kMost.
-/
namespace Go.Proofs.Ytcbcgapnoompbaa
open Go.RowKit Go.Deep
set_option linter.unusedVariables false

theorem kSum_any (A : Option Addr) (n c B : Nat) (zs : List Int) (w : World) (hr : Ints w B A n zs) (hn : n ≤ 1000000) (hb : within (-1000000000) 1000000000 zs = true) :
    Calls Try.prog 19 #[.slice A n c] w fun e w' => e = .returned (.int .i64 (tot zs)) ∧ w = w' := by
  obtain rfl := hr.len
  go_enter Try.func19, Try.ntmps19
  go_wp2
  go_loop [3, 8] (fun s i => ∃ k : Nat, k ≤ zs.length ∧ i = .int .i64 k ∧ s = .int .i64 (tot (zs.take k)))
    (fun _ i => zs.length - (intOf i).toNat)
  case atStart => exact ⟨0, Nat.zero_le _, rfl, rfl⟩
  case round =>
    obtain ⟨k, hk, rfl, rfl⟩ := hrel
    have hs := tot_small hb (by omega) k
    by_cases hlt : k < zs.length
    · have Hs := hide (tot_take_succ zs k hlt)
      have hk2 := within_get hb k hlt
      obtain ⟨ad, rfl, hab, hcell⟩ := hr.at_ hlt
      rw [show zs.getD k 0 = zs[k] from by simp [List.getD, List.getElem?_eq_getElem hlt]] at hcell
      generalize zs[k] = x at *
      generalize tot (zs.take k) = s at *
      go_wp2_with fail
      go_round
      case rel => exact ⟨k + 1, by omega, by go_num, by rw [Hs.out]⟩
      case measure => simp [intOf]; omega
    · go_wp2
      go_ret
      exact ⟨ret_int (by rw [List.take_of_length_le (by omega)]), rfl⟩
theorem fold_succ (f : Int → Int → Int) (b : Int) (zs : List Int) (k : Nat) (hk : k < zs.length) : (zs.take (k + 1)).foldl f b = f ((zs.take k).foldl f b) zs[k] := by
  rw [List.take_succ_eq_append_getElem hk, List.foldl_append]; rfl
theorem kLeast_any (A : Option Addr) (n c B : Nat) (zs : List Int) (w : World) (hr : Ints w B A n zs) (hn : n ≤ 1000000) (h0 : 0 < n) :
    Calls Try.prog 20 #[.slice A n c] w fun e w' => e = .returned (.int .i64 (zs.foldl min (zs.getD 0 0))) ∧ w = w' := by
  obtain rfl := hr.len
  obtain ⟨ad0, rfl, hab0, hcell0⟩ := hr.at_ h0
  rw [show ad0.add 0 = ad0 from by simp [Addr.add]] at hcell0
  have HF := hide (fun k hk => fold_succ min (zs.getD 0 0) zs k hk)
  generalize hz0 : zs.getD 0 0 = z0 at *
  clear hz0
  go_enter Try.func20, Try.ntmps20
  go_wp2_with fail
  go_loop [3, 11] (fun s i => ∃ k : Nat, k ≤ zs.length ∧ i = .int .i64 k ∧ s = .int .i64 ((zs.take k).foldl min z0))
    (fun _ i => zs.length - (intOf i).toNat)
  case atStart => exact ⟨0, Nat.zero_le _, rfl, rfl⟩
  case round =>
    obtain ⟨k, hk, rfl, rfl⟩ := hrel
    by_cases hlt : k < zs.length
    · have Hs := hide (HF.out k hlt)
      have hcell := hr.cellAt hlt
      rw [show zs.getD k 0 = zs[k] from by simp [List.getD, List.getElem?_eq_getElem hlt]] at hcell
      generalize zs[k] = x at *
      generalize (zs.take k).foldl min z0 = s at *
      by_cases hx : x < s
      · go_wp2_with fail
        go_round
        case rel => exact ⟨k + 1, by omega, by go_num, by rw [Hs.out, Int.min_eq_right (by omega)]⟩
        case measure => simp [intOf]; omega
      · go_wp2_with fail
        go_round
        case rel => exact ⟨k + 1, by omega, by go_num, by rw [Hs.out, Int.min_eq_left (by omega)]⟩
        case measure => simp [intOf]; omega
    · go_wp2_with fail
      go_ret
      exact ⟨ret_int (by rw [List.take_of_length_le (by omega)]), rfl⟩
theorem kMost_any (A : Option Addr) (n c B : Nat) (zs : List Int) (w : World) (hr : Ints w B A n zs) (hn : n ≤ 1000000) (h0 : 0 < n) :
    Calls Try.prog 23 #[.slice A n c] w fun e w' => e = .returned (.int .i64 (zs.foldl max (zs.getD 0 0))) ∧ w = w' := by
  obtain rfl := hr.len
  obtain ⟨ad0, rfl, hab0, hcell0⟩ := hr.at_ h0
  rw [show ad0.add 0 = ad0 from by simp [Addr.add]] at hcell0
  have HF := hide (fun k hk => fold_succ max (zs.getD 0 0) zs k hk)
  generalize hz0 : zs.getD 0 0 = z0 at *
  clear hz0
  go_enter Try.func23, Try.ntmps23
  go_wp2_with fail
  go_loop [3, 11] (fun s i => ∃ k : Nat, k ≤ zs.length ∧ i = .int .i64 k ∧ s = .int .i64 ((zs.take k).foldl max z0))
    (fun _ i => zs.length - (intOf i).toNat)
  case atStart => exact ⟨0, Nat.zero_le _, rfl, rfl⟩
  case round =>
    obtain ⟨k, hk, rfl, rfl⟩ := hrel
    by_cases hlt : k < zs.length
    · have Hs := hide (HF.out k hlt)
      have hcell := hr.cellAt hlt
      rw [show zs.getD k 0 = zs[k] from by simp [List.getD, List.getElem?_eq_getElem hlt]] at hcell
      generalize zs[k] = x at *
      generalize (zs.take k).foldl max z0 = s at *
      by_cases hx : s < x
      · go_wp2_with fail
        go_round
        case rel => exact ⟨k + 1, by omega, by go_num, by rw [Hs.out, Int.max_eq_right (by omega)]⟩
        case measure => simp [intOf]; omega
      · go_wp2_with fail
        go_round
        case rel => exact ⟨k + 1, by omega, by go_num, by rw [Hs.out, Int.max_eq_left (by omega)]⟩
        case measure => simp [intOf]; omega
    · go_wp2_with fail
      go_ret
      exact ⟨ret_int (by rw [List.take_of_length_le (by omega)]), rfl⟩
end Go.Proofs.Ytcbcgapnoompbaa
