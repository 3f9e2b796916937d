import Derived.Test.YtediapekgbekeaaMg12
import Derived.Test.YtediapekgbekeaaMg01
import Derived.Deep.QuietTactic
import Derived.BigQuiet
import Derived.Test.YtediapekgbekeaaMg17
import Derived.Test.YtediapekgbekeaaMg18

/-
  THE LAWS' OWN HELPERS: big, kSame, kSize.
-/
namespace Go.Proofs.Ytediapekgbekeaa
open Go.RowKit Go.Deep
set_option linter.unusedVariables false

theorem big_no (A A' : Option Addr) (n c n' c' : Nat) (w : World) (h : n + n' ≤ 1048576) :
    Calls Try.prog 4 #[.slice A n c, .slice A' n' c'] w fun e w' => e = .returned (.bool false) ∧ w = w' := by
  go_enter Try.func4, Try.ntmps4
  go_wp2_with fail
  go_ret
  exact ⟨congrArg (fun b => Ending.returned (.bool b)) (by simp; omega), rfl⟩
theorem big_yes (A A' : Option Addr) (n c n' c' : Nat) (w : World) (h : ¬ n + n' ≤ 1048576) :
    Calls Try.prog 4 #[.slice A n c, .slice A' n' c'] w fun e w' => e = .returned (.bool true) ∧ w = w' := by
  by_cases h1 : 1048576 < n
  · go_enter Try.func4, Try.ntmps4
    go_wp2_with fail
    go_ret
    exact ⟨rfl, rfl⟩
  · go_enter Try.func4, Try.ntmps4
    go_wp2_with fail
    go_ret
    exact ⟨congrArg (fun b => Ending.returned (.bool b)) (by simp; omega), rfl⟩
theorem kSame_same (A A' : Option Addr) (n c c' B B' : Nat) (zs : List Int) (w : World) (hr : Ints w B A n zs) (hr' : Ints w B' A' n zs) (hB : B ≤ w.heap.size) (hB' : B' ≤ w.heap.size) (hn : n ≤ 17592186044416) :
    Calls Try.prog 25 #[.slice A n c, .slice A' n c'] w fun e w' => e = .returned (.bool true) ∧ Below w.heap.size w w' := by
  have hlen := hr.len
  have hne : ((n : Int) != (n : Int)) = false := by simp
  go_enter Try.func25, Try.ntmps25
  go_wp2
  go_loopw [13] (fun i wr => ∃ k : Nat, k ≤ n ∧ i = .int .i64 k ∧ Below w.heap.size w wr)
    (fun i _ => n - (intOf i).toNat)
  case atStart => exact ⟨0, Nat.zero_le _, rfl, Below.refl _ _⟩
  case round =>
    obtain ⟨k, hk, rfl, hb⟩ := hrel
    by_cases hlt : k < n
    · obtain ⟨ad, rfl, hab, hcell⟩ := (hr.below hb (by omega)).at_ hlt
      obtain ⟨ad', rfl, hab', hcell'⟩ := (hr'.below hb (by omega)).at_ hlt
      have hxx : ∀ x : Int, (x != x) = false := fun x => by simp
      go_wp2
      go_quiet (fail)
      go_wp2
      go_roundw
      case rel => exact ⟨k + 1, by omega, by go_num, below_drewN hb _⟩
      case measure => simp [intOf]; omega
    · go_wp2
      go_ret
      exact ⟨rfl, hb⟩
theorem kSize_any (A : Option Addr) (n c B : Nat) (zs : List Int) (w : World) (hr : Ints w B A n zs) (hn : n ≤ 1000000) (hb : within (-1000000000) 1000000000 zs = true) :
    Calls Try.prog 32 #[.slice A n c] w fun e w' => e = .returned (.int .i64 (sizes zs)) ∧ w = w' := by
  obtain rfl := hr.len
  go_enter Try.func32, Try.ntmps32
  go_wp2
  go_loop [3, 8] (fun s i => ∃ k : Nat, k ≤ zs.length ∧ i = .int .i64 k ∧ s = .int .i64 (sizes (zs.take k)))
    (fun _ i => zs.length - (intOf i).toNat)
  case atStart => exact ⟨0, Nat.zero_le _, rfl, rfl⟩
  case round =>
    obtain ⟨k, hk, rfl, rfl⟩ := hrel
    have hs := sizes_small hb (by omega) k
    by_cases hlt : k < zs.length
    · have Hs := hide (sizes_take_succ zs k hlt)
      have hk2 := within_get hb k hlt
      obtain ⟨ad, rfl, hab, hcell⟩ := hr.at_ hlt
      rw [show zs.getD k 0 = zs[k] from by simp [List.getD, List.getElem?_eq_getElem hlt]] at hcell
      generalize zs[k] = x at *
      generalize sizes (zs.take k) = s at *
      by_cases hx : x < 0
      · have e : Hid (size1 x = -x) := hide (by unfold size1; rw [if_neg (by omega)])
        go_wp2_with fail
        go_round
        case rel => exact ⟨k + 1, by omega, by go_num, by rw [Hs.out, e.out]; go_num⟩
        case measure => simp [intOf]; omega
      · have e : Hid (size1 x = x) := hide (by unfold size1; rw [if_pos (by omega)])
        go_wp2_with fail
        go_round
        case rel => exact ⟨k + 1, by omega, by go_num, by rw [Hs.out, e.out]⟩
        case measure => simp [intOf]; omega
    · go_wp2
      go_ret
      exact ⟨ret_int (by rw [List.take_of_length_le (by omega)]), rfl⟩
end Go.Proofs.Ytediapekgbekeaa

/-
  THE LAWS' OWN HELPER kMoves: the same moves.
-/
namespace Go.Proofs.Ytediapekgbekeaa
open Go.RowKit Go.Deep
set_option linter.unusedVariables false

theorem kMoves_same (A A' : Option Addr) (n c c' B B' : Nat) (ms : List Mo) (w : World) (hr : Mos w B A n ms) (hr' : Mos w B' A' n ms) (hB : B ≤ w.heap.size) (hB' : B' ≤ w.heap.size) (hn : n ≤ 1099511627776) :
    Calls Try.prog 24 #[.slice A n c, .slice A' n c'] w fun e w' => e = .returned (.bool true) ∧ Below w.heap.size w w' := by
  obtain rfl := hr.len
  have hne : ((ms.length : Int) != (ms.length : Int)) = false := by simp
  go_enter Try.func24, Try.ntmps24
  go_wp2
  go_loopw [13] (fun i wr => ∃ k : Nat, k ≤ ms.length ∧ i = .int .i64 k ∧ Below w.heap.size w wr)
    (fun i _ => ms.length - (intOf i).toNat)
  case atStart => exact ⟨0, Nat.zero_le _, rfl, Below.refl _ _⟩
  case round =>
    obtain ⟨k, hk, rfl, hb⟩ := hrel
    have hsz := hb.size
    by_cases hlt : k < ms.length
    · obtain ⟨b, off, rfl, hab, hc0, hc1, hc2⟩ := (hr.below hb (by omega)).at_ hlt hlt
      obtain ⟨b', off', rfl, hab', hd0, hd1, hd2⟩ := (hr'.below hb (by omega)).at_ hlt hlt
      generalize ms[k] = m at *
      obtain ⟨m0, m1, m2⟩ := m
      simp only at hc0 hc1 hc2 hd0 hd1 hd2
      have hxx : ∀ x : Int, (x != x) = false := fun x => by simp
      go_wp2_with fail
      go_quiet (fail)
      go_wp2_with fail
      go_roundw
      case rel => exact ⟨k + 1, by omega, by go_num, below_drewN hb _⟩
      case measure => simp [intOf]; omega
    · go_wp2
      go_ret
      exact ⟨rfl, hb⟩
end Go.Proofs.Ytediapekgbekeaa
