
/-
  LISTS OF STRUCTS OF 4 NUMBERS (impl.Clue), THE SECOND PART: szClueS, eqClueS. Printed by structs.py.
-/
import Derived.Test.YtmjlfmlbmegheaaDoorCl
import Derived.StillTailTactics
namespace Go.Proofs.YtmjlfmlbmegheaaDoor
open Go.RowKit Go.Deep
set_option linter.unusedVariables false

theorem szClueS_any (A : Option Addr) (n c : Nat) (left : Int) (w : World) (hn : n ≤ 9223372036854775807) (h0 : 0 ≤ left) (h1 : left ≤ 1048576) :
    Calls Tryd.prog 14 #[.slice A n c, .int .i64 left] w fun e w' => e = .returned (.int .i64 (if left < (n : Int) then -1 else left - (n : Int))) ∧ w = w' := by
  by_cases h : left < (n : Int)
  · rw [if_pos h]
    have h' : left - (n : Int) < 0 := by omega
    go_enter Tryd.func14, Tryd.ntmps14
    go_wp2_with fail
    go_ret
    exact ⟨rfl, rfl⟩
  · rw [if_neg h]
    have h' : 0 ≤ left - (n : Int) := by omega
    go_enter Tryd.func14, Tryd.ntmps14
    go_wp2_with fail
    go_ret
    exact ⟨rfl, rfl⟩

set_option maxRecDepth 1000000 in
theorem eqClueS_same (A A' : Option Addr) (n c c' B B' : Nat) (ms : List Cl) (w : World) (hr : Cls w B A n ms) (hr' : Cls w B' A' n ms) (hB : B ≤ w.heap.size) (hB' : B' ≤ w.heap.size) (hn : n ≤ 1099511627776) :
    Calls Tryd.prog 22 #[.slice A n c, .slice A' n c'] w fun e w' => e = .returned (.bool true) ∧ Below w.heap.size w w' := by
  obtain rfl := hr.len
  have hne : ((ms.length : Int) != (ms.length : Int)) = false := by simp
  go_enter Tryd.func22, Tryd.ntmps22
  go_wp2
  go_loopw [5] (fun i wr => ∃ k : Nat, k ≤ ms.length ∧ i = .int .i64 k ∧ Below w.heap.size w wr)
    (fun i _ => ms.length - (intOf i).toNat)
  case atStart => exact ⟨0, Nat.zero_le _, rfl, Below.refl _ _⟩
  case round =>
    obtain ⟨k, hk, rfl, hb⟩ := hrel
    have hsz := hb.size
    by_cases hlt : k < ms.length
    · obtain ⟨b, off, rfl, hab, hc0, hc1, hc2, hc3⟩ := (hr.below hb (by omega)).at_ hlt hlt
      obtain ⟨b', off', rfl, hab', hd0, hd1, hd2, hd3⟩ := (hr'.below hb (by omega)).at_ hlt hlt
      generalize ms[k] = m at *
      go_wp2_with fail
      go_still_tail 8, (by kernel_rfl)
      go_wp2_with fail
      refine (eqClue_same m _).mono ?_
      rintro e w' ⟨rfl, hb'⟩
      go_wp2_with fail
      go_roundw
      case rel => exact ⟨k + 1, by omega, by go_num, below_next (w1 := wr.drew) hb.drew hb'⟩
      case measure => simp [intOf]; omega
    · go_wp2
      go_ret
      exact ⟨rfl, hb⟩
end Go.Proofs.YtmjlfmlbmegheaaDoor
