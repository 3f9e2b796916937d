
/-
  LISTS OF STRUCTS OF 2 NUMBERS (impl.Doubling), THE SECOND PART: szDoublingS, eqDoublingS. Printed by structs.py.
-/
import Derived.Test.YtnakkmmmkbjfbaaDb
import Derived.StillTailTactics
namespace Go.Proofs.Ytnakkmmmkbjfbaa
open Go.RowKit Go.Deep
set_option linter.unusedVariables false

set_option maxRecDepth 1000000 in
theorem eqDoublingS_same (A A' : Option Addr) (n c c' B B' : Nat) (ms : List Db) (w : World) (hr : Dbs w B A n ms) (hr' : Dbs w B' A' n ms) (hB : B ≤ w.heap.size) (hB' : B' ≤ w.heap.size) (hn : n ≤ 1099511627776) :
    Calls Try.prog 13 #[.slice A n c, .slice A' n c'] w fun e w' => e = .returned (.bool true) ∧ Below w.heap.size w w' := by
  obtain rfl := hr.len
  have hne : ((ms.length : Int) != (ms.length : Int)) = false := by simp
  go_enter Try.func13, Try.ntmps13
  go_wp2
  go_loopw [5] (fun i wr => ∃ k : Nat, k ≤ ms.length ∧ i = .int .i64 k ∧ Below w.heap.size w wr)
    (fun i _ => ms.length - (intOf i).toNat)
  case atStart => exact ⟨0, Nat.zero_le _, rfl, Below.refl _ _⟩
  case round =>
    obtain ⟨k, hk, rfl, hb⟩ := hrel
    have hsz := hb.size
    by_cases hlt : k < ms.length
    · obtain ⟨b, off, rfl, hab, hc0, hc1⟩ := (hr.below hb (by omega)).at_ hlt hlt
      obtain ⟨b', off', rfl, hab', hd0, hd1⟩ := (hr'.below hb (by omega)).at_ hlt hlt
      generalize ms[k] = m at *
      go_wp2_with fail
      go_still_tail 8, (by kernel_rfl)
      go_wp2_with fail
      refine (eqDoubling_same m _).mono ?_
      rintro e w' ⟨rfl, hb'⟩
      go_wp2_with fail
      go_roundw
      case rel => exact ⟨k + 1, by omega, by go_num, below_next (w1 := wr.drew) hb.drew hb'⟩
      case measure => simp [intOf]; omega
    · go_wp2
      go_ret
      exact ⟨rfl, hb⟩
end Go.Proofs.Ytnakkmmmkbjfbaa
