
/-
  THE LAWS' OWN HELPERS ON LISTS OF NUMBERS: toIntS (a copy), eqIntS (the same numbers).
-/
import Derived.Test.YtkhcabgpbmhimaaProg
import Derived.Test.YtkhcabgpbmhimaaWords
import Derived.WalkKit
import Derived.Deep.QuietTactic
import Derived.BigQuiet
namespace Go.Proofs.Ytkhcabgpbmhimaa
open Go.RowKit Go.Deep

theorem infoInt : (Try.prog.info? 3).map (fun i => (i.zero, i.size, i.bytes)) = some (some (.int .i64 0), 1, 8) := by kernel_rfl

/-- WHAT toIntS LEAVES: a new row at the heap's end that reads as the argument did; nothing that was there has turned. -/
def Copied (zs : List Int) (w : World) (e : Ending) (w' : World) : Prop :=
  ∃ g, w.heap.size ≤ g ∧ g < w'.heap.size ∧ e = .returned (.slice (some ⟨g, 0, none⟩) zs.length zs.length) ∧ Row w' g 3 zs ∧ Below w.heap.size w w'

/-- The same numbers: true. -/
theorem eqIntS_same (A A' : Option Addr) (n c c' B B' : Nat) (zs : List Int) (w : World) (hr : Ints w B A n zs) (hr' : Ints w B' A' n zs) (hB : B ≤ w.heap.size) (hB' : B' ≤ w.heap.size) (hn : n ≤ 17592186044416) :
    Calls Try.prog 6 #[.slice A n c, .slice A' n c'] w fun e w' => e = .returned (.bool true) ∧ Below w.heap.size w w' := by
  have hlen := hr.len
  have hne : ((n : Int) != (n : Int)) = false := by simp
  go_enter Try.func6, Try.ntmps6
  go_wp2
  go_loopw [5] (fun i wr => ∃ k : Nat, k ≤ n ∧ i = .int .i64 k ∧ Below w.heap.size w wr)
    (fun i _ => n - (intOf i).toNat)
  case atStart => exact ⟨0, Nat.zero_le _, rfl, Below.refl _ _⟩
  case round =>
    obtain ⟨k, hk, rfl, hb⟩ := hrel
    by_cases hlt : k < n
    · obtain ⟨ad, rfl, hab, hcell⟩ := (hr.below hb (by omega)).at_ hlt
      obtain ⟨ad', rfl, hab', hcell'⟩ := (hr'.below hb (by omega)).at_ hlt
      go_wp2
      go_quiet (fail)
      go_wp2
      go_roundw
      case rel => exact ⟨k + 1, by omega, by go_num, below_drewN hb _⟩
      case measure => simp [intOf]; omega
    · go_wp2
      go_ret
      exact ⟨rfl, hb⟩
end Go.Proofs.Ytkhcabgpbmhimaa
