
/-
  SUMS AND SHARES, BOTH WAYS: hpSum, StonesOf, EqualShare, CanBeEqual, hpEqual, shareOfEach.
-/
import Derived.Test.YtkipalcmeemjbaaGood
import Derived.Test.YtkipalcmeemjbaaPlainB
namespace Go.Proofs.Ytkipalcmeemjbaa
open Go.RowKit Go.Deep

theorem quiet_left {P : Program} {f : FuncId} {args : Array Value} {w : World} {n : Nat} {v : Value}
    (h : Calls P f args (w.drewN n) fun e w' => e = .returned v ∧ w.drewN n = w') : Calls P f args (w.drewN n) fun e w'' => e = .returned v ∧ ∃ m, w'' = w.drewN m :=
  h.mono fun _ _ ⟨he, hm⟩ => ⟨he, n, hm.symm⟩

/-- The model's hpSum. -/
theorem hpSum_any (A : Option Addr) (n c B : Nat) (zs : List Int) (w : World) (hr : Ints w B A n zs) (hn : n ≤ 1000000) (hb : within (-1000000000) 1000000000 zs = true) :
    Calls Try.prog 17 #[.slice A n c] w fun e w' => e = .returned (.int .i64 (tot zs)) ∧ w = w' := by
  obtain rfl := hr.len
  go_enter Try.func17, Try.ntmps17
  go_wp2
  go_loop [3, 8] (fun s i => ∃ k : Nat, k ≤ zs.length ∧ i = .int .i64 k ∧ s = .int .i64 (tot (zs.take k)))
    (fun _ i => zs.length - (intOf i).toNat)
  case atStart => exact ⟨0, Nat.zero_le _, rfl, rfl⟩
  case round =>
    obtain ⟨k, hk, rfl, rfl⟩ := hrel
    have hs := tot_small hb (by omega) k
    by_cases hlt : k < zs.length
    · have Hs := hide (tot_take_succ zs k hlt)
      have hk2 := within_get hb k hlt
      obtain ⟨ad, rfl, hab, hcell⟩ := hr.at_ hlt
      rw [show zs.getD k 0 = zs[k] from by simp [List.getD, List.getElem?_eq_getElem hlt]] at hcell
      go_wp2
      go_round
      case rel => exact ⟨k + 1, by omega, by go_num, by rw [Hs.out]⟩
      case measure => simp [intOf]; omega
    · go_wp2
      go_ret
      exact ⟨ret_int (by rw [List.take_of_length_le (by omega)]), rfl⟩

/-- The program's sumOf. -/
theorem sumOf_any (A : Option Addr) (n c B : Nat) (zs : List Int) (w : World) (hr : Ints w B A n zs) (hn : n ≤ 1000000) (hb : within (-1000000000) 1000000000 zs = true) :
    Calls Try.prog 23 #[.slice A n c] w fun e w' => e = .returned (.int .i64 (tot zs)) ∧ w = w' := by
  obtain rfl := hr.len
  have HB := hide hb
  clear hb
  go_enter Try.func23, Try.ntmps23
  go_wp2
  go_loop [3, 8] (fun s i => ∃ k : Nat, k ≤ zs.length ∧ i = .int .i64 k ∧ s = .int .i64 (tot (zs.take k)))
    (fun _ i => zs.length - (intOf i).toNat)
  case atStart => exact ⟨0, Nat.zero_le _, rfl, rfl⟩
  case round =>
    obtain ⟨k, hk, rfl, rfl⟩ := hrel
    have hs := tot_small HB.out (by omega) k
    by_cases hlt : k < zs.length
    · have Hs := hide (tot_take_succ zs k hlt)
      have hk2 := within_get HB.out k hlt
      obtain ⟨ad, rfl, hab, hcell⟩ := hr.at_ hlt
      rw [show zs.getD k 0 = zs[k] from by simp [List.getD, List.getElem?_eq_getElem hlt]] at hcell
      go_wp2
      go_round
      case rel => exact ⟨k + 1, by omega, by go_num, by rw [Hs.out]⟩
      case measure => simp [intOf]; omega
    · go_wp2
      go_ret
      exact ⟨ret_int (by rw [List.take_of_length_le (by omega)]), rfl⟩

end Go.Proofs.Ytkipalcmeemjbaa
