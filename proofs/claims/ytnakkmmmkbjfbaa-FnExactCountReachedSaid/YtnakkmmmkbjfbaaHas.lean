
/-
  A NUMBER IN A LIST, BOTH WAYS: the model's l1Has, slices.Index, slices.Contains.
-/
import Derived.Test.YtnakkmmmkbjfbaaBase
namespace Go.Proofs.Ytnakkmmmkbjfbaa
open Go.RowKit Go.Deep
set_option linter.unusedVariables false

def inL (zs : List Int) (x : Int) : Bool := decide (x ∈ zs)
theorem inL_yes {zs : List Int} {x : Int} (h : x ∈ zs) : inL zs x = true := decide_eq_true h
theorem inL_no {zs : List Int} {x : Int} (h : x ∉ zs) : inL zs x = false := decide_eq_false h
theorem not_in {zs : List Int} {x : Int} (h : ∀ (j : Nat) (_ : j < zs.length), zs[j] ≠ x) : x ∉ zs := fun hx => by
  obtain ⟨j, hj, e⟩ := List.getElem_of_mem hx
  exact h j hj e

theorem l1Has_in (A : Option Addr) (n c B : Nat) (zs : List Int) (x : Int) (w : World) (hr : Ints w B A n zs) (hn : n ≤ 1000000) :
    Calls Try.prog 39 #[.slice A n c, .int .i64 x] w fun e w' => e = .returned (.bool (inL zs x)) ∧ w = w' := by
  obtain rfl := hr.len
  go_enter Try.func39, Try.ntmps39
  go_wp2
  go_loop [9] (fun i => ∃ k : Nat, k ≤ zs.length ∧ i = .int .i64 k ∧ Hid (∀ (j : Nat) (_ : j < zs.length), j < k → zs[j] ≠ x))
    (fun i => zs.length - (intOf i).toNat)
  case atStart => exact ⟨0, Nat.zero_le _, rfl, hide (fun j _ hj => by omega)⟩
  case round =>
    obtain ⟨k, hk, rfl, HA⟩ := hrel
    by_cases hlt : k < zs.length
    · obtain ⟨ad, rfl, hab, hcell⟩ := hr.at_ hlt
      rw [show zs.getD k 0 = zs[k] from by simp [List.getD, List.getElem?_eq_getElem hlt]] at hcell
      by_cases h1 : zs[k] = x
      · have HE := hide (inL_yes (zs := zs) (x := x) (by rw [← h1]; exact List.getElem_mem hlt))
        rw [h1] at hcell
        clear h1
        go_wp2
        go_ret
        exact ⟨by rw [HE.out]; rfl, rfl⟩
      · have HS := hide (show ∀ (j : Nat) (_ : j < zs.length), j < k + 1 → zs[j] ≠ x from fun j hj hjk => by
          by_cases e : j = k
          · subst e; exact h1
          · exact HA.out j hj (by omega))
        generalize zs[k] = a at *
        go_wp2
        go_round
        case rel => exact ⟨k + 1, by omega, by go_num, HS⟩
        case measure => simp [intOf]; omega
    · have HE := hide (inL_no (zs := zs) (x := x) (not_in fun j hj => HA.out j hj (by omega)))
      go_wp2
      go_ret
      exact ⟨by rw [HE.out]; rfl, rfl⟩

/-- slices.Index: where it is, or a number less than 0. -/
theorem Index_in (A : Option Addr) (n c B : Nat) (zs : List Int) (x : Int) (w : World) (hr : Ints w B A n zs) (hn : n ≤ 1000000) :
    Calls Try.prog 50 #[.slice A n c, .int .i64 x] w fun e w' => ∃ r : Int, e = .returned (.int .i64 r) ∧ inL zs x = decide (0 ≤ r) ∧ w = w' := by
  obtain rfl := hr.len
  go_enter Try.func50, Try.ntmps50
  go_wp2
  go_loop [8] (fun i => ∃ k : Nat, k ≤ zs.length ∧ i = .int .i64 k ∧ Hid (∀ (j : Nat) (_ : j < zs.length), j < k → zs[j] ≠ x))
    (fun i => zs.length - (intOf i).toNat)
  case atStart => exact ⟨0, Nat.zero_le _, rfl, hide (fun j _ hj => by omega)⟩
  case round =>
    obtain ⟨k, hk, rfl, HA⟩ := hrel
    by_cases hlt : k < zs.length
    · obtain ⟨ad, rfl, hab, hcell⟩ := hr.at_ hlt
      rw [show zs.getD k 0 = zs[k] from by simp [List.getD, List.getElem?_eq_getElem hlt]] at hcell
      by_cases h1 : zs[k] = x
      · have HE := hide (inL_yes (zs := zs) (x := x) (by rw [← h1]; exact List.getElem_mem hlt))
        rw [h1] at hcell
        clear h1
        go_wp2
        go_ret
        exact ⟨(k : Int), rfl, by rw [HE.out]; simp, rfl⟩
      · have HS := hide (show ∀ (j : Nat) (_ : j < zs.length), j < k + 1 → zs[j] ≠ x from fun j hj hjk => by
          by_cases e : j = k
          · subst e; exact h1
          · exact HA.out j hj (by omega))
        have h1' : ¬ (x = zs[k]) := fun h => h1 h.symm
        generalize zs[k] = a at *
        go_wp2
        go_round
        case rel => exact ⟨k + 1, by omega, by go_num, HS⟩
        case measure => simp [intOf]; omega
    · have HE := hide (inL_no (zs := zs) (x := x) (not_in fun j hj => HA.out j hj (by omega)))
      go_wp2
      go_ret
      exact ⟨-1, rfl, by rw [HE.out]; simp, rfl⟩

/-- slices.Contains. -/
theorem Contains_in (A : Option Addr) (n c B : Nat) (zs : List Int) (x : Int) (w : World) (hr : Ints w B A n zs) (hn : n ≤ 1000000) :
    Calls Try.prog 44 #[.slice A n c, .int .i64 x] w fun e w' => e = .returned (.bool (inL zs x)) ∧ w = w' := by
  have HI := hide (Index_in A n c B zs x w hr hn)
  generalize inL zs x = b at *
  go_enter Try.func44, Try.ntmps44
  go_wp2_with fail
  refine HI.out.mono ?_; rintro e w' ⟨r, rfl, hr2, rfl⟩
  have HR := hide hr2
  clear hr2
  go_wp2_with fail
  go_ret
  exact ⟨by rw [HR.out]; rfl, rfl⟩
end Go.Proofs.Ytnakkmmmkbjfbaa
