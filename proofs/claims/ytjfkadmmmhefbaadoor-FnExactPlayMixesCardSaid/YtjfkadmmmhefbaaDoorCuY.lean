
/-
  A MIX OF TWO CUPS, THE PROGRAM's WAY: isMixAmong.
-/
import Derived.Test.YtjfkadmmmhefbaaDoorCuX
import Derived.Test.YtjfkadmmmhefbaaDoorSs
import Derived.Test.YtjfkadmmmhefbaaDoorSums
import Derived.Deep.RegionHeld3
import Derived.Deep.RegionWith
namespace Go.Proofs.YtjfkadmmmhefbaaDoor
open Go.RowKit Go.Deep
set_option linter.unusedVariables false

theorem two_lt {n : Int} {x y : Int} (h : x < y) : decide (0 ≤ x ∧ x < y ∧ y < n) = two n x y := by
  unfold two
  apply decide_eq_decide.2
  omega

set_option maxHeartbeats 2000000 in
set_option maxRecDepth 100000 in
theorem isMixAmong_two (n : Nat) (ad : Addr) (c : Nat) (x y : Int) (w : World) (hc0 : w.cell? ad = some (.int .i64 x)) (hc1 : w.cell? ⟨ad.block, ad.off + 1, none⟩ = some (.int .i64 y)) :
    Calls Tryd.prog 21 #[.int .i64 (n : Int), .slice (some ad) 2 c] w fun e w' => e = .returned (.bool (decide (0 ≤ x ∧ x < y ∧ y < n))) ∧ Below w.heap.size w w' := by
  by_cases hl : x < y
  · rw [two_lt hl]
    have HT := hide (fun W => areTwoAmong_any (n : Int) x y W)
    generalize two (n : Int) x y = t at *
    have hl' : decide (x < y) = true := decide_eq_true hl
    clear hl
    go_enter Tryd.func21, Tryd.ntmps21
    go_wp2_with fail
    go_region_held3 (fun W => W.cell? ad = some (.int .i64 x) ∧ W.cell? ⟨ad.block, ad.off + 1, none⟩ = some (.int .i64 y)) (first | exact ⟨hc0, hc1⟩ | go_keep)
      (first | (go_at_call 35; (with_reducible refine (HT.out _).mono ?_); rintro e w2 ⟨rfl, rfl⟩))
    go_wp2_with fail
    go_ret
    exact ⟨rfl, (Below.refl _ _).drew⟩
  · have hl' : decide (x < y) = false := decide_eq_false hl
    rw [decide_eq_false (show ¬ (0 ≤ x ∧ x < y ∧ y < (n : Int)) from fun h => hl h.2.1)]
    clear hl
    go_enter Tryd.func21, Tryd.ntmps21
    go_wp2_with fail
    go_region
    go_wp2_with fail
    go_ret
    exact ⟨rfl, (Below.refl _ _).drew⟩

set_option maxRecDepth 100000 in
theorem isMixAmong_not (n : Nat) (A : Option Addr) (k c : Nat) (w : World) (hne : ((k : Int) == 2) = false) :
    Calls Tryd.prog 21 #[.int .i64 (n : Int), .slice A k c] w fun e w' => e = .returned (.bool false) ∧ Below w.heap.size w w' := by
  go_enter Tryd.func21, Tryd.ntmps21
  go_wp2_with fail
  go_region
  go_wp2_with fail
  go_ret
  exact ⟨rfl, (Below.refl _ _).drew⟩

theorem isMixAmong_any (n : Nat) (A : Option Addr) (k c B : Nat) (m : List Int) (w : World) (hr : Ints w B A k m) :
    Calls Tryd.prog 21 #[.int .i64 (n : Int), .slice A k c] w fun e w' => e = .returned (.bool (mixable n m)) ∧ Below w.heap.size w w' := by
  obtain rfl := hr.len
  by_cases h2 : m.length = 2
  · match m, h2 with
    | [x, y], _ =>
      obtain ⟨ad, rfl, hab, hc0⟩ := hr.at_ (show 0 < 2 by omega)
      obtain ⟨ad', had', _, hc1⟩ := hr.at_ (show 1 < 2 by omega)
      obtain rfl : ad' = ad := by injection had' with h; exact h.symm
      rw [mixable_two]
      exact isMixAmong_two n ad' c x y w hc0 hc1
  · have hm : mixable n m = false := decide_eq_false (fun h => h2 h.1)
    rw [hm]
    exact isMixAmong_not n A m.length c w (by simp; omega)
end Go.Proofs.YtjfkadmmmhefbaaDoor
