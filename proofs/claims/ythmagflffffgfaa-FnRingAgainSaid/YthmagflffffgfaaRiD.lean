
/-
  LEADS, PERIODS, RINGS BEHIND MANY STEPS, GREATEST NUMBERS AT LAST, THE MODEL's WAY.
-/
import Derived.Test.YthmagflffffgfaaRiC
import Derived.Test.YthmagflffffgfaaRiS
import Derived.Test.YthmagflffffgfaaLaws0
namespace Go.Proofs.Ythmagflffffgfaa
open Go.RowKit Go.Deep
set_option linter.unusedVariables false

/-- The model's LeadOfRing. -/
theorem specLeadOfRing_any (A : Option Addr) (n c : Nat) (zs : List Int) (w : World) (hr : Ints w w.heap.size A n zs) (hn : n ≤ 17592186044416) :
    Calls Try.prog 5 #[.slice A n c] w fun e w' => e = .returned (.tuple #[.int .i64 (leadR zs), .bool (rgood zs)]) ∧ Below w.heap.size w w' := by
  obtain rfl := hr.len
  cases hg : rgood zs
  · have HR := hide (show leadR zs = 0 by simp [leadR, hg])
    go_enter Try.func5, Try.ntmps5
    go_wp2_with fail
    refine (riGood_any _ _ _ _ _ _ hr hn).mono ?_; rintro e w' ⟨rfl, rfl⟩; rw [hg]
    go_wp2_with fail
    go_ret2
    exact ⟨by rw [HR.out]; rfl, Below.refl _ _⟩
  · have HR := hide (show leadR zs = (leadF zs : Int) by simp [leadR, hg])
    have HC := hide (riCycle_any A zs.length c _ zs (leadF zs) (perF zs) w hr (Nat.le_refl _) hg (cycF hg).1 (cycF hg).2)
    go_enter Try.func5, Try.ntmps5
    go_wp2_with fail
    refine (riGood_any _ _ _ _ _ _ hr hn).mono ?_; rintro e w' ⟨rfl, rfl⟩; rw [hg]
    go_wp2_with fail
    refine HC.out.mono ?_; rintro e w' ⟨rfl, hb⟩
    go_wp2_with fail
    go_ret2
    exact ⟨by rw [HR.out]; rfl, hb⟩
/-- The model's riMost. -/
theorem mx0_take (zs : List Int) (h0 : 0 < zs.length) (h : within 0 1000 zs = true) (k : Nat) (hk : k < zs.length) : max ((zs.take k).foldl max 0) zs[k] = (zs.take (k + 1)).foldl max 0 := by
  rw [List.take_succ_eq_append_getElem hk, List.foldl_append]; rfl
theorem mx0 (zs : List Int) (h0 : 0 < zs.length) (h : within 0 1000 zs = true) : zs.foldl max 0 = mx zs := by
  have h1 := foldl_max_le zs 0
  have h2 := mx_bd h0 h
  rcases h1.2.2 with e | e
  · have := h1.2.1 _ (mx_mem h0); omega
  · have := le_mx e
    have := h1.2.1 _ (mx_mem h0)
    omega
theorem fold_take_bd (zs : List Int) (h : within 0 1000 zs = true) (k : Nat) : 0 ≤ (zs.take k).foldl max 0 := (foldl_max_le _ 0).1
/-- Where the model's riLast stands. -/
def LastRel (zs : List Int) (w : World) (p v m : Value) (wr : World) : Prop :=
  ∃ t : Nat, t ≤ perF zs ∧ p = .int .i64 ((perF zs - t : Nat) : Int) ∧ m = .int .i64 (if t = 0 then 0 else mx (lastF zs)) ∧ Own wr w.heap.size 3 v (rit zs (leadF zs + t)) ∧ Below w.heap.size w wr

end Go.Proofs.Ythmagflffffgfaa
