
/-
  DOUBLINGS, BOTH WAYS: CanDouble, PlayDoublings, DoubleHeap.
-/
import Derived.Test.YtdaghclnggbmoaaFewH
import Derived.Test.YtdaghclnggbmoaaDoub
import Derived.Test.YtdaghclnggbmoaaDoubP
import Derived.Test.YtdaghclnggbmoaaRowL
namespace Go.Proofs.Ytdaghclnggbmoaa
open Go.RowKit Go.Deep
set_option linter.unusedVariables false

theorem specCanDouble_any (A : Option Addr) (n c B : Nat) (zs : List Int) (d : Db) (w : World) (hr : Ints w B A n zs) (hB : B ≤ w.heap.size) (hn : n ≤ 17592186044416) :
    Calls Try.prog 7 #[.slice A n c, .agg #[.int .i64 d.x0, .int .i64 d.x1]] w fun e w' => e = .returned (.tuple #[.bool (canV zs d), .bool (few zs)]) ∧ Below w.heap.size w w' := by
  obtain rfl := hr.len
  have HG := hide (fun W (h : Ints W B A zs.length zs) => dbGood_any A zs.length c B zs W h hn)
  have hro : ∀ o, Ints (w.alloc o) B A zs.length zs := fun o => hr.alloc hB o
  cases hf : few zs
  · have H := hide (show canV zs d = false from by unfold canV; rw [hf]; rfl)
    rw [hf] at HG
    rw [H.out]
    clear hf
    go_enter Try.func7, Try.ntmps7
    go_wp2_with fail
    refine (HG.out _ (hro _)).mono ?_; rintro e w' ⟨rfl, rfl⟩
    go_wp2_with fail
    go_ret2
    exact ⟨rfl, (Below.refl _ _).alloc (Nat.le_refl _) _⟩
  · have hs := few_small hf
    have H := hide (show canV zs d = canD zs d.x0 d.x1 from by unfold canV; rw [hf]; rfl)
    have HC := hide (fun W (h : Ints W B A zs.length zs) (h' : B ≤ W.heap.size) => dbCan_any A zs.length c B zs d.x0 d.x1 W h h' (by omega) (by omega))
    rw [hf] at HG
    rw [H.out]
    generalize canD zs d.x0 d.x1 = o at *
    clear hf hs
    go_enter Try.func7, Try.ntmps7
    go_wp2_with fail
    refine (HG.out _ (hro _)).mono ?_; rintro e w' ⟨rfl, rfl⟩
    go_wp2_with fail
    refine (HC.out _ (hro _) (by simp; omega)).mono ?_; rintro e w2 ⟨rfl, hb2⟩
    go_wp2_with fail
    go_ret2
    exact ⟨rfl, below_next ((Below.refl _ _).alloc (Nat.le_refl _) _) hb2⟩

theorem CanDouble_any (A : Option Addr) (n c B : Nat) (zs : List Int) (d : Db) (w : World) (hr : Ints w B A n zs) (hB : B ≤ w.heap.size) (hn : n ≤ 17592186044416) :
    Calls Try.prog 10 #[.slice A n c, .agg #[.int .i64 d.x0, .int .i64 d.x1]] w fun e w' => e = .returned (.tuple #[.bool (canV zs d), .bool (few zs)]) ∧ Below w.heap.size w w' := by
  obtain rfl := hr.len
  have HG := hide (fun W (h : Ints W B A zs.length zs) => AreFewHeaps_any A zs.length c B zs W h hn)
  have hro : ∀ o, Ints (w.alloc o) B A zs.length zs := fun o => hr.alloc hB o
  cases hf : few zs
  · have H := hide (show canV zs d = false from by unfold canV; rw [hf]; rfl)
    rw [hf] at HG
    rw [H.out]
    clear hf
    go_enter Try.func10, Try.ntmps10
    go_wp2_with fail
    refine (HG.out _ (hro _)).mono ?_; rintro e w' ⟨rfl, rfl⟩
    go_wp2_with fail
    go_ret2
    exact ⟨rfl, (Below.refl _ _).alloc (Nat.le_refl _) _⟩
  · have hs := few_small hf
    have H := hide (show canV zs d = canD zs d.x0 d.x1 from by unfold canV; rw [hf]; rfl)
    have HR := hide (fun W (h : Ints W B A zs.length zs) (h' : B ≤ W.heap.size) => rowOf_any A zs.length c B zs W h h' (by omega) (by omega))
    have HC := hide (fun W => canDouble_any zs d.x0 d.x1 W hs.1 (by omega))
    rw [hf] at HG
    rw [H.out]
    generalize canD zs d.x0 d.x1 = o at *
    clear hf hs
    go_enter Try.func10, Try.ntmps10
    go_wp2_with fail
    refine (HG.out _ (hro _)).mono ?_; rintro e w' ⟨rfl, rfl⟩
    go_wp2_with fail
    have hA : Below w.heap.size w (w.alloc (.cells #[.int .i64 d.x0, .int .i64 d.x1] 28)) := (Below.refl _ _).alloc (Nat.le_refl _) _
    have k0 : (w.alloc (.cells #[.int .i64 d.x0, .int .i64 d.x1] 28)).cell? ⟨w.heap.size, 0, none⟩ = some (.int .i64 d.x0) := by simp
    have k1 : (w.alloc (.cells #[.int .i64 d.x0, .int .i64 d.x1] 28)).cell? ⟨w.heap.size, 1, none⟩ = some (.int .i64 d.x1) := by simp
    have z0 : w.heap.size < (w.alloc (.cells #[.int .i64 d.x0, .int .i64 d.x1] 28)).heap.size := by simp
    have HR0 := hide (HR.out (w.alloc (.cells #[.int .i64 d.x0, .int .i64 d.x1] 28)).drew (hro _) (by simp; omega))
    clear hro
    generalize (w.alloc (.cells #[.int .i64 d.x0, .int .i64 d.x1] 28)) = W0 at *
    have HS : Hid (∀ W', Below W0.heap.size W0 W' → (W'.cell? ⟨w.heap.size, 0, none⟩ = some (.int .i64 d.x0) ∧ W'.cell? ⟨w.heap.size, 1, none⟩ = some (.int .i64 d.x1))) :=
      hide fun W' h => ⟨(h.cell (p := ⟨w.heap.size, 0, none⟩) z0).trans k0, (h.cell (p := ⟨w.heap.size, 1, none⟩) z0).trans k1⟩
    go_region_with (first
      | (go_at_call 28; (with_reducible refine HR0.out.mono ?_); rintro e w2 ⟨rfl, hb2⟩; obtain ⟨i0, i1⟩ := HS.out _ (below_next (Below.refl _ _).drew hb2))
      | (go_at_call 29; (with_reducible refine (HC.out _).mono ?_); rintro e w3 ⟨rfl, hb3⟩))
    all_goals
      go_wp2_with fail
      go_ret2
      exact ⟨rfl, below_next (below_next (w1 := W0.drew) hA.drew hb2) hb3⟩

end Go.Proofs.Ytdaghclnggbmoaa
