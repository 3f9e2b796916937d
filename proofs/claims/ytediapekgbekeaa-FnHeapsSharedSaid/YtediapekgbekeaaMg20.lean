import Derived.Test.YtediapekgbekeaaMg13
import Derived.Test.YtediapekgbekeaaMg18
import Derived.Test.YtediapekgbekeaaMg14
import Derived.Test.YtediapekgbekeaaMg19
import Derived.Deep.QuietTactic
import Derived.BigQuiet

/-
  THE PLAN FOR HEAPS.
-/
namespace Go.Proofs.Ytediapekgbekeaa
open Go.RowKit Go.Deep
set_option linter.unusedVariables false

/-- What planFor gives heaps that can be made equal. -/
def Planned (zs : List Int) (w : World) (e : Ending) (w' : World) : Prop :=
  ∃ g c, e = .returned (.tuple #[.agg #[.int .i64 (nextF (shareEq zs) zs), .int .i64 (nextT (shareEq zs) zs), .int .i64 (nextC (shareEq zs) zs), .slice (some ⟨g, 0, none⟩) zs.length c, .int .i64 (shareEq zs)], .bool true]) ∧
    w.heap.size ≤ g ∧ g < w'.heap.size ∧ zs.length ≤ c ∧ c ≤ maxLen ∧ Own w' w.heap.size 3 (.slice (some ⟨g, 0, none⟩) zs.length c) zs ∧ Below w.heap.size w w'

set_option maxRecDepth 100000 in
theorem planFor_no (A : Option Addr) (n c B : Nat) (zs : List Int) (w : World) (hr : Ints w B A n zs) (hB : B ≤ w.heap.size) (hn : n ≤ 17592186044416) (hq : eqOk zs = false) :
    Calls Try.prog 34 #[.slice A n c] w fun e w' => e = .returned (.tuple #[.agg #[.int .i64 0, .int .i64 0, .int .i64 0, .slice none 0 0, .int .i64 0], .bool false]) ∧ Below w.heap.size w w' := by
  obtain rfl := hr.len
  have HQ := hide hq
  clear hq
  go_enter Try.func34, Try.ntmps34
  go_wp2_with fail
  have hA : Below w.heap.size w (w.alloc (.cells #[.int .i64 0, .int .i64 0, .int .i64 0, .slice none 0 0, .int .i64 0] 46)) := (Below.refl _ _).alloc (Nat.le_refl _) _
  have hr0 := hr.alloc hB (.cells #[.int .i64 0, .int .i64 0, .int .i64 0, .slice none 0 0, .int .i64 0] 46)
  have k0 : ((w.alloc (.cells #[.int .i64 0, .int .i64 0, .int .i64 0, .slice none 0 0, .int .i64 0] 46)).cell? ⟨w.heap.size, 0, none⟩ = some (.int .i64 0) ∧ (w.alloc (.cells #[.int .i64 0, .int .i64 0, .int .i64 0, .slice none 0 0, .int .i64 0] 46)).cell? ⟨w.heap.size, 1, none⟩ = some (.int .i64 0) ∧ (w.alloc (.cells #[.int .i64 0, .int .i64 0, .int .i64 0, .slice none 0 0, .int .i64 0] 46)).cell? ⟨w.heap.size, 2, none⟩ = some (.int .i64 0) ∧ (w.alloc (.cells #[.int .i64 0, .int .i64 0, .int .i64 0, .slice none 0 0, .int .i64 0] 46)).cell? ⟨w.heap.size, 3, none⟩ = some (.slice none 0 0) ∧ (w.alloc (.cells #[.int .i64 0, .int .i64 0, .int .i64 0, .slice none 0 0, .int .i64 0] 46)).cell? ⟨w.heap.size, 4, none⟩ = some (.int .i64 0) ∧ (w.alloc (.cells #[.int .i64 0, .int .i64 0, .int .i64 0, .slice none 0 0, .int .i64 0] 46)).frozen? ⟨w.heap.size, 0, none⟩ = false ∧ (w.alloc (.cells #[.int .i64 0, .int .i64 0, .int .i64 0, .slice none 0 0, .int .i64 0] 46)).frozen? ⟨w.heap.size, 1, none⟩ = false ∧ (w.alloc (.cells #[.int .i64 0, .int .i64 0, .int .i64 0, .slice none 0 0, .int .i64 0] 46)).frozen? ⟨w.heap.size, 2, none⟩ = false ∧ (w.alloc (.cells #[.int .i64 0, .int .i64 0, .int .i64 0, .slice none 0 0, .int .i64 0] 46)).frozen? ⟨w.heap.size, 3, none⟩ = false ∧ (w.alloc (.cells #[.int .i64 0, .int .i64 0, .int .i64 0, .slice none 0 0, .int .i64 0] 46)).frozen? ⟨w.heap.size, 4, none⟩ = false) := by refine ⟨?_, ?_, ?_, ?_, ?_, ?_, ?_, ?_, ?_, ?_⟩ <;> simp [go_sem]
  have hz0 : w.heap.size < (w.alloc (.cells #[.int .i64 0, .int .i64 0, .int .i64 0, .slice none 0 0, .int .i64 0] 46)).heap.size := by simp
  have s0 := hA.size
  generalize (w.alloc (.cells #[.int .i64 0, .int .i64 0, .int .i64 0, .slice none 0 0, .int .i64 0] 46)) = W0 at *
  obtain ⟨b0, hb0⟩ : ∃ b0, b0 = w.heap.size := ⟨_, rfl⟩
  have hwb : w.heap.size ≤ b0 := by omega
  have hBb : B ≤ W0.heap.size := by omega
  rw [← hb0] at k0 hz0 ⊢
  clear hb0
  have HK : Hid (∀ W', Below W0.heap.size W0 W' → (W'.cell? ⟨b0, 0, none⟩ = some (.int .i64 0) ∧ W'.cell? ⟨b0, 1, none⟩ = some (.int .i64 0) ∧ W'.cell? ⟨b0, 2, none⟩ = some (.int .i64 0) ∧ W'.cell? ⟨b0, 3, none⟩ = some (.slice none 0 0) ∧ W'.cell? ⟨b0, 4, none⟩ = some (.int .i64 0) ∧ W'.frozen? ⟨b0, 0, none⟩ = false ∧ W'.frozen? ⟨b0, 1, none⟩ = false ∧ W'.frozen? ⟨b0, 2, none⟩ = false ∧ W'.frozen? ⟨b0, 3, none⟩ = false ∧ W'.frozen? ⟨b0, 4, none⟩ = false)) :=
    hide fun W' h => ⟨(h.cell (p := ⟨b0, 0, none⟩) hz0).trans k0.1, (h.cell (p := ⟨b0, 1, none⟩) hz0).trans k0.2.1, (h.cell (p := ⟨b0, 2, none⟩) hz0).trans k0.2.2.1, (h.cell (p := ⟨b0, 3, none⟩) hz0).trans k0.2.2.2.1, (h.cell (p := ⟨b0, 4, none⟩) hz0).trans k0.2.2.2.2.1, (h.frozen (p := ⟨b0, 0, none⟩) hz0).trans k0.2.2.2.2.2.1, (h.frozen (p := ⟨b0, 1, none⟩) hz0).trans k0.2.2.2.2.2.2.1, (h.frozen (p := ⟨b0, 2, none⟩) hz0).trans k0.2.2.2.2.2.2.2.1, (h.frozen (p := ⟨b0, 3, none⟩) hz0).trans k0.2.2.2.2.2.2.2.2.1, (h.frozen (p := ⟨b0, 4, none⟩) hz0).trans k0.2.2.2.2.2.2.2.2.2⟩
  clear k0
  refine (to_below_drew (shareOfEach_any _ _ _ _ _ _ hr0 hn)).mono ?_; rintro e w1 ⟨rfl, hb1⟩; rw [HQ.out]
  obtain ⟨o0, o1, o2, o3, o4, o5, o6, o7, o8, o9⟩ := HK.out _ hb1
  go_wp2_with fail
  exact bodyPost_ret (v := .tuple #[.agg #[.int .i64 0, .int .i64 0, .int .i64 0, .slice none 0 0, .int .i64 0], .bool false])
    (by simp [results, Try.results34, go_sem, o0, o1, o2, o3, o4]) rfl
    ⟨rfl, ((((((hA.trans (hb1.mono s0)).setCell hwb _).setCell hwb _).setCell hwb _).setCell hwb _).setCell hwb _)⟩

set_option maxRecDepth 100000 in
theorem planFor_yes (A : Option Addr) (n c B : Nat) (zs : List Int) (w : World) (hr : Ints w B A n zs) (hB : B ≤ w.heap.size) (hn : n ≤ 17592186044416) (hq : eqOk zs = true) :
    Calls Try.prog 34 #[.slice A n c] w (Planned zs w) := by
  obtain rfl := hr.len
  have hg := eqOk_good hq
  have hle := (good_of hg).2.1
  have hle1 := (good_of hg).1
  have hsb := share_bd hg
  rw [← shareEq_yes hq] at hsb
  have HV := hide (fun i (h : i < zs.length) => good_get hg i h)
  have HQ := hide hq
  clear hq hg
  have HN := hide (fun (A : Option Addr) (c B : Nat) (W : World) (h1 : Ints W B A zs.length zs) (h2 : B ≤ W.heap.size) => nextMove_any 0 0 0 (shareEq zs) A zs.length c B zs W h1 h2 (by omega) (fun i h => ⟨(HV.out i h).1, by have := (HV.out i h).2; omega⟩) hsb.1 (by omega))
  generalize hss : shareEq zs = s at *
  have HSS := hide hss
  clear hss
  go_enter Try.func34, Try.ntmps34
  go_wp2_with fail
  have hA : Below w.heap.size w (w.alloc (.cells #[.int .i64 0, .int .i64 0, .int .i64 0, .slice none 0 0, .int .i64 0] 46)) := (Below.refl _ _).alloc (Nat.le_refl _) _
  have hr0 := hr.alloc hB (.cells #[.int .i64 0, .int .i64 0, .int .i64 0, .slice none 0 0, .int .i64 0] 46)
  have k0 : ((w.alloc (.cells #[.int .i64 0, .int .i64 0, .int .i64 0, .slice none 0 0, .int .i64 0] 46)).cell? ⟨w.heap.size, 0, none⟩ = some (.int .i64 0) ∧ (w.alloc (.cells #[.int .i64 0, .int .i64 0, .int .i64 0, .slice none 0 0, .int .i64 0] 46)).cell? ⟨w.heap.size, 1, none⟩ = some (.int .i64 0) ∧ (w.alloc (.cells #[.int .i64 0, .int .i64 0, .int .i64 0, .slice none 0 0, .int .i64 0] 46)).cell? ⟨w.heap.size, 2, none⟩ = some (.int .i64 0) ∧ (w.alloc (.cells #[.int .i64 0, .int .i64 0, .int .i64 0, .slice none 0 0, .int .i64 0] 46)).cell? ⟨w.heap.size, 3, none⟩ = some (.slice none 0 0) ∧ (w.alloc (.cells #[.int .i64 0, .int .i64 0, .int .i64 0, .slice none 0 0, .int .i64 0] 46)).cell? ⟨w.heap.size, 4, none⟩ = some (.int .i64 0) ∧ (w.alloc (.cells #[.int .i64 0, .int .i64 0, .int .i64 0, .slice none 0 0, .int .i64 0] 46)).frozen? ⟨w.heap.size, 0, none⟩ = false ∧ (w.alloc (.cells #[.int .i64 0, .int .i64 0, .int .i64 0, .slice none 0 0, .int .i64 0] 46)).frozen? ⟨w.heap.size, 1, none⟩ = false ∧ (w.alloc (.cells #[.int .i64 0, .int .i64 0, .int .i64 0, .slice none 0 0, .int .i64 0] 46)).frozen? ⟨w.heap.size, 2, none⟩ = false ∧ (w.alloc (.cells #[.int .i64 0, .int .i64 0, .int .i64 0, .slice none 0 0, .int .i64 0] 46)).frozen? ⟨w.heap.size, 3, none⟩ = false ∧ (w.alloc (.cells #[.int .i64 0, .int .i64 0, .int .i64 0, .slice none 0 0, .int .i64 0] 46)).frozen? ⟨w.heap.size, 4, none⟩ = false) := by refine ⟨?_, ?_, ?_, ?_, ?_, ?_, ?_, ?_, ?_, ?_⟩ <;> simp [go_sem]
  have hz0 : w.heap.size < (w.alloc (.cells #[.int .i64 0, .int .i64 0, .int .i64 0, .slice none 0 0, .int .i64 0] 46)).heap.size := by simp
  have s0 := hA.size
  generalize (w.alloc (.cells #[.int .i64 0, .int .i64 0, .int .i64 0, .slice none 0 0, .int .i64 0] 46)) = W0 at *
  obtain ⟨b0, hb0⟩ : ∃ b0, b0 = w.heap.size := ⟨_, rfl⟩
  have hwb : w.heap.size ≤ b0 := by omega
  have hBb : B ≤ W0.heap.size := by omega
  rw [← hb0] at k0 hz0 ⊢
  clear hb0
  have HK : Hid (∀ W', Below W0.heap.size W0 W' → (W'.cell? ⟨b0, 0, none⟩ = some (.int .i64 0) ∧ W'.cell? ⟨b0, 1, none⟩ = some (.int .i64 0) ∧ W'.cell? ⟨b0, 2, none⟩ = some (.int .i64 0) ∧ W'.cell? ⟨b0, 3, none⟩ = some (.slice none 0 0) ∧ W'.cell? ⟨b0, 4, none⟩ = some (.int .i64 0) ∧ W'.frozen? ⟨b0, 0, none⟩ = false ∧ W'.frozen? ⟨b0, 1, none⟩ = false ∧ W'.frozen? ⟨b0, 2, none⟩ = false ∧ W'.frozen? ⟨b0, 3, none⟩ = false ∧ W'.frozen? ⟨b0, 4, none⟩ = false)) :=
    hide fun W' h => ⟨(h.cell (p := ⟨b0, 0, none⟩) hz0).trans k0.1, (h.cell (p := ⟨b0, 1, none⟩) hz0).trans k0.2.1, (h.cell (p := ⟨b0, 2, none⟩) hz0).trans k0.2.2.1, (h.cell (p := ⟨b0, 3, none⟩) hz0).trans k0.2.2.2.1, (h.cell (p := ⟨b0, 4, none⟩) hz0).trans k0.2.2.2.2.1, (h.frozen (p := ⟨b0, 0, none⟩) hz0).trans k0.2.2.2.2.2.1, (h.frozen (p := ⟨b0, 1, none⟩) hz0).trans k0.2.2.2.2.2.2.1, (h.frozen (p := ⟨b0, 2, none⟩) hz0).trans k0.2.2.2.2.2.2.2.1, (h.frozen (p := ⟨b0, 3, none⟩) hz0).trans k0.2.2.2.2.2.2.2.2.1, (h.frozen (p := ⟨b0, 4, none⟩) hz0).trans k0.2.2.2.2.2.2.2.2.2⟩
  clear k0
  refine (to_below_drew (shareOfEach_any _ _ _ _ _ _ hr0 hn)).mono ?_; rintro e w1 ⟨rfl, hb1⟩; rw [HQ.out]
  rw [HSS.out]
  have hr1 := hr0.below hb1 hBb
  have s1 := hb1.size
  go_wp2_with fail
  refine (Clone_any _ _ _ _ _ _ hr1 (by omega) (by omega) (by omega)).mono ?_
  rintro e w2 ⟨g, cg, rfl, hg1, hg2, hc1, hc2, hown2, hb2⟩
  have s2 := hb2.size
  go_wp2_with fail
  have hC : Below w2.heap.size w2 (w2.alloc (.cells #[.int .i64 0, .int .i64 0, .int .i64 0, .slice (some ⟨g, 0, none⟩) zs.length cg, .int .i64 s] 46)) := (Below.refl _ _).alloc (Nat.le_refl _) _
  have k2 : ((w2.alloc (.cells #[.int .i64 0, .int .i64 0, .int .i64 0, .slice (some ⟨g, 0, none⟩) zs.length cg, .int .i64 s] 46)).cell? ⟨w2.heap.size, 0, none⟩ = some (.int .i64 0) ∧ (w2.alloc (.cells #[.int .i64 0, .int .i64 0, .int .i64 0, .slice (some ⟨g, 0, none⟩) zs.length cg, .int .i64 s] 46)).cell? ⟨w2.heap.size, 1, none⟩ = some (.int .i64 0) ∧ (w2.alloc (.cells #[.int .i64 0, .int .i64 0, .int .i64 0, .slice (some ⟨g, 0, none⟩) zs.length cg, .int .i64 s] 46)).cell? ⟨w2.heap.size, 2, none⟩ = some (.int .i64 0) ∧ (w2.alloc (.cells #[.int .i64 0, .int .i64 0, .int .i64 0, .slice (some ⟨g, 0, none⟩) zs.length cg, .int .i64 s] 46)).cell? ⟨w2.heap.size, 3, none⟩ = some (.slice (some ⟨g, 0, none⟩) zs.length cg) ∧ (w2.alloc (.cells #[.int .i64 0, .int .i64 0, .int .i64 0, .slice (some ⟨g, 0, none⟩) zs.length cg, .int .i64 s] 46)).cell? ⟨w2.heap.size, 4, none⟩ = some (.int .i64 s) ∧ (w2.alloc (.cells #[.int .i64 0, .int .i64 0, .int .i64 0, .slice (some ⟨g, 0, none⟩) zs.length cg, .int .i64 s] 46)).frozen? ⟨w2.heap.size, 0, none⟩ = false ∧ (w2.alloc (.cells #[.int .i64 0, .int .i64 0, .int .i64 0, .slice (some ⟨g, 0, none⟩) zs.length cg, .int .i64 s] 46)).frozen? ⟨w2.heap.size, 1, none⟩ = false ∧ (w2.alloc (.cells #[.int .i64 0, .int .i64 0, .int .i64 0, .slice (some ⟨g, 0, none⟩) zs.length cg, .int .i64 s] 46)).frozen? ⟨w2.heap.size, 2, none⟩ = false ∧ (w2.alloc (.cells #[.int .i64 0, .int .i64 0, .int .i64 0, .slice (some ⟨g, 0, none⟩) zs.length cg, .int .i64 s] 46)).frozen? ⟨w2.heap.size, 3, none⟩ = false ∧ (w2.alloc (.cells #[.int .i64 0, .int .i64 0, .int .i64 0, .slice (some ⟨g, 0, none⟩) zs.length cg, .int .i64 s] 46)).frozen? ⟨w2.heap.size, 4, none⟩ = false) := by refine ⟨?_, ?_, ?_, ?_, ?_, ?_, ?_, ?_, ?_, ?_⟩ <;> simp [go_sem]
  have hz2 : w2.heap.size < (w2.alloc (.cells #[.int .i64 0, .int .i64 0, .int .i64 0, .slice (some ⟨g, 0, none⟩) zs.length cg, .int .i64 s] 46)).heap.size := by simp
  have s3 := hC.size
  generalize (w2.alloc (.cells #[.int .i64 0, .int .i64 0, .int .i64 0, .slice (some ⟨g, 0, none⟩) zs.length cg, .int .i64 s] 46)) = W3 at *
  obtain ⟨b2, hb2e⟩ : ∃ b2, b2 = w2.heap.size := ⟨_, rfl⟩
  have h2b : w2.heap.size ≤ b2 := by omega
  have hne : b0 ≠ b2 := by omega
  have hne' : b2 ≠ b0 := by omega
  have hbw1 : b0 < w1.heap.size := by omega
  rw [← hb2e] at k2 hz2 ⊢
  clear hb2e
  refine (HN.out _ _ _ _ (hown2.ints.below hC (Nat.le_refl _)) s3).mono ?_
  rintro e w4 ⟨rfl, hb4⟩
  obtain ⟨p0, p1, p2, p3, p4, p5, p6, p7, p8, p9⟩ : (w4.cell? ⟨b2, 0, none⟩ = some (.int .i64 0) ∧ w4.cell? ⟨b2, 1, none⟩ = some (.int .i64 0) ∧ w4.cell? ⟨b2, 2, none⟩ = some (.int .i64 0) ∧ w4.cell? ⟨b2, 3, none⟩ = some (.slice (some ⟨g, 0, none⟩) zs.length cg) ∧ w4.cell? ⟨b2, 4, none⟩ = some (.int .i64 s) ∧ w4.frozen? ⟨b2, 0, none⟩ = false ∧ w4.frozen? ⟨b2, 1, none⟩ = false ∧ w4.frozen? ⟨b2, 2, none⟩ = false ∧ w4.frozen? ⟨b2, 3, none⟩ = false ∧ w4.frozen? ⟨b2, 4, none⟩ = false) := ⟨(hb4.cell (p := ⟨b2, 0, none⟩) hz2).trans k2.1, (hb4.cell (p := ⟨b2, 1, none⟩) hz2).trans k2.2.1, (hb4.cell (p := ⟨b2, 2, none⟩) hz2).trans k2.2.2.1, (hb4.cell (p := ⟨b2, 3, none⟩) hz2).trans k2.2.2.2.1, (hb4.cell (p := ⟨b2, 4, none⟩) hz2).trans k2.2.2.2.2.1, (hb4.frozen (p := ⟨b2, 0, none⟩) hz2).trans k2.2.2.2.2.2.1, (hb4.frozen (p := ⟨b2, 1, none⟩) hz2).trans k2.2.2.2.2.2.2.1, (hb4.frozen (p := ⟨b2, 2, none⟩) hz2).trans k2.2.2.2.2.2.2.2.1, (hb4.frozen (p := ⟨b2, 3, none⟩) hz2).trans k2.2.2.2.2.2.2.2.2.1, (hb4.frozen (p := ⟨b2, 4, none⟩) hz2).trans k2.2.2.2.2.2.2.2.2.2⟩
  obtain ⟨o0, o1, o2, o3, o4, o5, o6, o7, o8, o9⟩ := HK.out _ (below_next (below_next (below_next hb1 hb2) hC) hb4)
  clear k2 HN HK
  go_wp2_with fail
  have hW5 : Below w2.heap.size w2 (((w4.setCell ⟨b2, 0, none⟩ (.int .i64 (nextF s zs))).setCell ⟨b2, 1, none⟩ (.int .i64 (nextT s zs))).setCell ⟨b2, 2, none⟩ (.int .i64 (nextC s zs))) := (((below_next hC hb4).setCell h2b _).setCell h2b _).setCell h2b _
  have hB2 : Below w.heap.size w w2 := (hA.trans (hb1.mono s0)).trans (hb2.mono (by omega))
  have s5 := hW5.size
  have own5 : Own (((w4.setCell ⟨b2, 0, none⟩ (.int .i64 (nextF s zs))).setCell ⟨b2, 1, none⟩ (.int .i64 (nextT s zs))).setCell ⟨b2, 2, none⟩ (.int .i64 (nextC s zs))) w1.heap.size 3 (.slice (some ⟨g, 0, none⟩) zs.length cg) zs := hown2.below hW5
  have own6 : Own ((((((((w4.setCell ⟨b2, 0, none⟩ (.int .i64 (nextF s zs))).setCell ⟨b2, 1, none⟩ (.int .i64 (nextT s zs))).setCell ⟨b2, 2, none⟩ (.int .i64 (nextC s zs))).setCell ⟨b0, 0, none⟩ (.int .i64 (nextF s zs))).setCell ⟨b0, 1, none⟩ (.int .i64 (nextT s zs))).setCell ⟨b0, 2, none⟩ (.int .i64 (nextC s zs))).setCell ⟨b0, 3, none⟩ (.slice (some ⟨g, 0, none⟩) zs.length cg)).setCell ⟨b0, 4, none⟩ (.int .i64 s)) w1.heap.size 3 (.slice (some ⟨g, 0, none⟩) zs.length cg) zs := own5.keep fun h hh hl => by
    rw [Below.heap_setCell _ _ _ _ (by simp; omega), Below.heap_setCell _ _ _ _ (by simp; omega), Below.heap_setCell _ _ _ _ (by simp; omega), Below.heap_setCell _ _ _ _ (by simp; omega), Below.heap_setCell _ _ _ _ (by simp; omega)]
  exact bodyPost_ret (v := .tuple #[.agg #[.int .i64 (nextF s zs), .int .i64 (nextT s zs), .int .i64 (nextC s zs), .slice (some ⟨g, 0, none⟩) zs.length cg, .int .i64 s], .bool true])
    (by simp [results, Try.results34, go_sem, o0, o1, o2, o3, o4]) rfl
    ⟨g, cg, by rw [HSS.out], by omega, by simp; simp at s5; omega, hc1, hc2, own6.less (by omega), ((((((hB2.trans (hW5.mono hB2.size)).setCell hwb _).setCell hwb _).setCell hwb _).setCell hwb _).setCell hwb _)⟩
end Go.Proofs.Ytediapekgbekeaa

/-
  THE PLAN's isDone AND advance.
-/
namespace Go.Proofs.Ytediapekgbekeaa
open Go.RowKit Go.Deep
set_option linter.unusedVariables false

theorem isDone_any (f t k s : Int) (A : Value) (w : World) :
    Calls Try.prog 35 #[.agg #[.int .i64 f, .int .i64 t, .int .i64 k, A, .int .i64 s]] w
      fun e w' => e = .returned (.bool (decide (f = 0 ∧ t = 0 ∧ k = 0))) ∧ Below w.heap.size w w' := by
  go_enter Try.func35, Try.ntmps35
  go_wp2_with fail
  all_goals
    go_ret
    exact ⟨by simp [*], (Below.refl _ _).alloc (Nat.le_refl _) _⟩

/-- THE PLAN's BLOCK. -/
def PlanAt (w : World) (p g n cap : Nat) (f t k s : Int) : Prop :=
  w.cell? ⟨p, 0, none⟩ = some (.int .i64 f) ∧ w.cell? ⟨p, 1, none⟩ = some (.int .i64 t) ∧ w.cell? ⟨p, 2, none⟩ = some (.int .i64 k) ∧ w.cell? ⟨p, 3, none⟩ = some (.slice (some ⟨g, 0, none⟩) n cap) ∧ w.cell? ⟨p, 4, none⟩ = some (.int .i64 s) ∧
  w.frozen? ⟨p, 0, none⟩ = false ∧ w.frozen? ⟨p, 1, none⟩ = false ∧ w.frozen? ⟨p, 2, none⟩ = false
theorem PlanAt.of_block {w w' : World} {p g n cap : Nat} {f t k s : Int} (h : PlanAt w p g n cap f t k s) (hb : w'.heap[p]? = w.heap[p]?) : PlanAt w' p g n cap f t k s := by
  obtain ⟨a, b, c, d, e, f1, f2, f3⟩ := h
  exact ⟨(World.cell?_of_block (w := w) hb).trans a, (World.cell?_of_block (w := w) hb).trans b, (World.cell?_of_block (w := w) hb).trans c, (World.cell?_of_block (w := w) hb).trans d, (World.cell?_of_block (w := w) hb).trans e,
    (World.frozen?_of_block (w := w) hb).trans f1, (World.frozen?_of_block (w := w) hb).trans f2, (World.frozen?_of_block (w := w) hb).trans f3⟩

theorem PlanAt.stored {w : World} {p g n cap : Nat} {f t k s : Int} (h : PlanAt w p g n cap f t k s) (f' t' k' : Int) :
    PlanAt (((w.setCell ⟨p, 0, none⟩ (.int .i64 f')).setCell ⟨p, 1, none⟩ (.int .i64 t')).setCell ⟨p, 2, none⟩ (.int .i64 k')) p g n cap f' t' k' s := by
  obtain ⟨a, b, c, d, e, f1, f2, f3⟩ := h
  have o : ∀ (W : World) (v : Value) (x y : Nat), x ≠ y → (W.setCell ⟨p, x, none⟩ v).cell? ⟨p, y, none⟩ = W.cell? ⟨p, y, none⟩ := fun W v x y h => World.cell?_setCell_other _ _ _ _ (by intro e; injection e with e1 e2; exact h e2)
  refine ⟨?_, ?_, ?_, ?_, ?_, ?_, ?_, ?_⟩
  · rw [o _ _ 2 0 (by omega), o _ _ 1 0 (by omega), World.cell?_setCell_same _ _ _ a]
  · rw [o _ _ 2 1 (by omega), World.cell?_setCell_same _ _ _ ((o _ _ 0 1 (by omega)).trans b)]
  · rw [World.cell?_setCell_same _ _ _ ((o _ _ 1 2 (by omega)).trans ((o _ _ 0 2 (by omega)).trans c))]
  · rw [o _ _ 2 3 (by omega), o _ _ 1 3 (by omega), o _ _ 0 3 (by omega), d]
  · rw [o _ _ 2 4 (by omega), o _ _ 1 4 (by omega), o _ _ 0 4 (by omega), e]
  · simp [f1]
  · simp [f2]
  · simp [f3]

/-- WHAT advance LEAVES. -/
def Advanced (base p g n cap : Nat) (ys : List Int) (s : Int) (w : World) (e : Ending) (w' : World) : Prop :=
  e = .returned (.tuple #[]) ∧ PlanAt w' p g n cap (nextF s ys) (nextT s ys) (nextC s ys) s ∧ Own w' base 3 (.slice (some ⟨g, 0, none⟩) n cap) ys ∧ Below base w w' ∧ ∀ h, h < w.heap.size → h ≠ g → h ≠ p → w'.heap[h]? = w.heap[h]?

theorem advance_any (base p g n cap : Nat) (ys : List Int) (i j : Nat) (c s : Int) (w : World) (hown : Own w base 3 (.slice (some ⟨g, 0, none⟩) n cap) ys) (hlen : ys.length = n) (hn : n ≤ 1000000)
    (hi : i < n) (hj : j < n) (hij : i ≠ j) (hcalm : calm ys) (hc0 : 0 ≤ c) (hc1 : c ≤ 12000) (hp : p < w.heap.size) (hpg : p ≠ g)
    (hpl : PlanAt w p g n cap i j c s) (hv : ∀ k (h : k < (moved i j c ys).length), 0 ≤ (moved i j c ys)[k] ∧ (moved i j c ys)[k] ≤ 100000) (hs0 : 0 ≤ s) (hs1 : s ≤ 100000) (hbp : base ≤ p) :
    Calls Try.prog 36 #[.pointer (some ⟨p, 0, none⟩)] w (Advanced base p g n cap (moved i j c ys) s w) := by
  subst hlen
  go_enter Try.func36, Try.ntmps36
  go_wp2_with fail
  have HP := hide hpl
  obtain ⟨c0, c1, c2, c3, c4, f0, f1, f2⟩ := hpl
  have HC := hide (carry_any base g ys.length cap ys i j c w.drew hown rfl hn hi hj hij hcalm hc0 hc1)
  have HV := hide hv
  clear hv
  have HML := hide (moved_length i j c ys)
  go_region_with (go_at_call 55; (with_reducible refine HC.out.mono ?_); rintro e w2 ⟨rfl, own2, hb2, hoth2⟩)
  all_goals
    have HP2 := hide (HP.out.of_block (w' := w2) (hoth2 p hp hpg))
    obtain ⟨d0, d1, d2, d3, d4, g0, g1, g2⟩ := HP2.out
    clear c0 c1 c2 c3 c4 f0 f1 f2 HC HP hown
    have hr2 : Ints w2 w2.heap.size (some ⟨g, 0, none⟩) ys.length (moved i j c ys) := by
      have h := own2.ints
      rw [HML.out] at h
      exact h
    have HN := hide (nextMove_any i j c s (some ⟨g, 0, none⟩) ys.length cap w2.heap.size (moved i j c ys) w2 hr2 (Nat.le_refl _) hn HV.out hs0 hs1)
    have hp2 : p < w2.heap.size := Nat.lt_of_lt_of_le hp hb2.size
    have HK := hide (show ∀ w3, Below w2.heap.size w2 w3 → PlanAt w3 p g ys.length cap i j c s from fun w3 h => HP2.out.of_block (h.block p hp2))
    clear hr2 HV
    go_wp2_with fail
    refine HN.out.mono ?_
    rintro e w3 ⟨rfl, hb3⟩
    obtain ⟨k0, k1, k2, k3, k4, m0, m1, m2⟩ := HK.out _ hb3
    go_wp2_with fail
    go_end0
    have hs2 := hb2.size
    have own3 : Own w3 base 3 (.slice (some ⟨g, 0, none⟩) ys.length cap) (moved i j c ys) := Own.below own2 hb3
    have hpk := (HK.out _ hb3).stored (nextF s (moved i j c ys)) (nextT s (moved i j c ys)) (nextC s (moved i j c ys))
    have hh3 : ∀ h, h < w.heap.size → h ≠ g → w3.heap[h]? = w.heap[h]? := fun h hh hne => (hb3.block h (Nat.lt_of_lt_of_le hh hs2)).trans (hoth2 h hh hne)
    have hbb : Below base w w3 := (Below.trans (a := w) (b := w2) ⟨hb2.os, hb2.tape, hb2.output, hb2.size, hb2.block⟩ (hb3.mono (by omega)))
    refine ⟨rfl, hpk, Own.only own3 ?_, ((hbb.setCell hbp _).setCell hbp _).setCell hbp _, fun h hh hne hnp => ?_⟩
    · rw [Below.heap_setCell _ _ _ _ (fun e => hpg e.symm), Below.heap_setCell _ _ _ _ (fun e => hpg e.symm), Below.heap_setCell _ _ _ _ (fun e => hpg e.symm)]
    · rw [Below.heap_setCell _ _ _ _ hnp, Below.heap_setCell _ _ _ _ hnp, Below.heap_setCell _ _ _ _ hnp]; exact hh3 h hh hne
end Go.Proofs.Ytediapekgbekeaa
