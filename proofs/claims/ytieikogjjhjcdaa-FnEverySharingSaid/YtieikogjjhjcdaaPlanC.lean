
/-
  THE PLAN FOR HEAPS.
-/
import Derived.Test.YtieikogjjhjcdaaPlanB
namespace Go.Proofs.Ytieikogjjhjcdaa
open Go.RowKit Go.Deep
set_option linter.unusedVariables false

/-- What planFor gives heaps that can be made equal. -/
def Planned (zs : List Int) (w : World) (e : Ending) (w' : World) : Prop :=
  ∃ g c, e = .returned (.tuple #[.agg #[.int .i64 (nextF (shareEq zs) zs), .int .i64 (nextT (shareEq zs) zs), .int .i64 (nextC (shareEq zs) zs), .slice (some ⟨g, 0, none⟩) zs.length c, .int .i64 (shareEq zs)], .bool true]) ∧
    w.heap.size ≤ g ∧ g < w'.heap.size ∧ zs.length ≤ c ∧ c ≤ maxLen ∧ Own w' w.heap.size 3 (.slice (some ⟨g, 0, none⟩) zs.length c) zs ∧ Below w.heap.size w w'

set_option maxRecDepth 100000 in
theorem planFor_no (A : Option Addr) (n c B : Nat) (zs : List Int) (w : World) (hr : Ints w B A n zs) (hB : B ≤ w.heap.size) (hn : n ≤ 17592186044416) (hq : eqOk zs = false) :
    Calls Try.prog 11 #[.slice A n c] w fun e w' => e = .returned (.tuple #[.agg #[.int .i64 0, .int .i64 0, .int .i64 0, .slice none 0 0, .int .i64 0], .bool false]) ∧ Below w.heap.size w w' := by
  obtain rfl := hr.len
  have HQ := hide hq
  clear hq
  go_enter Try.func11, Try.ntmps11
  go_wp2_with fail
  have hA : Below w.heap.size w (w.alloc (.cells #[.int .i64 0, .int .i64 0, .int .i64 0, .slice none 0 0, .int .i64 0] 37)) := (Below.refl _ _).alloc (Nat.le_refl _) _
  have hr0 := hr.alloc hB (.cells #[.int .i64 0, .int .i64 0, .int .i64 0, .slice none 0 0, .int .i64 0] 37)
  have k0 : ((w.alloc (.cells #[.int .i64 0, .int .i64 0, .int .i64 0, .slice none 0 0, .int .i64 0] 37)).cell? ⟨w.heap.size, 0, none⟩ = some (.int .i64 0) ∧ (w.alloc (.cells #[.int .i64 0, .int .i64 0, .int .i64 0, .slice none 0 0, .int .i64 0] 37)).cell? ⟨w.heap.size, 1, none⟩ = some (.int .i64 0) ∧ (w.alloc (.cells #[.int .i64 0, .int .i64 0, .int .i64 0, .slice none 0 0, .int .i64 0] 37)).cell? ⟨w.heap.size, 2, none⟩ = some (.int .i64 0) ∧ (w.alloc (.cells #[.int .i64 0, .int .i64 0, .int .i64 0, .slice none 0 0, .int .i64 0] 37)).cell? ⟨w.heap.size, 3, none⟩ = some (.slice none 0 0) ∧ (w.alloc (.cells #[.int .i64 0, .int .i64 0, .int .i64 0, .slice none 0 0, .int .i64 0] 37)).cell? ⟨w.heap.size, 4, none⟩ = some (.int .i64 0) ∧ (w.alloc (.cells #[.int .i64 0, .int .i64 0, .int .i64 0, .slice none 0 0, .int .i64 0] 37)).frozen? ⟨w.heap.size, 0, none⟩ = false ∧ (w.alloc (.cells #[.int .i64 0, .int .i64 0, .int .i64 0, .slice none 0 0, .int .i64 0] 37)).frozen? ⟨w.heap.size, 1, none⟩ = false ∧ (w.alloc (.cells #[.int .i64 0, .int .i64 0, .int .i64 0, .slice none 0 0, .int .i64 0] 37)).frozen? ⟨w.heap.size, 2, none⟩ = false ∧ (w.alloc (.cells #[.int .i64 0, .int .i64 0, .int .i64 0, .slice none 0 0, .int .i64 0] 37)).frozen? ⟨w.heap.size, 3, none⟩ = false ∧ (w.alloc (.cells #[.int .i64 0, .int .i64 0, .int .i64 0, .slice none 0 0, .int .i64 0] 37)).frozen? ⟨w.heap.size, 4, none⟩ = false) := by refine ⟨?_, ?_, ?_, ?_, ?_, ?_, ?_, ?_, ?_, ?_⟩ <;> simp [go_sem]
  have hz0 : w.heap.size < (w.alloc (.cells #[.int .i64 0, .int .i64 0, .int .i64 0, .slice none 0 0, .int .i64 0] 37)).heap.size := by simp
  have s0 := hA.size
  generalize (w.alloc (.cells #[.int .i64 0, .int .i64 0, .int .i64 0, .slice none 0 0, .int .i64 0] 37)) = W0 at *
  obtain ⟨b0, hb0⟩ : ∃ b0, b0 = w.heap.size := ⟨_, rfl⟩
  have hwb : w.heap.size ≤ b0 := by omega
  have hBb : B ≤ W0.heap.size := by omega
  rw [← hb0] at k0 hz0 ⊢
  clear hb0
  have HK : Hid (∀ W', Below W0.heap.size W0 W' → (W'.cell? ⟨b0, 0, none⟩ = some (.int .i64 0) ∧ W'.cell? ⟨b0, 1, none⟩ = some (.int .i64 0) ∧ W'.cell? ⟨b0, 2, none⟩ = some (.int .i64 0) ∧ W'.cell? ⟨b0, 3, none⟩ = some (.slice none 0 0) ∧ W'.cell? ⟨b0, 4, none⟩ = some (.int .i64 0) ∧ W'.frozen? ⟨b0, 0, none⟩ = false ∧ W'.frozen? ⟨b0, 1, none⟩ = false ∧ W'.frozen? ⟨b0, 2, none⟩ = false ∧ W'.frozen? ⟨b0, 3, none⟩ = false ∧ W'.frozen? ⟨b0, 4, none⟩ = false)) :=
    hide fun W' h => ⟨(h.cell (p := ⟨b0, 0, none⟩) hz0).trans k0.1, (h.cell (p := ⟨b0, 1, none⟩) hz0).trans k0.2.1, (h.cell (p := ⟨b0, 2, none⟩) hz0).trans k0.2.2.1, (h.cell (p := ⟨b0, 3, none⟩) hz0).trans k0.2.2.2.1, (h.cell (p := ⟨b0, 4, none⟩) hz0).trans k0.2.2.2.2.1, (h.frozen (p := ⟨b0, 0, none⟩) hz0).trans k0.2.2.2.2.2.1, (h.frozen (p := ⟨b0, 1, none⟩) hz0).trans k0.2.2.2.2.2.2.1, (h.frozen (p := ⟨b0, 2, none⟩) hz0).trans k0.2.2.2.2.2.2.2.1, (h.frozen (p := ⟨b0, 3, none⟩) hz0).trans k0.2.2.2.2.2.2.2.2.1, (h.frozen (p := ⟨b0, 4, none⟩) hz0).trans k0.2.2.2.2.2.2.2.2.2⟩
  clear k0
  refine (to_below_drew (shareOfEach_any _ _ _ _ _ _ hr0 hn)).mono ?_; rintro e w1 ⟨rfl, hb1⟩; rw [HQ.out]
  obtain ⟨o0, o1, o2, o3, o4, o5, o6, o7, o8, o9⟩ := HK.out _ hb1
  go_wp2_with fail
  exact bodyPost_ret (v := .tuple #[.agg #[.int .i64 0, .int .i64 0, .int .i64 0, .slice none 0 0, .int .i64 0], .bool false])
    (by simp [results, Try.results11, go_sem, o0, o1, o2, o3, o4]) rfl
    ⟨rfl, ((((((hA.trans (hb1.mono s0)).setCell hwb _).setCell hwb _).setCell hwb _).setCell hwb _).setCell hwb _)⟩

set_option maxRecDepth 100000 in
theorem planFor_yes (A : Option Addr) (n c B : Nat) (zs : List Int) (w : World) (hr : Ints w B A n zs) (hB : B ≤ w.heap.size) (hn : n ≤ 17592186044416) (hq : eqOk zs = true) :
    Calls Try.prog 11 #[.slice A n c] w (Planned zs w) := by
  obtain rfl := hr.len
  have hg := eqOk_good hq
  have hle := (good_of hg).2.1
  have hle1 := (good_of hg).1
  have hsb := share_bd hg
  rw [← shareEq_yes hq] at hsb
  have HV := hide (fun i (h : i < zs.length) => good_get hg i h)
  have HQ := hide hq
  clear hq hg
  have HN := hide (fun (A : Option Addr) (c B : Nat) (W : World) (h1 : Ints W B A zs.length zs) (h2 : B ≤ W.heap.size) => nextMove_any 0 0 0 (shareEq zs) A zs.length c B zs W h1 h2 (by omega) (fun i h => ⟨(HV.out i h).1, by have := (HV.out i h).2; omega⟩) hsb.1 (by omega))
  generalize hss : shareEq zs = s at *
  have HSS := hide hss
  clear hss
  go_enter Try.func11, Try.ntmps11
  go_wp2_with fail
  have hA : Below w.heap.size w (w.alloc (.cells #[.int .i64 0, .int .i64 0, .int .i64 0, .slice none 0 0, .int .i64 0] 37)) := (Below.refl _ _).alloc (Nat.le_refl _) _
  have hr0 := hr.alloc hB (.cells #[.int .i64 0, .int .i64 0, .int .i64 0, .slice none 0 0, .int .i64 0] 37)
  have k0 : ((w.alloc (.cells #[.int .i64 0, .int .i64 0, .int .i64 0, .slice none 0 0, .int .i64 0] 37)).cell? ⟨w.heap.size, 0, none⟩ = some (.int .i64 0) ∧ (w.alloc (.cells #[.int .i64 0, .int .i64 0, .int .i64 0, .slice none 0 0, .int .i64 0] 37)).cell? ⟨w.heap.size, 1, none⟩ = some (.int .i64 0) ∧ (w.alloc (.cells #[.int .i64 0, .int .i64 0, .int .i64 0, .slice none 0 0, .int .i64 0] 37)).cell? ⟨w.heap.size, 2, none⟩ = some (.int .i64 0) ∧ (w.alloc (.cells #[.int .i64 0, .int .i64 0, .int .i64 0, .slice none 0 0, .int .i64 0] 37)).cell? ⟨w.heap.size, 3, none⟩ = some (.slice none 0 0) ∧ (w.alloc (.cells #[.int .i64 0, .int .i64 0, .int .i64 0, .slice none 0 0, .int .i64 0] 37)).cell? ⟨w.heap.size, 4, none⟩ = some (.int .i64 0) ∧ (w.alloc (.cells #[.int .i64 0, .int .i64 0, .int .i64 0, .slice none 0 0, .int .i64 0] 37)).frozen? ⟨w.heap.size, 0, none⟩ = false ∧ (w.alloc (.cells #[.int .i64 0, .int .i64 0, .int .i64 0, .slice none 0 0, .int .i64 0] 37)).frozen? ⟨w.heap.size, 1, none⟩ = false ∧ (w.alloc (.cells #[.int .i64 0, .int .i64 0, .int .i64 0, .slice none 0 0, .int .i64 0] 37)).frozen? ⟨w.heap.size, 2, none⟩ = false ∧ (w.alloc (.cells #[.int .i64 0, .int .i64 0, .int .i64 0, .slice none 0 0, .int .i64 0] 37)).frozen? ⟨w.heap.size, 3, none⟩ = false ∧ (w.alloc (.cells #[.int .i64 0, .int .i64 0, .int .i64 0, .slice none 0 0, .int .i64 0] 37)).frozen? ⟨w.heap.size, 4, none⟩ = false) := by refine ⟨?_, ?_, ?_, ?_, ?_, ?_, ?_, ?_, ?_, ?_⟩ <;> simp [go_sem]
  have hz0 : w.heap.size < (w.alloc (.cells #[.int .i64 0, .int .i64 0, .int .i64 0, .slice none 0 0, .int .i64 0] 37)).heap.size := by simp
  have s0 := hA.size
  generalize (w.alloc (.cells #[.int .i64 0, .int .i64 0, .int .i64 0, .slice none 0 0, .int .i64 0] 37)) = W0 at *
  obtain ⟨b0, hb0⟩ : ∃ b0, b0 = w.heap.size := ⟨_, rfl⟩
  have hwb : w.heap.size ≤ b0 := by omega
  have hBb : B ≤ W0.heap.size := by omega
  rw [← hb0] at k0 hz0 ⊢
  clear hb0
  have HK : Hid (∀ W', Below W0.heap.size W0 W' → (W'.cell? ⟨b0, 0, none⟩ = some (.int .i64 0) ∧ W'.cell? ⟨b0, 1, none⟩ = some (.int .i64 0) ∧ W'.cell? ⟨b0, 2, none⟩ = some (.int .i64 0) ∧ W'.cell? ⟨b0, 3, none⟩ = some (.slice none 0 0) ∧ W'.cell? ⟨b0, 4, none⟩ = some (.int .i64 0) ∧ W'.frozen? ⟨b0, 0, none⟩ = false ∧ W'.frozen? ⟨b0, 1, none⟩ = false ∧ W'.frozen? ⟨b0, 2, none⟩ = false ∧ W'.frozen? ⟨b0, 3, none⟩ = false ∧ W'.frozen? ⟨b0, 4, none⟩ = false)) :=
    hide fun W' h => ⟨(h.cell (p := ⟨b0, 0, none⟩) hz0).trans k0.1, (h.cell (p := ⟨b0, 1, none⟩) hz0).trans k0.2.1, (h.cell (p := ⟨b0, 2, none⟩) hz0).trans k0.2.2.1, (h.cell (p := ⟨b0, 3, none⟩) hz0).trans k0.2.2.2.1, (h.cell (p := ⟨b0, 4, none⟩) hz0).trans k0.2.2.2.2.1, (h.frozen (p := ⟨b0, 0, none⟩) hz0).trans k0.2.2.2.2.2.1, (h.frozen (p := ⟨b0, 1, none⟩) hz0).trans k0.2.2.2.2.2.2.1, (h.frozen (p := ⟨b0, 2, none⟩) hz0).trans k0.2.2.2.2.2.2.2.1, (h.frozen (p := ⟨b0, 3, none⟩) hz0).trans k0.2.2.2.2.2.2.2.2.1, (h.frozen (p := ⟨b0, 4, none⟩) hz0).trans k0.2.2.2.2.2.2.2.2.2⟩
  clear k0
  refine (to_below_drew (shareOfEach_any _ _ _ _ _ _ hr0 hn)).mono ?_; rintro e w1 ⟨rfl, hb1⟩; rw [HQ.out]
  rw [HSS.out]
  have hr1 := hr0.below hb1 hBb
  have s1 := hb1.size
  go_wp2_with fail
  refine (Clone_any _ _ _ _ _ _ hr1 (by omega) (by omega) (by omega)).mono ?_
  rintro e w2 ⟨g, cg, rfl, hg1, hg2, hc1, hc2, hown2, hb2⟩
  have s2 := hb2.size
  go_wp2_with fail
  have hC : Below w2.heap.size w2 (w2.alloc (.cells #[.int .i64 0, .int .i64 0, .int .i64 0, .slice (some ⟨g, 0, none⟩) zs.length cg, .int .i64 s] 37)) := (Below.refl _ _).alloc (Nat.le_refl _) _
  have k2 : ((w2.alloc (.cells #[.int .i64 0, .int .i64 0, .int .i64 0, .slice (some ⟨g, 0, none⟩) zs.length cg, .int .i64 s] 37)).cell? ⟨w2.heap.size, 0, none⟩ = some (.int .i64 0) ∧ (w2.alloc (.cells #[.int .i64 0, .int .i64 0, .int .i64 0, .slice (some ⟨g, 0, none⟩) zs.length cg, .int .i64 s] 37)).cell? ⟨w2.heap.size, 1, none⟩ = some (.int .i64 0) ∧ (w2.alloc (.cells #[.int .i64 0, .int .i64 0, .int .i64 0, .slice (some ⟨g, 0, none⟩) zs.length cg, .int .i64 s] 37)).cell? ⟨w2.heap.size, 2, none⟩ = some (.int .i64 0) ∧ (w2.alloc (.cells #[.int .i64 0, .int .i64 0, .int .i64 0, .slice (some ⟨g, 0, none⟩) zs.length cg, .int .i64 s] 37)).cell? ⟨w2.heap.size, 3, none⟩ = some (.slice (some ⟨g, 0, none⟩) zs.length cg) ∧ (w2.alloc (.cells #[.int .i64 0, .int .i64 0, .int .i64 0, .slice (some ⟨g, 0, none⟩) zs.length cg, .int .i64 s] 37)).cell? ⟨w2.heap.size, 4, none⟩ = some (.int .i64 s) ∧ (w2.alloc (.cells #[.int .i64 0, .int .i64 0, .int .i64 0, .slice (some ⟨g, 0, none⟩) zs.length cg, .int .i64 s] 37)).frozen? ⟨w2.heap.size, 0, none⟩ = false ∧ (w2.alloc (.cells #[.int .i64 0, .int .i64 0, .int .i64 0, .slice (some ⟨g, 0, none⟩) zs.length cg, .int .i64 s] 37)).frozen? ⟨w2.heap.size, 1, none⟩ = false ∧ (w2.alloc (.cells #[.int .i64 0, .int .i64 0, .int .i64 0, .slice (some ⟨g, 0, none⟩) zs.length cg, .int .i64 s] 37)).frozen? ⟨w2.heap.size, 2, none⟩ = false ∧ (w2.alloc (.cells #[.int .i64 0, .int .i64 0, .int .i64 0, .slice (some ⟨g, 0, none⟩) zs.length cg, .int .i64 s] 37)).frozen? ⟨w2.heap.size, 3, none⟩ = false ∧ (w2.alloc (.cells #[.int .i64 0, .int .i64 0, .int .i64 0, .slice (some ⟨g, 0, none⟩) zs.length cg, .int .i64 s] 37)).frozen? ⟨w2.heap.size, 4, none⟩ = false) := by refine ⟨?_, ?_, ?_, ?_, ?_, ?_, ?_, ?_, ?_, ?_⟩ <;> simp [go_sem]
  have hz2 : w2.heap.size < (w2.alloc (.cells #[.int .i64 0, .int .i64 0, .int .i64 0, .slice (some ⟨g, 0, none⟩) zs.length cg, .int .i64 s] 37)).heap.size := by simp
  have s3 := hC.size
  generalize (w2.alloc (.cells #[.int .i64 0, .int .i64 0, .int .i64 0, .slice (some ⟨g, 0, none⟩) zs.length cg, .int .i64 s] 37)) = W3 at *
  obtain ⟨b2, hb2e⟩ : ∃ b2, b2 = w2.heap.size := ⟨_, rfl⟩
  have h2b : w2.heap.size ≤ b2 := by omega
  have hne : b0 ≠ b2 := by omega
  have hne' : b2 ≠ b0 := by omega
  have hbw1 : b0 < w1.heap.size := by omega
  rw [← hb2e] at k2 hz2 ⊢
  clear hb2e
  refine (HN.out _ _ _ _ (hown2.ints.below hC (Nat.le_refl _)) s3).mono ?_
  rintro e w4 ⟨rfl, hb4⟩
  obtain ⟨p0, p1, p2, p3, p4, p5, p6, p7, p8, p9⟩ : (w4.cell? ⟨b2, 0, none⟩ = some (.int .i64 0) ∧ w4.cell? ⟨b2, 1, none⟩ = some (.int .i64 0) ∧ w4.cell? ⟨b2, 2, none⟩ = some (.int .i64 0) ∧ w4.cell? ⟨b2, 3, none⟩ = some (.slice (some ⟨g, 0, none⟩) zs.length cg) ∧ w4.cell? ⟨b2, 4, none⟩ = some (.int .i64 s) ∧ w4.frozen? ⟨b2, 0, none⟩ = false ∧ w4.frozen? ⟨b2, 1, none⟩ = false ∧ w4.frozen? ⟨b2, 2, none⟩ = false ∧ w4.frozen? ⟨b2, 3, none⟩ = false ∧ w4.frozen? ⟨b2, 4, none⟩ = false) := ⟨(hb4.cell (p := ⟨b2, 0, none⟩) hz2).trans k2.1, (hb4.cell (p := ⟨b2, 1, none⟩) hz2).trans k2.2.1, (hb4.cell (p := ⟨b2, 2, none⟩) hz2).trans k2.2.2.1, (hb4.cell (p := ⟨b2, 3, none⟩) hz2).trans k2.2.2.2.1, (hb4.cell (p := ⟨b2, 4, none⟩) hz2).trans k2.2.2.2.2.1, (hb4.frozen (p := ⟨b2, 0, none⟩) hz2).trans k2.2.2.2.2.2.1, (hb4.frozen (p := ⟨b2, 1, none⟩) hz2).trans k2.2.2.2.2.2.2.1, (hb4.frozen (p := ⟨b2, 2, none⟩) hz2).trans k2.2.2.2.2.2.2.2.1, (hb4.frozen (p := ⟨b2, 3, none⟩) hz2).trans k2.2.2.2.2.2.2.2.2.1, (hb4.frozen (p := ⟨b2, 4, none⟩) hz2).trans k2.2.2.2.2.2.2.2.2.2⟩
  obtain ⟨o0, o1, o2, o3, o4, o5, o6, o7, o8, o9⟩ := HK.out _ (below_next (below_next (below_next hb1 hb2) hC) hb4)
  clear k2 HN HK
  go_wp2_with fail
  have hW5 : Below w2.heap.size w2 (((w4.setCell ⟨b2, 0, none⟩ (.int .i64 (nextF s zs))).setCell ⟨b2, 1, none⟩ (.int .i64 (nextT s zs))).setCell ⟨b2, 2, none⟩ (.int .i64 (nextC s zs))) := (((below_next hC hb4).setCell h2b _).setCell h2b _).setCell h2b _
  have hB2 : Below w.heap.size w w2 := (hA.trans (hb1.mono s0)).trans (hb2.mono (by omega))
  have s5 := hW5.size
  have own5 : Own (((w4.setCell ⟨b2, 0, none⟩ (.int .i64 (nextF s zs))).setCell ⟨b2, 1, none⟩ (.int .i64 (nextT s zs))).setCell ⟨b2, 2, none⟩ (.int .i64 (nextC s zs))) w1.heap.size 3 (.slice (some ⟨g, 0, none⟩) zs.length cg) zs := hown2.below hW5
  have own6 : Own ((((((((w4.setCell ⟨b2, 0, none⟩ (.int .i64 (nextF s zs))).setCell ⟨b2, 1, none⟩ (.int .i64 (nextT s zs))).setCell ⟨b2, 2, none⟩ (.int .i64 (nextC s zs))).setCell ⟨b0, 0, none⟩ (.int .i64 (nextF s zs))).setCell ⟨b0, 1, none⟩ (.int .i64 (nextT s zs))).setCell ⟨b0, 2, none⟩ (.int .i64 (nextC s zs))).setCell ⟨b0, 3, none⟩ (.slice (some ⟨g, 0, none⟩) zs.length cg)).setCell ⟨b0, 4, none⟩ (.int .i64 s)) w1.heap.size 3 (.slice (some ⟨g, 0, none⟩) zs.length cg) zs := own5.keep fun h hh hl => by
    rw [Below.heap_setCell _ _ _ _ (by simp; omega), Below.heap_setCell _ _ _ _ (by simp; omega), Below.heap_setCell _ _ _ _ (by simp; omega), Below.heap_setCell _ _ _ _ (by simp; omega), Below.heap_setCell _ _ _ _ (by simp; omega)]
  exact bodyPost_ret (v := .tuple #[.agg #[.int .i64 (nextF s zs), .int .i64 (nextT s zs), .int .i64 (nextC s zs), .slice (some ⟨g, 0, none⟩) zs.length cg, .int .i64 s], .bool true])
    (by simp [results, Try.results11, go_sem, o0, o1, o2, o3, o4]) rfl
    ⟨g, cg, by rw [HSS.out], by omega, by simp; simp at s5; omega, hc1, hc2, own6.less (by omega), ((((((hB2.trans (hW5.mono hB2.size)).setCell hwb _).setCell hwb _).setCell hwb _).setCell hwb _).setCell hwb _)⟩
end Go.Proofs.Ytieikogjjhjcdaa
