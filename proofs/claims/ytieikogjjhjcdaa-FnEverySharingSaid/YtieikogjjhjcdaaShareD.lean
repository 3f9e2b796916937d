
/-
  THE PLAN's isDone AND advance.
-/
import Derived.Test.YtieikogjjhjcdaaShare
import Derived.Test.YtieikogjjhjcdaaShareC
import Derived.Test.YtieikogjjhjcdaaCarry
import Derived.Test.YtieikogjjhjcdaaPlanC
import Derived.Deep.QuietTactic
import Derived.BigQuiet
namespace Go.Proofs.Ytieikogjjhjcdaa
open Go.RowKit Go.Deep
set_option linter.unusedVariables false

theorem isDone_any (f t k s : Int) (A : Value) (w : World) :
    Calls Try.prog 12 #[.agg #[.int .i64 f, .int .i64 t, .int .i64 k, A, .int .i64 s]] w
      fun e w' => e = .returned (.bool (decide (f = 0 ∧ t = 0 ∧ k = 0))) ∧ Below w.heap.size w w' := by
  go_enter Try.func12, Try.ntmps12
  go_wp2_with fail
  all_goals
    go_ret
    exact ⟨by simp [*], (Below.refl _ _).alloc (Nat.le_refl _) _⟩

/-- THE PLAN's BLOCK. -/
def PlanAt (w : World) (p g n cap : Nat) (f t k s : Int) : Prop :=
  w.cell? ⟨p, 0, none⟩ = some (.int .i64 f) ∧ w.cell? ⟨p, 1, none⟩ = some (.int .i64 t) ∧ w.cell? ⟨p, 2, none⟩ = some (.int .i64 k) ∧ w.cell? ⟨p, 3, none⟩ = some (.slice (some ⟨g, 0, none⟩) n cap) ∧ w.cell? ⟨p, 4, none⟩ = some (.int .i64 s) ∧
  w.frozen? ⟨p, 0, none⟩ = false ∧ w.frozen? ⟨p, 1, none⟩ = false ∧ w.frozen? ⟨p, 2, none⟩ = false
theorem PlanAt.of_block {w w' : World} {p g n cap : Nat} {f t k s : Int} (h : PlanAt w p g n cap f t k s) (hb : w'.heap[p]? = w.heap[p]?) : PlanAt w' p g n cap f t k s := by
  obtain ⟨a, b, c, d, e, f1, f2, f3⟩ := h
  exact ⟨(World.cell?_of_block (w := w) hb).trans a, (World.cell?_of_block (w := w) hb).trans b, (World.cell?_of_block (w := w) hb).trans c, (World.cell?_of_block (w := w) hb).trans d, (World.cell?_of_block (w := w) hb).trans e,
    (World.frozen?_of_block (w := w) hb).trans f1, (World.frozen?_of_block (w := w) hb).trans f2, (World.frozen?_of_block (w := w) hb).trans f3⟩

theorem PlanAt.stored {w : World} {p g n cap : Nat} {f t k s : Int} (h : PlanAt w p g n cap f t k s) (f' t' k' : Int) :
    PlanAt (((w.setCell ⟨p, 0, none⟩ (.int .i64 f')).setCell ⟨p, 1, none⟩ (.int .i64 t')).setCell ⟨p, 2, none⟩ (.int .i64 k')) p g n cap f' t' k' s := by
  obtain ⟨a, b, c, d, e, f1, f2, f3⟩ := h
  have o : ∀ (W : World) (v : Value) (x y : Nat), x ≠ y → (W.setCell ⟨p, x, none⟩ v).cell? ⟨p, y, none⟩ = W.cell? ⟨p, y, none⟩ := fun W v x y h => World.cell?_setCell_other _ _ _ _ (by intro e; injection e with e1 e2; exact h e2)
  refine ⟨?_, ?_, ?_, ?_, ?_, ?_, ?_, ?_⟩
  · rw [o _ _ 2 0 (by omega), o _ _ 1 0 (by omega), World.cell?_setCell_same _ _ _ a]
  · rw [o _ _ 2 1 (by omega), World.cell?_setCell_same _ _ _ ((o _ _ 0 1 (by omega)).trans b)]
  · rw [World.cell?_setCell_same _ _ _ ((o _ _ 1 2 (by omega)).trans ((o _ _ 0 2 (by omega)).trans c))]
  · rw [o _ _ 2 3 (by omega), o _ _ 1 3 (by omega), o _ _ 0 3 (by omega), d]
  · rw [o _ _ 2 4 (by omega), o _ _ 1 4 (by omega), o _ _ 0 4 (by omega), e]
  · simp [f1]
  · simp [f2]
  · simp [f3]

/-- WHAT advance LEAVES. -/
def Advanced (base p g n cap : Nat) (ys : List Int) (s : Int) (w : World) (e : Ending) (w' : World) : Prop :=
  e = .returned (.tuple #[]) ∧ PlanAt w' p g n cap (nextF s ys) (nextT s ys) (nextC s ys) s ∧ Own w' base 3 (.slice (some ⟨g, 0, none⟩) n cap) ys ∧ Below base w w' ∧ ∀ h, h < w.heap.size → h ≠ g → h ≠ p → w'.heap[h]? = w.heap[h]?

theorem advance_any (base p g n cap : Nat) (ys : List Int) (i j : Nat) (c s : Int) (w : World) (hown : Own w base 3 (.slice (some ⟨g, 0, none⟩) n cap) ys) (hlen : ys.length = n) (hn : n ≤ 1000000)
    (hi : i < n) (hj : j < n) (hij : i ≠ j) (hcalm : calm ys) (hc0 : 0 ≤ c) (hc1 : c ≤ 12000) (hp : p < w.heap.size) (hpg : p ≠ g)
    (hpl : PlanAt w p g n cap i j c s) (hv : ∀ k (h : k < (moved i j c ys).length), 0 ≤ (moved i j c ys)[k] ∧ (moved i j c ys)[k] ≤ 100000) (hs0 : 0 ≤ s) (hs1 : s ≤ 100000) (hbp : base ≤ p) :
    Calls Try.prog 13 #[.pointer (some ⟨p, 0, none⟩)] w (Advanced base p g n cap (moved i j c ys) s w) := by
  subst hlen
  go_enter Try.func13, Try.ntmps13
  go_wp2_with fail
  have HP := hide hpl
  obtain ⟨c0, c1, c2, c3, c4, f0, f1, f2⟩ := hpl
  have HC := hide (carry_any base g ys.length cap ys i j c w.drew hown rfl hn hi hj hij hcalm hc0 hc1)
  have HV := hide hv
  clear hv
  have HML := hide (moved_length i j c ys)
  go_region_with (go_at_call 21; (with_reducible refine HC.out.mono ?_); rintro e w2 ⟨rfl, own2, hb2, hoth2⟩)
  all_goals
    have HP2 := hide (HP.out.of_block (w' := w2) (hoth2 p hp hpg))
    obtain ⟨d0, d1, d2, d3, d4, g0, g1, g2⟩ := HP2.out
    clear c0 c1 c2 c3 c4 f0 f1 f2 HC HP hown
    have hr2 : Ints w2 w2.heap.size (some ⟨g, 0, none⟩) ys.length (moved i j c ys) := by
      have h := own2.ints
      rw [HML.out] at h
      exact h
    have HN := hide (nextMove_any i j c s (some ⟨g, 0, none⟩) ys.length cap w2.heap.size (moved i j c ys) w2 hr2 (Nat.le_refl _) hn HV.out hs0 hs1)
    have hp2 : p < w2.heap.size := Nat.lt_of_lt_of_le hp hb2.size
    have HK := hide (show ∀ w3, Below w2.heap.size w2 w3 → PlanAt w3 p g ys.length cap i j c s from fun w3 h => HP2.out.of_block (h.block p hp2))
    clear hr2 HV
    go_wp2_with fail
    refine HN.out.mono ?_
    rintro e w3 ⟨rfl, hb3⟩
    obtain ⟨k0, k1, k2, k3, k4, m0, m1, m2⟩ := HK.out _ hb3
    go_wp2_with fail
    go_end0
    have hs2 := hb2.size
    have own3 : Own w3 base 3 (.slice (some ⟨g, 0, none⟩) ys.length cap) (moved i j c ys) := Own.below own2 hb3
    have hpk := (HK.out _ hb3).stored (nextF s (moved i j c ys)) (nextT s (moved i j c ys)) (nextC s (moved i j c ys))
    have hh3 : ∀ h, h < w.heap.size → h ≠ g → w3.heap[h]? = w.heap[h]? := fun h hh hne => (hb3.block h (Nat.lt_of_lt_of_le hh hs2)).trans (hoth2 h hh hne)
    have hbb : Below base w w3 := (Below.trans (a := w) (b := w2) ⟨hb2.os, hb2.tape, hb2.output, hb2.size, hb2.block⟩ (hb3.mono (by omega)))
    refine ⟨rfl, hpk, Own.only own3 ?_, ((hbb.setCell hbp _).setCell hbp _).setCell hbp _, fun h hh hne hnp => ?_⟩
    · rw [Below.heap_setCell _ _ _ _ (fun e => hpg e.symm), Below.heap_setCell _ _ _ _ (fun e => hpg e.symm), Below.heap_setCell _ _ _ _ (fun e => hpg e.symm)]
    · rw [Below.heap_setCell _ _ _ _ hnp, Below.heap_setCell _ _ _ _ hnp, Below.heap_setCell _ _ _ _ hnp]; exact hh3 h hh hne
end Go.Proofs.Ytieikogjjhjcdaa
