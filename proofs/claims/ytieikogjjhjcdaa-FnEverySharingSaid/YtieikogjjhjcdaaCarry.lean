
/-
  THE PROGRAM's carry, alone (as in XPlay, for seats without the costs).
-/
import Derived.Test.YtieikogjjhjcdaaPlayP
import Derived.Test.YtieikogjjhjcdaaCopy
import Derived.Test.YtieikogjjhjcdaaMark
import Derived.RegionTactic
namespace Go.Proofs.Ytieikogjjhjcdaa
open Go.RowKit Go.Deep
set_option linter.unusedVariables false

theorem two_stores {w : World} {g i j h : Nat} (u v : Value) {o : Obj} (hh : h < w.heap.size) (hne : h ≠ g) : ((((w.setCell ⟨g, i, none⟩ u).setCell ⟨g, j, none⟩ v).alloc o).drew.drew).heap[h]? = w.heap[h]? := by
  show (((w.setCell ⟨g, i, none⟩ u).setCell ⟨g, j, none⟩ v).alloc o).heap[h]? = w.heap[h]?
  rw [Below.heap_alloc _ _ _ (by simpa [World.setCell] using hh), Below.heap_setCell _ _ _ _ hne, Below.heap_setCell _ _ _ _ hne]

/-- WHAT carry LEAVES: the row behind the move; no other block that was there has turned. -/
def Carried (base g n c : Nat) (zs : List Int) (w : World) (e : Ending) (w' : World) : Prop :=
  e = .returned (.tuple #[]) ∧ Own w' base 3 (.slice (some ⟨g, 0, none⟩) n c) zs ∧ Below base w w' ∧ ∀ h, h < w.heap.size → h ≠ g → w'.heap[h]? = w.heap[h]?

theorem carry_any (base g n cap : Nat) (zs : List Int) (i j : Nat) (c : Int) (w : World) (hown : Own w base 3 (.slice (some ⟨g, 0, none⟩) n cap) zs) (hlen : zs.length = n) (hn : n ≤ 1000000)
    (hi : i < n) (hj : j < n) (hij : i ≠ j) (hcalm : calm zs) (hc0 : 0 ≤ c) (hc1 : c ≤ 12000) :
    Calls Try.prog 21 #[.slice (some ⟨g, 0, none⟩) n cap, .agg #[.int .i64 (i : Int), .int .i64 (j : Int), .int .i64 c]] w (Carried base g n cap (moved i j c zs) w) := by
  subst hlen
  rcases hown.form with ⟨h1, _⟩ | ⟨g', c', h1, hb, hg, hcl, hm⟩
  · cases h1
  cases h1
  have zi := calm_get hcalm i hi
  have zj := calm_get hcalm j hj
  have e1 : ∀ o, (w.alloc o).cell? ⟨g, i, none⟩ = some (.int .i64 zs[i]) := by
    intro o
    have := World.ownsRow.cellAt (hown.alloc o) i (by omega)
    rw [this]; simp [hi]
  have f1 : ∀ o, (w.alloc o).frozen? ⟨g, i, none⟩ = false := fun o => World.ownsRow.frozenAt (hown.alloc o) i
  have own1 : Own (w.setCell ⟨g, i, none⟩ (.int .i64 (zs[i] - c))) base 3 (.slice (some ⟨g, 0, none⟩) zs.length cap) (zs.set i (zs[i] - c)) := Own.stored hown rfl i _
  have e2 : ∀ o, ((w.setCell ⟨g, i, none⟩ (.int .i64 (zs[i] - c))).alloc o).cell? ⟨g, j, none⟩ = some (.int .i64 zs[j]) := by
    intro o
    have h := own1.alloc o
    unfold Own at h
    rw [List.length_set] at h
    have := World.ownsRow.cellAt h j (by omega)
    rw [this]; simp [hj, List.getElem_set_ne hij]
  have f2 : ∀ o, ((w.setCell ⟨g, i, none⟩ (.int .i64 (zs[i] - c))).alloc o).frozen? ⟨g, j, none⟩ = false := by
    intro o
    have h := own1.alloc o
    unfold Own at h
    rw [List.length_set] at h
    exact World.ownsRow.frozenAt h j
  have ai : (i : Int) < (zs.length : Int) := by omega
  have aj : (j : Int) < (zs.length : Int) := by omega
  go_enter Try.func21, Try.ntmps21
  go_wp2_with fail
  go_region
  go_wp2_with fail
  go_region
  go_wp2_with fail
  go_end0
  have own2 : Own ((w.setCell ⟨g, i, none⟩ (.int .i64 (zs[i] - c))).setCell ⟨g, j, none⟩ (.int .i64 (zs[j] + c))) base 3 (.slice (some ⟨g, 0, none⟩) zs.length cap) (moved i j c zs) := by
    rw [moved_eq i j c zs hij hi hj]
    exact Own.stored own1 (by rw [List.length_set]) j _
  have hbel : Below base w ((w.setCell ⟨g, i, none⟩ (.int .i64 (zs[i] - c))).setCell ⟨g, j, none⟩ (.int .i64 (zs[j] + c))) := ((Below.refl _ _).setCell hb _).setCell hb _
  refine ⟨rfl, (own2.alloc _).drewN 2, below_drewN (hbel.alloc (by simp; omega) _) 2, fun h hh hne => ?_⟩
  exact two_stores _ _ hh hne

end Go.Proofs.Ytieikogjjhjcdaa
