import Derived.Test.YtediapekgbekeaaMg18
import Derived.Test.YtediapekgbekeaaMg14
import Derived.Test.YtediapekgbekeaaMg12
import Derived.Test.YtediapekgbekeaaMg17
import Derived.RegionTactic

/-
  THE HEAPS LESS THEIR SHARE: their sum is 0, their bounds, plainly.
-/
namespace Go.Proofs.Ytediapekgbekeaa

theorem sum_exc (s : Int) : ∀ (ys : List Int), (exc s ys).sum = tot ys - s * ys.length
  | [] => by simp [exc, tot]
  | y :: ys => by
    have ih := sum_exc s ys
    unfold exc at ih ⊢
    rw [List.map_cons, List.sum_cons, ih]
    simp only [tot, List.length_cons]
    rw [Int.natCast_add, Int.mul_add]
    simp
    omega
theorem over_exc {zs : List Int} (h : eqOk zs = true) : over zs = exc (shareEq zs) zs := by rw [shareEq_yes h]; rfl
theorem over_sum {zs : List Int} (h : eqOk zs = true) : (over zs).sum = 0 := by
  rw [over_exc h, sum_exc, shareEq_yes h]
  have hm := eqOk_yes (eqOk_good h)
  rw [h] at hm
  have hm : tot zs % zs.length = 0 := by simpa using hm.symm
  have := Int.mul_ediv_add_emod (tot zs) zs.length
  rw [Int.mul_comm] at this
  omega
theorem shareEq_bd {zs : List Int} (h : eqOk zs = true) : 0 ≤ shareEq zs ∧ shareEq zs ≤ 1000 := by
  have hg := eqOk_good h
  rw [shareEq_yes h]
  obtain ⟨h1, h2, h3⟩ := good_of hg
  have ht := tot_bd _ _ _ h3
  have hz := good_tot hg
  refine ⟨Int.ediv_nonneg hz.1 (by omega), ?_⟩
  have hp : (0 : Int) < zs.length := by omega
  exact Int.le_of_lt_add_one (Int.ediv_lt_of_lt_mul hp (by omega))
theorem over_bd1000 {zs : List Int} (h : eqOk zs = true) : bd (over zs) := by
  intro k hk
  have hk' : k < zs.length := by rw [over_length] at hk; exact hk
  have hg := good_get (eqOk_good h) k hk'
  have hs := shareEq_bd h
  rw [shareEq_yes h] at hs
  rw [over_get zs k hk']
  omega
end Go.Proofs.Ytediapekgbekeaa

/-
  THE PROGRAM's carry, alone (as in XPlay, for seats without the costs).
-/
namespace Go.Proofs.Ytediapekgbekeaa
open Go.RowKit Go.Deep
set_option linter.unusedVariables false

theorem two_stores {w : World} {g i j h : Nat} (u v : Value) {o : Obj} (hh : h < w.heap.size) (hne : h ≠ g) : ((((w.setCell ⟨g, i, none⟩ u).setCell ⟨g, j, none⟩ v).alloc o).drew.drew).heap[h]? = w.heap[h]? := by
  show (((w.setCell ⟨g, i, none⟩ u).setCell ⟨g, j, none⟩ v).alloc o).heap[h]? = w.heap[h]?
  rw [Below.heap_alloc _ _ _ (by simpa [World.setCell] using hh), Below.heap_setCell _ _ _ _ hne, Below.heap_setCell _ _ _ _ hne]

/-- WHAT carry LEAVES: the row behind the move; no other block that was there has turned. -/
def Carried (base g n c : Nat) (zs : List Int) (w : World) (e : Ending) (w' : World) : Prop :=
  e = .returned (.tuple #[]) ∧ Own w' base 3 (.slice (some ⟨g, 0, none⟩) n c) zs ∧ Below base w w' ∧ ∀ h, h < w.heap.size → h ≠ g → w'.heap[h]? = w.heap[h]?

theorem carry_any (base g n cap : Nat) (zs : List Int) (i j : Nat) (c : Int) (w : World) (hown : Own w base 3 (.slice (some ⟨g, 0, none⟩) n cap) zs) (hlen : zs.length = n) (hn : n ≤ 1000000)
    (hi : i < n) (hj : j < n) (hij : i ≠ j) (hcalm : calm zs) (hc0 : 0 ≤ c) (hc1 : c ≤ 12000) :
    Calls Try.prog 55 #[.slice (some ⟨g, 0, none⟩) n cap, .agg #[.int .i64 (i : Int), .int .i64 (j : Int), .int .i64 c]] w (Carried base g n cap (moved i j c zs) w) := by
  subst hlen
  rcases hown.form with ⟨h1, _⟩ | ⟨g', c', h1, hb, hg, hcl, hm⟩
  · cases h1
  cases h1
  have zi := calm_get hcalm i hi
  have zj := calm_get hcalm j hj
  have e1 : ∀ o, (w.alloc o).cell? ⟨g, i, none⟩ = some (.int .i64 zs[i]) := by
    intro o
    have := World.ownsRow.cellAt (hown.alloc o) i (by omega)
    rw [this]; simp [hi]
  have f1 : ∀ o, (w.alloc o).frozen? ⟨g, i, none⟩ = false := fun o => World.ownsRow.frozenAt (hown.alloc o) i
  have own1 : Own (w.setCell ⟨g, i, none⟩ (.int .i64 (zs[i] - c))) base 3 (.slice (some ⟨g, 0, none⟩) zs.length cap) (zs.set i (zs[i] - c)) := Own.stored hown rfl i _
  have e2 : ∀ o, ((w.setCell ⟨g, i, none⟩ (.int .i64 (zs[i] - c))).alloc o).cell? ⟨g, j, none⟩ = some (.int .i64 zs[j]) := by
    intro o
    have h := own1.alloc o
    unfold Own at h
    rw [List.length_set] at h
    have := World.ownsRow.cellAt h j (by omega)
    rw [this]; simp [hj, List.getElem_set_ne hij]
  have f2 : ∀ o, ((w.setCell ⟨g, i, none⟩ (.int .i64 (zs[i] - c))).alloc o).frozen? ⟨g, j, none⟩ = false := by
    intro o
    have h := own1.alloc o
    unfold Own at h
    rw [List.length_set] at h
    exact World.ownsRow.frozenAt h j
  have ai : (i : Int) < (zs.length : Int) := by omega
  have aj : (j : Int) < (zs.length : Int) := by omega
  go_enter Try.func55, Try.ntmps55
  go_wp2_with fail
  go_region
  go_wp2_with fail
  go_region
  go_wp2_with fail
  go_end0
  have own2 : Own ((w.setCell ⟨g, i, none⟩ (.int .i64 (zs[i] - c))).setCell ⟨g, j, none⟩ (.int .i64 (zs[j] + c))) base 3 (.slice (some ⟨g, 0, none⟩) zs.length cap) (moved i j c zs) := by
    rw [moved_eq i j c zs hij hi hj]
    exact Own.stored own1 (by rw [List.length_set]) j _
  have hbel : Below base w ((w.setCell ⟨g, i, none⟩ (.int .i64 (zs[i] - c))).setCell ⟨g, j, none⟩ (.int .i64 (zs[j] + c))) := ((Below.refl _ _).setCell hb _).setCell hb _
  refine ⟨rfl, (own2.alloc _).drewN 2, below_drewN (hbel.alloc (by simp; omega) _) 2, fun h hh hne => ?_⟩
  exact two_stores _ _ hh hne

end Go.Proofs.Ytediapekgbekeaa
