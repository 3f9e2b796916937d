
/-
  DOUBLINGS, THE MODEL's WAY: dbCan, dbMake.
-/
import Derived.Test.YtkpcncgmljapeaaRowP
import Derived.Test.YtkpcncgmljapeaaSums
import Derived.Test.YtkpcncgmljapeaaCopy
import Derived.Test.YtkpcncgmljapeaaMark
import Derived.Test.YtkpcncgmljapeaaLaws0
import Derived.RegionTactic
namespace Go.Proofs.Ytkpcncgmljapeaa
open Go.RowKit Go.Deep
set_option linter.unusedVariables false

/-- The model's dbMake. -/
theorem dbMake_any (A : Option Addr) (n cap B : Nat) (zs : List Int) (i j : Nat) (w : World) (hr : Ints w B A n zs) (hB : B ≤ w.heap.size) (hn : n ≤ 12) (hs : small zs) (hi : i < n) (hj : j < n) (hij : i ≠ j) (hle : zs.getD j 0 ≤ zs.getD i 0) :
    Calls Try.prog 15 #[.slice A n cap, .agg #[.int .i64 (i : Int), .int .i64 (j : Int)]] w (Made1 (dmade i j zs) w) := by
  obtain rfl := hr.len
  have ezj : zs.getD j 0 = zs[j] := by simp [List.getD, hj]
  have ezi : zs.getD i 0 = zs[i] := by simp [List.getD, hi]
  rw [ezi, ezj] at hle
  have zi := small_get hs i hi
  have zj := small_get hs j hj
  obtain ⟨ad, rfl, hab, hcell⟩ := hr.at_ hj
  rw [ezj] at hcell
  have ai : (i : Int) < (zs.length : Int) := by omega
  have aj : (j : Int) < (zs.length : Int) := by omega
  have HM := hide (show dmade i j zs = (zs.set i (zs[i] - zs[j])).set j (2 * zs[j]) from by unfold dmade; rw [ezi, ezj])
  clear ezi ezj
  go_enter Try.func15, Try.ntmps15
  go_wp2_with fail
  have hb1 : Below w.heap.size w (w.alloc (.cells #[.int .i64 (i : Int), .int .i64 (j : Int)] 33)) := (Below.refl _ _).alloc (Nat.le_refl _) _
  have k0 : (w.alloc (.cells #[.int .i64 (i : Int), .int .i64 (j : Int)] 33)).cell? ⟨w.heap.size, 0, none⟩ = some (.int .i64 (i : Int)) := by simp
  have k1 : (w.alloc (.cells #[.int .i64 (i : Int), .int .i64 (j : Int)] 33)).cell? ⟨w.heap.size, 1, none⟩ = some (.int .i64 (j : Int)) := by simp
  have hs1 : w.heap.size < (w.alloc (.cells #[.int .i64 (i : Int), .int .i64 (j : Int)] 33)).heap.size := by simp
  generalize (w.alloc (.cells #[.int .i64 (i : Int), .int .i64 (j : Int)] 33)) = w1 at *
  have hr1 := hr.below hb1 hB
  refine (l1Own_any _ _ _ _ zs _ hr1 (by omega) (by omega) (by omega)).mono ?_
  rintro e w2 ⟨g, cap2, rfl, hga, hgb, hca, hcb, hown, hb2⟩
  have b0 := (hb2.cell (p := ⟨w.heap.size, 0, none⟩) hs1).trans k0
  have b1 := (hb2.cell (p := ⟨w.heap.size, 1, none⟩) hs1).trans k1
  have hcell2 := ((below_next hb1 hb2).cell (p := ad.add j) (by rw [block_of_add]; omega)).trans hcell
  clear k0 k1 hcell hr1
  have hb02 : Below w.heap.size w w2 := below_next hb1 hb2
  have e1 : w2.cell? ⟨g, i, none⟩ = some (.int .i64 zs[i]) := by
    rw [World.ownsRow.cellAt hown i (by omega)]; simp [hi]
  have f1 : w2.frozen? ⟨g, i, none⟩ = false := World.ownsRow.frozenAt hown i
  have own1 : Own (w2.setCell ⟨g, i, none⟩ (.int .i64 (zs[i] - zs[j]))) w.heap.size 3 (.slice (some ⟨g, 0, none⟩) zs.length cap2) (zs.set i (zs[i] - zs[j])) := Own.stored (hown.less (by omega)) rfl i _
  have e2 : (w2.setCell ⟨g, i, none⟩ (.int .i64 (zs[i] - zs[j]))).cell? ⟨g, j, none⟩ = some (.int .i64 zs[j]) := by
    have h := own1
    unfold Own at h
    rw [List.length_set] at h
    rw [World.ownsRow.cellAt h j (by omega)]; simp [hj, List.getElem_set_ne hij]
  have f2 : (w2.setCell ⟨g, i, none⟩ (.int .i64 (zs[i] - zs[j]))).frozen? ⟨g, j, none⟩ = false := by
    have h := own1
    unfold Own at h
    rw [List.length_set] at h
    exact World.ownsRow.frozenAt h j
  have b1' : (w2.setCell ⟨g, i, none⟩ (.int .i64 (zs[i] - zs[j]))).cell? ⟨w.heap.size, 1, none⟩ = some (.int .i64 (j : Int)) := by
    rw [World.cell?_setCell_other _ _ _ _ (by simp <;> omega)]; exact b1
  have hcell3 : (w2.setCell ⟨g, i, none⟩ (.int .i64 (zs[i] - zs[j]))).cell? (ad.add j) = some (.int .i64 zs[j]) := by
    rw [World.cell?_setCell_other _ _ _ _ (by
      intro e
      have := congrArg Addr.block e
      rw [block_of_add] at this
      simp at this; omega)]; exact hcell2
  go_wp2_with fail
  go_region
  go_wp2_with fail
  go_region
  go_wp2_with fail
  go_ret
  have own2 : Own ((w2.setCell ⟨g, i, none⟩ (.int .i64 (zs[i] - zs[j]))).setCell ⟨g, j, none⟩ (.int .i64 (2 * zs[j]))) w.heap.size 3 (.slice (some ⟨g, 0, none⟩) zs.length cap2) (dmade i j zs) := by
    rw [HM.out]
    exact Own.stored own1 (by rw [List.length_set]) j _
  have hbel : Below w.heap.size w ((w2.setCell ⟨g, i, none⟩ (.int .i64 (zs[i] - zs[j]))).setCell ⟨g, j, none⟩ (.int .i64 (2 * zs[j]))) := (hb02.setCell (show w.heap.size ≤ g by omega) _).setCell (show w.heap.size ≤ g by omega) _
  exact ⟨g, cap2, by rw [dmade_length]; rfl, by omega, by simp; omega, by rw [dmade_length]; exact hca, hcb, by rw [dmade_length]; exact own2.drewN 2, below_drewN hbel 2⟩
end Go.Proofs.Ytkpcncgmljapeaa
