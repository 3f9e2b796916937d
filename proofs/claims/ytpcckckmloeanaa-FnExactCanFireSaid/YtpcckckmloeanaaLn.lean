
/-
  A LINE OF CHIPS IN MEMORY: its block; firing; whether a place can fire; its chips handed out.
-/
import Derived.Test.YtpcckckmloeanaaCh
import Derived.Test.YtpcckckmloeanaaLnQ
import Derived.Test.YtpcckckmloeanaaCopy
import Derived.RegionTactic
import Derived.Laws.Rows
namespace Go.Proofs.Ytpcckckmloeanaa
open Go.RowKit Go.Deep
set_option linter.unusedVariables false

/-- A block of numbers. -/
def LineAt (w : World) (b : Nat) (t : TypeId) (xs : List Int) : Prop := w.heap[b]? = some (.cells (xs.map (Value.int .i64)).toArray t (0, 0))
theorem LineAt.cell {w : World} {b : Nat} {t : TypeId} {xs : List Int} (h : LineAt w b t xs) (j : Nat) (hj : j < xs.length) : w.cell? ⟨b, j, none⟩ = some (.int .i64 (xs.getD j 0)) := by
  rw [cell_of_row w b j _ t (0, 0) h, List.getElem?_toArray, List.getElem?_map, List.getElem?_eq_getElem hj, getD_ge hj]; rfl
theorem LineAt.frozen {w : World} {b : Nat} {t : TypeId} {xs : List Int} (h : LineAt w b t xs) (j : Nat) : w.frozen? ⟨b, j, none⟩ = false := frozen_of_row w b j _ t h
theorem LineAt.drew {w : World} {b : Nat} {t : TypeId} {xs : List Int} (h : LineAt w b t xs) : LineAt w.drew b t xs := h
theorem LineAt.lt {w : World} {b : Nat} {t : TypeId} {xs : List Int} (h : LineAt w b t xs) : b < w.heap.size := (Array.getElem?_eq_some_iff.1 h).1
theorem LineAt.set {w : World} {b : Nat} {t : TypeId} {xs : List Int} (h : LineAt w b t xs) (j : Nat) (v : Int) : LineAt (w.setCell ⟨b, j, none⟩ (.int .i64 v)) b t (xs.set j v) := by
  unfold LineAt
  rw [heap_setCell_same w b j _ t _ h, List.map_set]
  congr 2
  simp [List.setIfInBounds_toArray]
theorem LineAt.more {w : World} {b : Nat} {t : TypeId} {xs : List Int} (h : LineAt w b t xs) (j : Nat) (v : Int) : LineAt (w.setCell ⟨b, j, none⟩ (.int .i64 (xs.getD j 0 + v))) b t (more xs j v) := h.set j _
theorem LineAt.of_block {w w' : World} {b : Nat} {t : TypeId} {xs : List Int} (h : LineAt w b t xs) (e : w'.heap[b]? = w.heap[b]?) : LineAt w' b t xs := e.trans h

/-- WHAT A STORE INTO ONE BLOCK LEAVES. -/
structure Only (b : Nat) (w w' : World) : Prop where
  below : Below b w w'
  size : w'.heap.size = w.heap.size
  rest : ∀ h, h ≠ b → w'.heap[h]? = w.heap[h]?
theorem Only.refl (b : Nat) (w : World) : Only b w w := ⟨Below.refl _ _, rfl, fun _ _ => rfl⟩
theorem Only.drew {b : Nat} {w w' : World} (h : Only b w w') : Only b w w'.drew := ⟨h.below.drew, h.size, h.rest⟩
theorem Only.set {b : Nat} {w w' : World} (h : Only b w w') (j : Nat) (v : Value) : Only b w (w'.setCell ⟨b, j, none⟩ v) :=
  ⟨h.below.setCell (Nat.le_refl _) _, by rw [← h.size]; simp, fun k hk => (heap_setCell_other w' ⟨b, j, none⟩ k v hk).trans (h.rest k hk)⟩
theorem Only.trans {b : Nat} {w w1 w2 : World} (h : Only b w w1) (h2 : Only b w1 w2) : Only b w w2 := ⟨h.below.trans h2.below, h2.size.trans h.size, fun k hk => (h2.rest k hk).trans (h.rest k hk)⟩

theorem wrap_small {x : Int} (h0 : -9000000000000000000 ≤ x) (h1 : x ≤ 9000000000000000000) : wrap64 x = x := by
  rw [← IntWalk.i64_left]; exact IntWalk.i64_in x (by omega)

theorem lineL_cell {w : World} {b : Nat} {t : TypeId} {zs ts : List Int} (h : LineAt w b t (lineL zs ts)) (q : Nat) (hq : q < 22) : w.cell? ⟨b, 1 + q, none⟩ = some (.int .i64 (rowAt zs ts q)) := by
  rw [Nat.add_comm 1 q, h.cell _ (by rw [lineL_length]; omega), lineL_getD_row _ _ _ hq]
theorem lineL_places {w : World} {b : Nat} {t : TypeId} {zs ts : List Int} (h : LineAt w b t (lineL zs ts)) : w.cell? ⟨b, 0, none⟩ = some (.int .i64 (zs.length : Int)) :=
  h.cell 0 (by rw [lineL_length]; omega)

theorem canFire_any (b : Nat) (t : TypeId) (p : Int) (zs ts : List Int) (w : World) (hL : LineAt w b t (lineL zs ts)) (h20 : zs.length ≤ 20) :
    Calls Try.prog 11 #[.pointer (some ⟨b, 0, none⟩), .int .i64 p] w fun e w' => e = .returned (.bool (ableAt zs ts p)) ∧ w = w' := by
  have hc0 := lineL_places hL
  have HI := hide (fun W => isPlaceAmong_any zs.length p W)
  cases hi : isAt p zs.length
  · have HA := hide (ableAt_no (ts := ts) hi)
    rw [hi] at HI
    clear hL
    go_enter Try.func11, Try.ntmps11
    go_wp2_with fail
    refine (HI.out _).mono ?_; rintro e w' ⟨rfl, rfl⟩
    go_wp2_with fail
    go_ret
    exact ⟨by rw [HA.out]; rfl, rfl⟩
  · obtain ⟨k, rfl, hk⟩ := isAt_of hi
    have HA := hide (ableAt_yes (ts := ts) hk)
    rw [hi] at HI
    have hc1 := lineL_cell hL (k + 1) (by omega)
    have hk22 : (k : Int) < 20 := by omega
    have hkb : (k : Int) + 1 < 22 := by omega
    clear hL hi
    generalize rowAt zs ts (k + 1) = x at *
    go_enter Try.func11, Try.ntmps11
    go_wp2_with fail
    refine (HI.out _).mono ?_; rintro e w' ⟨rfl, rfl⟩
    go_wp2_with fail
    go_ret
    exact ⟨by rw [HA.out]; rfl, rfl⟩
end Go.Proofs.Ytpcckckmloeanaa
