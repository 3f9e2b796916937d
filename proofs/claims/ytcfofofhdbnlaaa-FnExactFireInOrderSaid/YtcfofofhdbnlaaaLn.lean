
/-
  A LINE OF CHIPS IN MEMORY: its block; firing; whether a place can fire; its chips handed out.
-/
import Derived.Test.YtcfofofhdbnlaaaCh
import Derived.Test.YtcfofofhdbnlaaaLnQ
import Derived.Test.YtcfofofhdbnlaaaCopy
import Derived.RegionTactic
import Derived.Laws.Rows
namespace Go.Proofs.Ytcfofofhdbnlaaa
open Go.RowKit Go.Deep
set_option linter.unusedVariables false

/-- A block of numbers. -/
def LineAt (w : World) (b : Nat) (t : TypeId) (xs : List Int) : Prop := w.heap[b]? = some (.cells (xs.map (Value.int .i64)).toArray t (0, 0))
theorem LineAt.cell {w : World} {b : Nat} {t : TypeId} {xs : List Int} (h : LineAt w b t xs) (j : Nat) (hj : j < xs.length) : w.cell? ⟨b, j, none⟩ = some (.int .i64 (xs.getD j 0)) := by
  rw [cell_of_row w b j _ t (0, 0) h, List.getElem?_toArray, List.getElem?_map, List.getElem?_eq_getElem hj, getD_ge hj]; rfl
theorem LineAt.frozen {w : World} {b : Nat} {t : TypeId} {xs : List Int} (h : LineAt w b t xs) (j : Nat) : w.frozen? ⟨b, j, none⟩ = false := frozen_of_row w b j _ t h
theorem LineAt.drew {w : World} {b : Nat} {t : TypeId} {xs : List Int} (h : LineAt w b t xs) : LineAt w.drew b t xs := h
theorem LineAt.lt {w : World} {b : Nat} {t : TypeId} {xs : List Int} (h : LineAt w b t xs) : b < w.heap.size := (Array.getElem?_eq_some_iff.1 h).1
theorem LineAt.set {w : World} {b : Nat} {t : TypeId} {xs : List Int} (h : LineAt w b t xs) (j : Nat) (v : Int) : LineAt (w.setCell ⟨b, j, none⟩ (.int .i64 v)) b t (xs.set j v) := by
  unfold LineAt
  rw [heap_setCell_same w b j _ t _ h, List.map_set]
  congr 2
  simp [List.setIfInBounds_toArray]
theorem LineAt.more {w : World} {b : Nat} {t : TypeId} {xs : List Int} (h : LineAt w b t xs) (j : Nat) (v : Int) : LineAt (w.setCell ⟨b, j, none⟩ (.int .i64 (xs.getD j 0 + v))) b t (more xs j v) := h.set j _
theorem LineAt.of_block {w w' : World} {b : Nat} {t : TypeId} {xs : List Int} (h : LineAt w b t xs) (e : w'.heap[b]? = w.heap[b]?) : LineAt w' b t xs := e.trans h

/-- WHAT A STORE INTO ONE BLOCK LEAVES. -/
structure Only (b : Nat) (w w' : World) : Prop where
  below : Below b w w'
  size : w'.heap.size = w.heap.size
  rest : ∀ h, h ≠ b → w'.heap[h]? = w.heap[h]?
theorem Only.refl (b : Nat) (w : World) : Only b w w := ⟨Below.refl _ _, rfl, fun _ _ => rfl⟩
theorem Only.drew {b : Nat} {w w' : World} (h : Only b w w') : Only b w w'.drew := ⟨h.below.drew, h.size, h.rest⟩
theorem Only.set {b : Nat} {w w' : World} (h : Only b w w') (j : Nat) (v : Value) : Only b w (w'.setCell ⟨b, j, none⟩ v) :=
  ⟨h.below.setCell (Nat.le_refl _) _, by rw [← h.size]; simp, fun k hk => (heap_setCell_other w' ⟨b, j, none⟩ k v hk).trans (h.rest k hk)⟩
theorem Only.trans {b : Nat} {w w1 w2 : World} (h : Only b w w1) (h2 : Only b w1 w2) : Only b w w2 := ⟨h.below.trans h2.below, h2.size.trans h.size, fun k hk => (h2.rest k hk).trans (h.rest k hk)⟩

theorem wrap_small {x : Int} (h0 : -9000000000000000000 ≤ x) (h1 : x ≤ 9000000000000000000) : wrap64 x = x := by
  rw [← IntWalk.i64_left]; exact IntWalk.i64_in x (by omega)

set_option maxRecDepth 100000 in
/-- A place fires v times. -/
theorem fire_any (b : Nat) (t : TypeId) (p : Nat) (v : Int) (xs : List Int) (w : World) (hL : LineAt w b t xs) (hx : xs.length = 43) (hm : mild xs) (hp : p < 20) (hv0 : 0 ≤ v) (hv1 : v ≤ 1000000) :
    Calls Try.prog 34 #[.pointer (some ⟨b, 0, none⟩), .int .i64 p, .int .i64 v] w fun e w' => e = .returned (.tuple #[]) ∧ LineAt w' b t (fireL xs p v) ∧ Only b w w' := by
  have hp22 : (p : Int) < 22 := by omega
  have hp22b : ((p + 1 : Nat) : Int) < 22 := by omega
  have hp22c : ((p + 2 : Nat) : Int) < 22 := by omega
  have hp20 : (p : Int) < 20 := by omega
  have hw1 : IntKind.i64.wrap ((p : Int) + 1) = ((p + 1 : Nat) : Int) := by rw [IntWalk.i64_in _ (by omega)]; omega
  have hw2 : IntKind.i64.wrap ((p : Int) + 2) = ((p + 2 : Nat) : Int) := by rw [IntWalk.i64_in _ (by omega)]; omega
  have hw3 : IntKind.i64.wrap (2 * v) = 2 * v := by rw [IntWalk.i64_in _ (by omega)]
  have HL0 := hide hL
  have HM := hide hm
  have HO0 := hide (Only.refl b w)
  have HXL := hide hx
  clear hL hm hx
  have hm0 := HM.out (p + 1)
  obtain ⟨x1, hx0⟩ : ∃ x, xs.getD (p + 1) 0 = x := ⟨_, rfl⟩
  rw [hx0] at hm0
  have hg0 : xs.getD (p + 1) 0 = x1 := by
    have hl := HXL.out
    exact hx0
  have hc0 : w.cell? ⟨b, 1 + p, none⟩ = some (.int .i64 x1) := by
    rw [← hg0, show 1 + p = p + 1 from by omega]
    exact HL0.out.cell (p + 1) (by have := HXL.out; first | omega | (simp only [more_length]; omega))
  have hf0 : w.frozen? ⟨b, 1 + p, none⟩ = false := HL0.out.frozen _
  have e0 : wrap64 (x1 + v) = x1 + v := wrap_small (by omega) (by omega)
  have HG0 := hide hg0
  clear hg0 hx0
  go_enter Try.func34, Try.ntmps34
  go_wp2_with fail
  go_region
  all_goals
    try rw [e0]
    have HL1 := hide (show LineAt (w.setCell ⟨b, 1 + p, none⟩ (.int .i64 (x1 + v))).drew b t (more xs (p + 1) v) from by
      have := HL0.out.more (p + 1) v
      rw [HG0.out, show p + 1 = 1 + p from by omega] at this
      rw [show p + 1 = 1 + p from by omega]
      exact this)
    have HO1 := hide ((HO0.out.set (1 + p) (.int .i64 (x1 + v))).drew)
    clear hc0 hf0 e0 HG0
    go_wp2_with fail
    generalize (w.setCell ⟨b, 1 + p, none⟩ (.int .i64 (x1 + v))).drew = w1 at *
    have hm1 := HM.out (p + 2)
    obtain ⟨x2, hx1⟩ : ∃ x, xs.getD (p + 2) 0 = x := ⟨_, rfl⟩
    rw [hx1] at hm1
    have hg1 : (more xs (p + 1) v).getD (p + 2) 0 = x2 := by
      have hl := HXL.out
      rw [more_getD xs (p + 1) (p + 2) v (by first | omega | (simp only [more_length]; omega)), if_neg (by omega), Int.add_zero]
      exact hx1
    have hc1 : w1.cell? ⟨b, 1 + (p + 1), none⟩ = some (.int .i64 x2) := by
      rw [← hg1, show 1 + (p + 1) = p + 2 from by omega]
      exact HL1.out.cell (p + 2) (by have := HXL.out; first | omega | (simp only [more_length]; omega))
    have hf1 : w1.frozen? ⟨b, 1 + (p + 1), none⟩ = false := HL1.out.frozen _
    have e1 : wrap64 (x2 - 2 * v) = x2 - 2 * v := wrap_small (by omega) (by omega)
    have HG1 := hide hg1
    clear hg1 hx1
    go_wp2_with fail
    go_region
    all_goals
      try rw [e1]
      have HL2 := hide (show LineAt (w1.setCell ⟨b, 1 + (p + 1), none⟩ (.int .i64 (x2 - 2 * v))).drew b t (more (more xs (p + 1) v) (p + 2) (-(2 * v))) from by
        have := HL1.out.more (p + 2) (-(2 * v))
        rw [HG1.out, show p + 2 = 1 + (p + 1) from by omega] at this
        rw [show p + 2 = 1 + (p + 1) from by omega]
        exact this)
      have HO2 := hide ((HO1.out.set (1 + (p + 1)) (.int .i64 (x2 - 2 * v))).drew)
      clear hc1 hf1 e1 HG1
      go_wp2_with fail
      generalize (w1.setCell ⟨b, 1 + (p + 1), none⟩ (.int .i64 (x2 - 2 * v))).drew = w2 at *
      have hm2 := HM.out (p + 3)
      obtain ⟨x3, hx2⟩ : ∃ x, xs.getD (p + 3) 0 = x := ⟨_, rfl⟩
      rw [hx2] at hm2
      have hg2 : (more (more xs (p + 1) v) (p + 2) (-(2 * v))).getD (p + 3) 0 = x3 := by
        have hl := HXL.out
        rw [more_getD (more xs (p + 1) v) (p + 2) (p + 3) (-(2 * v)) (by first | omega | (simp only [more_length]; omega)), if_neg (by omega), Int.add_zero]
        rw [more_getD xs (p + 1) (p + 3) v (by first | omega | (simp only [more_length]; omega)), if_neg (by omega), Int.add_zero]
        exact hx2
      have hc2 : w2.cell? ⟨b, 1 + (p + 2), none⟩ = some (.int .i64 x3) := by
        rw [← hg2, show 1 + (p + 2) = p + 3 from by omega]
        exact HL2.out.cell (p + 3) (by have := HXL.out; first | omega | (simp only [more_length]; omega))
      have hf2 : w2.frozen? ⟨b, 1 + (p + 2), none⟩ = false := HL2.out.frozen _
      have e2 : wrap64 (x3 + v) = x3 + v := wrap_small (by omega) (by omega)
      have HG2 := hide hg2
      clear hg2 hx2
      go_wp2_with fail
      go_region
      all_goals
        try rw [e2]
        have HL3 := hide (show LineAt (w2.setCell ⟨b, 1 + (p + 2), none⟩ (.int .i64 (x3 + v))).drew b t (more (more (more xs (p + 1) v) (p + 2) (-(2 * v))) (p + 3) v) from by
          have := HL2.out.more (p + 3) v
          rw [HG2.out, show p + 3 = 1 + (p + 2) from by omega] at this
          rw [show p + 3 = 1 + (p + 2) from by omega]
          exact this)
        have HO3 := hide ((HO2.out.set (1 + (p + 2)) (.int .i64 (x3 + v))).drew)
        clear hc2 hf2 e2 HG2
        go_wp2_with fail
        generalize (w2.setCell ⟨b, 1 + (p + 2), none⟩ (.int .i64 (x3 + v))).drew = w3 at *
        have hm3 := HM.out (p + 23)
        obtain ⟨x4, hx3⟩ : ∃ x, xs.getD (p + 23) 0 = x := ⟨_, rfl⟩
        rw [hx3] at hm3
        have hg3 : (more (more (more xs (p + 1) v) (p + 2) (-(2 * v))) (p + 3) v).getD (p + 23) 0 = x4 := by
          have hl := HXL.out
          rw [more_getD (more (more xs (p + 1) v) (p + 2) (-(2 * v))) (p + 3) (p + 23) v (by first | omega | (simp only [more_length]; omega)), if_neg (by omega), Int.add_zero]
          rw [more_getD (more xs (p + 1) v) (p + 2) (p + 23) (-(2 * v)) (by first | omega | (simp only [more_length]; omega)), if_neg (by omega), Int.add_zero]
          rw [more_getD xs (p + 1) (p + 23) v (by first | omega | (simp only [more_length]; omega)), if_neg (by omega), Int.add_zero]
          exact hx3
        have hc3 : w3.cell? ⟨b, 23 + p, none⟩ = some (.int .i64 x4) := by
          rw [← hg3, show 23 + p = p + 23 from by omega]
          exact HL3.out.cell (p + 23) (by have := HXL.out; first | omega | (simp only [more_length]; omega))
        have hf3 : w3.frozen? ⟨b, 23 + p, none⟩ = false := HL3.out.frozen _
        have e3 : wrap64 (x4 + v) = x4 + v := wrap_small (by omega) (by omega)
        have HG3 := hide hg3
        clear hg3 hx3
        go_wp2_with fail
        go_region
        all_goals
          try rw [e3]
          have HL4 := hide (show LineAt (w3.setCell ⟨b, 23 + p, none⟩ (.int .i64 (x4 + v))).drew b t (more (more (more (more xs (p + 1) v) (p + 2) (-(2 * v))) (p + 3) v) (p + 23) v) from by
            have := HL3.out.more (p + 23) v
            rw [HG3.out, show p + 23 = 23 + p from by omega] at this
            rw [show p + 23 = 23 + p from by omega]
            exact this)
          have HO4 := hide ((HO3.out.set (23 + p) (.int .i64 (x4 + v))).drew)
          clear hc3 hf3 e3 HG3
          go_wp2_with fail
          go_end0
          exact ⟨rfl, HL4.out, HO4.out⟩

theorem lineL_cell {w : World} {b : Nat} {t : TypeId} {zs ts : List Int} (h : LineAt w b t (lineL zs ts)) (q : Nat) (hq : q < 22) : w.cell? ⟨b, 1 + q, none⟩ = some (.int .i64 (rowAt zs ts q)) := by
  rw [Nat.add_comm 1 q, h.cell _ (by rw [lineL_length]; omega), lineL_getD_row _ _ _ hq]
theorem lineL_places {w : World} {b : Nat} {t : TypeId} {zs ts : List Int} (h : LineAt w b t (lineL zs ts)) : w.cell? ⟨b, 0, none⟩ = some (.int .i64 (zs.length : Int)) :=
  h.cell 0 (by rw [lineL_length]; omega)

theorem canFire_any (b : Nat) (t : TypeId) (p : Int) (zs ts : List Int) (w : World) (hL : LineAt w b t (lineL zs ts)) (h20 : zs.length ≤ 20) :
    Calls Try.prog 33 #[.pointer (some ⟨b, 0, none⟩), .int .i64 p] w fun e w' => e = .returned (.bool (ableAt zs ts p)) ∧ w = w' := by
  have hc0 := lineL_places hL
  have HI := hide (fun W => isPlaceAmong_any zs.length p W)
  cases hi : isAt p zs.length
  · have HA := hide (ableAt_no (ts := ts) hi)
    rw [hi] at HI
    clear hL
    go_enter Try.func33, Try.ntmps33
    go_wp2_with fail
    refine (HI.out _).mono ?_; rintro e w' ⟨rfl, rfl⟩
    go_wp2_with fail
    go_ret
    exact ⟨by rw [HA.out]; rfl, rfl⟩
  · obtain ⟨k, rfl, hk⟩ := isAt_of hi
    have HA := hide (ableAt_yes (ts := ts) hk)
    rw [hi] at HI
    have hc1 := lineL_cell hL (k + 1) (by omega)
    have hk22 : (k : Int) < 20 := by omega
    have hkb : (k : Int) + 1 < 22 := by omega
    clear hL hi
    generalize rowAt zs ts (k + 1) = x at *
    go_enter Try.func33, Try.ntmps33
    go_wp2_with fail
    refine (HI.out _).mono ?_; rintro e w' ⟨rfl, rfl⟩
    go_wp2_with fail
    go_ret
    exact ⟨by rw [HA.out]; rfl, rfl⟩
end Go.Proofs.Ytcfofofhdbnlaaa
