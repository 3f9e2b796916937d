import Derived.Test.YtnakkmmmkbjfbaaMg30
import Derived.Test.YtnakkmmmkbjfbaaMg13
import Derived.Test.YtnakkmmmkbjfbaaMg25
import Derived.Test.YtnakkmmmkbjfbaaMg09
import Derived.Test.YtnakkmmmkbjfbaaMg10
import Derived.Test.YtnakkmmmkbjfbaaMg18

/-
  THE PROGRAM's slices.SortStableFunc of three indices by their heaps (an insertion sort, at so few). Printed by mkqd.py.
-/
namespace Go.Proofs.Ytnakkmmmkbjfbaa
open Go.RowKit Go.Deep
set_option linter.unusedVariables false

/-- x on its way down through os, ahead of rest. -/
def onWay (os : List Int) (x : Int) (rest : List Int) (j : Nat) : List Int := os.take j ++ x :: (os.drop j ++ rest)
theorem onWay_length (os : List Int) (x : Int) (rest : List Int) (j : Nat) (h : j ≤ os.length) : (onWay os x rest j).length = os.length + 1 + rest.length := by
  simp [onWay]; omega
theorem onWay_at (os : List Int) (x : Int) (rest : List Int) (j : Nat) (h : j ≤ os.length) : (onWay os x rest j).getD j 0 = x := by
  unfold onWay
  rw [List.getD, List.getElem?_append_right (by rw [List.length_take]; omega), List.length_take]
  simp [show j - min j os.length = 0 by omega]
theorem onWay_before (os : List Int) (x : Int) (rest : List Int) (j : Nat) (h : j + 1 ≤ os.length) : (onWay os x rest (j + 1)).getD j 0 = os.getD j 0 := by
  unfold onWay
  rw [List.getD, List.getElem?_append_left (by rw [List.length_take]; omega), List.getElem?_take]
  simp [List.getD]
theorem onWay_down (os : List Int) (x : Int) (rest : List Int) (j : Nat) (h : j + 1 ≤ os.length) :
    ((onWay os x rest (j + 1)).set (j + 1) (os.getD j 0)).set j x = onWay os x rest j := by
  apply List.ext_getElem?
  intro k
  have hl : j < os.length := by omega
  have e1 : os.take (j + 1) = os.take j ++ [os.getD j 0] := by
    rw [List.take_succ_eq_append_getElem hl, getD_at hl]
  have e2 : os.drop j = os.getD j 0 :: os.drop (j + 1) := by
    rw [List.drop_eq_getElem_cons hl, getD_at hl]
  unfold onWay
  rw [e1, e2]
  have hj : (os.take j).length = j := by rw [List.length_take]; omega
  have e3 : (os.take j ++ [os.getD j 0] ++ x :: (os.drop (j + 1) ++ rest)) = os.take j ++ (os.getD j 0 :: x :: (os.drop (j + 1) ++ rest)) := by simp
  rw [e3, List.set_append_right _ _ (by omega), List.set_append_right _ _ (by omega), hj]
  simp
theorem onWay_all (os : List Int) (x : Int) (rest : List Int) : onWay os x rest os.length = os ++ x :: rest := by simp [onWay]
theorem onWay_ins (os : List Int) (x : Int) (rest : List Int) (j : Nat) : onWay os x rest j = insQ os j x ++ rest := by simp [onWay, insQ]
/-- The list behind i jobs. -/
def srt (zs : List Int) (i : Nat) : List Int := qS zs i ++ (rng zs.length).drop i
theorem srt_length (zs : List Int) (i : Nat) (h : i ≤ zs.length) : (srt zs i).length = zs.length := by
  simp [srt, qS_length, rng_length]; omega
theorem srt_open (zs : List Int) (i : Nat) (h : i < zs.length) : srt zs i = onWay (qS zs i) (i : Int) ((rng zs.length).drop (i + 1)) i := by
  have h2 : i < (rng zs.length).length := by rw [rng_length]; exact h
  rw [srt, List.drop_eq_getElem_cons h2, rng_get h]
  have := onWay_all (qS zs i) (i : Int) ((rng zs.length).drop (i + 1))
  rw [qS_length] at this
  exact this.symm
theorem srt_shut (zs : List Int) (i : Nat) {j : Nat} (hj : qPos zs (qS zs i) (zs.getD i 0) = j) : onWay (qS zs i) (i : Int) ((rng zs.length).drop (i + 1)) j = srt zs (i + 1) := by
  rw [onWay_ins, srt, qS, hj]
theorem srt_one (zs : List Int) (h : 0 < zs.length) : srt zs 1 = rng zs.length := by
  have h2 : 0 < (rng zs.length).length := by rw [rng_length]; exact h
  show (insQ [] _ _) ++ _ = _
  have : qPos zs [] (zs.getD 0 0) = 0 := rfl
  show insQ (qS zs 0) (qPos zs (qS zs 0) (zs.getD 0 0)) 0 ++ _ = _
  simp only [qS, this, insQ]
  rw [show (rng zs.length).drop 1 = (rng zs.length).drop (0 + 1) from rfl]
  have := List.drop_eq_getElem_cons h2
  rw [rng_get h, List.drop_zero] at this
  simpa using this.symm
theorem srt_all (zs : List Int) : srt zs zs.length = qA zs := by
  rw [srt, List.drop_of_length_le (by rw [rng_length]; exact Nat.le_refl _)]; simp [qA]

/-- What the closure reads: the row through its variable. -/
def Jobs (w : World) (bx B : Nat) (A : Option Addr) (c : Nat) (zs : List Int) : Prop := w.rowIs bx 42 4 (fun j => .int .i64 (pd zs j))
theorem Jobs.drewN {w : World} {bx B c : Nat} {A : Option Addr} {zs : List Int} (h : Jobs w bx B A c zs) (n : Nat) : Jobs (w.drewN n) bx B A c zs := h

end Go.Proofs.Ytnakkmmmkbjfbaa

/-
  QUOTIENTS, THE PROGRAM's WAY: hasEmpty, division.
-/
namespace Go.Proofs.Ytnakkmmmkbjfbaa
open Go.RowKit Go.Deep
set_option linter.unusedVariables false

theorem row4_ints {w : World} {g B : Nat} {t : TypeId} {zs : List Int} (h : w.rowIs g t 4 (fun j => .int .i64 (pd zs j))) (hg : g < B) : Ints w B (some ⟨g, 0, none⟩) 4 [pd zs 0, pd zs 1, pd zs 2, pd zs 3] := by
  refine Row.ints (t := t) (zs := [pd zs 0, pd zs 1, pd zs 2, pd zs 3]) ?_ hg
  unfold Row
  refine h.congr (fun i hi => ?_)
  match i, hi with
  | 0, _ => rfl
  | 1, _ => rfl
  | 2, _ => rfl
  | 3, _ => rfl
theorem hasEmpty_any (zs : List Int) (w : World) :
    Calls Try.prog 29 #[.agg #[.int .i64 (pd zs 0), .int .i64 (pd zs 1), .int .i64 (pd zs 2), .int .i64 (pd zs 3)]] w fun e w' => e = .returned (.bool (inL [pd zs 0, pd zs 1, pd zs 2, pd zs 3] 0)) ∧ Below w.heap.size w w' := by
  have hrow := row4_alloc w zs 42
  have hb : Below w.heap.size w (w.alloc (.cells #[.int .i64 (pd zs 0), .int .i64 (pd zs 1), .int .i64 (pd zs 2), .int .i64 (pd zs 3)] 42)) := (Below.refl _ _).alloc (Nat.le_refl _) _
  have hz : w.heap.size < (w.alloc (.cells #[.int .i64 (pd zs 0), .int .i64 (pd zs 1), .int .i64 (pd zs 2), .int .i64 (pd zs 3)] 42)).heap.size := by simp
  have HI := hide (Contains_in (some ⟨w.heap.size, 0, none⟩) 4 4 _ _ 0 _ (row4_ints hrow hz) (by omega))
  have HB := hide hb
  clear hrow hz hb
  generalize inL [pd zs 0, pd zs 1, pd zs 2, pd zs 3] 0 = b at *
  go_enter Try.func29, Try.ntmps29
  go_wp2_with fail
  refine HI.out.mono ?_; rintro e w' ⟨rfl, rfl⟩
  go_wp2_with fail
  go_ret
  exact ⟨rfl, HB.out⟩

theorem row3 (w : World) (t : TypeId) : Row (w.alloc (.cells #[.int .i64 0, .int .i64 1, .int .i64 2] t)) w.heap.size t (rng 3) := by
  unfold Row
  refine (World.rowIs_alloc w _ t (fun i => .int .i64 ((rng 3).getD i 0)) (fun i hi => ?_))
  match i, hi with
  | 0, _ => rfl
  | 1, _ => rfl
  | 2, _ => rfl

end Go.Proofs.Ytnakkmmmkbjfbaa
