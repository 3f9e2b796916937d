
/-
  IsClue, BOTH WAYS.
-/
import Derived.Test.YtngegolpnofnhaaPzD
import Derived.Test.YtngegolpnofnhaaPz
namespace Go.Proofs.Ytngegolpnofnhaa
open Go.RowKit Go.Deep
set_option linter.unusedVariables false

set_option maxHeartbeats 4000000 in
set_option maxRecDepth 100000 in
/-- The program's IsClue. -/
theorem IsClue_any (h : Int) (c : Cl) (w : World) :
    Calls Try.prog 18 #[.int .i64 h, .agg #[.int .i64 c.x0, .int .i64 c.x1, .int .i64 c.x2, .int .i64 c.x3]] w fun e w' => e = .returned (.bool (clueIs h c)) ∧ Below w.heap.size w w' := by
  have X0 := CBox.new w 40 c
  have b0 : Below w.heap.size w (w.alloc (.cells #[.int .i64 c.x0, .int .i64 c.x1, .int .i64 c.x2, .int .i64 c.x3] 40)) := (Below.refl _ _).alloc (Nat.le_refl _) _
  have hc0 := X0.c0
  have hc1 := X0.c1
  have hc2 := X0.c2
  have hc3 := X0.c3
  have HC := hide (fun W g hg => areOne_any h c W g hg)
  have HB := hide b0
  have HR := fun W => run_one_clue W c.x0 c.x1 c.x2 c.x3
  generalize clueIs h c = cc at *
  clear b0 X0
  go_enter Try.func18, Try.ntmps18
  go_wp2_with fail
  refine (HC.out _ _ (by simp)).mono ?_; rintro e w2 ⟨rfl, hb2⟩
  have HB2 := hide (HB.out.trans (hb2.mono HB.out.size))
  clear hb2
  go_wp2_with fail
  go_ret
  exact ⟨rfl, HB2.out⟩

set_option maxHeartbeats 4000000 in
set_option maxRecDepth 100000 in
/-- The model's IsClue. -/
theorem specIsClue_any (h : Int) (c : Cl) (w : World) :
    Calls Try.prog 16 #[.int .i64 h, .agg #[.int .i64 c.x0, .int .i64 c.x1, .int .i64 c.x2, .int .i64 c.x3]] w fun e w' => e = .returned (.bool (clueIs h c)) ∧ Below w.heap.size w w' := by
  have X0 := CBox.new w 40 c
  have HB := hide (show Below w.heap.size w (w.alloc (.cells #[.int .i64 c.x0, .int .i64 c.x1, .int .i64 c.x2, .int .i64 c.x3] 40)) from (Below.refl _ _).alloc (Nat.le_refl _) _)
  have hc0 := X0.c0
  have hc1 := X0.c1
  have hc2 := X0.c2
  have hc3 := X0.c3
  clear X0
  have HH := hide (fun W => pzHeaps_any h W)
  by_cases hh : 2 ≤ h ∧ h ≤ 4
  · have HC := hide (fun W => pzClue_any h c W hh)
    have HE : Hid (clueIs h c = clueOk h c) := hide (by unfold clueIs; rw [decide_eq_true hh]; rfl)
    rw [decide_eq_true hh] at HH
    rw [HE.out]
    clear hh
    generalize clueOk h c = cc at *
    go_enter Try.func16, Try.ntmps16
    go_wp2_with fail
    refine (HH.out _).mono ?_; rintro e w1 ⟨rfl, rfl⟩
    go_wp2_with fail
    refine (HC.out _).mono ?_; rintro e w2 ⟨rfl, hb2⟩
    have HB2 := hide (HB.out.trans (hb2.mono HB.out.size))
    clear hb2
    go_wp2_with fail
    go_ret
    exact ⟨rfl, HB2.out⟩
  · have HE : Hid (clueIs h c = false) := hide (by unfold clueIs; rw [decide_eq_false hh]; rfl)
    rw [decide_eq_false hh] at HH
    rw [HE.out]
    clear hh
    go_enter Try.func16, Try.ntmps16
    go_wp2_with fail
    refine (HH.out _).mono ?_; rintro e w1 ⟨rfl, rfl⟩
    go_wp2_with fail
    go_ret
    exact ⟨rfl, HB.out⟩
end Go.Proofs.Ytngegolpnofnhaa
