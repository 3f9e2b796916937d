
/-
  IsClue, BOTH WAYS.
-/
import Derived.Test.YtpgjhmgmfajelaaPzD
import Derived.Test.YtpgjhmgmfajelaaPz
namespace Go.Proofs.Ytpgjhmgmfajelaa
open Go.RowKit Go.Deep
set_option linter.unusedVariables false

set_option maxHeartbeats 4000000 in
set_option maxRecDepth 100000 in
/-- The program's IsClue. -/
theorem IsClue_any (h : Int) (c : Cl) (w : World) :
    Calls Try.prog 38 #[.int .i64 h, .agg #[.int .i64 c.x0, .int .i64 c.x1, .int .i64 c.x2, .int .i64 c.x3]] w fun e w' => e = .returned (.bool (clueIs h c)) ∧ Below w.heap.size w w' := by
  have X0 := CBox.new w 27 c
  have b0 : Below w.heap.size w (w.alloc (.cells #[.int .i64 c.x0, .int .i64 c.x1, .int .i64 c.x2, .int .i64 c.x3] 27)) := (Below.refl _ _).alloc (Nat.le_refl _) _
  have hc0 := X0.c0
  have hc1 := X0.c1
  have hc2 := X0.c2
  have hc3 := X0.c3
  have HC := hide (fun W g hg => areOne_any h c W g hg)
  have HB := hide b0
  have HR := fun W => run_one_clue W c.x0 c.x1 c.x2 c.x3
  generalize clueIs h c = cc at *
  clear b0 X0
  go_enter Try.func38, Try.ntmps38
  go_wp2_with fail
  refine (HC.out _ _ (by simp)).mono ?_; rintro e w2 ⟨rfl, hb2⟩
  have HB2 := hide (HB.out.trans (hb2.mono HB.out.size))
  clear hb2
  go_wp2_with fail
  go_ret
  exact ⟨rfl, HB2.out⟩

end Go.Proofs.Ytpgjhmgmfajelaa
