
/-
  IsClue's EXACT LAW, the given frame left out: for every clue the law returns true and writes nothing that was there.
-/
import Derived.Test.YtngegolpnofnhaaPzIs
namespace Go.Proofs.Ytngegolpnofnhaa
open Go.RowKit Go.Deep
set_option linter.unusedVariables false

set_option maxRecDepth 100000 in
set_option maxHeartbeats 4000000 in
theorem lawIsClue (h : Int) (m : Cl) (w : World) :
    Calls Try.prog 5 #[.int .i64 h, .agg #[.int .i64 m.x0, .int .i64 m.x1, .int .i64 m.x2, .int .i64 m.x3]] w fun e w' => e = .returned (.bool true) ∧ Below w.heap.size w w' := by
  have X0 := CBox.new w 38 m
  have HB := hide (show Below w.heap.size w (w.alloc (.cells #[.int .i64 m.x0, .int .i64 m.x1, .int .i64 m.x2, .int .i64 m.x3] 38)) from (Below.refl _ _).alloc (Nat.le_refl _) _)
  have HSP := hide (fun W => specIsClue_any h m W)
  have HIM := hide (fun W => IsClue_any h m W)
  have HT := hide (fun W => toClue_any m W)
  generalize clueIs h m = b at *
  have nb : (b != b) = false := by simp
  go_enter Try.func5, Try.ntmps5
  go_wp2_with fail
  generalize (w.alloc (.cells #[.int .i64 m.x0, .int .i64 m.x1, .int .i64 m.x2, .int .i64 m.x3] 38)) = W at *
  have c0 := X0.c0
  have c1 := X0.c1
  have c2 := X0.c2
  have c3 := X0.c3
  try go_wp2_with fail
  refine (HT.out _).mono ?_; rintro e w1 ⟨rfl, hb1⟩
  replace X0 := X0.next hb1
  replace HB := hide (below_next HB.out hb1)
  clear hb1 c0 c1 c2 c3
  go_wp2_with fail
  refine (HSP.out _).mono ?_; rintro e w2 ⟨rfl, hb2⟩
  replace X0 := X0.next hb2
  replace HB := hide (below_next HB.out hb2)
  clear hb2
  have c0 := X0.c0
  have c1 := X0.c1
  have c2 := X0.c2
  have c3 := X0.c3
  go_wp2_with fail
  refine (HT.out _).mono ?_; rintro e w3 ⟨rfl, hb3⟩
  replace HB := hide (below_next HB.out hb3)
  clear hb3 c0 c1 c2 c3 X0
  go_wp2_with fail
  refine (HIM.out _).mono ?_; rintro e w4 ⟨rfl, hb4⟩
  replace HB := hide (below_next HB.out hb4)
  clear hb4
  go_wp2_with fail
  go_ret
  exact ⟨rfl, HB.out⟩
end Go.Proofs.Ytngegolpnofnhaa
