
/-
  THE WALKS OF EXACT LAWS, the given frame left out: for all numbers the law returns true and writes nothing that was there. (Printed by lawgen.py.)
-/
import Derived.Test.YtkhcabgpbmhimaaLaws0
import Derived.Test.YtkhcabgpbmhimaaMark
import Derived.Test.YtkhcabgpbmhimaaSzI
namespace Go.Proofs.Ytkhcabgpbmhimaa
open Go.RowKit Go.Deep

set_option maxRecDepth 100000 in
set_option maxHeartbeats 2000000 in
theorem lawSlowestToZero (u : Int) (m : Int) (w : World) :
    Calls Try.prog 3 #[.int .i64 u, .int .i64 m] w fun e w' => e = .returned (.bool true) ∧ Below w.heap.size w w' := by
  have HS := hide (fun  w  => specSlowestToZero_any u m w  )
  have HI := hide (fun  w  => SlowestToZero_any u m w  )
  have hF : (szL u m).length ≤ 1048576 := szL_short u m
  generalize szL u m = fs at *
  generalize szN u m = v0 at *
  generalize szOk u m = v1 at *
  go_enter Try.func3, Try.ntmps3
  go_wp2_with fail
  refine (HS.out  _ ).mono ?_
  rintro e w1 ⟨Aw, cw, rfl, hw1, hw2, hownw, hb1⟩
  have q1 := hb1
  have s1 := hb1.size
  have t1 := q1.size
  have W_1 := hownw.ints
  clear hownw
  go_wp2_with fail
  refine (HI.out  _ ).mono ?_
  rintro e w2 ⟨Ag, cg, rfl, hg1, hg2, hG2, hb2⟩
  have q2 := below_next q1 hb2
  have s2 := hb2.size
  have t2 := q2.size
  have W_2 := W_1.below hb2 (by omega)
  clear q1 W_1
  go_wp2_with fail
  refine (eqIntS_same _ _ _ _ _ _ _ _ _ hG2.ints W_2 (Nat.le_refl _) (by omega) (by omega)).mono ?_
  rintro e w3 ⟨rfl, hb3⟩
  have q3 := below_next q2 hb3
  have s3 := hb3.size
  have t3 := q3.size
  have W_3 := W_2.below hb3 (by omega)
  have G_3 := hG2.below hb3
  clear q2 W_2 hG2
  go_wp2_with fail
  refine (markIntS_any _ _ _ _ _ _ _ G_3 rfl (by omega) (by omega) (by omega)).mono ?_
  rintro e w4 ⟨rfl, hG4, hb4, _⟩
  have q4 := q3.trans (hb4.mono (by omega))
  have s4 := hb4.size
  have t4 := q4.size
  have W_4 := W_3.below hb4 (by omega)
  clear q3 W_3
  go_wp2_with fail
  refine (heldIntS_any _ _ _ _ _ _ (by simpa [marks_length] using hG4.ints) (by omega) (by omega) (by omega)).mono ?_
  rintro e w' ⟨rfl, rfl⟩
  go_wp2_with fail
  refine (HI.out  _ ).mono ?_
  rintro e w5 ⟨Ah, ch, rfl, hh1, hh2, hH5, hb5⟩
  have q5 := below_next q4 hb5
  have s5 := hb5.size
  have t5 := q5.size
  have W_5 := W_4.below hb5 (by omega)
  have G_5 := hG4.below hb5
  clear q4 W_4 hG4
  go_wp2_with fail
  refine (eqIntS_same _ _ _ _ _ _ _ _ _ hH5.ints W_5 (Nat.le_refl _) (by omega) (by omega)).mono ?_
  rintro e w6 ⟨rfl, hb6⟩
  have q6 := below_next q5 hb6
  have s6 := hb6.size
  have t6 := q6.size
  have W_6 := W_5.below hb6 (by omega)
  have G_6 := G_5.below hb6
  have H_6 := hH5.below hb6
  clear q5 W_5 G_5 hH5
  go_wp2_with fail
  refine (heldIntS_any _ _ _ _ _ _ (by simpa [marks_length] using G_6.ints) (by omega) (by omega) (by omega)).mono ?_
  rintro e w' ⟨rfl, rfl⟩
  go_wp2_with fail
  go_ret
  exact ⟨rfl, q6⟩
end Go.Proofs.Ytkhcabgpbmhimaa
