
/-
  THE WALKS OF THE EXACT LAWS ON CHIPS THAT COME AGAIN AND HAVE A CLASS, the given frame left out.
-/
import Derived.Test.YtejffoalkhlcpaaCom
namespace Go.Proofs.Ytejffoalkhlcpaa
open Go.RowKit Go.Deep

set_option maxRecDepth 100000 in
theorem lawComingChips (p c : Int) (w : World) :
    Calls Try.prog 3 #[.int .i64 p, .int .i64 c] w fun e w' => e = .returned (.bool true) ∧ Below w.heap.size w w' := by
  have hF := comR_short p c
  have HS := hide (specComingChips_any p c)
  have HI := hide (ComingChips_any p c)
  generalize comR p c = fs at *
  generalize comOk p c = bs at *
  go_enter Try.func3, Try.ntmps3
  go_wp2_with fail
  refine (HS.out _).mono ?_
  rintro e w2 ⟨Aw, cw, rfl, hw1, hw2, hownw, hb2⟩
  have hW2 := hownw.ints
  have s2 := hb2.size
  go_wp2_with fail
  refine (HI.out _).mono ?_
  rintro e w4 ⟨Ag, cg, rfl, hg1, hg2, hG4, hb4⟩
  have hW4 := hW2.below hb4 (Nat.le_refl _)
  have s4 := hb4.size
  go_wp2_with fail
  refine (eqIntS_same _ _ _ _ _ _ _ _ _ hG4.ints hW4 (Nat.le_refl _) (by omega) (by omega)).mono ?_
  rintro e w5 ⟨rfl, hb5⟩
  have hW5 := hW4.below hb5 (by omega)
  have hG5 := hG4.below hb5
  have s5 := hb5.size
  go_wp2_with fail
  refine (markIntS_any _ _ _ _ _ _ _ hG5 rfl (by omega) (by omega) (by omega)).mono ?_
  rintro e w10 ⟨rfl, hG10, hb10, _⟩
  have hW10 := hW5.below hb10 (by omega)
  have s10 := hb10.size
  go_wp2_with fail
  refine (heldIntS_any _ _ _ _ _ _ (by simpa [marks_length] using hG10.ints) (by omega) (by omega) (by omega)).mono ?_
  rintro e w' ⟨rfl, rfl⟩
  go_wp2_with fail
  refine (HI.out _).mono ?_
  rintro e w12 ⟨Ah, ch, rfl, hh1, hh2, hH12, hb12⟩
  have hW12 := hW10.below hb12 (by omega)
  have hG12 := hG10.below hb12
  have s12 := hb12.size
  go_wp2_with fail
  refine (eqIntS_same _ _ _ _ _ _ _ _ _ hH12.ints hW12 (Nat.le_refl _) (by omega) (by omega)).mono ?_
  rintro e w13 ⟨rfl, hb13⟩
  have hG13 := hG12.below hb13
  go_wp2_with fail
  refine (heldIntS_any _ _ _ _ _ _ (by simpa [marks_length] using hG13.ints) (by omega) (by omega) (by omega)).mono ?_
  rintro e w' ⟨rfl, rfl⟩
  go_wp2_with fail
  go_ret
  have q5 := below_next (below_next hb2 hb4) hb5
  exact ⟨rfl, below_next (below_next (q5.trans (hb10.mono (by omega))) hb12) hb13⟩

set_option maxRecDepth 100000 in
theorem lawNeutralChips (p : Int) (w : World) :
    Calls Try.prog 4 #[.int .i64 p] w fun e w' => e = .returned (.bool true) ∧ Below w.heap.size w w' := by
  have hF := neuR_short p
  have HS := hide (specNeutralChips_any p)
  have HI := hide (NeutralChips_any p)
  generalize neuR p = fs at *
  generalize neuOk p = bs at *
  go_enter Try.func4, Try.ntmps4
  go_wp2_with fail
  refine (HS.out _).mono ?_
  rintro e w2 ⟨Aw, cw, rfl, hw1, hw2, hownw, hb2⟩
  have hW2 := hownw.ints
  have s2 := hb2.size
  go_wp2_with fail
  refine (HI.out _).mono ?_
  rintro e w4 ⟨Ag, cg, rfl, hg1, hg2, hG4, hb4⟩
  have hW4 := hW2.below hb4 (Nat.le_refl _)
  have s4 := hb4.size
  go_wp2_with fail
  refine (eqIntS_same _ _ _ _ _ _ _ _ _ hG4.ints hW4 (Nat.le_refl _) (by omega) (by omega)).mono ?_
  rintro e w5 ⟨rfl, hb5⟩
  have hW5 := hW4.below hb5 (by omega)
  have hG5 := hG4.below hb5
  have s5 := hb5.size
  go_wp2_with fail
  refine (markIntS_any _ _ _ _ _ _ _ hG5 rfl (by omega) (by omega) (by omega)).mono ?_
  rintro e w10 ⟨rfl, hG10, hb10, _⟩
  have hW10 := hW5.below hb10 (by omega)
  have s10 := hb10.size
  go_wp2_with fail
  refine (heldIntS_any _ _ _ _ _ _ (by simpa [marks_length] using hG10.ints) (by omega) (by omega) (by omega)).mono ?_
  rintro e w' ⟨rfl, rfl⟩
  go_wp2_with fail
  refine (HI.out _).mono ?_
  rintro e w12 ⟨Ah, ch, rfl, hh1, hh2, hH12, hb12⟩
  have hW12 := hW10.below hb12 (by omega)
  have hG12 := hG10.below hb12
  have s12 := hb12.size
  go_wp2_with fail
  refine (eqIntS_same _ _ _ _ _ _ _ _ _ hH12.ints hW12 (Nat.le_refl _) (by omega) (by omega)).mono ?_
  rintro e w13 ⟨rfl, hb13⟩
  have hG13 := hG12.below hb13
  go_wp2_with fail
  refine (heldIntS_any _ _ _ _ _ _ (by simpa [marks_length] using hG13.ints) (by omega) (by omega) (by omega)).mono ?_
  rintro e w' ⟨rfl, rfl⟩
  go_wp2_with fail
  go_ret
  have q5 := below_next (below_next hb2 hb4) hb5
  exact ⟨rfl, below_next (below_next (q5.trans (hb10.mono (by omega))) hb12) hb13⟩
end Go.Proofs.Ytejffoalkhlcpaa
