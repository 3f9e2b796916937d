
/-
  THE WALK OF ParseSplits' EXACT LAW, the given frame left out.
-/
import Derived.Test.YtflkgkajkoaaiaaDoorSlRF
import Derived.Test.YtflkgkajkoaaiaaDoorSlRG
import Derived.Test.YtflkgkajkoaaiaaDoorSpB
namespace Go.Proofs.YtflkgkajkoaaiaaDoor
open Go.RowKit Go.Deep
set_option linter.unusedVariables false

theorem psL_len (l : List UInt8) : (psL l).length ≤ 60 := by
  unfold psL
  split
  · rename_i h
    split
    · simp
    · rename_i he
      unfold psOk at h
      rw [show l.isEmpty = false from by simpa using he, Bool.false_or] at h
      simp only [Bool.and_eq_true, decide_eq_true_eq] at h
      rw [List.length_map]; exact h.1
  · simp

set_option maxRecDepth 1000000 in
theorem lawParseSplits (l : List UInt8) (w : World) (hP : LaidP w) :
    Calls Tryd.prog 4 #[.string (bs l)] w fun e w' => e = .returned (.bool true) ∧ Below w.heap.size w w' := by
  by_cases hbig : 1048576 < l.length
  · have hlen := str_len l
    clear hP
    generalize bs l = s at *
    go_enter Tryd.func4, Tryd.ntmps4
    go_wp2_with fail
    go_ret
    exact ⟨rfl, Below.refl _ _⟩
  · have hle : ¬ (1048576 < (l.length : Int)) := by omega
    have hlen := str_len l
    have HS := hide (specParseSplits_any l (by omega) w)
    have HI := hide (fun W h => ParseSplits_any l (by omega) W h)
    have HP := hide hP
    have hF : (psL l).length ≤ 60 := psL_len l
    clear hP hbig
    generalize bs l = s at *
    generalize psL l = fs at *
    generalize psOk l = b at *
    have e2 : (b != b) = false := by simp
    go_enter Tryd.func4, Tryd.ntmps4
    go_wp2_with fail
    refine HS.out.mono ?_
    rintro e w1 ⟨Aw, cw, rfl, hownw, hb1⟩
    have hP1 := hide (HP.out.next hb1)
    have hW1 := hownw.list
    have s1 := hb1.size
    go_wp2_with fail
    refine (HI.out _ hP1.out).mono ?_
    rintro e w2 ⟨Ag, cg, rfl, hG2, hb2⟩
    have hP2 := hide (hP1.out.next hb2)
    have hW2 := hW1.below hb2 (Nat.le_refl _)
    have s2 := hb2.size
    go_wp2_with fail
    refine (eqSplitS_same _ _ _ _ _ _ _ _ _ hG2.list hW2 (Nat.le_refl _) (by omega) (by omega)).mono ?_
    rintro e w3 ⟨rfl, hb3⟩
    have hW3 := hW2.below hb3 (by omega)
    have hG3 := hG2.below hb3
    have s3 := hb3.size
    go_wp2_with fail
    refine (markSplitS_any _ _ _ _ _ _ _ hG3 (by omega) (by omega) (by omega)).mono ?_
    rintro e w4 ⟨rfl, hG4, hb4, _⟩
    have hq4 := below_next (below_next hb1 hb2) hb3
    have hq4' := hq4.trans (hb4.mono s1)
    have hW4 := hW3.below hb4 (by omega)
    have s4 := hb4.size
    go_wp2_with fail
    refine (heldSplitS_any _ _ _ _ _ _ hG4 (by omega) (by omega) (by omega)).mono ?_
    rintro e w4b ⟨rfl, hb4b⟩
    have hq4b := below_next hq4' hb4b
    have hP4 := hide (HP.out.next hq4b)
    have hW4b := hW4.below hb4b (by omega)
    have hG4b := hG4.below hb4b
    have s4b := hb4b.size
    go_wp2_with fail
    refine (HI.out _ hP4.out).mono ?_
    rintro e w5 ⟨Ah, ch, rfl, hH5, hb5⟩
    have hW5 := hW4b.below hb5 (by omega)
    have hG5 := hG4b.below hb5
    have s5 := hb5.size
    go_wp2_with fail
    refine (eqSplitS_same _ _ _ _ _ _ _ _ _ hH5.list hW5 (Nat.le_refl _) (by omega) (by omega)).mono ?_
    rintro e w6 ⟨rfl, hb6⟩
    have hG6 := hG5.below hb6
    go_wp2_with fail
    refine (heldSplitS_any _ _ _ _ _ _ hG6 (by omega) (by omega) (by omega)).mono ?_
    rintro e w7 ⟨rfl, hb7⟩
    go_wp2_with fail
    go_ret
    exact ⟨rfl, below_next (below_next (below_next hq4b hb5) hb6) hb7⟩
end Go.Proofs.YtflkgkajkoaaiaaDoor
