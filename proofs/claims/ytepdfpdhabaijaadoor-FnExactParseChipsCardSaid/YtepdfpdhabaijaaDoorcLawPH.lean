
/-
  THE READING OF HEAPS, BOTH WAYS, and the walk of its law.
-/
import Derived.Test.YtepdfpdhabaijaaDoorcParS
import Derived.Test.YtepdfpdhabaijaaDoorcParC
import Derived.Test.YtepdfpdhabaijaaDoorLaws0
import Derived.Test.YtepdfpdhabaijaaDoorMark
namespace Go.Proofs.YtepdfpdhabaijaaDoor
open Go.RowKit Go.Deep
set_option linter.unusedVariables false

/-- The program's ParseChips. -/
theorem ParseChips_any (l : List UInt8) (hl : l.length ≤ 1048576) (w : World) (hP : LaidP w) :
    Calls Tryd.prog 10 #[.string (bs l)] w (MadeP (hpL l) (hpB l) w) := by
  have HS := hide (splitPartsInt_any l hl w hP)
  clear hP
  cases hr : spI l 20 with
  | none =>
    have hB : hpB l = false := by
      cases hb : hpB l
      · rfl
      · have h1 := hp_read l hb
        have h2 := (hgood_of hb).2.1
        rw [List.length_map] at h2
        unfold spI at hr
        rw [if_pos h2, h1] at hr
        cases hr
    have hL : hpL l = [] := by unfold hpL; rw [hB]; rfl
    rw [hB, hL]
    rw [hr] at HS
    generalize bs l = s at *
    clear hr hB hL
    go_enter Tryd.func10, Tryd.ntmps10
    go_wp2_with fail
    refine HS.out.mono ?_
    rintro e w1 ⟨A, c, rfl, _, _, _, hb1⟩
    go_wp2_with fail
    go_ret2
    exact madeP_nil _ _ hb1
  | some ns =>
    have hle : (sp l).length ≤ 20 := by
      unfold spI at hr
      split at hr
      · assumption
      · cases hr
    have hpa : pnAll (sp l) = some ns := by
      unfold spI at hr
      rw [if_pos hle] at hr
      exact hr
    have hns := pnAll_length hpa
    rw [hr] at HS
    cases hg : hgood ns
    · have hB : hpB l = false := by
        cases hb : hpB l
        · rfl
        · have h1 := hp_read l hb
          rw [hpa] at h1
          injection h1 with h1
          unfold hpB at hb
          rw [← h1, hg] at hb
          cases hb
      have hL : hpL l = [] := by unfold hpL; rw [hB]; rfl
      rw [hB, hL]
      have HG := hide hg
      have HN := hide (show ns.length ≤ 20 by omega)
      generalize bs l = s at *
      clear hr hB hL hpa hns hle hg
      go_enter Tryd.func10, Tryd.ntmps10
      go_wp2_with fail
      refine HS.out.mono ?_
      rintro e w1 ⟨A, c, rfl, _, _, hown, hb1⟩
      have HA := hide (AreChips_any A ns.length c _ ns w1 hown.ints (by have := HN.out; omega))
      rw [HG.out] at HA
      go_wp2_with fail
      refine HA.out.mono ?_
      rintro e w2 ⟨rfl, rfl⟩
      go_wp2_with fail
      go_ret2
      exact madeP_nil _ _ hb1
    · have hm := hp_same l ns hpa hg
      have hB : hpB l = true := by unfold hpB; rw [hm]; exact hg
      have hL : hpL l = ns := by unfold hpL; rw [hB]; exact hm
      rw [hB, hL]
      have HG := hide hg
      have HN := hide (show ns.length ≤ 20 by omega)
      generalize bs l = s at *
      clear hr hB hL hpa hns hle hg hm
      go_enter Tryd.func10, Tryd.ntmps10
      go_wp2_with fail
      refine HS.out.mono ?_
      rintro e w1 ⟨A, c, rfl, h1, h2, hown, hb1⟩
      have HA := hide (AreChips_any A ns.length c _ ns w1 hown.ints (by have := HN.out; omega))
      rw [HG.out] at HA
      have HO := hide hown
      clear hown
      go_wp2_with fail
      refine HA.out.mono ?_
      rintro e w2 ⟨rfl, rfl⟩
      go_wp2_with fail
      go_ret2
      exact ⟨A, c, rfl, h1, h2, HO.out, hb1⟩

set_option maxRecDepth 1000000 in
theorem lawParseChips (l : List UInt8) (w : World) (hP : LaidP w) :
    Calls Tryd.prog 4 #[.string (bs l)] w fun e w' => e = .returned (.bool true) ∧ Below w.heap.size w w' := by
  by_cases hbig : 1048576 < l.length
  · have hlen := str_len l
    clear hP
    generalize bs l = s at *
    go_enter Tryd.func4, Tryd.ntmps4
    go_wp2_with fail
    go_ret
    exact ⟨rfl, Below.refl _ _⟩
  · have hle : ¬ (1048576 < (l.length : Int)) := by omega
    have hlen := str_len l
    have HS := hide (specParseChips_any l w (by omega))
    have HI := hide (fun W h => ParseChips_any l (by omega) W h)
    have HP := hide hP
    have hF : (hpL l).length ≤ 20 := hpL_len l
    clear hP hbig
    generalize bs l = s at *
    generalize hpL l = fs at *
    generalize hpB l = b at *
    have e2 : (b != b) = false := by simp
    go_enter Tryd.func4, Tryd.ntmps4
    go_wp2_with fail
    refine HS.out.mono ?_
    rintro e w1 ⟨Aw, cw, rfl, hw1, hw2, hownw, hb1⟩
    have hP1 := hide (HP.out.next hb1)
    have hW1 := hownw.ints
    have s1 := hb1.size
    go_wp2_with fail
    refine (HI.out _ hP1.out).mono ?_
    rintro e w2 ⟨Ag, cg, rfl, hg1, hg2, hG2, hb2⟩
    have hP2 := hide (hP1.out.next hb2)
    have hW2 := hW1.below hb2 (Nat.le_refl _)
    have s2 := hb2.size
    go_wp2_with fail
    refine (eqIntS_same _ _ _ _ _ _ _ _ _ hG2.ints hW2 (Nat.le_refl _) (by omega) (by omega)).mono ?_
    rintro e w3 ⟨rfl, hb3⟩
    have hP3 := hide (hP2.out.next hb3)
    have hW3 := hW2.below hb3 (by omega)
    have hG3 := hG2.below hb3
    have s3 := hb3.size
    go_wp2_with fail
    refine (markIntS_any _ _ _ _ _ _ _ hG3 rfl (by omega) (by omega) (by omega)).mono ?_
    rintro e w4 ⟨rfl, hG4, hb4, _⟩
    have hq4 := below_next (below_next hb1 hb2) hb3
    have hq4' := hq4.trans (hb4.mono s1)
    have hP4 := hide (HP.out.next hq4')
    have hW4 := hW3.below hb4 (by omega)
    have s4 := hb4.size
    go_wp2_with fail
    refine (heldIntS_any _ _ _ _ _ _ (by simpa [marks_length] using hG4.ints) (by omega) (by omega) (by omega)).mono ?_
    rintro e w' ⟨rfl, rfl⟩
    go_wp2_with fail
    refine (HI.out _ hP4.out).mono ?_
    rintro e w5 ⟨Ah, ch, rfl, hh1, hh2, hH5, hb5⟩
    have hW5 := hW4.below hb5 (by omega)
    have hG5 := hG4.below hb5
    have s5 := hb5.size
    go_wp2_with fail
    refine (eqIntS_same _ _ _ _ _ _ _ _ _ hH5.ints hW5 (Nat.le_refl _) (by omega) (by omega)).mono ?_
    rintro e w6 ⟨rfl, hb6⟩
    have hG6 := hG5.below hb6
    go_wp2_with fail
    refine (heldIntS_any _ _ _ _ _ _ (by simpa [marks_length] using hG6.ints) (by omega) (by omega) (by omega)).mono ?_
    rintro e w' ⟨rfl, rfl⟩
    go_wp2_with fail
    go_ret
    exact ⟨rfl, below_next (below_next hq4' hb5) hb6⟩
end Go.Proofs.YtepdfpdhabaijaaDoor
