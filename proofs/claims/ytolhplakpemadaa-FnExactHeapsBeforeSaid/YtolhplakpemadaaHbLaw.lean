
/-
  THE WALKS OF EXACT LAWS OVER ONE LIST WHOSE RESULT IS A LIST OF LISTS, the given frame left out: for all numbers the law returns true and writes nothing that was there.
-/
import Derived.Test.YtolhplakpemadaaLaws0
import Derived.Test.YtolhplakpemadaaSsA
import Derived.Test.YtolhplakpemadaaHbS
namespace Go.Proofs.Ytolhplakpemadaa
open Go.RowKit Go.Deep

set_option maxRecDepth 100000 in
theorem lawHeapsBefore (A : Option Addr) (n c : Nat) (zs : List Int) (w : World) (hr : Ints w w.heap.size A n zs) :
    Calls Try.prog 3 #[.slice A n c] w fun e w' => e = .returned (.bool true) ∧ Below w.heap.size w w' := by
  obtain rfl := hr.len
  by_cases hbig : 1048576 < zs.length
  · go_enter Try.func3, Try.ntmps3
    go_wp2_with fail
    go_ret
    exact ⟨rfl, Below.refl _ _⟩
  · have hcap : zs.length ≤ 17592186044416 := by omega
    have hF := (hbR_short zs).2
    have hSZ := (hbR_short zs).1
    have HQ := hide (fun k (hk : k < (hbR zs).length) => Nat.le_trans (sizeSS_one (hbR zs) k hk) (Nat.le_trans hSZ (show 1048576 ≤ 17592186044416 by omega)))
    have HM := hide (marksSS_length 1 (hbR zs))
    generalize hfs : hbR zs = fs at *
    have Hfs := hide hfs
    clear hfs
    generalize hbs : few zs = bs at *
    have Hbs := hide hbs
    clear hbs
    go_enter Try.func3, Try.ntmps3
    -- the model's answer
    go_wp2_with fail
    refine (toIntS_any _ _ _ _ _ hr hcap).mono ?_
    rintro e w1 ⟨g1, _, hz1, rfl, hrow1, hb1⟩
    have hr1 := hr.below hb1 (Nat.le_refl _)
    have s1 := hb1.size
    go_wp2_with fail
    refine (specHeapsBefore_any _ _ _ _ _ _ (hrow1.ints hz1) (Nat.le_refl _) (by omega)).mono ?_
    rw [Hfs.out, Hbs.out]
    rintro e w2 ⟨Aw, cw, vw, rfl, hw1, hw2, hownw, hb2⟩
    have hr2 := hr1.below hb2 s1
    have hW2 := hide (And.intro hownw.vals hownw.ints)
    have s2 := hb2.size
    -- the program's
    go_wp2_with fail
    refine (toIntS_any _ _ _ _ _ (hr2.more (by omega)) hcap).mono ?_
    rintro e w3 ⟨g2, ha2, hz2, rfl, hrow2, hb3⟩
    have hr3 := hr2.below hb3 (by omega)
    have hW3 := hide (And.intro (hW2.out.1.below hb3 (Nat.le_refl _)) (hW2.out.2.below hb3 (Nat.le_refl _)))
    have hX3 := Own.of_row hrow2 ha2 (by unfold maxLen; omega)
    have s3 := hb3.size
    go_wp2_with fail
    refine (HeapsBefore_any _ _ _ _ _ _ (hrow2.ints hz2) (Nat.le_refl _) (by omega)).mono ?_
    rw [Hfs.out, Hbs.out]
    rintro e w4 ⟨Ag, cg, vg, rfl, hg1, hg2, hG4, hb4⟩
    have hr4 := hr3.below hb4 (by omega)
    have hW4 := hide (And.intro (hW3.out.1.below hb4 s3) (hW3.out.2.below hb4 s3))
    have hX4 := hX3.below hb4
    have s4 := hb4.size
    -- they are the same, and the argument's copy is as it was
    go_wp2_with fail
    refine (eqIntSS_same _ _ _ _ _ _ _ _ fs _ hG4.vals hG4.ints (hW4.out.1.more (by omega)) (hW4.out.2.more (by omega)) (Nat.le_refl _) (by omega) HQ.out).mono ?_
    rintro e w5 ⟨rfl, hb5⟩
    have hr5 := hr4.below hb5 (by omega)
    have hW5 := hide (And.intro (hW4.out.1.below hb5 (by omega)) (hW4.out.2.below hb5 (by omega)))
    have hX5 := hX4.below hb5
    have hG5 := hG4.below hb5
    have s5 := hb5.size
    go_wp2_with fail
    refine (toIntS_any _ _ _ _ _ (hr5.more (by omega)) hcap).mono ?_
    rintro e w6 ⟨g3, _, hz3, rfl, hrow3, hb6⟩
    have hr6 := hr5.below hb6 (by omega)
    have hW6 := hide (And.intro (hW5.out.1.below hb6 (by omega)) (hW5.out.2.below hb6 (by omega)))
    have hX6 := hX5.below hb6
    have hG6 := hG5.below hb6
    have s6 := hb6.size
    go_wp2_with fail
    refine (eqIntS_same _ _ _ _ _ _ _ _ _ hX6.ints (hrow3.ints hz3) (Nat.le_refl _) (Nat.le_refl _) (by omega)).mono ?_
    rintro e w7 ⟨rfl, hb7⟩
    have hr7 := hr6.below hb7 (by omega)
    have hW7 := hide (And.intro (hW6.out.1.below hb7 (by omega)) (hW6.out.2.below hb7 (by omega)))
    have hX7 := hX6.below hb7
    have hG7 := hG6.below hb7
    have s7 := hb7.size
    -- the argument's copy is marked: the answer stays
    go_wp2_with fail
    refine (markIntS_any _ _ _ _ _ _ _ hX7 rfl (by omega) (by omega) (by omega)).mono ?_
    rintro e w8 ⟨rfl, _, hb8, hoth8⟩
    have hr8 := hr7.below hb8 (by omega)
    have hW8 := hide (And.intro (hW7.out.1.below hb8 (Nat.le_refl _)) (hW7.out.2.below hb8 (Nat.le_refl _)))
    have hG8 : OwnVs w8 w3.heap.size (.slice Ag fs.length cg) vg fs := hG7.keep fun h hh hl => hoth8 h hl (fun ad hA e => by injection hA with hA; subst hA; simp at e; omega)
    have s8 := hb8.size
    clear hoth8 hX3 hX4 hX5 hX6 hX7
    go_wp2_with fail
    refine (eqIntSS_same _ _ _ _ _ _ _ _ fs _ hG8.vals hG8.ints (hW8.out.1.more (by omega)) (hW8.out.2.more (by omega)) (Nat.le_refl _) (by omega) HQ.out).mono ?_
    rintro e w9 ⟨rfl, hb9⟩
    have hr9 := hr8.below hb9 (by omega)
    have hW9 := hide (And.intro (hW8.out.1.below hb9 (by omega)) (hW8.out.2.below hb9 (by omega)))
    have hG9 := hG8.below hb9
    have s9 := hb9.size
    -- the answer is marked, and bears its marks
    go_wp2_with fail
    refine (markIntSS_any _ _ _ _ _ _ _ _ hG9 rfl hSZ (by omega) (by omega) (by omega) (by omega)).mono ?_
    rintro e w10 ⟨rfl, hG10, hb10⟩
    have hr10 := hr9.below hb10 (by omega)
    have hW10 := hide (And.intro (hW9.out.1.below hb10 (by omega)) (hW9.out.2.below hb10 (by omega)))
    have s10 := hb10.size
    go_wp2_with fail
    refine (heldIntSS_any _ _ _ _ _ _ _ _ (by have := hG10.vals; rw [HM.out] at this; exact this) hG10.ints rfl (by omega) hSZ (by omega) (by omega)).mono ?_
    rintro e w' ⟨rfl, rfl⟩
    -- another call answers the same and leaves the marks alone
    go_wp2_with fail
    refine (toIntS_any _ _ _ _ _ (hr10.more (by omega)) hcap).mono ?_
    rintro e w11 ⟨g4, ha4, hz4, rfl, hrow4, hb11⟩
    have hW11 := hide (And.intro (hW10.out.1.below hb11 (by omega)) (hW10.out.2.below hb11 (by omega)))
    have hG11 := hG10.below hb11
    have s11 := hb11.size
    go_wp2_with fail
    refine (HeapsBefore_any _ _ _ _ _ _ (hrow4.ints hz4) (Nat.le_refl _) (by omega)).mono ?_
    rw [Hfs.out, Hbs.out]
    rintro e w12 ⟨Ah, ch, vh, rfl, hh1, hh2, hH12, hb12⟩
    have hW12 := hide (And.intro (hW11.out.1.below hb12 (by omega)) (hW11.out.2.below hb12 (by omega)))
    have hG12 := hG11.below hb12
    have s12 := hb12.size
    go_wp2_with fail
    refine (eqIntSS_same _ _ _ _ _ _ _ _ fs _ hH12.vals hH12.ints (hW12.out.1.more (by omega)) (hW12.out.2.more (by omega)) (Nat.le_refl _) (by omega) HQ.out).mono ?_
    rintro e w13 ⟨rfl, hb13⟩
    have hG13 := hG12.below hb13
    go_wp2_with fail
    refine (heldIntSS_any _ _ _ _ _ _ _ _ (by have := hG13.vals; rw [HM.out] at this; exact this) hG13.ints rfl (by omega) hSZ (by omega) (by omega)).mono ?_
    rintro e w' ⟨rfl, rfl⟩
    go_wp2_with fail
    go_ret
    refine ⟨rfl, ?_⟩
    have q4 := below_next (below_next (below_next hb1 hb2) hb3) hb4
    have q7 := below_next (below_next (below_next q4 hb5) hb6) hb7
    have q9 := below_next (q7.trans (hb8.mono (by omega))) hb9
    exact below_next (below_next (below_next (q9.trans (hb10.mono (by omega))) hb11) hb12) hb13
end Go.Proofs.Ytolhplakpemadaa
