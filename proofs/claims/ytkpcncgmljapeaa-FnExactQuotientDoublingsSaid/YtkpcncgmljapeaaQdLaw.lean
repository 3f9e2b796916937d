
/-
  THE WALKS OF EXACT LAWS OVER ONE LIST WHOSE RESULT IS A LIST OF STRUCTS, the given frame left out: for all numbers the law returns true and writes nothing that was there.
-/
import Derived.Test.YtkpcncgmljapeaaLaws0
import Derived.Test.YtkpcncgmljapeaaMark
import Derived.Test.YtkpcncgmljapeaaQdJ
import Derived.Test.YtkpcncgmljapeaaDbB
import Derived.Test.YtkpcncgmljapeaaDbM
namespace Go.Proofs.Ytkpcncgmljapeaa
open Go.RowKit Go.Deep
set_option linter.unusedVariables false

set_option maxRecDepth 100000 in
theorem lawQuotientDoublings (A : Option Addr) (n c : Nat) (zs : List Int) (w : World) (hr : Ints w w.heap.size A n zs) :
    Calls Try.prog 3 #[.slice A n c] w fun e w' => e = .returned (.bool true) ∧ Below w.heap.size w w' := by
  obtain rfl := hr.len
  by_cases hbig : 1048576 < zs.length
  · go_enter Try.func3, Try.ntmps3
    go_wp2_with fail
    go_ret
    exact ⟨rfl, Below.refl _ _⟩
  · have hcap : zs.length ≤ 17592186044416 := by omega
    have hF : (quoL zs).length ≤ 100000 := quoL_short zs
    generalize hfs : quoL zs = fs at *
    have Hfs := hide hfs
    clear hfs
    generalize hbs : quoOk zs = bs at *
    have Hbs := hide hbs
    clear hbs
    go_enter Try.func3, Try.ntmps3
    -- the model's answer
    go_wp2_with fail
    refine (toIntS_any _ _ _ _ _ hr hcap).mono ?_
    rintro e w1 ⟨g1, _, hz1, rfl, hrow1, hb1⟩
    have hr1 := hr.below hb1 (Nat.le_refl _)
    have s1 := hb1.size
    go_wp2_with fail
    refine (specQuotientDoublings_any _ _ _ _ _ _ (hrow1.ints hz1) (Nat.le_refl _) (by omega)).mono ?_
    rw [Hfs.out, Hbs.out]
    rintro e w2 ⟨Aw, cw, rfl, hownw, hb2⟩
    have hr2 := hr1.below hb2 s1
    have hW2 := hownw.list
    have s2 := hb2.size
    -- the program's
    go_wp2_with fail
    refine (toIntS_any _ _ _ _ _ (hr2.more (by omega)) hcap).mono ?_
    rintro e w3 ⟨g2, ha2, hz2, rfl, hrow2, hb3⟩
    have hr3 := hr2.below hb3 (by omega)
    have hW3 := hW2.below hb3 (Nat.le_refl _)
    have hX3 := Own.of_row hrow2 ha2 (by unfold maxLen; omega)
    have s3 := hb3.size
    go_wp2_with fail
    refine (QuotientDoublings_any _ _ _ _ _ _ (hrow2.ints hz2) (Nat.le_refl _) (by omega)).mono ?_
    rw [Hfs.out, Hbs.out]
    rintro e w4 ⟨Ag, cg, rfl, hG4, hb4⟩
    have hr4 := hr3.below hb4 (by omega)
    have hW4 := hW3.below hb4 s3
    have hX4 := hX3.below hb4
    have s4 := hb4.size
    -- they are the same, and the argument's copy is as it was
    go_wp2_with fail
    refine (eqDoublingS_same _ _ _ _ _ _ _ _ _ hG4.list hW4 (Nat.le_refl _) (by omega) (by omega)).mono ?_
    rintro e w5 ⟨rfl, hb5⟩
    have hr5 := hr4.below hb5 (by omega)
    have hW5 := hW4.below hb5 (by omega)
    have hX5 := hX4.below hb5
    have hG5 := hG4.below hb5
    have s5 := hb5.size
    go_wp2_with fail
    refine (toIntS_any _ _ _ _ _ (hr5.more (by omega)) hcap).mono ?_
    rintro e w6 ⟨g3, _, hz3, rfl, hrow3, hb6⟩
    have hr6 := hr5.below hb6 (by omega)
    have hW6 := hW5.below hb6 (by omega)
    have hX6 := hX5.below hb6
    have hG6 := hG5.below hb6
    have s6 := hb6.size
    go_wp2_with fail
    refine (eqIntS_same _ _ _ _ _ _ _ _ _ hX6.ints (hrow3.ints hz3) (Nat.le_refl _) (Nat.le_refl _) (by omega)).mono ?_
    rintro e w7 ⟨rfl, hb7⟩
    have hr7 := hr6.below hb7 (by omega)
    have hW7 := hW6.below hb7 (by omega)
    have hX7 := hX6.below hb7
    have hG7 := hG6.below hb7
    have s7 := hb7.size
    -- the argument's copy is marked: the answer stays
    go_wp2_with fail
    refine (markIntS_any _ _ _ _ _ _ _ hX7 rfl (by omega) (by omega) (by omega)).mono ?_
    rintro e w8 ⟨rfl, _, hb8, hoth8⟩
    have hr8 := hr7.below hb8 (by omega)
    have hW8 := hW7.below hb8 (Nat.le_refl _)
    have hG8 : OwnIDb w8 w3.heap.size (.slice Ag fs.length cg) fs.length (numsDb fs) := hG7.keep fun h hh hl => hoth8 h hl (fun ad hA e => by injection hA with hA; subst hA; simp at e; omega)
    have s8 := hb8.size
    clear hoth8 hX3 hX4 hX5 hX6 hX7
    go_wp2_with fail
    refine (eqDoublingS_same _ _ _ _ _ _ _ _ _ hG8.list hW8 (Nat.le_refl _) (by omega) (by omega)).mono ?_
    rintro e w9 ⟨rfl, hb9⟩
    have hr9 := hr8.below hb9 (by omega)
    have hW9 := hW8.below hb9 (by omega)
    have hG9 := hG8.below hb9
    have s9 := hb9.size
    -- the answer is marked, and bears its marks
    go_wp2_with fail
    refine (markDoublingS_any _ _ _ _ _ _ _ hG9 (by omega) (by omega) (by omega)).mono ?_
    rintro e w10 ⟨rfl, hG10, hb10, _⟩
    have hr10 := hr9.below hb10 (by omega)
    have hW10 := hW9.below hb10 (by omega)
    have s10 := hb10.size
    go_wp2_with fail
    refine (heldDoublingS_any _ _ _ _ _ _ hG10 (by omega) (by omega) (by omega)).mono ?_
    rintro e wh ⟨rfl, hbh⟩
    have hr10 := hr10.below hbh (by omega)
    have hW10 := hW10.below hbh (by omega)
    have hG10 := hG10.below hbh
    have sh := hbh.size
    -- another call answers the same and leaves the marks alone
    go_wp2_with fail
    refine (toIntS_any _ _ _ _ _ (hr10.more (by omega)) hcap).mono ?_
    rintro e w11 ⟨g4, ha4, hz4, rfl, hrow4, hb11⟩
    have hW11 := hW10.below hb11 (by omega)
    have hG11 := hG10.below hb11
    have s11 := hb11.size
    go_wp2_with fail
    refine (QuotientDoublings_any _ _ _ _ _ _ (hrow4.ints hz4) (Nat.le_refl _) (by omega)).mono ?_
    rw [Hfs.out, Hbs.out]
    rintro e w12 ⟨Ah, ch, rfl, hH12, hb12⟩
    have hW12 := hW11.below hb12 (by omega)
    have hG12 := hG11.below hb12
    have s12 := hb12.size
    go_wp2_with fail
    refine (eqDoublingS_same _ _ _ _ _ _ _ _ _ hH12.list hW12 (Nat.le_refl _) (by omega) (by omega)).mono ?_
    rintro e w13 ⟨rfl, hb13⟩
    have hG13 := hG12.below hb13
    go_wp2_with fail
    refine (heldDoublingS_any _ _ _ _ _ _ hG13 (by omega) (by omega) (by omega)).mono ?_
    rintro e wi ⟨rfl, hbi⟩
    go_wp2_with fail
    go_ret
    refine ⟨rfl, ?_⟩
    have q4 := below_next (below_next (below_next hb1 hb2) hb3) hb4
    have q7 := below_next (below_next (below_next q4 hb5) hb6) hb7
    have q9 := below_next (q7.trans (hb8.mono (by omega))) hb9
    exact below_next (below_next (below_next (below_next (below_next (q9.trans (hb10.mono (by omega))) hbh) hb11) hb12) hb13) hbi
end Go.Proofs.Ytkpcncgmljapeaa
