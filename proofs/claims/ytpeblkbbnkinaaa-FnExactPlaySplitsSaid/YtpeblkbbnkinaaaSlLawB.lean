
/-
  THE WALK OF THE EXACT LAW ON PLAYS OF MOVES, the given frame left out.
-/
import Derived.Test.YtpeblkbbnkinaaaLaws0
import Derived.Test.YtpeblkbbnkinaaaMark
import Derived.Test.YtpeblkbbnkinaaaSpM
import Derived.Test.YtpeblkbbnkinaaaSpB
import Derived.Test.YtpeblkbbnkinaaaSlC
namespace Go.Proofs.Ytpeblkbbnkinaaa
open Go.RowKit Go.Deep
set_option linter.unusedVariables false

set_option maxRecDepth 100000 in
theorem lawPlaySplits (r : Int) (A : Option Addr) (n c : Nat) (zs : List Int) (A' : Option Addr) (n' c' : Nat) (ms : List Sp) (w : World) (hr : Ints w w.heap.size A n zs) (hm : Sps w w.heap.size A' n' ms) (hmax : n' ≤ 9223372036854775807) :
    Calls Try.prog 6 #[.int .i64 r, .slice A n c, .slice A' n' c'] w fun e w' => e = .returned (.bool true) ∧ Below w.heap.size w w' := by
  obtain rfl := hr.len
  obtain rfl := hm.len
  by_cases hbig : 1048576 < zs.length
  · go_enter Try.func6, Try.ntmps6
    go_wp2_with fail
    go_ret
    exact ⟨rfl, Below.refl _ _⟩
  · by_cases hbig' : (1048576 : Int) < (ms.length : Int)
    · have hsz := szSplitS_any A' ms.length c' 1048576 w hmax (by omega) (by omega)
      rw [if_pos hbig'] at hsz
      have HSz := hide hsz
      clear hsz
      go_enter Try.func6, Try.ntmps6
      go_wp2_with fail
      refine HSz.out.mono ?_
      rintro e w1 ⟨rfl, rfl⟩
      go_wp2_with fail
      go_ret
      exact ⟨rfl, Below.refl _ _⟩
    · have hcap : zs.length ≤ 17592186044416 := by omega
      have hcap1 : zs.length ≤ 1048576 := by omega
      have hcapM : ms.length ≤ 1099511627776 := by omega
      have hcapM1 : ms.length ≤ 1048576 := by omega
      have hF : (splayL r zs ms).length ≤ 1048576 := Nat.le_trans (splayL_short r zs ms) (by decide)
      have HSp := hide (fun (g : Option Addr) (B : Nat) (W : World) (h1 : Ints W B g zs.length zs) (h2 : B ≤ W.heap.size) (g' : Option Addr) (B' : Nat) (h3 : Sps W B' g' ms.length ms) (h4 : B' ≤ W.heap.size) =>
        specPlaySplits_any r g zs.length zs.length B g' ms.length ms.length B' zs ms W h1 h2 hcap h3 h4 hcapM)
      have HIm := hide (fun (g : Option Addr) (B : Nat) (W : World) (h1 : Ints W B g zs.length zs) (h2 : B ≤ W.heap.size) (g' : Option Addr) (B' : Nat) (h3 : Sps W B' g' ms.length ms) (h4 : B' ≤ W.heap.size) =>
        PlaySplits_any r g zs.length zs.length B g' ms.length ms.length B' zs ms W h1 h2 hcap h3 h4 hcapM)
      generalize splayL r zs ms = fs at *
      generalize splayOk r zs ms = bs at *
      have hsz := szSplitS_any A' ms.length c' 1048576 w hmax (by omega) (by omega)
      rw [if_neg hbig'] at hsz
      have HSz := hide hsz
      clear hsz
      have hnn : 0 ≤ 1048576 - (ms.length : Int) := by omega
      go_enter Try.func6, Try.ntmps6
      go_wp2_with fail
      refine HSz.out.mono ?_
      rintro e w0 ⟨rfl, rfl⟩
      -- the model's answer
      go_wp2_with fail
      refine (toIntS_any _ _ _ _ _ hr hcap).mono ?_
      rintro e w1 ⟨g1, _, hz1, rfl, hrow1, hb1⟩
      have hr1 := hr.below hb1 (Nat.le_refl _)
      have hm1 := hm.below hb1 (Nat.le_refl _)
      have s1 := hb1.size
      go_wp2_with fail
      refine (toSplitS_any _ _ _ _ _ (hm1.more s1) hcapM).mono ?_
      rintro e y1 ⟨gm1, _, hzm1, rfl, hrowm1, hbm1⟩
      have hr1 := hr1.below hbm1 s1
      have hm1 := hm1.below hbm1 s1
      have sm1 := hbm1.size
      have hI1 := (hrow1.ints hz1).below hbm1 (Nat.le_refl _)
      go_wp2_with fail
      refine (HSp.out _ _ _ hI1 sm1 _ _ (hrowm1.list hzm1) (Nat.le_refl _)).mono ?_
      rintro e w2 ⟨Aw, cw, rfl, hw1, hw2, hownw, hb2⟩
      have hr2 := hr1.below hb2 (by omega)
      have hm2 := hm1.below hb2 (by omega)
      have hW2 := hownw.ints
      have s2 := hb2.size
      have hB2 := below_next (below_next hb1 hbm1) hb2
      clear hrow1 hrowm1 hI1
      -- the program's
      go_wp2_with fail
      refine (toIntS_any _ _ _ _ _ (hr2.more (by omega)) hcap).mono ?_
      rintro e w3 ⟨g2, ha2, hz2, rfl, hrow2, hb3⟩
      have hr3 := hr2.below hb3 (by omega)
      have hm3 := hm2.below hb3 (by omega)
      have hW3 := hW2.below hb3 (Nat.le_refl _)
      have hX3 := Own.of_row hrow2 ha2 (by unfold maxLen; omega)
      have s3 := hb3.size
      go_wp2_with fail
      refine (toSplitS_any _ _ _ _ _ (hm3.more (by omega)) hcapM).mono ?_
      rintro e y3 ⟨gm2, ham2, hzm2, rfl, hrowm2, hbm3⟩
      have hr3 := hr3.below hbm3 (by omega)
      have hm3 := hm3.below hbm3 (by omega)
      have hW3 := hW3.below hbm3 s3
      have hX3 := hX3.below hbm3
      have hY3 := OwnISp.of_row hrowm2 ham2 (by unfold maxLen; omega)
      have hZ3 := hrowm2.list hzm2
      have sm3 := hbm3.size
      have hI3 := (hrow2.ints hz2).below hbm3 (Nat.le_refl _)
      go_wp2_with fail
      refine (HIm.out _ _ _ hI3 sm3 _ _ hZ3 (Nat.le_refl _)).mono ?_
      rintro e w4 ⟨Ag, cg, rfl, hg1, hg2, hG4, hb4⟩
      have hr4 := hr3.below hb4 (by omega)
      have hm4 := hm3.below hb4 (by omega)
      have hW4 := hW3.below hb4 (by omega)
      have hX4 := hX3.below hb4
      have hY4 := hY3.below hb4
      have hZ4 := hZ3.below hb4 (Nat.le_refl _)
      have s4 := hb4.size
      -- they are the same, and the arguments' copies are as they were
      go_wp2_with fail
      refine (eqIntS_same _ _ _ _ _ _ _ _ _ hG4.ints hW4 (Nat.le_refl _) (by omega) (by omega)).mono ?_
      rintro e w5 ⟨rfl, hb5⟩
      have hr5 := hr4.below hb5 (by omega)
      have hm5 := hm4.below hb5 (by omega)
      have hW5 := hW4.below hb5 (by omega)
      have hX5 := hX4.below hb5
      have hY5 := hY4.below hb5
      have hZ5 := hZ4.below hb5 (by omega)
      have hG5 := hG4.below hb5
      have s5 := hb5.size
      go_wp2_with fail
      refine (toIntS_any _ _ _ _ _ (hr5.more (by omega)) hcap).mono ?_
      rintro e w6 ⟨g3, _, hz3, rfl, hrow3, hb6⟩
      have hr6 := hr5.below hb6 (by omega)
      have hm6 := hm5.below hb6 (by omega)
      have hW6 := hW5.below hb6 (by omega)
      have hX6 := hX5.below hb6
      have hY6 := hY5.below hb6
      have hZ6 := hZ5.below hb6 (by omega)
      have hG6 := hG5.below hb6
      have s6 := hb6.size
      go_wp2_with fail
      refine (eqIntS_same _ _ _ _ _ _ _ _ _ hX6.ints (hrow3.ints hz3) (Nat.le_refl _) (Nat.le_refl _) (by omega)).mono ?_
      rintro e w7 ⟨rfl, hb7⟩
      have hr7 := hr6.below hb7 (by omega)
      have hm7 := hm6.below hb7 (by omega)
      have hW7 := hW6.below hb7 (by omega)
      have hX7 := hX6.below hb7
      have hY7 := hY6.below hb7
      have hZ7 := hZ6.below hb7 (by omega)
      have hG7 := hG6.below hb7
      have s7 := hb7.size
      clear hrow3
      go_wp2_with fail
      refine (toSplitS_any _ _ _ _ _ (hm7.more (by omega)) hcapM).mono ?_
      rintro e y7 ⟨gm3, _, hzm3, rfl, hrowm3, hbm7⟩
      have hr7 := hr7.below hbm7 (by omega)
      have hm7 := hm7.below hbm7 (by omega)
      have hW7 := hW7.below hbm7 (by omega)
      have hX7 := hX7.below hbm7
      have hY7 := hY7.below hbm7
      have hZ7 := hZ7.below hbm7 (by omega)
      have hG7 := hG7.below hbm7
      have sm7 := hbm7.size
      go_wp2_with fail
      refine (eqSplitS_same _ _ _ _ _ _ _ _ _ hZ7 (hrowm3.list hzm3) (by omega) (Nat.le_refl _) hcapM).mono ?_
      rintro e v7 ⟨rfl, hbv7⟩
      have hr7 := hr7.below hbv7 (by omega)
      have hm7 := hm7.below hbv7 (by omega)
      have hW7 := hW7.below hbv7 (by omega)
      have hX7 := hX7.below hbv7
      have hY7 := hY7.below hbv7
      have hG7 := hG7.below hbv7
      have sv7 := hbv7.size
      clear hrowm3 hZ3 hZ4 hZ5 hZ6 hZ7
      -- the arguments' copies are marked: the answer stays
      go_wp2_with fail
      refine (markIntS_any _ _ _ _ _ _ _ hX7 rfl (by omega) (by omega) (by omega)).mono ?_
      rintro e w8 ⟨rfl, _, hb8, hoth8⟩
      have hr8 := hr7.below hb8 (by omega)
      have hm8 := hm7.below hb8 (by omega)
      have hW8 := hW7.below hb8 (Nat.le_refl _)
      have hG8 : Own w8 y3.heap.size 3 (.slice Ag fs.length cg) fs := hG7.keep fun h hh hl => hoth8 h hl (fun ad hA e => by injection hA with hA; subst hA; simp at e; omega)
      have hY8 : OwnISp w8 w3.heap.size (.slice (some ⟨gm2, 0, none⟩) ms.length ms.length) ms.length (numsSp ms) := hY7.keep fun h hh hl => hoth8 h hl (fun ad hA e => by injection hA with hA; subst hA; simp at e; omega)
      have s8 := hb8.size
      clear hoth8 hX3 hX4 hX5 hX6 hX7 hY3 hY4 hY5 hY6 hY7
      go_wp2_with fail
      refine (markSplitS_any _ _ _ _ _ _ _ hY8 hcapM1 (by omega) (by omega)).mono ?_
      rintro e y8 ⟨rfl, _, hbm8, hoth9⟩
      have hr8 := hr8.below hbm8 (by omega)
      have hm8 := hm8.below hbm8 (by omega)
      have hW8 := hW8.below hbm8 (by omega)
      have hG8 : Own y8 y3.heap.size 3 (.slice Ag fs.length cg) fs := hG8.keep fun h hh hl => hoth9 h hl (fun ad hA e => by injection hA with hA; subst hA; simp at e; omega)
      have sm8 := hbm8.size
      clear hoth9 hY8
      go_wp2_with fail
      refine (eqIntS_same _ _ _ _ _ _ _ _ _ hG8.ints hW8 (Nat.le_refl _) (by omega) (by omega)).mono ?_
      rintro e w9 ⟨rfl, hb9⟩
      have hr9 := hr8.below hb9 (by omega)
      have hm9 := hm8.below hb9 (by omega)
      have hW9 := hW8.below hb9 (by omega)
      have hG9 := hG8.below hb9
      have s9 := hb9.size
      -- the answer is marked, and bears its marks
      go_wp2_with fail
      refine (markIntS_any _ _ _ _ _ _ _ hG9 rfl (by omega) (by omega) (by omega)).mono ?_
      rintro e w10 ⟨rfl, hG10, hb10, _⟩
      have hr10 := hr9.below hb10 (by omega)
      have hm10 := hm9.below hb10 (by omega)
      have hW10 := hW9.below hb10 (by omega)
      have s10 := hb10.size
      have q4 := below_next (below_next (below_next hB2 hb3) hbm3) hb4
      have q7 := below_next (below_next (below_next (below_next (below_next q4 hb5) hb6) hb7) hbm7) hbv7
      have q9 := below_next ((q7.trans (hb8.mono (by omega))).trans (hbm8.mono (by omega))) hb9
      have q10 := q9.trans (hb10.mono (by omega))
      clear hb1 hbm1 hb2 hb3 hbm3 hb4 hb5 hb6 hb7 hbm7 hbv7 hb8 hbm8 hb9 q4 q7 q9 hB2
      go_wp2_with fail
      refine (heldIntS_any _ _ _ _ _ _ (by simpa [marks_length] using hG10.ints) (by omega) (by omega) (by omega)).mono ?_
      rintro e w' ⟨rfl, rfl⟩
      -- another call answers the same and leaves the marks alone
      go_wp2_with fail
      refine (toIntS_any _ _ _ _ _ (hr10.more (by omega)) hcap).mono ?_
      rintro e w11 ⟨g4, ha4, hz4, rfl, hrow4, hb11⟩
      have hm11 := hm10.below hb11 (by omega)
      have hW11 := hW10.below hb11 (by omega)
      have hG11 := hG10.below hb11
      have s11 := hb11.size
      go_wp2_with fail
      refine (toSplitS_any _ _ _ _ _ (hm11.more (by omega)) hcapM).mono ?_
      rintro e y11 ⟨gm4, _, hzm4, rfl, hrowm4, hbm11⟩
      have hW11 := hW11.below hbm11 (by omega)
      have hG11 := hG11.below hbm11
      have sm11 := hbm11.size
      have hI11 := (hrow4.ints hz4).below hbm11 (Nat.le_refl _)
      go_wp2_with fail
      refine (HIm.out _ _ _ hI11 sm11 _ _ (hrowm4.list hzm4) (Nat.le_refl _)).mono ?_
      rintro e w12 ⟨Ah, ch, rfl, hh1, hh2, hH12, hb12⟩
      have hW12 := hW11.below hb12 (by omega)
      have hG12 := hG11.below hb12
      have s12 := hb12.size
      go_wp2_with fail
      refine (eqIntS_same _ _ _ _ _ _ _ _ _ hH12.ints hW12 (Nat.le_refl _) (by omega) (by omega)).mono ?_
      rintro e w13 ⟨rfl, hb13⟩
      have hG13 := hG12.below hb13
      go_wp2_with fail
      refine (heldIntS_any _ _ _ _ _ _ (by simpa [marks_length] using hG13.ints) (by omega) (by omega) (by omega)).mono ?_
      rintro e w' ⟨rfl, rfl⟩
      go_wp2_with fail
      go_ret
      exact ⟨rfl, below_next (below_next (below_next (below_next q10 hb11) hbm11) hb12) hb13⟩
end Go.Proofs.Ytpeblkbbnkinaaa
