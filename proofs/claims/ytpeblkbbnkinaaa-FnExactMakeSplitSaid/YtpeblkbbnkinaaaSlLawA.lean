
/-
  THE WALKS OF EXACT LAWS OVER ONE LIST WHOSE RESULT IS A LIST OF NUMBERS, the given frame left out: for all numbers the law returns true and writes nothing that was there.
-/
import Derived.Test.YtpeblkbbnkinaaaLaws0
import Derived.Test.YtpeblkbbnkinaaaMark
import Derived.Test.YtpeblkbbnkinaaaSlC
namespace Go.Proofs.Ytpeblkbbnkinaaa
open Go.RowKit Go.Deep

set_option maxRecDepth 100000 in
theorem lawMakeSplit (r : Int) (A : Option Addr) (n c : Nat) (zs : List Int) (m : Sp) (w : World) (hr : Ints w w.heap.size A n zs) :
    Calls Try.prog 5 #[.int .i64 r, .slice A n c, .agg #[.int .i64 m.x0, .int .i64 m.x1]] w fun e w' => e = .returned (.bool true) ∧ Below w.heap.size w w' := by
  obtain rfl := hr.len
  by_cases hbig : 1048576 < zs.length
  · go_enter Try.func5, Try.ntmps5
    go_wp2_with fail
    go_ret
    exact ⟨rfl, (Below.refl _ _).alloc (Nat.le_refl _) _⟩
  · have hcap : zs.length ≤ 17592186044416 := by omega
    have hcap' : zs.length ≤ 1048576 := by omega
    have hF : (splayL r zs [m]).length ≤ 1048576 := Nat.le_trans (splayL_short r zs [m]) (by decide)
    have HSp := hide (fun (g : Option Addr) (B : Nat) (W : World) (h1 : Ints W B g zs.length zs) (h2 : B ≤ W.heap.size) => specMakeSplit_any r g zs.length zs.length B zs m W h1 h2 hcap)
    have HIm := hide (fun (g : Option Addr) (B : Nat) (W : World) (h1 : Ints W B g zs.length zs) (h2 : B ≤ W.heap.size) => MakeSplit_any r g zs.length zs.length B zs m W h1 h2 hcap)
    have HV := hide (fun (W : World) => toSplit_any m W)
    generalize splayL r zs [m] = fs at *
    generalize splayOk r zs [m] = bs at *
    go_enter Try.func5, Try.ntmps5
    -- the model's answer
    go_wp2_with fail
    have hA : Below w.heap.size w (w.alloc (.cells #[.int .i64 m.x0, .int .i64 m.x1] 30)) := (Below.refl _ _).alloc (Nat.le_refl _) _
    have k0 : (w.alloc (.cells #[.int .i64 m.x0, .int .i64 m.x1] 30)).cell? ⟨w.heap.size, 0, none⟩ = some (.int .i64 m.x0) := by simp
    have k1 : (w.alloc (.cells #[.int .i64 m.x0, .int .i64 m.x1] 30)).cell? ⟨w.heap.size, 1, none⟩ = some (.int .i64 m.x1) := by simp
    have hz0 : w.heap.size < (w.alloc (.cells #[.int .i64 m.x0, .int .i64 m.x1] 30)).heap.size := by simp
    have hr0 := (hr.below hA (Nat.le_refl _)).more hA.size
    have s0 := hA.size
    generalize hbw : w.heap.size = bw at *
    generalize (w.alloc (.cells #[.int .i64 m.x0, .int .i64 m.x1] 30)) = W0 at *
    obtain ⟨bx, hbx⟩ : ∃ bx, bx = bw := ⟨_, rfl⟩
    rw [← hbx] at k0 k1 hz0
    have HK : Hid (∀ W', Below W0.heap.size W0 W' → (W'.cell? ⟨bx, 0, none⟩ = some (.int .i64 m.x0) ∧ W'.cell? ⟨bx, 1, none⟩ = some (.int .i64 m.x1))) :=
      hide fun W' h => ⟨(h.cell (p := ⟨bx, 0, none⟩) hz0).trans k0, (h.cell (p := ⟨bx, 1, none⟩) hz0).trans k1⟩
    have HS := hide (fun W' (h : Below W0.heap.size W0 W') => And.intro h (HK.out W' h))
    have HT := hide (fun W (h : Below W0.heap.size W0 W) => toIntS_any A zs.length c zs W ((hr0.below h (Nat.le_refl _)).more h.size) hcap)
    subst hbx
    first | go_region_held3 (fun W => Below W0.heap.size W0 W ∧ W.cell? ⟨bx, 0, none⟩ = some (.int .i64 m.x0) ∧ W.cell? ⟨bx, 1, none⟩ = some (.int .i64 m.x1))
      (first | exact HS.out _ (Below.refl _ _).drew | exact HS.out _ (below_next (And.left (by assumption)) hb2) | exact HS.out _ (below_next (And.left (by assumption)) hbx1) | exact HS.out _ (below_next (And.left (by assumption)) hb1) | go_keep)
      (first
      | (go_at_call 9; (with_reducible refine (HT.out _ (And.left (by assumption))).mono ?_); rintro e w1 ⟨g1, ha1, hz1, rfl, hrow1, hb1⟩)
      | (go_at_call 15; (with_reducible refine (HV.out _).mono ?_); rintro e x1 ⟨rfl, hbx1⟩)
      | (go_at_call 14; (with_reducible refine (HSp.out _ _ _ ((hrow1.ints hz1).below hbx1 (Nat.le_refl _)) hbx1.size).mono ?_); rintro e w2 ⟨Aw, cw, rfl, hw1, hw2, hownw, hb2⟩)) | fail
    have hB2 : Below W0.heap.size W0 w2 := And.left (by assumption : Below W0.heap.size W0 w2 ∧ _)
    have hW2 := hownw.ints
    have s2 := hB2.size
    have hr2 := hr0.below hB2 (Nat.le_refl _)
    clear hrow1 hz1 hb1 hbx1 hb2 HT HS ha1
    -- the program's
    go_wp2_with fail
    refine (toIntS_any _ _ _ _ _ (hr2.more s2) hcap).mono ?_
    rintro e w3 ⟨g2, ha2, hz2, rfl, hrow2, hb3⟩
    have hr3 := hr2.below hb3 (by omega)
    have hW3 := hW2.below hb3 (Nat.le_refl _)
    have hX3 := Own.of_row hrow2 ha2 (by unfold maxLen; omega)
    have s3 := hb3.size
    have hB3 := below_next hB2 hb3
    obtain ⟨o0, o1⟩ := HK.out _ hB3
    go_wp2_with fail
    refine (HV.out _).mono ?_
    rintro e x3 ⟨rfl, hbx3⟩
    clear o0 o1
    have hr3 := hr3.below hbx3 (by omega)
    have hW3 := hW3.below hbx3 s3
    have hX3 := hX3.below hbx3
    have sx3 := hbx3.size
    have hI3 := (hrow2.ints hz2).below hbx3 (Nat.le_refl _)
    go_wp2_with fail
    refine (HIm.out _ _ _ hI3 sx3).mono ?_
    rintro e w4 ⟨Ag, cg, rfl, hg1, hg2, hG4, hb4⟩
    have hr4 := hr3.below hb4 (by omega)
    have hW4 := hW3.below hb4 (by omega)
    have hX4 := hX3.below hb4
    have s4 := hb4.size
    -- they are the same, and the argument's copy is as it was
    go_wp2_with fail
    refine (eqIntS_same _ _ _ _ _ _ _ _ _ hG4.ints hW4 (Nat.le_refl _) (by omega) (by omega)).mono ?_
    rintro e w5 ⟨rfl, hb5⟩
    have hr5 := hr4.below hb5 (by omega)
    have hW5 := hW4.below hb5 (by omega)
    have hX5 := hX4.below hb5
    have hG5 := hG4.below hb5
    have s5 := hb5.size
    go_wp2_with fail
    refine (toIntS_any _ _ _ _ _ (hr5.more (by omega)) hcap).mono ?_
    rintro e w6 ⟨g3, _, hz3, rfl, hrow3, hb6⟩
    have hr6 := hr5.below hb6 (by omega)
    have hW6 := hW5.below hb6 (by omega)
    have hX6 := hX5.below hb6
    have hG6 := hG5.below hb6
    have s6 := hb6.size
    go_wp2_with fail
    refine (eqIntS_same _ _ _ _ _ _ _ _ _ hX6.ints (hrow3.ints hz3) (Nat.le_refl _) (Nat.le_refl _) (by omega)).mono ?_
    rintro e w7 ⟨rfl, hb7⟩
    have hr7 := hr6.below hb7 (by omega)
    have hW7 := hW6.below hb7 (by omega)
    have hX7 := hX6.below hb7
    have hG7 := hG6.below hb7
    have s7 := hb7.size
    -- the argument's copy is marked: the answer stays
    go_wp2_with fail
    refine (markIntS_any _ _ _ _ _ _ _ hX7 rfl (by omega) (by omega) (by omega)).mono ?_
    rintro e w8 ⟨rfl, _, hb8, hoth8⟩
    have hr8 := hr7.below hb8 (by omega)
    have hW8 := hW7.below hb8 (Nat.le_refl _)
    have hG8 : Own w8 x3.heap.size 3 (.slice Ag fs.length cg) fs := hG7.keep fun h hh hl => hoth8 h hl (fun ad hA e => by injection hA with hA; subst hA; simp at e; omega)
    have s8 := hb8.size
    clear hoth8 hX3 hX4 hX5 hX6 hX7
    go_wp2_with fail
    refine (eqIntS_same _ _ _ _ _ _ _ _ _ hG8.ints hW8 (Nat.le_refl _) (by omega) (by omega)).mono ?_
    rintro e w9 ⟨rfl, hb9⟩
    have hr9 := hr8.below hb9 (by omega)
    have hW9 := hW8.below hb9 (by omega)
    have hG9 := hG8.below hb9
    have s9 := hb9.size
    -- the answer is marked, and bears its marks
    go_wp2_with fail
    refine (markIntS_any _ _ _ _ _ _ _ hG9 rfl (by omega) (by omega) (by omega)).mono ?_
    rintro e w10 ⟨rfl, hG10, hb10, _⟩
    have hr10 := hr9.below hb10 (by omega)
    have hW10 := hW9.below hb10 (by omega)
    have s10 := hb10.size
    have q4 := below_next (below_next hB3 hbx3) hb4
    have q7 := below_next (below_next (below_next q4 hb5) hb6) hb7
    have q9 := below_next (q7.trans (hb8.mono (by omega))) hb9
    have q10 := q9.trans (hb10.mono (by omega))
    go_wp2_with fail
    refine (heldIntS_any _ _ _ _ _ _ (by simpa [marks_length] using hG10.ints) (by omega) (by omega) (by omega)).mono ?_
    rintro e w' ⟨rfl, rfl⟩
    -- another call answers the same and leaves the marks alone
    go_wp2_with fail
    have hz10 : bx < w10.heap.size := by omega
    obtain ⟨o0, o1⟩ := HK.out _ q10
    have HK3 : Hid (∀ W', Below w10.heap.size w10 W' → (W'.cell? ⟨bx, 0, none⟩ = some (.int .i64 m.x0) ∧ W'.cell? ⟨bx, 1, none⟩ = some (.int .i64 m.x1))) :=
      hide fun W' h => ⟨(h.cell (p := ⟨bx, 0, none⟩) hz10).trans o0, (h.cell (p := ⟨bx, 1, none⟩) hz10).trans o1⟩
    have HS3 := hide (fun W' (h : Below w10.heap.size w10 W') => And.intro h (HK3.out W' h))
    have HT3 := hide (fun W (h : Below w10.heap.size w10 W) => toIntS_any A zs.length c zs W ((hr10.below h (by omega)).more (Nat.le_trans (by omega) h.size)) hcap)
    first | go_region_held3 (fun W => Below w10.heap.size w10 W ∧ W.cell? ⟨bx, 0, none⟩ = some (.int .i64 m.x0) ∧ W.cell? ⟨bx, 1, none⟩ = some (.int .i64 m.x1))
      (first | exact HS3.out _ (Below.refl _ _).drew | exact HS3.out _ (below_next (And.left (by assumption)) hb12) | exact HS3.out _ (below_next (And.left (by assumption)) hbx11) | exact HS3.out _ (below_next (And.left (by assumption)) hb11) | go_keep)
      (first
      | (go_at_call 9; (with_reducible refine (HT3.out _ (And.left (by assumption))).mono ?_); rintro e w11 ⟨g4, ha4, hz4, rfl, hrow4, hb11⟩)
      | (go_at_call 15; (with_reducible refine (HV.out _).mono ?_); rintro e x11 ⟨rfl, hbx11⟩)
      | (go_at_call 16; (with_reducible refine (HIm.out _ _ _ ((hrow4.ints hz4).below hbx11 (Nat.le_refl _)) hbx11.size).mono ?_); rintro e w12 ⟨Ah, ch, rfl, hh1, hh2, hH12, hb12⟩)) | fail
    have hB12 : Below w10.heap.size w10 w12 := And.left (by assumption : Below w10.heap.size w10 w12 ∧ _)
    have s12 := hB12.size
    have hW12 := hW10.below hB12 (by omega)
    have hG12 := hG10.below hB12
    clear hrow4 hz4 hb11 hbx11 hb12 HT3 HS3 ha4
    go_wp2_with fail
    refine (eqIntS_same _ _ _ _ _ _ _ _ _ hH12.ints hW12 (Nat.le_refl _) (by omega) (by omega)).mono ?_
    rintro e w13 ⟨rfl, hb13⟩
    have hG13 := hG12.below hb13
    go_wp2_with fail
    refine (heldIntS_any _ _ _ _ _ _ (by simpa [marks_length] using hG13.ints) (by omega) (by omega) (by omega)).mono ?_
    rintro e w' ⟨rfl, rfl⟩
    go_wp2_with fail
    go_ret
    exact ⟨rfl, by rw [hbw]; exact hA.trans ((below_next (below_next q10 hB12) hb13).mono s0)⟩
end Go.Proofs.Ytpeblkbbnkinaaa
