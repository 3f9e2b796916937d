
/-
  THE WALKS OF EXACT LAWS WHOSE RESULT IS CUPS, the given frame left out: for all arguments the law returns true and writes nothing that was there.
-/
import Derived.Test.YtbfolodadejcoaaDoorCuL
import Derived.Test.YtbfolodadejcoaaDoorCuO
import Derived.Deep.RegionHeld3
import Derived.Test.YtbfolodadejcoaaDoorCuX
import Derived.Test.YtbfolodadejcoaaDoorCuXB
namespace Go.Proofs.YtbfolodadejcoaaDoor
open Go.RowKit Go.Deep
set_option linter.unusedVariables false

set_option maxHeartbeats 1000000 in
set_option maxRecDepth 100000 in
theorem lawMixTwo (A : Option Addr) (n c : Nat) (zs : List Int) (u p0 p1 : Int) (w : World) (hr : Ints w w.heap.size A n zs) (hmax : n ≤ 9223372036854775807) (hT : Tab w) :
    Calls Tryd.prog 3 #[.agg #[.slice A n c, .int .i64 u], .int .i64 p0, .int .i64 p1] w fun e w' => e = .returned (.bool true) ∧ Below w.heap.size w w' := by
  obtain rfl := hr.len
  have KB := hide (show Below w.heap.size w (w.alloc (.cells #[.slice A zs.length c, .int .i64 u] 24)) from (Below.refl _ _).alloc (Nat.le_refl _) _)
  have KX := hide (Bx.new w 24 (.slice A zs.length c) (.int .i64 u))
  have HZ := hide (fun W => szCups_any A zs.length c u 1048576 W hmax (by omega) (by omega))
  by_cases hbig : (1048576 : Int) < zs.length
  · rw [if_pos hbig] at HZ
    clear hbig
    go_enter Tryd.func3, Tryd.ntmps3
    go_wp2_with fail
    refine (HZ.out _).mono ?_; rintro e w1 ⟨rfl, hb1⟩
    go_wp2_with fail
    go_ret
    exact ⟨rfl, KB.out.trans (hb1.mono KB.out.size)⟩
  · rw [if_neg hbig] at HZ
    have hlt : ¬ ((1048576 : Int) - (zs.length : Int) < 0) := by omega
    have hcap : zs.length ≤ 17592186044416 := by omega
    have HT := hide hT
    have hF : (pmL zs u (mm p0 p1)).length ≤ 1048576 := pmL_len zs u (mm p0 p1)
    generalize hfs : pmL zs u (mm p0 p1) = fs at *
    have Hfs := hide hfs
    clear hfs
    generalize hfu : pmU zs u (mm p0 p1) = fu at *
    have Hfu := hide hfu
    clear hfu
    generalize hbs : pmOk zs u (mm p0 p1) = bs at *
    have Hbs := hide hbs
    clear hbs hT
    go_enter Tryd.func3, Tryd.ntmps3
    go_wp2_with fail
    refine (HZ.out _).mono ?_; rintro e w0 ⟨rfl, hb0⟩
    have r0 := hide hb0
    have q0 := hide (KB.out.trans (hb0.mono KB.out.size))
    clear hb0 HZ
    have x0 := (KX.out.next r0.out).c0
    have x1 := (KX.out.next r0.out).c1
    -- the model's answer
    go_wp2_with fail
    refine (toCups_any _ _ _ _ _ _ (hr.next q0.out) hcap).mono ?_
    rintro e w1 ⟨g1, _, hz1, rfl, hrow1, hb1⟩
    have q1 := hide (below_next q0.out hb1)
    have r1 := hide (below_next r0.out hb1)
    clear hb1 x0 x1
    go_wp2_with fail
    refine (specMixTwo_any _ _ _ _ _ _ p0 p1 _ (hrow1.ints hz1) (Nat.le_refl _) (by omega)).mono ?_
    rw [Hfs.out, Hfu.out, Hbs.out]
    rintro e w2 ⟨Aw, cw, rfl, hw1, hw2, hownw, hb2⟩
    have bb : Below w2.heap.size w2 (w2.alloc (.cells #[.slice Aw fs.length cw, .int .i64 fu] 26)) := (Below.refl _ _).alloc (Nat.le_refl _) _
    have BW := hide (Bx.new w2 26 (.slice Aw fs.length cw) (.int .i64 fu))
    have OW := hide ((hownw.below bb).ints)
    have q2 := hide (below_next q1.out (below_next hb2 bb))
    have r2 := hide (below_next r1.out (below_next hb2 bb))
    have sW := hide (show w2.heap.size < (w2.alloc (.cells #[.slice Aw fs.length cw, .int .i64 fu] 26)).heap.size from by simp)
    clear hownw hb2 bb hrow1 hz1
    have x0 := (KX.out.next r2.out).c0
    have x1 := (KX.out.next r2.out).c1
    -- the program's
    go_wp2_with fail
    generalize (w2.alloc (.cells #[.slice Aw fs.length cw, .int .i64 fu] 26)) = W2 at *
    try go_wp2_with fail
    refine (toCups_any _ _ _ _ _ _ (hr.next q2.out) hcap).mono ?_
    rintro e w3 ⟨g2, ha2, hz2, rfl, hrow2, hb3⟩
    have BW := hide (BW.out.next hb3)
    have OW := hide (OW.out.below hb3 (Nat.le_refl _))
    have sW3 := hide hb3.size
    have bx : Below w3.heap.size w3 (w3.alloc (.cells #[.slice (some ⟨g2, 0, none⟩) zs.length zs.length, .int .i64 u] 26)) := (Below.refl _ _).alloc (Nat.le_refl _) _
    have Y := hide (Bx.new w3 26 (.slice (some ⟨g2, 0, none⟩) zs.length zs.length) (.int .i64 u))
    have BW := hide (BW.out.next bx)
    have OW := hide (OW.out.below bx (Nat.le_trans sW3.out (Nat.le_refl _)))
    have X3 := hide ((Own.of_row hrow2 ha2 (by unfold maxLen; omega)).below bx)
    have q3 := hide (below_next q2.out (below_next hb3 bx))
    have r3 := hide (below_next r2.out (below_next hb3 bx))
    have hx3 := hide ((hrow2.ints hz2).next bx)
    have gx := hide (show W2.heap.size ≤ g2 ∧ g2 < w3.heap.size ∧ W2.heap.size ≤ w3.heap.size from ⟨ha2, hz2, hb3.size⟩)
    have sx := hide (show (w3.alloc (.cells #[.slice (some ⟨g2, 0, none⟩) zs.length zs.length, .int .i64 u] 26)).heap.size = w3.heap.size + 1 from by simp)
    clear hb3 hrow2 hz2 ha2 x0 x1 bx
    go_wp2_with fail
    generalize (w3.alloc (.cells #[.slice (some ⟨g2, 0, none⟩) zs.length zs.length, .int .i64 u] 26)) = W3 at *
    try go_wp2_with fail
    refine (MixTwo_any _ _ _ _ _ _ p0 p1 _ hx3.out (Nat.le_refl _) (by omega) (HT.out.next q3.out)).mono ?_
    rw [Hfs.out, Hfu.out, Hbs.out]
    rintro e w4 ⟨Ag, cg, rfl, hg1, hg2, hG4, hb4⟩
    have bb : Below w4.heap.size w4 (w4.alloc (.cells #[.slice Ag fs.length cg, .int .i64 fu] 26)) := (Below.refl _ _).alloc (Nat.le_refl _) _
    have BG := hide (Bx.new w4 26 (.slice Ag fs.length cg) (.int .i64 fu))
    have OG := hide (hG4.below bb)
    have hb4' := below_next hb4 bb
    have gG := hide (show ∀ ad, Ag = some ad → ad.block < w4.heap.size from fun ad hA => by
      rcases hG4.form with ⟨h1, _⟩ | ⟨gg, cc, h1, _, hlt, _⟩
      · injection h1 with h1; rw [h1] at hA; cases hA
      · injection h1 with h1; rw [h1] at hA; injection hA with hA; subst hA; exact hlt)
    have BW := hide (BW.out.next hb4')
    have OW := hide (OW.out.below hb4' (by have := W3; have := sW3.out; have := sx.out; omega))
    have X4 := hide (X3.out.below hb4')
    have Y := hide (Y.out.next hb4')
    have q4 := hide (below_next q3.out hb4')
    have r4 := hide (below_next r3.out hb4')
    have sG := hide (show W3.heap.size ≤ w4.heap.size ∧ (w4.alloc (.cells #[.slice Ag fs.length cg, .int .i64 fu] 26)).heap.size = w4.heap.size + 1 from ⟨hb4.size, by simp⟩)
    clear hG4 hb4 bb hb4'
    have y0 := BW.out.c0
    have y1 := BW.out.c1
    -- they are the same, and the argument's copy is as it was
    go_wp2_with fail
    generalize (w4.alloc (.cells #[.slice Ag fs.length cg, .int .i64 fu] 26)) = W4 at *
    have OW4 := hide (OW.out)
    refine (eqCups_same _ _ _ _ _ _ _ _ _ _ OG.out.ints OW4.out (Nat.le_refl _) (by have := sW.out; have := sW3.out; have := sx.out; have := sG.out; omega) (by omega)).mono ?_
    rintro e w5 ⟨rfl, hb5⟩
    have BW := hide (BW.out.next hb5)
    have BG := hide (BG.out.next hb5)
    have OG := hide (OG.out.below hb5)
    have OW := hide (OW.out.below hb5 (by have := sW.out; have := sW3.out; have := sx.out; have := sG.out; omega))
    have X5 := hide (X4.out.below hb5)
    have Y := hide (Y.out.next hb5)
    have q5 := hide (below_next q4.out hb5)
    have r5 := hide (below_next r4.out hb5)
    have s5 := hide hb5.size
    clear hb5 y0 y1 X4
    have HS5 := hide (fun W (h : Below w5.heap.size w5 W) => And.intro h (And.intro (Y.out.next h).c0 (And.intro (Y.out.next h).c1 (And.intro (KX.out.next (below_next r5.out h)).c0 (KX.out.next (below_next r5.out h)).c1))))
    have HTC := hide (fun W (h : Below w5.heap.size w5 W) => toCups_any A zs.length c zs u W (hr.next (below_next q5.out h)) hcap)
    have HEQ := hide (fun W (h : Below w5.heap.size w5 W) g (h' : Ints W W.heap.size (some ⟨g, 0, none⟩) zs.length zs) => eqCups_same (some ⟨g2, 0, none⟩) (some ⟨g, 0, none⟩) zs.length zs.length zs.length _ _ zs u W ((X5.out.below h).ints) h' (Nat.le_refl _) (Nat.le_refl _) hcap)
    have y4 := Y.out.c0
    have y5 := Y.out.c1
    have x0 := (KX.out.next r5.out).c0
    have x1 := (KX.out.next r5.out).c1
    go_wp2_with fail
    go_region_held3 (fun W => Below w5.heap.size w5 W ∧ W.cell? ⟨w3.heap.size, 0, none⟩ = some (.slice (some ⟨g2, 0, none⟩) zs.length zs.length) ∧ W.cell? ⟨w3.heap.size, 1, none⟩ = some (.int .i64 u) ∧
          W.cell? ⟨w.heap.size, 0, none⟩ = some (.slice A zs.length c) ∧ W.cell? ⟨w.heap.size, 1, none⟩ = some (.int .i64 u))
      (first | exact HS5.out _ (Below.refl _ _).drew | exact HS5.out _ (below_next (And.left (by assumption)) hb7) | exact HS5.out _ (below_next (And.left (by assumption)) hb6) | go_keep)
      (first
      | (go_at_call 7; (with_reducible refine (HTC.out _ (And.left (by assumption))).mono ?_); rintro e w6 ⟨g3, _, hz3, rfl, hrow3, hb6⟩)
      | (go_at_call 9; (with_reducible refine (HEQ.out _ (And.left (by assumption)) _ (hrow3.ints hz3)).mono ?_); rintro e w7 ⟨rfl, hb7⟩))
    have hB7 : Below w5.heap.size w5 w7 := And.left (by assumption : Below w5.heap.size w5 w7 ∧ _)
    have BW := hide (BW.out.next hB7)
    have BG := hide (BG.out.next hB7)
    have OG := hide (OG.out.below hB7)
    have OW := hide (OW.out.below hB7 (by have := s5.out; have := sW.out; have := sW3.out; have := sx.out; have := sG.out; omega))
    have X7 := hide (X5.out.below hB7)
    have Y := hide (Y.out.next hB7)
    have q7 := hide (below_next q5.out hB7)
    have r7 := hide (below_next r5.out hB7)
    have s7 := hide hB7.size
    clear hB7 hb7 hb6 X5 hrow3 hz3 HS5 HTC HEQ y4 y5 x0 x1
    have y4 := Y.out.c0
    have y5 := Y.out.c1
    -- the argument's copy is marked: the answer stays
    go_wp2_with fail
    refine (markCups_any _ _ _ _ _ _ _ _ X7.out rfl (by omega) (by omega) (by omega) (by have := sW.out; have := sW3.out; have := sx.out; have := sG.out; have := s5.out; have := s7.out; omega)).mono ?_
    rintro e w8 ⟨rfl, _, hb8, hoth8⟩
    have s8 := hide hb8.size
    have BW := hide (BW.out.below hb8 (by have := sW.out; exact this))
    have OW := hide (OW.out.below hb8 (Nat.le_refl _))
    have BG := hide (show Bx w8 w4.heap.size 26 (.slice Ag fs.length cg) (.int .i64 fu) from (hoth8 _ BG.out.lt (fun ad hA e => by injection hA with hA; subst hA; have := gx.out; have := sG.out; have := sx.out; simp at e; omega)).trans BG.out)
    have OG := hide (show Own w8 W3.heap.size 3 (.slice Ag fs.length cg) fs from OG.out.keep fun h hh hl => hoth8 h hl (fun ad hA e => by injection hA with hA; subst hA; have := gx.out; have := sx.out; simp at e; omega))
    have q8 := hide (q7.out.trans (hb8.mono (by have := q2.out.size; omega)))
    have r8 := hide (r7.out.trans (hb8.mono (by have := r2.out.size; omega)))
    clear hb8 hoth8
    have y0 := BW.out.c0
    have y1 := BW.out.c1
    have y2 := BG.out.c0
    have y3 := BG.out.c1
    go_wp2_with fail
    have le28 : Hid (W2.heap.size ≤ w8.heap.size) := hide (by have := sW3.out; have := sG.out; have := s5.out; have := s8.out; have := sx.out; have := s7.out; omega)
    refine (eqCups_same _ _ _ _ _ _ _ _ _ _ OG.out.ints OW.out (Nat.le_refl _) le28.out (by omega)).mono ?_
    rintro e w9 ⟨rfl, hb9⟩
    have BW := hide (BW.out.next hb9)
    have BG := hide (BG.out.next hb9)
    have OG := hide (OG.out.below hb9)
    have OW := hide (OW.out.below hb9 le28.out)
    have q9 := hide (below_next q8.out hb9)
    have r9 := hide (below_next r8.out hb9)
    have s9 := hide hb9.size
    have le9 : Hid (W3.heap.size ≤ w9.heap.size) := hide (by have := sG.out; have := s5.out; have := s8.out; have := s9.out; have := sx.out; have := s7.out; omega)
    clear hb9 y0 y1 y2 y3
    have y2 := BG.out.c0
    have y3 := BG.out.c1
    -- the answer is marked, and bears its marks
    go_wp2_with fail
    refine (markCups_any _ _ _ _ _ _ _ _ OG.out rfl (by omega) (by omega) (by omega) le9.out).mono ?_
    rintro e w10 ⟨rfl, hG10, hb10, hoth10⟩
    have BW := hide (BW.out.below hb10 (by have := sW.out; have := sW3.out; have := sx.out; omega))
    have BG := hide (show Bx w10 w4.heap.size 26 (.slice Ag fs.length cg) (.int .i64 fu) from (hoth10 _ BG.out.lt (fun ad hA e => by have := gG.out ad hA; omega)).trans BG.out)
    have OG := hide hG10
    have OW := hide (OW.out.below hb10 (by have := sW3.out; have := sx.out; omega))
    have q10 := hide (q9.out.trans (hb10.mono (by have := q3.out.size; omega)))
    have s10 := hide hb10.size
    have r10 := hide (r9.out.trans (hb10.mono (by have := r3.out.size; omega)))
    clear hb10 hoth10 hG10 y2 y3
    have y2 := BG.out.c0
    have y3 := BG.out.c1
    go_wp2_with fail
    refine (heldCups_any _ _ _ _ _ _ _ (by simpa [marks_length] using OG.out.ints) (Nat.le_refl _) (by omega) (by omega) (by omega)).mono ?_
    rintro e w11 ⟨rfl, hb11⟩
    have BW := hide (BW.out.next hb11)
    have BG := hide (BG.out.next hb11)
    have OG := hide (OG.out.below hb11)
    have le10 : Hid (W2.heap.size ≤ w10.heap.size) := hide (by have := le28.out; have := s9.out; have := s10.out; omega)
    have OW := hide (OW.out.below hb11 le10.out)
    have q11 := hide (below_next q10.out hb11)
    have r11 := hide (below_next r10.out hb11)
    have s11 := hide hb11.size
    clear hb11 y2 y3
    -- another call answers the same and leaves the marks alone
    have x0 := (KX.out.next r11.out).c0
    have x1 := (KX.out.next r11.out).c1
    go_wp2_with fail
    refine (toCups_any _ _ _ _ _ _ (hr.next q11.out) hcap).mono ?_
    rintro e w12 ⟨g4, ha4, hz4, rfl, hrow4, hb12⟩
    have BW := hide (BW.out.next hb12)
    have BG := hide (BG.out.next hb12)
    have OG := hide (OG.out.below hb12)
    have OW := hide (OW.out.below hb12 (by have := le10.out; have := s11.out; omega))
    have q12 := hide (below_next q11.out hb12)
    have r12 := hide (below_next r11.out hb12)
    have s12 := hide hb12.size
    clear hb12 x0 x1
    go_wp2_with fail
    refine (MixTwo_any _ _ _ _ _ _ p0 p1 _ (hrow4.ints hz4) (Nat.le_refl _) (by omega) (HT.out.next q12.out)).mono ?_
    rw [Hfs.out, Hfu.out, Hbs.out]
    rintro e w13 ⟨Ah, ch, rfl, hh1, hh2, hH13, hb13⟩
    have bb : Below w13.heap.size w13 (w13.alloc (.cells #[.slice Ah fs.length ch, .int .i64 fu] 26)) := (Below.refl _ _).alloc (Nat.le_refl _) _
    have hb13' := below_next hb13 bb
    have BW := hide (BW.out.next hb13')
    have BG := hide (BG.out.next hb13')
    have OG := hide (OG.out.below hb13')
    have OW := hide (OW.out.below hb13' (by have := le10.out; have := s11.out; have := s12.out; omega))
    have OH := hide (hH13.below bb)
    have q13 := hide (below_next q12.out hb13')
    have r13 := hide (below_next r12.out hb13')
    have s13 := hide hb13'.size
    clear hb13 hb13' bb hH13 hrow4 hz4 ha4
    have y0 := BW.out.c0
    have y1 := BW.out.c1
    go_wp2_with fail
    generalize (w13.alloc (.cells #[.slice Ah fs.length ch, .int .i64 fu] 26)) = W13 at *
    try go_wp2_with fail
    refine (eqCups_same _ _ _ _ _ _ _ _ _ _ OH.out.ints OW.out (Nat.le_refl _) (by have := le10.out; have := s11.out; have := s12.out; have := s13.out; omega) (by omega)).mono ?_
    rintro e w14 ⟨rfl, hb14⟩
    have BG := hide (BG.out.next hb14)
    have OG := hide (OG.out.below hb14)
    have q14 := hide (below_next q13.out hb14)
    have r14 := hide (below_next r13.out hb14)
    clear hb14 y0 y1
    have y2 := BG.out.c0
    have y3 := BG.out.c1
    go_wp2_with fail
    refine (heldCups_any _ _ _ _ _ _ _ (by simpa [marks_length] using OG.out.ints) (Nat.le_refl _) (by omega) (by omega) (by omega)).mono ?_
    rintro e w15 ⟨rfl, hb15⟩
    have q15 := hide (below_next q14.out hb15)
    have r15 := hide (below_next r14.out hb15)
    clear hb15
    go_wp2_with fail
    go_ret
    exact ⟨rfl, q15.out⟩
end Go.Proofs.YtbfolodadejcoaaDoor
