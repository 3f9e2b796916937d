
/-
  THE WALK OF PARSECUPS'S EXACT LAW, the given frame left out. (Printed by lawyc.py.)
-/
import Derived.Test.YtnmafcbkipkppaaDoorCuL
import Derived.Test.YtnmafcbkipkppaaDoorCuO
import Derived.Test.YtnmafcbkipkppaaDoorCuYI
import Derived.Test.YtnmafcbkipkppaaDoorCuYG
namespace Go.Proofs.YtnmafcbkipkppaaDoor
open Go.RowKit Go.Deep
set_option linter.unusedVariables false

theorem ycL_len (l : List UInt8) : (ycL l).length ≤ 1048576 := by
  unfold ycL
  cases hp : ycP l with
  | none => simp
  | some x =>
    obtain ⟨zs, u⟩ := x
    have := (cu_small (ycG_some hp).1).1
    simp
    omega
set_option maxRecDepth 1000000 in
set_option maxHeartbeats 4000000 in
theorem lawParseCups (l : List UInt8) (w : World) (hP : LaidP w ∧ Tab w) :
    Calls Tryd.prog 3 #[.string (bs l)] w fun e w' => e = .returned (.bool true) ∧ Below w.heap.size w w' := by
  by_cases hbig : 1048576 < l.length
  · have hlen := str_len l
    clear hP
    generalize bs l = s at *
    go_enter Tryd.func3, Tryd.ntmps3
    go_wp2_with fail
    go_ret
    exact ⟨rfl, Below.refl _ _⟩
  · have hle : ¬ (1048576 < (l.length : Int)) := by omega
    have hlen := str_len l
    have HSP := hide (specParseCups_any l (by omega) w)
    have HIM := hide (fun W (h : Below w.heap.size w W) => ParseCups_any l (by omega) W ⟨hP.1.next h, hP.2.next h⟩)
    have hF : (ycL l).length ≤ 1048576 := ycL_len l
    clear hP hbig
    generalize bs l = s at *
    generalize ycL l = fs at *
    generalize ycU l = fu at *
    generalize ycOk l = bb at *
    have nb : (bb != bb) = false := by simp
    go_enter Tryd.func3, Tryd.ntmps3
    have q := hide (Below.refl w.heap.size w)
    go_wp2_with fail
    refine (HSP.out).mono ?_
    rintro e w1 ⟨Aw, cw, rfl, hw1, hw2, hownw, hb1⟩
    have S1 := hide hb1.size
    replace q := hide (below_next q.out hb1)
    clear hb1
    have RW := hide hownw.ints
    clear hownw hw1 hw2
    have hbx : Below w1.heap.size w1 (w1.alloc (.cells #[.slice Aw fs.length cw, .int .i64 fu] 24)) := (Below.refl _ _).alloc (Nat.le_refl _) _
    have BWn := hide (Bx.new w1 24 (.slice Aw fs.length cw) (.int .i64 fu))
    have T1 := hide (show (w1.alloc (.cells #[.slice Aw fs.length cw, .int .i64 fu] 24)).heap.size = w1.heap.size + 1 from by simp)
    replace q := hide (below_next q.out hbx)
    replace RW := hide (RW.out.below hbx (by have := S1.out; have := T1.out; omega))
    clear hbx
    have BW := BWn
    clear BWn
    go_wp2_with fail
    generalize (w1.alloc (.cells #[.slice Aw fs.length cw, .int .i64 fu] 24)) = v1 at *
    try go_wp2_with fail
    refine (HIM.out _ q.out).mono ?_
    rintro e w2 ⟨Ag, cg, rfl, hg1, hg2, hOG, hb2⟩
    have S2 := hide hb2.size
    replace q := hide (below_next q.out hb2)
    replace RW := hide (RW.out.below hb2 (by have := S1.out; have := T1.out; have := S2.out; omega))
    replace BW := hide (BW.out.next hb2)
    have LG := hide (show ∀ ad : Addr, Ag = some ad → v1.heap.size ≤ ad.block ∧ ad.block < w2.heap.size from fun ad hA => by
      rcases hOG.form with ⟨h1, _⟩ | ⟨g, c', h1, hb, hlt, _⟩
      · injection h1 with h1; rw [h1] at hA; cases hA
      · injection h1 with h1; rw [h1] at hA; injection hA with hA; subst hA; exact ⟨hb, hlt⟩)
    have OG := hide hOG
    clear hOG hb2
    have hbx : Below w2.heap.size w2 (w2.alloc (.cells #[.slice Ag fs.length cg, .int .i64 fu] 24)) := (Below.refl _ _).alloc (Nat.le_refl _) _
    have BGn := hide (Bx.new w2 24 (.slice Ag fs.length cg) (.int .i64 fu))
    have T2 := hide (show (w2.alloc (.cells #[.slice Ag fs.length cg, .int .i64 fu] 24)).heap.size = w2.heap.size + 1 from by simp)
    replace q := hide (below_next q.out hbx)
    replace RW := hide (RW.out.below hbx (by have := S1.out; have := T1.out; have := S2.out; have := T2.out; omega))
    replace BW := hide (BW.out.next hbx)
    replace OG := hide (OG.out.below hbx)
    clear hbx
    have BG := BGn
    clear BGn
    have xBW0 := BW.out.c0
    have xBW1 := BW.out.c1
    have xBG0 := BG.out.c0
    have xBG1 := BG.out.c1
    go_wp2_with fail
    generalize (w2.alloc (.cells #[.slice Ag fs.length cg, .int .i64 fu] 24)) = v2 at *
    try go_wp2_with fail
    refine (eqCups_same _ _ _ _ _ _ _ _ _ _ OG.out.ints RW.out (Nat.le_refl _) (by have := S1.out; have := T1.out; have := S2.out; have := T2.out; omega) (by omega)).mono ?_
    rintro e w3 ⟨rfl, hb3⟩
    clear xBW0 xBW1 xBG0 xBG1
    have S3 := hide hb3.size
    replace q := hide (below_next q.out hb3)
    replace RW := hide (RW.out.below hb3 (by have := S1.out; have := T1.out; have := S2.out; have := T2.out; have := S3.out; omega))
    replace BW := hide (BW.out.next hb3)
    replace OG := hide (OG.out.below hb3)
    replace BG := hide (BG.out.next hb3)
    clear hb3
    have xBG0 := BG.out.c0
    have xBG1 := BG.out.c1
    go_wp2_with fail
    refine (markCups_any _ _ _ _ _ _ _ _ OG.out rfl (by omega) (by omega) (by omega) (by have := S1.out; have := T1.out; have := S2.out; have := T2.out; have := S3.out; omega)).mono ?_
    rintro e w4 ⟨rfl, hG, hb4, hoth⟩
    clear xBG0 xBG1
    have S4 := hide hb4.size
    replace q := hide (q.out.trans (hb4.mono (by have := S1.out; have := T1.out; have := S2.out; have := T2.out; have := S3.out; have := S4.out; omega)))
    replace RW := hide (RW.out.below hb4 (by have := S1.out; have := T1.out; have := S2.out; have := T2.out; have := S3.out; have := S4.out; omega))
    replace BW := hide (BW.out.below hb4 (by have := S1.out; have := T1.out; have := S2.out; have := T2.out; have := S3.out; have := S4.out; omega))
    replace BG := hide (show Bx w4 w2.heap.size 24 (.slice Ag fs.length cg) (.int .i64 fu) from (hoth _ BG.out.lt (fun ad hA e => by have h' := (LG.out ad hA).2; have := S1.out; have := T1.out; have := S2.out; have := T2.out; have := S3.out; have := S4.out; omega)).trans BG.out)
    replace OG := hide hG
    clear hG hoth hb4
    have xBG0 := BG.out.c0
    have xBG1 := BG.out.c1
    go_wp2_with fail
    refine (heldCups_any _ _ _ _ _ _ _ (by simpa [marks_length] using OG.out.ints) (Nat.le_refl _) (by omega) (by omega) (by omega)).mono ?_
    rintro e w5 ⟨rfl, hb5⟩
    clear xBG0 xBG1
    have S5 := hide hb5.size
    replace q := hide (below_next q.out hb5)
    replace RW := hide (RW.out.below hb5 (by have := S1.out; have := T1.out; have := S2.out; have := T2.out; have := S3.out; have := S4.out; have := S5.out; omega))
    replace BW := hide (BW.out.next hb5)
    replace OG := hide (OG.out.below hb5)
    replace BG := hide (BG.out.next hb5)
    clear hb5
    go_wp2_with fail
    refine (HIM.out _ q.out).mono ?_
    rintro e w6 ⟨Ah, ch, rfl, hh1, hh2, hOH, hb6⟩
    have S6 := hide hb6.size
    replace q := hide (below_next q.out hb6)
    replace RW := hide (RW.out.below hb6 (by have := S1.out; have := T1.out; have := S2.out; have := T2.out; have := S3.out; have := S4.out; have := S5.out; have := S6.out; omega))
    replace BW := hide (BW.out.next hb6)
    replace OG := hide (OG.out.below hb6)
    replace BG := hide (BG.out.next hb6)
    clear hb6
    have OH := hide hOH
    clear hOH
    have hbx : Below w6.heap.size w6 (w6.alloc (.cells #[.slice Ah fs.length ch, .int .i64 fu] 24)) := (Below.refl _ _).alloc (Nat.le_refl _) _
    have BHn := hide (Bx.new w6 24 (.slice Ah fs.length ch) (.int .i64 fu))
    have T6 := hide (show (w6.alloc (.cells #[.slice Ah fs.length ch, .int .i64 fu] 24)).heap.size = w6.heap.size + 1 from by simp)
    replace q := hide (below_next q.out hbx)
    replace RW := hide (RW.out.below hbx (by have := S1.out; have := T1.out; have := S2.out; have := T2.out; have := S3.out; have := S4.out; have := S5.out; have := S6.out; have := T6.out; omega))
    replace BW := hide (BW.out.next hbx)
    replace OG := hide (OG.out.below hbx)
    replace BG := hide (BG.out.next hbx)
    replace OH := hide (OH.out.below hbx)
    clear hbx
    have BH := BHn
    clear BHn
    have xBW0 := BW.out.c0
    have xBW1 := BW.out.c1
    have xBH0 := BH.out.c0
    have xBH1 := BH.out.c1
    go_wp2_with fail
    generalize (w6.alloc (.cells #[.slice Ah fs.length ch, .int .i64 fu] 24)) = v3 at *
    try go_wp2_with fail
    refine (eqCups_same _ _ _ _ _ _ _ _ _ _ OH.out.ints RW.out (Nat.le_refl _) (by have := S1.out; have := T1.out; have := S2.out; have := T2.out; have := S3.out; have := S4.out; have := S5.out; have := S6.out; have := T6.out; omega) (by omega)).mono ?_
    rintro e w7 ⟨rfl, hb7⟩
    clear xBW0 xBW1 xBH0 xBH1
    have S7 := hide hb7.size
    replace q := hide (below_next q.out hb7)
    replace RW := hide (RW.out.below hb7 (by have := S1.out; have := T1.out; have := S2.out; have := T2.out; have := S3.out; have := S4.out; have := S5.out; have := S6.out; have := T6.out; have := S7.out; omega))
    replace BW := hide (BW.out.next hb7)
    replace OG := hide (OG.out.below hb7)
    replace BG := hide (BG.out.next hb7)
    replace OH := hide (OH.out.below hb7)
    replace BH := hide (BH.out.next hb7)
    clear hb7
    have xBG0 := BG.out.c0
    have xBG1 := BG.out.c1
    go_wp2_with fail
    refine (heldCups_any _ _ _ _ _ _ _ (by simpa [marks_length] using OG.out.ints) (Nat.le_refl _) (by omega) (by omega) (by omega)).mono ?_
    rintro e w8 ⟨rfl, hb8⟩
    clear xBG0 xBG1
    have S8 := hide hb8.size
    replace q := hide (below_next q.out hb8)
    replace RW := hide (RW.out.below hb8 (by have := S1.out; have := T1.out; have := S2.out; have := T2.out; have := S3.out; have := S4.out; have := S5.out; have := S6.out; have := T6.out; have := S7.out; have := S8.out; omega))
    replace BW := hide (BW.out.next hb8)
    replace OG := hide (OG.out.below hb8)
    replace BG := hide (BG.out.next hb8)
    replace OH := hide (OH.out.below hb8)
    replace BH := hide (BH.out.next hb8)
    clear hb8
    go_wp2_with fail
    go_ret
    exact ⟨rfl, q.out⟩
end Go.Proofs.YtnmafcbkipkppaaDoor
