
/-
  THE WALKS OF EXACT LAWS OVER A PUZZLE, the given frame left out: for every puzzle the law returns true and writes nothing that was there. (Printed by pzlaw.py.)
-/
import Derived.Test.YtfmncffjaholmaaLaws0
import Derived.Test.YtfmncffjaholmaaMark
import Derived.Test.YtfmncffjaholmaaPzL
import Derived.Deep.RegionHeld3
import Derived.Deep.Cut
import Derived.Test.YtfmncffjaholmaaPzMn
namespace Go.Proofs.Ytfmncffjaholmaa
open Go.RowKit Go.Deep
set_option linter.unusedVariables false

set_option maxRecDepth 100000 in
set_option maxHeartbeats 4000000 in
theorem lawMakePuzzle (A : Option Addr) (n c : Nat) (zs : List Int) (m s : Int) (w : World) (hr : Ints w w.heap.size A n zs) :
    Calls Try.prog 3 #[.slice A n c, .int .i64 m, .int .i64 s] w fun e w' => e = .returned (.bool true) ∧ Below w.heap.size w w' := by
  obtain rfl := hr.len
  by_cases hbig : 1048576 < zs.length
  · go_enter Try.func3, Try.ntmps3
    go_wp2_with fail
    go_ret
    exact ⟨rfl, Below.refl _ _⟩
  · have hcap : zs.length ≤ 17592186044416 := by omega
    have hlow : zs.length ≤ 1048576 := by omega
    have KB := hide (Below.refl w.heap.size w)
    have HSP := hide (fun g W (h : Ints W W.heap.size (some ⟨g, 0, none⟩) zs.length zs) => specMakePuzzle_any (some ⟨g, 0, none⟩) zs.length zs.length W.heap.size zs m s W h (Nat.le_refl _) hcap)
    have HIM := hide (fun g W (h : Ints W W.heap.size (some ⟨g, 0, none⟩) zs.length zs) => MakePuzzle_any (some ⟨g, 0, none⟩) zs.length zs.length W.heap.size zs m s W h (Nat.le_refl _) hcap)
    have hF : (mkPL zs m s).length ≤ 1048576 := mkPL_len zs m s
    generalize mkPL zs m s = fs at *
    generalize mkPU zs m s = fu at *
    generalize mkOk zs m s = bb at *
    have nb : (bb != bb) = false := by simp
    have HR := hide hr
    clear hr hbig
    go_enter Try.func3, Try.ntmps3
    have S0 := hide KB.out.size
    have q := KB
    go_wp2_with fail
    refine (toIntS_any _ _ _ _ _ (((HR.out.below q.out (Nat.le_refl _)).more (by have := S0.out; omega))) hcap).mono ?_
    rintro e w1 ⟨ga, ha1, hz1, rfl, hrow1, hb1⟩
    have S1 := hide (hb1).size
    have q := hide (below_next KB.out hb1)
    clear hb1
    have Oa := hide (Own.of_row hrow1 ha1 (by unfold maxLen; omega))
    have La := hide (show ∀ ad : Addr, some (⟨ga, 0, none⟩ : Addr) = some ad → w.heap.size ≤ ad.block ∧ ad.block < w1.heap.size from fun ad hA => by injection hA with hA; subst hA; exact ⟨ha1, hz1⟩)
    clear hrow1 ha1 hz1
    go_wp2_with fail
    refine (HSP.out _ _ Oa.out.ints).mono ?_
    rintro e w2 ⟨Aw, cw, rfl, hownw, hb2⟩
    have S2 := hide (hb2).size
    replace q := hide (below_next q.out hb2)
    replace Oa := hide (Oa.out.below hb2)
    clear hb2
    clear Oa
    have RW := hide (hownw.list)
    clear hownw
    have hbx : Below w2.heap.size w2 (w2.alloc (.cells #[(.int .i64 fu), (.slice Aw fs.length cw)] 25)) := (Below.refl _ _).alloc (Nat.le_refl _) _
    have BW := hide (Bx.new w2 25 ((.int .i64 fu)) ((.slice Aw fs.length cw)))
    have T2 := hide (show (w2.alloc (.cells #[(.int .i64 fu), (.slice Aw fs.length cw)] 25)).heap.size = w2.heap.size + 1 from by simp)
    replace q := hide (below_next q.out hbx)
    replace RW := hide (RW.out.below hbx (by have := S0.out; have := S1.out; have := S2.out; have := T2.out; omega))
    clear hbx
    go_wp2_with fail
    generalize (w2.alloc (.cells #[(.int .i64 fu), (.slice Aw fs.length cw)] 25)) = v2 at *
    try go_wp2_with fail
    refine (toIntS_any _ _ _ _ _ (((HR.out.below q.out (Nat.le_refl _)).more (by have := S0.out; have := S1.out; have := S2.out; have := T2.out; omega))) hcap).mono ?_
    rintro e w3 ⟨gb, ha3, hz3, rfl, hrow3, hb3⟩
    have S3 := hide (hb3).size
    replace q := hide (below_next q.out hb3)
    replace RW := hide (RW.out.below hb3 (by have := S0.out; have := S1.out; have := S2.out; have := T2.out; have := S3.out; omega))
    replace BW := hide (BW.out.next hb3)
    clear hb3
    have Ob := hide (Own.of_row hrow3 ha3 (by unfold maxLen; omega))
    have Lb := hide (show ∀ ad : Addr, some (⟨gb, 0, none⟩ : Addr) = some ad → v2.heap.size ≤ ad.block ∧ ad.block < w3.heap.size from fun ad hA => by injection hA with hA; subst hA; exact ⟨ha3, hz3⟩)
    clear hrow3 ha3 hz3
    go_wp2_with fail
    refine (HIM.out _ _ Ob.out.ints).mono ?_
    rintro e w4 ⟨Ag, cg, rfl, OG, hb4⟩
    have S4 := hide (hb4).size
    replace q := hide (below_next q.out hb4)
    replace RW := hide (RW.out.below hb4 (by have := S0.out; have := S1.out; have := S2.out; have := T2.out; have := S3.out; have := S4.out; omega))
    replace BW := hide (BW.out.next hb4)
    replace Ob := hide (Ob.out.below hb4)
    clear hb4
    have LG := hide (show ∀ ad : Addr, Ag = some ad → w3.heap.size ≤ ad.block ∧ ad.block < w4.heap.size from fun ad hA => by
      rcases OG.form with ⟨h1, _⟩ | ⟨g, c', h1, hb, hlt⟩
      · injection h1 with h1; rw [h1] at hA; cases hA
      · injection h1 with h1; rw [h1] at hA; injection hA with hA; subst hA; exact ⟨hb, hlt⟩)
    replace OG := hide OG
    have hbx : Below w4.heap.size w4 (w4.alloc (.cells #[(.int .i64 fu), (.slice Ag fs.length cg)] 25)) := (Below.refl _ _).alloc (Nat.le_refl _) _
    have BG := hide (Bx.new w4 25 ((.int .i64 fu)) ((.slice Ag fs.length cg)))
    have T4 := hide (show (w4.alloc (.cells #[(.int .i64 fu), (.slice Ag fs.length cg)] 25)).heap.size = w4.heap.size + 1 from by simp)
    replace q := hide (below_next q.out hbx)
    replace RW := hide (RW.out.below hbx (by have := S0.out; have := S1.out; have := S2.out; have := T2.out; have := S3.out; have := S4.out; have := T4.out; omega))
    replace BW := hide (BW.out.next hbx)
    replace Ob := hide (Ob.out.below hbx)
    replace OG := hide (OG.out.below hbx)
    clear hbx
    have xW0 := BW.out.c0
    have xW1 := BW.out.c1
    have xG0 := BG.out.c0
    have xG1 := BG.out.c1
    go_wp2_with fail
    generalize (w4.alloc (.cells #[(.int .i64 fu), (.slice Ag fs.length cg)] 25)) = v4 at *
    try go_wp2_with fail
    refine (eqPuzzle_same _ _ _ _ _ _ _ _ _ _ OG.out.list RW.out (Nat.le_refl _) (by have := S0.out; have := S1.out; have := S2.out; have := T2.out; have := S3.out; have := S4.out; have := T4.out; omega) (by omega)).mono ?_
    rintro e w5 ⟨rfl, hb5⟩
    clear xW0 xW1 xG0 xG1
    have S5 := hide (hb5).size
    replace q := hide (below_next q.out hb5)
    replace RW := hide (RW.out.below hb5 (by have := S0.out; have := S1.out; have := S2.out; have := T2.out; have := S3.out; have := S4.out; have := T4.out; have := S5.out; omega))
    replace BW := hide (BW.out.next hb5)
    replace Ob := hide (Ob.out.below hb5)
    replace OG := hide (OG.out.below hb5)
    replace BG := hide (BG.out.next hb5)
    clear hb5
    go_wp2_with fail
    refine (toIntS_any _ _ _ _ _ (((HR.out.below q.out (Nat.le_refl _)).more (by have := S0.out; have := S1.out; have := S2.out; have := T2.out; have := S3.out; have := S4.out; have := T4.out; have := S5.out; omega))) hcap).mono ?_
    rintro e w6 ⟨gc, _, hz6, rfl, hrow6, hb6⟩
    have S6 := hide (hb6).size
    replace q := hide (below_next q.out hb6)
    replace RW := hide (RW.out.below hb6 (by have := S0.out; have := S1.out; have := S2.out; have := T2.out; have := S3.out; have := S4.out; have := T4.out; have := S5.out; have := S6.out; omega))
    replace BW := hide (BW.out.next hb6)
    replace Ob := hide (Ob.out.below hb6)
    replace OG := hide (OG.out.below hb6)
    replace BG := hide (BG.out.next hb6)
    clear hb6
    go_wp2_with fail
    refine (eqIntS_same _ _ _ _ _ _ _ _ _ Ob.out.ints (hrow6.ints hz6) (Nat.le_refl _) (Nat.le_refl _) hcap).mono ?_
    rintro e w7 ⟨rfl, hb7⟩
    have S7 := hide (hb7).size
    replace q := hide (below_next q.out hb7)
    replace RW := hide (RW.out.below hb7 (by have := S0.out; have := S1.out; have := S2.out; have := T2.out; have := S3.out; have := S4.out; have := T4.out; have := S5.out; have := S6.out; have := S7.out; omega))
    replace BW := hide (BW.out.next hb7)
    replace Ob := hide (Ob.out.below hb7)
    replace OG := hide (OG.out.below hb7)
    replace BG := hide (BG.out.next hb7)
    clear hb7
    go_wp2_with fail
    refine (markIntS_any _ _ _ _ _ _ _ Ob.out rfl (by omega) (by omega) (by omega)).mono ?_
    rintro e w8 ⟨rfl, _, hb8, hoth8⟩
    have S8 := hide (hb8).size
    replace q := hide (q.out.trans (hb8.mono (by have := S0.out; have := S1.out; have := S2.out; have := T2.out; have := S3.out; have := S4.out; have := T4.out; have := S5.out; have := S6.out; have := S7.out; have := S8.out; omega)))
    replace RW := hide (RW.out.below hb8 (by have := S0.out; have := S1.out; have := S2.out; have := T2.out; have := S3.out; have := S4.out; have := T4.out; have := S5.out; have := S6.out; have := S7.out; have := S8.out; omega))
    replace BW := hide (BW.out.below hb8 (by have := S0.out; have := S1.out; have := S2.out; have := T2.out; have := S3.out; have := S4.out; have := T4.out; have := S5.out; have := S6.out; have := S7.out; have := S8.out; omega))
    replace OG := hide (OG.out.keep fun h hh hl => hoth8 h hl (fun ad hA e => by have h' := (Lb.out ad hA).2; have := S0.out; have := S1.out; have := S2.out; have := T2.out; have := S3.out; have := S4.out; have := T4.out; have := S5.out; have := S6.out; have := S7.out; have := S8.out; omega))
    replace BG := hide (show Bx w8 w4.heap.size 25 ((.int .i64 fu)) ((.slice Ag fs.length cg)) from (hoth8 _ BG.out.lt (fun ad hA e => by have h' := (Lb.out ad hA).2; have := S0.out; have := S1.out; have := S2.out; have := T2.out; have := S3.out; have := S4.out; have := T4.out; have := S5.out; have := S6.out; have := S7.out; have := S8.out; omega)).trans BG.out)
    clear hb8
    clear hoth8
    clear Ob
    have xW0 := BW.out.c0
    have xW1 := BW.out.c1
    have xG0 := BG.out.c0
    have xG1 := BG.out.c1
    go_wp2_with fail
    refine (eqPuzzle_same _ _ _ _ _ _ _ _ _ _ OG.out.list RW.out (Nat.le_refl _) (by have := S0.out; have := S1.out; have := S2.out; have := T2.out; have := S3.out; have := S4.out; have := T4.out; have := S5.out; have := S6.out; have := S7.out; have := S8.out; omega) (by omega)).mono ?_
    rintro e w9 ⟨rfl, hb9⟩
    clear xW0 xW1 xG0 xG1
    have S9 := hide (hb9).size
    replace q := hide (below_next q.out hb9)
    replace RW := hide (RW.out.below hb9 (by have := S0.out; have := S1.out; have := S2.out; have := T2.out; have := S3.out; have := S4.out; have := T4.out; have := S5.out; have := S6.out; have := S7.out; have := S8.out; have := S9.out; omega))
    replace BW := hide (BW.out.next hb9)
    replace OG := hide (OG.out.below hb9)
    replace BG := hide (BG.out.next hb9)
    clear hb9
    have xG0 := BG.out.c0
    have xG1 := BG.out.c1
    go_wp2_with fail
    refine (markPuzzle_any _ _ _ _ _ _ _ _ OG.out (by omega) (by omega) (by omega) (by have := S0.out; have := S1.out; have := S2.out; have := T2.out; have := S3.out; have := S4.out; have := T4.out; have := S5.out; have := S6.out; have := S7.out; have := S8.out; have := S9.out; omega)).mono ?_
    rintro e w10 ⟨rfl, hG10, hb10, hoth10⟩
    clear xG0 xG1
    have S10 := hide (hb10).size
    replace q := hide (q.out.trans (hb10.mono (by have := S0.out; have := S1.out; have := S2.out; have := T2.out; have := S3.out; have := S4.out; have := T4.out; have := S5.out; have := S6.out; have := S7.out; have := S8.out; have := S9.out; have := S10.out; omega)))
    replace RW := hide (RW.out.below hb10 (by have := S0.out; have := S1.out; have := S2.out; have := T2.out; have := S3.out; have := S4.out; have := T4.out; have := S5.out; have := S6.out; have := S7.out; have := S8.out; have := S9.out; have := S10.out; omega))
    replace BW := hide (BW.out.below hb10 (by have := S0.out; have := S1.out; have := S2.out; have := T2.out; have := S3.out; have := S4.out; have := T4.out; have := S5.out; have := S6.out; have := S7.out; have := S8.out; have := S9.out; have := S10.out; omega))
    replace BG := hide (show Bx w10 w4.heap.size 25 ((.int .i64 fu)) ((.slice Ag fs.length cg)) from (hoth10 _ BG.out.lt (fun ad hA e => by have h' := (LG.out ad hA).2; have := S0.out; have := S1.out; have := S2.out; have := T2.out; have := S3.out; have := S4.out; have := T4.out; have := S5.out; have := S6.out; have := S7.out; have := S8.out; have := S9.out; have := S10.out; omega)).trans BG.out)
    clear hb10
    replace OG := hide hG10
    clear hG10 hoth10
    have xG0 := BG.out.c0
    have xG1 := BG.out.c1
    go_wp2_with fail
    refine (heldPuzzle_any _ _ _ _ _ _ _ OG.out (by omega) (by omega) (by omega)).mono ?_
    rintro e w11 ⟨rfl, hb11⟩
    clear xG0 xG1
    have S11 := hide (hb11).size
    replace q := hide (below_next q.out hb11)
    replace RW := hide (RW.out.below hb11 (by have := S0.out; have := S1.out; have := S2.out; have := T2.out; have := S3.out; have := S4.out; have := T4.out; have := S5.out; have := S6.out; have := S7.out; have := S8.out; have := S9.out; have := S10.out; have := S11.out; omega))
    replace BW := hide (BW.out.next hb11)
    replace OG := hide (OG.out.below hb11)
    replace BG := hide (BG.out.next hb11)
    clear hb11
    go_wp2_with fail
    refine (toIntS_any _ _ _ _ _ (((HR.out.below q.out (Nat.le_refl _)).more (by have := S0.out; have := S1.out; have := S2.out; have := T2.out; have := S3.out; have := S4.out; have := T4.out; have := S5.out; have := S6.out; have := S7.out; have := S8.out; have := S9.out; have := S10.out; have := S11.out; omega))) hcap).mono ?_
    rintro e w12 ⟨gd, ha12, hz12, rfl, hrow12, hb12⟩
    have S12 := hide (hb12).size
    replace q := hide (below_next q.out hb12)
    replace RW := hide (RW.out.below hb12 (by have := S0.out; have := S1.out; have := S2.out; have := T2.out; have := S3.out; have := S4.out; have := T4.out; have := S5.out; have := S6.out; have := S7.out; have := S8.out; have := S9.out; have := S10.out; have := S11.out; have := S12.out; omega))
    replace BW := hide (BW.out.next hb12)
    replace OG := hide (OG.out.below hb12)
    replace BG := hide (BG.out.next hb12)
    clear hb12
    have Od := hide (Own.of_row hrow12 ha12 (by unfold maxLen; omega))
    have Ld := hide (show ∀ ad : Addr, some (⟨gd, 0, none⟩ : Addr) = some ad → w11.heap.size ≤ ad.block ∧ ad.block < w12.heap.size from fun ad hA => by injection hA with hA; subst hA; exact ⟨ha12, hz12⟩)
    clear hrow12 ha12 hz12
    go_wp2_with fail
    refine (HIM.out _ _ Od.out.ints).mono ?_
    rintro e w13 ⟨Ah, ch, rfl, OH, hb13⟩
    have S13 := hide (hb13).size
    replace q := hide (below_next q.out hb13)
    replace RW := hide (RW.out.below hb13 (by have := S0.out; have := S1.out; have := S2.out; have := T2.out; have := S3.out; have := S4.out; have := T4.out; have := S5.out; have := S6.out; have := S7.out; have := S8.out; have := S9.out; have := S10.out; have := S11.out; have := S12.out; have := S13.out; omega))
    replace BW := hide (BW.out.next hb13)
    replace OG := hide (OG.out.below hb13)
    replace BG := hide (BG.out.next hb13)
    replace Od := hide (Od.out.below hb13)
    clear hb13
    replace OH := hide OH
    have hbx : Below w13.heap.size w13 (w13.alloc (.cells #[(.int .i64 fu), (.slice Ah fs.length ch)] 25)) := (Below.refl _ _).alloc (Nat.le_refl _) _
    have BH := hide (Bx.new w13 25 ((.int .i64 fu)) ((.slice Ah fs.length ch)))
    have T13 := hide (show (w13.alloc (.cells #[(.int .i64 fu), (.slice Ah fs.length ch)] 25)).heap.size = w13.heap.size + 1 from by simp)
    replace q := hide (below_next q.out hbx)
    replace RW := hide (RW.out.below hbx (by have := S0.out; have := S1.out; have := S2.out; have := T2.out; have := S3.out; have := S4.out; have := T4.out; have := S5.out; have := S6.out; have := S7.out; have := S8.out; have := S9.out; have := S10.out; have := S11.out; have := S12.out; have := S13.out; have := T13.out; omega))
    replace BW := hide (BW.out.next hbx)
    replace OG := hide (OG.out.below hbx)
    replace BG := hide (BG.out.next hbx)
    replace Od := hide (Od.out.below hbx)
    replace OH := hide (OH.out.below hbx)
    clear hbx
    have xW0 := BW.out.c0
    have xW1 := BW.out.c1
    have xH0 := BH.out.c0
    have xH1 := BH.out.c1
    go_wp2_with fail
    generalize (w13.alloc (.cells #[(.int .i64 fu), (.slice Ah fs.length ch)] 25)) = v13 at *
    try go_wp2_with fail
    refine (eqPuzzle_same _ _ _ _ _ _ _ _ _ _ OH.out.list RW.out (Nat.le_refl _) (by have := S0.out; have := S1.out; have := S2.out; have := T2.out; have := S3.out; have := S4.out; have := T4.out; have := S5.out; have := S6.out; have := S7.out; have := S8.out; have := S9.out; have := S10.out; have := S11.out; have := S12.out; have := S13.out; have := T13.out; omega) (by omega)).mono ?_
    rintro e w14 ⟨rfl, hb14⟩
    clear xW0 xW1 xH0 xH1
    have S14 := hide (hb14).size
    replace q := hide (below_next q.out hb14)
    replace RW := hide (RW.out.below hb14 (by have := S0.out; have := S1.out; have := S2.out; have := T2.out; have := S3.out; have := S4.out; have := T4.out; have := S5.out; have := S6.out; have := S7.out; have := S8.out; have := S9.out; have := S10.out; have := S11.out; have := S12.out; have := S13.out; have := T13.out; have := S14.out; omega))
    replace BW := hide (BW.out.next hb14)
    replace OG := hide (OG.out.below hb14)
    replace BG := hide (BG.out.next hb14)
    replace Od := hide (Od.out.below hb14)
    replace OH := hide (OH.out.below hb14)
    replace BH := hide (BH.out.next hb14)
    clear hb14
    have xG0 := BG.out.c0
    have xG1 := BG.out.c1
    go_wp2_with fail
    refine (heldPuzzle_any _ _ _ _ _ _ _ OG.out (by omega) (by omega) (by omega)).mono ?_
    rintro e w15 ⟨rfl, hb15⟩
    clear xG0 xG1
    have S15 := hide (hb15).size
    replace q := hide (below_next q.out hb15)
    replace RW := hide (RW.out.below hb15 (by have := S0.out; have := S1.out; have := S2.out; have := T2.out; have := S3.out; have := S4.out; have := T4.out; have := S5.out; have := S6.out; have := S7.out; have := S8.out; have := S9.out; have := S10.out; have := S11.out; have := S12.out; have := S13.out; have := T13.out; have := S14.out; have := S15.out; omega))
    replace BW := hide (BW.out.next hb15)
    replace OG := hide (OG.out.below hb15)
    replace BG := hide (BG.out.next hb15)
    replace Od := hide (Od.out.below hb15)
    replace OH := hide (OH.out.below hb15)
    replace BH := hide (BH.out.next hb15)
    clear hb15
    go_wp2_with fail
    go_ret
    exact ⟨rfl, q.out⟩
end Go.Proofs.Ytfmncffjaholmaa
