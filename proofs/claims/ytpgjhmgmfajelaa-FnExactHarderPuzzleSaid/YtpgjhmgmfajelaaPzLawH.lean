
/-
  THE WALKS OF EXACT LAWS OVER A PUZZLE, the given frame left out: for every puzzle the law returns true and writes nothing that was there. (Printed by pzlaw.py.)
-/
import Derived.Test.YtpgjhmgmfajelaaLaws0
import Derived.Test.YtpgjhmgmfajelaaMark
import Derived.Test.YtpgjhmgmfajelaaPzL
import Derived.Deep.RegionHeld3
import Derived.Test.YtpgjhmgmfajelaaPzHd
namespace Go.Proofs.Ytpgjhmgmfajelaa
open Go.RowKit Go.Deep
set_option linter.unusedVariables false

set_option maxRecDepth 100000 in
set_option maxHeartbeats 4000000 in
theorem lawHarderPuzzle (A : Option Addr) (n c : Nat) (cs : List Cl) (u : Int) (w : World) (hr : Cls w w.heap.size A n cs) (hmax : n ≤ 9223372036854775807) :
    Calls Try.prog 9 #[.agg #[.int .i64 u, .slice A n c]] w fun e w' => e = .returned (.bool true) ∧ Below w.heap.size w w' := by
  obtain rfl := hr.len
  have KB := hide (show Below w.heap.size w (w.alloc (.cells #[.int .i64 u, .slice A cs.length c] 34)) from (Below.refl _ _).alloc (Nat.le_refl _) _)
  have KX := hide (Bx.new w 34 (.int .i64 u) (.slice A cs.length c))
  have HZ := hide (fun W => szPuzzle_any A cs.length c u 1048576 W hmax (by omega) (by omega))
  by_cases hbig : (1048576 : Int) < cs.length
  · rw [if_pos hbig] at HZ
    clear hbig
    go_enter Try.func9, Try.ntmps9
    go_wp2_with fail
    refine (HZ.out _).mono ?_; rintro e w1 ⟨rfl, hb1⟩
    go_wp2_with fail
    go_ret
    exact ⟨rfl, KB.out.trans (hb1.mono KB.out.size)⟩
  · rw [if_neg hbig] at HZ
    have hlt : ¬ ((1048576 : Int) - (cs.length : Int) < 0) := by omega
    have hcap : cs.length ≤ 17592186044416 := by omega
    have hcap2 : cs.length ≤ 1099511627776 := by omega
    have hlow : cs.length ≤ 1048576 := by omega
    have HSP := hide (fun g W (h : Cls W W.heap.size (some ⟨g, 0, none⟩) cs.length cs) => specHarderPuzzle_any (some ⟨g, 0, none⟩) cs.length cs.length W.heap.size cs u W h (Nat.le_refl _) hcap (Nat.le_refl _) (by unfold maxLen; omega) (by simp))
    have HIM := hide (fun g W (h : Cls W W.heap.size (some ⟨g, 0, none⟩) cs.length cs) => HarderPuzzle_any (some ⟨g, 0, none⟩) cs.length cs.length W.heap.size cs u W h (Nat.le_refl _) hcap (Nat.le_refl _) (by unfold maxLen; omega) (by simp))
    have hF : (hardL u cs).length ≤ 1048576 := hardL_len u cs
    generalize hardL u cs = fs at *
    generalize hardU u cs = fu at *
    generalize slvP u cs = bb at *
    have nb : (bb != bb) = false := by simp
    have HR := hide hr
    clear hr hbig hmax
    go_enter Try.func9, Try.ntmps9
    have S0 := hide KB.out.size
    have S00 := hide (show (w.alloc (.cells #[.int .i64 u, .slice A cs.length c] 34)).heap.size = w.heap.size + 1 from by simp)
    have xX0 := KX.out.c0
    have xX1 := KX.out.c1
    go_wp2_with fail
    refine (HZ.out _).mono ?_
    rintro e w1 ⟨rfl, hb1⟩
    clear xX0 xX1
    have S1 := hide (hb1).size
    have q := hide (below_next KB.out hb1)
    replace KX := hide (KX.out.next hb1)
    clear hb1
    have xX0 := KX.out.c0
    have xX1 := KX.out.c1
    go_wp2_with fail
    refine (toPuzzle_any _ _ _ _ _ _ (((HR.out.below q.out (Nat.le_refl _)).more (by have := S0.out; have := S00.out; have := S1.out; omega))) hcap2).mono ?_
    rintro e w2 ⟨ga, ha2, hz2, rfl, hrow2, hb2⟩
    clear xX0 xX1
    have S2 := hide (hb2).size
    replace q := hide (below_next q.out hb2)
    replace KX := hide (KX.out.next hb2)
    clear hb2
    have Oa := hide (OwnICl.of_row hrow2 ha2 (by unfold maxLen; omega))
    have La := hide (show ∀ ad : Addr, some (⟨ga, 0, none⟩ : Addr) = some ad → w1.heap.size ≤ ad.block ∧ ad.block < w2.heap.size from fun ad hA => by injection hA with hA; subst hA; exact ⟨ha2, hz2⟩)
    clear hrow2 ha2 hz2
    go_wp2_with fail
    refine (HSP.out _ _ Oa.out.list).mono ?_
    rintro e w3 ⟨Aw, cw, rfl, hownw, hb3⟩
    have S3 := hide (hb3).size
    replace q := hide (below_next q.out hb3)
    replace KX := hide (KX.out.next hb3)
    replace Oa := hide (Oa.out.below hb3)
    clear hb3
    clear Oa
    have RW := hide (hownw.list)
    clear hownw
    have hbx : Below w3.heap.size w3 (w3.alloc (.cells #[(.int .i64 fu), (.slice Aw fs.length cw)] 40)) := (Below.refl _ _).alloc (Nat.le_refl _) _
    have BW := hide (Bx.new w3 40 ((.int .i64 fu)) ((.slice Aw fs.length cw)))
    have T3 := hide (show (w3.alloc (.cells #[(.int .i64 fu), (.slice Aw fs.length cw)] 40)).heap.size = w3.heap.size + 1 from by simp)
    replace q := hide (below_next q.out hbx)
    replace KX := hide (KX.out.next hbx)
    replace RW := hide (RW.out.below hbx (by have := S0.out; have := S00.out; have := S1.out; have := S2.out; have := S3.out; have := T3.out; omega))
    clear hbx
    have xX0 := KX.out.c0
    have xX1 := KX.out.c1
    go_wp2_with fail
    generalize (w3.alloc (.cells #[(.int .i64 fu), (.slice Aw fs.length cw)] 40)) = v3 at *
    try go_wp2_with fail
    refine (toPuzzle_any _ _ _ _ _ _ (((HR.out.below q.out (Nat.le_refl _)).more (by have := S0.out; have := S00.out; have := S1.out; have := S2.out; have := S3.out; have := T3.out; omega))) hcap2).mono ?_
    rintro e w4 ⟨gb, ha4, hz4, rfl, hrow4, hb4⟩
    clear xX0 xX1
    have S4 := hide (hb4).size
    replace q := hide (below_next q.out hb4)
    replace KX := hide (KX.out.next hb4)
    replace RW := hide (RW.out.below hb4 (by have := S0.out; have := S00.out; have := S1.out; have := S2.out; have := S3.out; have := T3.out; have := S4.out; omega))
    replace BW := hide (BW.out.next hb4)
    clear hb4
    have Ob := hide (OwnICl.of_row hrow4 ha4 (by unfold maxLen; omega))
    have Lb := hide (show ∀ ad : Addr, some (⟨gb, 0, none⟩ : Addr) = some ad → v3.heap.size ≤ ad.block ∧ ad.block < w4.heap.size from fun ad hA => by injection hA with hA; subst hA; exact ⟨ha4, hz4⟩)
    clear hrow4 ha4 hz4
    have hbx : Below w4.heap.size w4 (w4.alloc (.cells #[.int .i64 u, .slice (some ⟨gb, 0, none⟩) cs.length cs.length] 40)) := (Below.refl _ _).alloc (Nat.le_refl _) _
    have BY := hide (Bx.new w4 40 (.int .i64 u) (.slice (some ⟨gb, 0, none⟩) cs.length cs.length))
    have T4 := hide (show (w4.alloc (.cells #[.int .i64 u, .slice (some ⟨gb, 0, none⟩) cs.length cs.length] 40)).heap.size = w4.heap.size + 1 from by simp)
    replace q := hide (below_next q.out hbx)
    replace KX := hide (KX.out.next hbx)
    replace RW := hide (RW.out.below hbx (by have := S0.out; have := S00.out; have := S1.out; have := S2.out; have := S3.out; have := T3.out; have := S4.out; have := T4.out; omega))
    replace BW := hide (BW.out.next hbx)
    replace Ob := hide (Ob.out.below hbx)
    clear hbx
    have xY0 := BY.out.c0
    have xY1 := BY.out.c1
    go_wp2_with fail
    generalize (w4.alloc (.cells #[.int .i64 u, .slice (some ⟨gb, 0, none⟩) cs.length cs.length] 40)) = v4 at *
    try go_wp2_with fail
    refine (HIM.out _ _ Ob.out.list).mono ?_
    rintro e w5 ⟨Ag, cg, rfl, OG, hb5⟩
    clear xY0 xY1
    have S5 := hide (hb5).size
    replace q := hide (below_next q.out hb5)
    replace KX := hide (KX.out.next hb5)
    replace RW := hide (RW.out.below hb5 (by have := S0.out; have := S00.out; have := S1.out; have := S2.out; have := S3.out; have := T3.out; have := S4.out; have := T4.out; have := S5.out; omega))
    replace BW := hide (BW.out.next hb5)
    replace Ob := hide (Ob.out.below hb5)
    replace BY := hide (BY.out.next hb5)
    clear hb5
    have LG := hide (show ∀ ad : Addr, Ag = some ad → v4.heap.size ≤ ad.block ∧ ad.block < w5.heap.size from fun ad hA => by
      rcases OG.form with ⟨h1, _⟩ | ⟨g, c', h1, hb, hlt⟩
      · injection h1 with h1; rw [h1] at hA; cases hA
      · injection h1 with h1; rw [h1] at hA; injection hA with hA; subst hA; exact ⟨hb, hlt⟩)
    replace OG := hide OG
    have hbx : Below w5.heap.size w5 (w5.alloc (.cells #[(.int .i64 fu), (.slice Ag fs.length cg)] 40)) := (Below.refl _ _).alloc (Nat.le_refl _) _
    have BG := hide (Bx.new w5 40 ((.int .i64 fu)) ((.slice Ag fs.length cg)))
    have T5 := hide (show (w5.alloc (.cells #[(.int .i64 fu), (.slice Ag fs.length cg)] 40)).heap.size = w5.heap.size + 1 from by simp)
    replace q := hide (below_next q.out hbx)
    replace KX := hide (KX.out.next hbx)
    replace RW := hide (RW.out.below hbx (by have := S0.out; have := S00.out; have := S1.out; have := S2.out; have := S3.out; have := T3.out; have := S4.out; have := T4.out; have := S5.out; have := T5.out; omega))
    replace BW := hide (BW.out.next hbx)
    replace Ob := hide (Ob.out.below hbx)
    replace BY := hide (BY.out.next hbx)
    replace OG := hide (OG.out.below hbx)
    clear hbx
    have xW0 := BW.out.c0
    have xW1 := BW.out.c1
    have xG0 := BG.out.c0
    have xG1 := BG.out.c1
    go_wp2_with fail
    generalize (w5.alloc (.cells #[(.int .i64 fu), (.slice Ag fs.length cg)] 40)) = v5 at *
    try go_wp2_with fail
    refine (eqPuzzle_same _ _ _ _ _ _ _ _ _ _ OG.out.list RW.out (Nat.le_refl _) (by have := S0.out; have := S00.out; have := S1.out; have := S2.out; have := S3.out; have := T3.out; have := S4.out; have := T4.out; have := S5.out; have := T5.out; omega) (by omega)).mono ?_
    rintro e w6 ⟨rfl, hb6⟩
    clear xW0 xW1 xG0 xG1
    have S6 := hide (hb6).size
    replace q := hide (below_next q.out hb6)
    replace KX := hide (KX.out.next hb6)
    replace RW := hide (RW.out.below hb6 (by have := S0.out; have := S00.out; have := S1.out; have := S2.out; have := S3.out; have := T3.out; have := S4.out; have := T4.out; have := S5.out; have := T5.out; have := S6.out; omega))
    replace BW := hide (BW.out.next hb6)
    replace Ob := hide (Ob.out.below hb6)
    replace BY := hide (BY.out.next hb6)
    replace OG := hide (OG.out.below hb6)
    replace BG := hide (BG.out.next hb6)
    clear hb6
    have HS5 := hide (fun W (h : Below w6.heap.size w6 W) => And.intro h (And.intro (BY.out.next h).c0 (And.intro (BY.out.next h).c1 (And.intro (KX.out.next h).c0 (KX.out.next h).c1))))
    have HTC := hide (fun W (h : Below w6.heap.size w6 W) => toPuzzle_any A cs.length c cs u W ((HR.out.below (below_next q.out h) (Nat.le_refl _)).more (below_next q.out h).size) hcap2)
    have HEQ := hide (fun W (h : Below w6.heap.size w6 W) g (h' : Cls W W.heap.size (some ⟨g, 0, none⟩) cs.length cs) => eqPuzzle_same (some ⟨gb, 0, none⟩) (some ⟨g, 0, none⟩) cs.length cs.length cs.length _ _ cs u W (Ob.out.below h).list h' (Nat.le_refl _) (Nat.le_refl _) hcap2)
    go_wp2_with fail
    first | go_region_held3 (fun W => Below w6.heap.size w6 W ∧ W.cell? ⟨w4.heap.size, 0, none⟩ = some (.int .i64 u) ∧ W.cell? ⟨w4.heap.size, 1, none⟩ = some (.slice (some ⟨gb, 0, none⟩) cs.length cs.length) ∧ W.cell? ⟨w.heap.size, 0, none⟩ = some (.int .i64 u) ∧ W.cell? ⟨w.heap.size, 1, none⟩ = some (.slice A cs.length c))
      (first | exact HS5.out _ (Below.refl _ _).drew | exact HS5.out _ (below_next (And.left (by assumption)) hbd2) | exact HS5.out _ (below_next (And.left (by assumption)) hbd1) | go_keep)
      (first
      | (go_at_call 17; (with_reducible refine (HTC.out _ (And.left (by assumption))).mono ?_); rintro e wd1 ⟨g3, _, hz3, rfl, hrow3, hbd1⟩)
      | (go_at_call 19; (with_reducible refine (HEQ.out _ (And.left (by assumption)) _ (hrow3.list hz3)).mono ?_); rintro e wd2 ⟨rfl, hbd2⟩)) | fail
    have hbd : Below w6.heap.size w6 wd2 := And.left (by assumption : Below w6.heap.size w6 wd2 ∧ _)
    clear HTC HEQ HS5
    have S7 := hide hbd.size
    replace q := hide (below_next q.out hbd)
    replace KX := hide (KX.out.next hbd)
    replace RW := hide (RW.out.below hbd (by have := S0.out; have := S00.out; have := S1.out; have := S2.out; have := S3.out; have := T3.out; have := S4.out; have := T4.out; have := S5.out; have := T5.out; have := S6.out; have := S7.out; omega))
    replace BW := hide (BW.out.next hbd)
    replace Ob := hide (Ob.out.below hbd)
    replace BY := hide (BY.out.next hbd)
    replace OG := hide (OG.out.below hbd)
    replace BG := hide (BG.out.next hbd)
    clear hbd
    have xY0 := BY.out.c0
    have xY1 := BY.out.c1
    go_wp2_with fail
    refine (markPuzzle_any _ _ _ _ _ _ _ _ Ob.out (by omega) (by omega) (by omega) (by have := S0.out; have := S00.out; have := S1.out; have := S2.out; have := S3.out; have := T3.out; have := S4.out; have := T4.out; have := S5.out; have := T5.out; have := S6.out; have := S7.out; omega)).mono ?_
    rintro e w8 ⟨rfl, _, hb8, hoth8⟩
    clear xY0 xY1
    have S8 := hide (hb8).size
    replace q := hide (q.out.trans (hb8.mono (by have := S0.out; have := S00.out; have := S1.out; have := S2.out; have := S3.out; have := T3.out; have := S4.out; have := T4.out; have := S5.out; have := T5.out; have := S6.out; have := S7.out; have := S8.out; omega)))
    replace KX := hide (KX.out.below hb8 (by have := S0.out; have := S00.out; have := S1.out; have := S2.out; have := S3.out; have := T3.out; have := S4.out; have := T4.out; have := S5.out; have := T5.out; have := S6.out; have := S7.out; have := S8.out; omega))
    replace RW := hide (RW.out.below hb8 (by have := S0.out; have := S00.out; have := S1.out; have := S2.out; have := S3.out; have := T3.out; have := S4.out; have := T4.out; have := S5.out; have := T5.out; have := S6.out; have := S7.out; have := S8.out; omega))
    replace BW := hide (BW.out.below hb8 (by have := S0.out; have := S00.out; have := S1.out; have := S2.out; have := S3.out; have := T3.out; have := S4.out; have := T4.out; have := S5.out; have := T5.out; have := S6.out; have := S7.out; have := S8.out; omega))
    replace BY := hide (show Bx w8 w4.heap.size 40 (.int .i64 u) (.slice (some ⟨gb, 0, none⟩) cs.length cs.length) from (hoth8 _ BY.out.lt (fun ad hA e => by have h' := (Lb.out ad hA).2; have := S0.out; have := S00.out; have := S1.out; have := S2.out; have := S3.out; have := T3.out; have := S4.out; have := T4.out; have := S5.out; have := T5.out; have := S6.out; have := S7.out; have := S8.out; omega)).trans BY.out)
    replace OG := hide (OG.out.keep fun h hh hl => hoth8 h hl (fun ad hA e => by have h' := (Lb.out ad hA).2; have := S0.out; have := S00.out; have := S1.out; have := S2.out; have := S3.out; have := T3.out; have := S4.out; have := T4.out; have := S5.out; have := T5.out; have := S6.out; have := S7.out; have := S8.out; omega))
    replace BG := hide (show Bx w8 w5.heap.size 40 ((.int .i64 fu)) ((.slice Ag fs.length cg)) from (hoth8 _ BG.out.lt (fun ad hA e => by have h' := (Lb.out ad hA).2; have := S0.out; have := S00.out; have := S1.out; have := S2.out; have := S3.out; have := T3.out; have := S4.out; have := T4.out; have := S5.out; have := T5.out; have := S6.out; have := S7.out; have := S8.out; omega)).trans BG.out)
    clear hb8
    clear hoth8
    clear Ob
    have xW0 := BW.out.c0
    have xW1 := BW.out.c1
    have xG0 := BG.out.c0
    have xG1 := BG.out.c1
    go_wp2_with fail
    refine (eqPuzzle_same _ _ _ _ _ _ _ _ _ _ OG.out.list RW.out (Nat.le_refl _) (by have := S0.out; have := S00.out; have := S1.out; have := S2.out; have := S3.out; have := T3.out; have := S4.out; have := T4.out; have := S5.out; have := T5.out; have := S6.out; have := S7.out; have := S8.out; omega) (by omega)).mono ?_
    rintro e w9 ⟨rfl, hb9⟩
    clear xW0 xW1 xG0 xG1
    have S9 := hide (hb9).size
    replace q := hide (below_next q.out hb9)
    replace KX := hide (KX.out.next hb9)
    replace RW := hide (RW.out.below hb9 (by have := S0.out; have := S00.out; have := S1.out; have := S2.out; have := S3.out; have := T3.out; have := S4.out; have := T4.out; have := S5.out; have := T5.out; have := S6.out; have := S7.out; have := S8.out; have := S9.out; omega))
    replace BW := hide (BW.out.next hb9)
    replace BY := hide (BY.out.next hb9)
    replace OG := hide (OG.out.below hb9)
    replace BG := hide (BG.out.next hb9)
    clear hb9
    have xG0 := BG.out.c0
    have xG1 := BG.out.c1
    go_wp2_with fail
    refine (markPuzzle_any _ _ _ _ _ _ _ _ OG.out (by omega) (by omega) (by omega) (by have := S0.out; have := S00.out; have := S1.out; have := S2.out; have := S3.out; have := T3.out; have := S4.out; have := T4.out; have := S5.out; have := T5.out; have := S6.out; have := S7.out; have := S8.out; have := S9.out; omega)).mono ?_
    rintro e w10 ⟨rfl, hG10, hb10, hoth10⟩
    clear xG0 xG1
    have S10 := hide (hb10).size
    replace q := hide (q.out.trans (hb10.mono (by have := S0.out; have := S00.out; have := S1.out; have := S2.out; have := S3.out; have := T3.out; have := S4.out; have := T4.out; have := S5.out; have := T5.out; have := S6.out; have := S7.out; have := S8.out; have := S9.out; have := S10.out; omega)))
    replace KX := hide (KX.out.below hb10 (by have := S0.out; have := S00.out; have := S1.out; have := S2.out; have := S3.out; have := T3.out; have := S4.out; have := T4.out; have := S5.out; have := T5.out; have := S6.out; have := S7.out; have := S8.out; have := S9.out; have := S10.out; omega))
    replace RW := hide (RW.out.below hb10 (by have := S0.out; have := S00.out; have := S1.out; have := S2.out; have := S3.out; have := T3.out; have := S4.out; have := T4.out; have := S5.out; have := T5.out; have := S6.out; have := S7.out; have := S8.out; have := S9.out; have := S10.out; omega))
    replace BW := hide (BW.out.below hb10 (by have := S0.out; have := S00.out; have := S1.out; have := S2.out; have := S3.out; have := T3.out; have := S4.out; have := T4.out; have := S5.out; have := T5.out; have := S6.out; have := S7.out; have := S8.out; have := S9.out; have := S10.out; omega))
    replace BY := hide (BY.out.below hb10 (by have := S0.out; have := S00.out; have := S1.out; have := S2.out; have := S3.out; have := T3.out; have := S4.out; have := T4.out; have := S5.out; have := T5.out; have := S6.out; have := S7.out; have := S8.out; have := S9.out; have := S10.out; omega))
    replace BG := hide (show Bx w10 w5.heap.size 40 ((.int .i64 fu)) ((.slice Ag fs.length cg)) from (hoth10 _ BG.out.lt (fun ad hA e => by have h' := (LG.out ad hA).2; have := S0.out; have := S00.out; have := S1.out; have := S2.out; have := S3.out; have := T3.out; have := S4.out; have := T4.out; have := S5.out; have := T5.out; have := S6.out; have := S7.out; have := S8.out; have := S9.out; have := S10.out; omega)).trans BG.out)
    clear hb10
    replace OG := hide hG10
    clear hG10 hoth10
    have xG0 := BG.out.c0
    have xG1 := BG.out.c1
    go_wp2_with fail
    refine (heldPuzzle_any _ _ _ _ _ _ _ OG.out (by omega) (by omega) (by omega)).mono ?_
    rintro e w11 ⟨rfl, hb11⟩
    clear xG0 xG1
    have S11 := hide (hb11).size
    replace q := hide (below_next q.out hb11)
    replace KX := hide (KX.out.next hb11)
    replace RW := hide (RW.out.below hb11 (by have := S0.out; have := S00.out; have := S1.out; have := S2.out; have := S3.out; have := T3.out; have := S4.out; have := T4.out; have := S5.out; have := T5.out; have := S6.out; have := S7.out; have := S8.out; have := S9.out; have := S10.out; have := S11.out; omega))
    replace BW := hide (BW.out.next hb11)
    replace BY := hide (BY.out.next hb11)
    replace OG := hide (OG.out.below hb11)
    replace BG := hide (BG.out.next hb11)
    clear hb11
    have xX0 := KX.out.c0
    have xX1 := KX.out.c1
    go_wp2_with fail
    refine (toPuzzle_any _ _ _ _ _ _ (((HR.out.below q.out (Nat.le_refl _)).more (by have := S0.out; have := S00.out; have := S1.out; have := S2.out; have := S3.out; have := T3.out; have := S4.out; have := T4.out; have := S5.out; have := T5.out; have := S6.out; have := S7.out; have := S8.out; have := S9.out; have := S10.out; have := S11.out; omega))) hcap2).mono ?_
    rintro e w12 ⟨gd, ha12, hz12, rfl, hrow12, hb12⟩
    clear xX0 xX1
    have S12 := hide (hb12).size
    replace q := hide (below_next q.out hb12)
    replace KX := hide (KX.out.next hb12)
    replace RW := hide (RW.out.below hb12 (by have := S0.out; have := S00.out; have := S1.out; have := S2.out; have := S3.out; have := T3.out; have := S4.out; have := T4.out; have := S5.out; have := T5.out; have := S6.out; have := S7.out; have := S8.out; have := S9.out; have := S10.out; have := S11.out; have := S12.out; omega))
    replace BW := hide (BW.out.next hb12)
    replace BY := hide (BY.out.next hb12)
    replace OG := hide (OG.out.below hb12)
    replace BG := hide (BG.out.next hb12)
    clear hb12
    have Od := hide (OwnICl.of_row hrow12 ha12 (by unfold maxLen; omega))
    have Ld := hide (show ∀ ad : Addr, some (⟨gd, 0, none⟩ : Addr) = some ad → w11.heap.size ≤ ad.block ∧ ad.block < w12.heap.size from fun ad hA => by injection hA with hA; subst hA; exact ⟨ha12, hz12⟩)
    clear hrow12 ha12 hz12
    go_wp2_with fail
    refine (HIM.out _ _ Od.out.list).mono ?_
    rintro e w13 ⟨Ah, ch, rfl, OH, hb13⟩
    have S13 := hide (hb13).size
    replace q := hide (below_next q.out hb13)
    replace KX := hide (KX.out.next hb13)
    replace RW := hide (RW.out.below hb13 (by have := S0.out; have := S00.out; have := S1.out; have := S2.out; have := S3.out; have := T3.out; have := S4.out; have := T4.out; have := S5.out; have := T5.out; have := S6.out; have := S7.out; have := S8.out; have := S9.out; have := S10.out; have := S11.out; have := S12.out; have := S13.out; omega))
    replace BW := hide (BW.out.next hb13)
    replace BY := hide (BY.out.next hb13)
    replace OG := hide (OG.out.below hb13)
    replace BG := hide (BG.out.next hb13)
    replace Od := hide (Od.out.below hb13)
    clear hb13
    replace OH := hide OH
    have hbx : Below w13.heap.size w13 (w13.alloc (.cells #[(.int .i64 fu), (.slice Ah fs.length ch)] 40)) := (Below.refl _ _).alloc (Nat.le_refl _) _
    have BH := hide (Bx.new w13 40 ((.int .i64 fu)) ((.slice Ah fs.length ch)))
    have T13 := hide (show (w13.alloc (.cells #[(.int .i64 fu), (.slice Ah fs.length ch)] 40)).heap.size = w13.heap.size + 1 from by simp)
    replace q := hide (below_next q.out hbx)
    replace KX := hide (KX.out.next hbx)
    replace RW := hide (RW.out.below hbx (by have := S0.out; have := S00.out; have := S1.out; have := S2.out; have := S3.out; have := T3.out; have := S4.out; have := T4.out; have := S5.out; have := T5.out; have := S6.out; have := S7.out; have := S8.out; have := S9.out; have := S10.out; have := S11.out; have := S12.out; have := S13.out; have := T13.out; omega))
    replace BW := hide (BW.out.next hbx)
    replace BY := hide (BY.out.next hbx)
    replace OG := hide (OG.out.below hbx)
    replace BG := hide (BG.out.next hbx)
    replace Od := hide (Od.out.below hbx)
    replace OH := hide (OH.out.below hbx)
    clear hbx
    have xW0 := BW.out.c0
    have xW1 := BW.out.c1
    have xH0 := BH.out.c0
    have xH1 := BH.out.c1
    go_wp2_with fail
    generalize (w13.alloc (.cells #[(.int .i64 fu), (.slice Ah fs.length ch)] 40)) = v13 at *
    try go_wp2_with fail
    refine (eqPuzzle_same _ _ _ _ _ _ _ _ _ _ OH.out.list RW.out (Nat.le_refl _) (by have := S0.out; have := S00.out; have := S1.out; have := S2.out; have := S3.out; have := T3.out; have := S4.out; have := T4.out; have := S5.out; have := T5.out; have := S6.out; have := S7.out; have := S8.out; have := S9.out; have := S10.out; have := S11.out; have := S12.out; have := S13.out; have := T13.out; omega) (by omega)).mono ?_
    rintro e w14 ⟨rfl, hb14⟩
    clear xW0 xW1 xH0 xH1
    have S14 := hide (hb14).size
    replace q := hide (below_next q.out hb14)
    replace KX := hide (KX.out.next hb14)
    replace RW := hide (RW.out.below hb14 (by have := S0.out; have := S00.out; have := S1.out; have := S2.out; have := S3.out; have := T3.out; have := S4.out; have := T4.out; have := S5.out; have := T5.out; have := S6.out; have := S7.out; have := S8.out; have := S9.out; have := S10.out; have := S11.out; have := S12.out; have := S13.out; have := T13.out; have := S14.out; omega))
    replace BW := hide (BW.out.next hb14)
    replace BY := hide (BY.out.next hb14)
    replace OG := hide (OG.out.below hb14)
    replace BG := hide (BG.out.next hb14)
    replace Od := hide (Od.out.below hb14)
    replace OH := hide (OH.out.below hb14)
    replace BH := hide (BH.out.next hb14)
    clear hb14
    have xG0 := BG.out.c0
    have xG1 := BG.out.c1
    go_wp2_with fail
    refine (heldPuzzle_any _ _ _ _ _ _ _ OG.out (by omega) (by omega) (by omega)).mono ?_
    rintro e w15 ⟨rfl, hb15⟩
    clear xG0 xG1
    have S15 := hide (hb15).size
    replace q := hide (below_next q.out hb15)
    replace KX := hide (KX.out.next hb15)
    replace RW := hide (RW.out.below hb15 (by have := S0.out; have := S00.out; have := S1.out; have := S2.out; have := S3.out; have := T3.out; have := S4.out; have := T4.out; have := S5.out; have := T5.out; have := S6.out; have := S7.out; have := S8.out; have := S9.out; have := S10.out; have := S11.out; have := S12.out; have := S13.out; have := T13.out; have := S14.out; have := S15.out; omega))
    replace BW := hide (BW.out.next hb15)
    replace BY := hide (BY.out.next hb15)
    replace OG := hide (OG.out.below hb15)
    replace BG := hide (BG.out.next hb15)
    replace Od := hide (Od.out.below hb15)
    replace OH := hide (OH.out.below hb15)
    replace BH := hide (BH.out.next hb15)
    clear hb15
    go_wp2_with fail
    go_ret
    exact ⟨rfl, q.out⟩
end Go.Proofs.Ytpgjhmgmfajelaa
