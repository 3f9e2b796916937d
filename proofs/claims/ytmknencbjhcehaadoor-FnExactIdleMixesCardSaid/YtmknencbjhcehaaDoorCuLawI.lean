
/-
  THE WALK OF IDLEMIXES' EXACT LAW, the given frame left out: for all cups the law returns true and writes nothing that was there. (Printed by idlelaw.py.)
-/
import Derived.Test.YtmknencbjhcehaaDoorCuL
import Derived.Test.YtmknencbjhcehaaDoorCuID
import Derived.Deep.RegionHeld3
namespace Go.Proofs.YtmknencbjhcehaaDoor
open Go.RowKit Go.Deep
set_option linter.unusedVariables false

theorem Tab.of {w w' : World} {B : Nat} (h : Tab w) (hb : Below B w w') (hB : B = w.heap.size) : Tab w' := by subst hB; exact h.next hb
set_option maxRecDepth 100000 in
set_option maxHeartbeats 4000000 in
theorem lawIdleMixes (A : Option Addr) (n c : Nat) (zs : List Int) (u : Int) (w : World) (hr : Ints w w.heap.size A n zs) (hmax : n ≤ 9223372036854775807) (hT : Tab w) :
    Calls Tryd.prog 3 #[.agg #[.slice A n c, .int .i64 u]] w fun e w' => e = .returned (.bool true) ∧ Below w.heap.size w w' := by
  obtain rfl := hr.len
  have KB := hide (show Below w.heap.size w (w.alloc (.cells #[.slice A zs.length c, .int .i64 u] 24)) from (Below.refl _ _).alloc (Nat.le_refl _) _)
  have KX := hide (Bx.new w 24 (.slice A zs.length c) (.int .i64 u))
  have HZ := hide (fun W => szCups_any A zs.length c u 1048576 W hmax (by omega) (by omega))
  by_cases hbig : (1048576 : Int) < zs.length
  · rw [if_pos hbig] at HZ
    clear hbig
    go_enter Tryd.func3, Tryd.ntmps3
    go_wp2_with fail
    refine (HZ.out _).mono ?_; rintro e w1 ⟨rfl, hb1⟩
    go_wp2_with fail
    go_ret
    exact ⟨rfl, KB.out.trans (hb1.mono KB.out.size)⟩
  · rw [if_neg hbig] at HZ
    have hlt : ¬ ((1048576 : Int) - (zs.length : Int) < 0) := by omega
    have hlow : zs.length ≤ 1048576 := by omega
    have hcap : zs.length ≤ 17592186044416 := by omega
    have HT := hide hT
    have HR := hide hr
    have HSP := hide (fun g W (h : Ints W W.heap.size (some ⟨g, 0, none⟩) zs.length zs) => specIdleMixes_any (some ⟨g, 0, none⟩) zs.length zs.length W.heap.size zs u W h (Nat.le_refl _) hcap)
    have HIM := hide (fun g W (h : Ints W W.heap.size (some ⟨g, 0, none⟩) zs.length zs) (hT : Tab W) => IdleMixes_any (some ⟨g, 0, none⟩) zs.length zs.length W.heap.size zs u W h (Nat.le_refl _) hcap hT)
    have hSZ := (idle_short zs u).1
    have hF := (idle_short zs u).2
    have HQ := hide (fun k (hk : k < (idleL zs u).length) => Nat.le_trans (sizeSS_one (idleL zs u) k hk) (Nat.le_trans hSZ (show 1048576 ≤ 17592186044416 by omega)))
    have HM := hide (marksSS_length 1 (idleL zs u))
    generalize idleL zs u = fs at *
    generalize cuOk zs u = bb at *
    have nb : (bb != bb) = false := by simp
    clear hr hbig hmax hT
    go_enter Tryd.func3, Tryd.ntmps3
    have q := KB
    have S0 := hide KB.out.size
    have S00 := hide (show (w.alloc (.cells #[.slice A zs.length c, .int .i64 u] 24)).heap.size = w.heap.size + 1 from by simp)
    have xX0 := KX.out.c0
    have xX1 := KX.out.c1
    go_wp2_with fail
    refine (HZ.out _).mono ?_
    rintro e w1 ⟨rfl, hb1⟩
    clear xX0 xX1
    have S1 := hide (hb1).size
    replace q := hide (below_next q.out hb1)
    replace KX := hide (KX.out.next hb1)
    clear hb1
    have xX0 := KX.out.c0
    have xX1 := KX.out.c1
    go_wp2_with fail
    refine (toCups_any _ _ _ _ _ _ (HR.out.next q.out) hcap).mono ?_
    rintro e w2 ⟨ga, ha2, hz2, rfl, hrow2, hb2⟩
    clear xX0 xX1
    have S2 := hide (hb2).size
    replace q := hide (below_next q.out hb2)
    replace KX := hide (KX.out.next hb2)
    clear hb2
    have Oa := hide (Own.of_row hrow2 ha2 (by unfold maxLen; omega))
    have La := hide (show ∀ ad : Addr, some (⟨ga, 0, none⟩ : Addr) = some ad → w1.heap.size ≤ ad.block ∧ ad.block < w2.heap.size from fun ad hA => by injection hA with hA; subst hA; exact ⟨ha2, hz2⟩)
    clear hrow2 ha2 hz2
    go_wp2_with fail
    refine (HSP.out _ _ Oa.out.ints).mono ?_
    rintro e w3 ⟨Aw, cw, vw, rfl, hw1, hw2, hownw, hb3⟩
    have S3 := hide (hb3).size
    replace q := hide (below_next q.out hb3)
    replace KX := hide (KX.out.next hb3)
    replace Oa := hide (Oa.out.below hb3)
    clear hb3
    clear Oa
    have RW := hide (And.intro hownw.vals hownw.ints)
    clear hownw
    have xX0 := KX.out.c0
    have xX1 := KX.out.c1
    go_wp2_with fail
    refine (toCups_any _ _ _ _ _ _ (HR.out.next q.out) hcap).mono ?_
    rintro e w4 ⟨gb, ha4, hz4, rfl, hrow4, hb4⟩
    clear xX0 xX1
    have S4 := hide (hb4).size
    replace q := hide (below_next q.out hb4)
    replace KX := hide (KX.out.next hb4)
    replace RW := hide (And.intro (RW.out.1.below hb4 (by have := S0.out; have := S00.out; have := S1.out; have := S2.out; have := S3.out; have := S4.out; omega)) (RW.out.2.below hb4 (by have := S0.out; have := S00.out; have := S1.out; have := S2.out; have := S3.out; have := S4.out; omega)))
    clear hb4
    have Ob := hide (Own.of_row hrow4 ha4 (by unfold maxLen; omega))
    have Lb := hide (show ∀ ad : Addr, some (⟨gb, 0, none⟩ : Addr) = some ad → w3.heap.size ≤ ad.block ∧ ad.block < w4.heap.size from fun ad hA => by injection hA with hA; subst hA; exact ⟨ha4, hz4⟩)
    clear hrow4 ha4 hz4
    have hbx : Below w4.heap.size w4 (w4.alloc (.cells #[.slice (some ⟨gb, 0, none⟩) zs.length zs.length, .int .i64 u] 29)) := (Below.refl _ _).alloc (Nat.le_refl _) _
    have BY := hide (Bx.new w4 29 (.slice (some ⟨gb, 0, none⟩) zs.length zs.length) (.int .i64 u))
    have T4 := hide (show (w4.alloc (.cells #[.slice (some ⟨gb, 0, none⟩) zs.length zs.length, .int .i64 u] 29)).heap.size = w4.heap.size + 1 from by simp)
    replace q := hide (below_next q.out hbx)
    replace KX := hide (KX.out.next hbx)
    replace RW := hide (And.intro (RW.out.1.below hbx (by have := S0.out; have := S00.out; have := S1.out; have := S2.out; have := S3.out; have := S4.out; have := T4.out; omega)) (RW.out.2.below hbx (by have := S0.out; have := S00.out; have := S1.out; have := S2.out; have := S3.out; have := S4.out; have := T4.out; omega)))
    replace Ob := hide (Ob.out.below hbx)
    clear hbx
    have xY0 := BY.out.c0
    have xY1 := BY.out.c1
    go_wp2_with fail
    generalize (w4.alloc (.cells #[.slice (some ⟨gb, 0, none⟩) zs.length zs.length, .int .i64 u] 29)) = v4 at *
    try go_wp2_with fail
    refine (HIM.out _ _ Ob.out.ints (HT.out.next q.out)).mono ?_
    rintro e w5 ⟨Ag, cg, vg, rfl, hg1, hg2, OG, hb5⟩
    clear xY0 xY1
    have S5 := hide (hb5).size
    replace q := hide (below_next q.out hb5)
    replace KX := hide (KX.out.next hb5)
    replace RW := hide (And.intro (RW.out.1.below hb5 (by have := S0.out; have := S00.out; have := S1.out; have := S2.out; have := S3.out; have := S4.out; have := T4.out; have := S5.out; omega)) (RW.out.2.below hb5 (by have := S0.out; have := S00.out; have := S1.out; have := S2.out; have := S3.out; have := S4.out; have := T4.out; have := S5.out; omega)))
    replace Ob := hide (Ob.out.below hb5)
    replace BY := hide (BY.out.next hb5)
    clear hb5
    replace OG := hide OG
    go_wp2_with fail
    refine (eqIntSS_same _ _ _ _ _ _ _ _ fs _ OG.out.vals OG.out.ints (RW.out.1.more (by have := S0.out; have := S00.out; have := S1.out; have := S2.out; have := S3.out; have := S4.out; have := T4.out; have := S5.out; omega)) (RW.out.2.more (by have := S0.out; have := S00.out; have := S1.out; have := S2.out; have := S3.out; have := S4.out; have := T4.out; have := S5.out; omega)) (Nat.le_refl _) (by omega) HQ.out).mono ?_
    rintro e w6 ⟨rfl, hb6⟩
    have S6 := hide (hb6).size
    replace q := hide (below_next q.out hb6)
    replace KX := hide (KX.out.next hb6)
    replace RW := hide (And.intro (RW.out.1.below hb6 (by have := S0.out; have := S00.out; have := S1.out; have := S2.out; have := S3.out; have := S4.out; have := T4.out; have := S5.out; have := S6.out; omega)) (RW.out.2.below hb6 (by have := S0.out; have := S00.out; have := S1.out; have := S2.out; have := S3.out; have := S4.out; have := T4.out; have := S5.out; have := S6.out; omega)))
    replace Ob := hide (Ob.out.below hb6)
    replace BY := hide (BY.out.next hb6)
    replace OG := hide (OG.out.below hb6)
    clear hb6
    have HS5 := hide (fun W (h : Below w6.heap.size w6 W) => And.intro h (And.intro (BY.out.next h).c0 (And.intro (BY.out.next h).c1 (And.intro (KX.out.next h).c0 (KX.out.next h).c1))))
    have HTC := hide (fun W (h : Below w6.heap.size w6 W) => toCups_any A zs.length c zs u W (HR.out.next (below_next q.out h)) hcap)
    have HEQ := hide (fun W (h : Below w6.heap.size w6 W) g (h' : Ints W W.heap.size (some ⟨g, 0, none⟩) zs.length zs) => eqCups_same (some ⟨gb, 0, none⟩) (some ⟨g, 0, none⟩) zs.length zs.length zs.length _ _ zs u W (Ob.out.below h).ints h' (Nat.le_refl _) (Nat.le_refl _) hcap)
    go_wp2_with fail
    first | go_region_held3 (fun W => Below w6.heap.size w6 W ∧ W.cell? ⟨w4.heap.size, 0, none⟩ = some (.slice (some ⟨gb, 0, none⟩) zs.length zs.length) ∧ W.cell? ⟨w4.heap.size, 1, none⟩ = some (.int .i64 u) ∧ W.cell? ⟨w.heap.size, 0, none⟩ = some (.slice A zs.length c) ∧ W.cell? ⟨w.heap.size, 1, none⟩ = some (.int .i64 u))
      (first | exact HS5.out _ (Below.refl _ _).drew | exact HS5.out _ (below_next (And.left (by assumption)) hbd2) | exact HS5.out _ (below_next (And.left (by assumption)) hbd1) | go_keep)
      (first
      | (go_at_call 6; (with_reducible refine (HTC.out _ (And.left (by assumption))).mono ?_); rintro e wd1 ⟨g3, _, hz3, rfl, hrow3, hbd1⟩)
      | (go_at_call 9; (with_reducible refine (HEQ.out _ (And.left (by assumption)) _ (hrow3.ints hz3)).mono ?_); rintro e wd2 ⟨rfl, hbd2⟩)) | fail
    have hbd : Below w6.heap.size w6 wd2 := And.left (by assumption : Below w6.heap.size w6 wd2 ∧ _)
    clear HTC HEQ HS5
    have S7 := hide (hbd).size
    replace q := hide (below_next q.out hbd)
    replace KX := hide (KX.out.next hbd)
    replace RW := hide (And.intro (RW.out.1.below hbd (by have := S0.out; have := S00.out; have := S1.out; have := S2.out; have := S3.out; have := S4.out; have := T4.out; have := S5.out; have := S6.out; have := S7.out; omega)) (RW.out.2.below hbd (by have := S0.out; have := S00.out; have := S1.out; have := S2.out; have := S3.out; have := S4.out; have := T4.out; have := S5.out; have := S6.out; have := S7.out; omega)))
    replace Ob := hide (Ob.out.below hbd)
    replace BY := hide (BY.out.next hbd)
    replace OG := hide (OG.out.below hbd)
    clear hbd
    have xY0 := BY.out.c0
    have xY1 := BY.out.c1
    go_wp2_with fail
    refine (markCups_any _ _ _ _ _ _ _ _ Ob.out rfl (by omega) (by omega) (by omega) (by have := S0.out; have := S00.out; have := S1.out; have := S2.out; have := S3.out; have := S4.out; have := T4.out; have := S5.out; have := S6.out; have := S7.out; omega)).mono ?_
    rintro e w8 ⟨rfl, _, hb8, hoth8⟩
    clear xY0 xY1
    have S8 := hide (hb8).size
    replace q := hide (q.out.trans (hb8.mono (by have := S0.out; have := S00.out; have := S1.out; have := S2.out; have := S3.out; have := S4.out; have := T4.out; have := S5.out; have := S6.out; have := S7.out; have := S8.out; omega)))
    replace KX := hide (KX.out.below hb8 (by have := S0.out; have := S00.out; have := S1.out; have := S2.out; have := S3.out; have := S4.out; have := T4.out; have := S5.out; have := S6.out; have := S7.out; have := S8.out; omega))
    replace RW := hide (And.intro (RW.out.1.below hb8 (by have := S0.out; have := S00.out; have := S1.out; have := S2.out; have := S3.out; have := S4.out; have := T4.out; have := S5.out; have := S6.out; have := S7.out; have := S8.out; omega)) (RW.out.2.below hb8 (by have := S0.out; have := S00.out; have := S1.out; have := S2.out; have := S3.out; have := S4.out; have := T4.out; have := S5.out; have := S6.out; have := S7.out; have := S8.out; omega)))
    replace BY := hide (show Bx w8 w4.heap.size 29 (.slice (some ⟨gb, 0, none⟩) zs.length zs.length) (.int .i64 u) from (hoth8 _ BY.out.lt (fun ad hA e => by have h' := (Lb.out ad hA).2; have := S0.out; have := S00.out; have := S1.out; have := S2.out; have := S3.out; have := S4.out; have := T4.out; have := S5.out; have := S6.out; have := S7.out; have := S8.out; omega)).trans BY.out)
    replace OG := hide (OG.out.keep fun h hh hl => hoth8 h hl (fun ad hA e => by have h' := (Lb.out ad hA).2; have := S0.out; have := S00.out; have := S1.out; have := S2.out; have := S3.out; have := S4.out; have := T4.out; have := S5.out; have := S6.out; have := S7.out; have := S8.out; omega))
    clear hb8
    clear hoth8
    clear Ob
    clear BY
    go_wp2_with fail
    refine (eqIntSS_same _ _ _ _ _ _ _ _ fs _ OG.out.vals OG.out.ints (RW.out.1.more (by have := S0.out; have := S00.out; have := S1.out; have := S2.out; have := S3.out; have := S4.out; have := T4.out; have := S5.out; have := S6.out; have := S7.out; have := S8.out; omega)) (RW.out.2.more (by have := S0.out; have := S00.out; have := S1.out; have := S2.out; have := S3.out; have := S4.out; have := T4.out; have := S5.out; have := S6.out; have := S7.out; have := S8.out; omega)) (Nat.le_refl _) (by omega) HQ.out).mono ?_
    rintro e w9 ⟨rfl, hb9⟩
    have S9 := hide (hb9).size
    replace q := hide (below_next q.out hb9)
    replace KX := hide (KX.out.next hb9)
    replace RW := hide (And.intro (RW.out.1.below hb9 (by have := S0.out; have := S00.out; have := S1.out; have := S2.out; have := S3.out; have := S4.out; have := T4.out; have := S5.out; have := S6.out; have := S7.out; have := S8.out; have := S9.out; omega)) (RW.out.2.below hb9 (by have := S0.out; have := S00.out; have := S1.out; have := S2.out; have := S3.out; have := S4.out; have := T4.out; have := S5.out; have := S6.out; have := S7.out; have := S8.out; have := S9.out; omega)))
    replace OG := hide (OG.out.below hb9)
    clear hb9
    go_wp2_with fail
    refine (markIntSS_any _ _ _ _ _ _ _ _ OG.out rfl hSZ (by omega) (by omega) (by have := S0.out; have := S00.out; have := S1.out; have := S2.out; have := S3.out; have := S4.out; have := T4.out; have := S5.out; have := S6.out; have := S7.out; have := S8.out; have := S9.out; omega) (by omega)).mono ?_
    rintro e w10 ⟨rfl, hG10, hb10⟩
    have S10 := hide (hb10).size
    replace q := hide (q.out.trans (hb10.mono (by have := S0.out; have := S00.out; have := S1.out; have := S2.out; have := S3.out; have := S4.out; have := T4.out; have := S5.out; have := S6.out; have := S7.out; have := S8.out; have := S9.out; have := S10.out; omega)))
    replace KX := hide (KX.out.below hb10 (by have := S0.out; have := S00.out; have := S1.out; have := S2.out; have := S3.out; have := S4.out; have := T4.out; have := S5.out; have := S6.out; have := S7.out; have := S8.out; have := S9.out; have := S10.out; omega))
    replace RW := hide (And.intro (RW.out.1.below hb10 (by have := S0.out; have := S00.out; have := S1.out; have := S2.out; have := S3.out; have := S4.out; have := T4.out; have := S5.out; have := S6.out; have := S7.out; have := S8.out; have := S9.out; have := S10.out; omega)) (RW.out.2.below hb10 (by have := S0.out; have := S00.out; have := S1.out; have := S2.out; have := S3.out; have := S4.out; have := T4.out; have := S5.out; have := S6.out; have := S7.out; have := S8.out; have := S9.out; have := S10.out; omega)))
    clear hb10
    replace OG := hide hG10
    clear hG10
    go_wp2_with fail
    refine (heldIntSS_any _ _ _ _ _ _ _ _ (by have := OG.out.vals; rw [HM.out] at this; exact this) OG.out.ints rfl (by omega) hSZ (by omega) (by omega)).mono ?_
    rintro e w' ⟨rfl, rfl⟩
    have xX0 := KX.out.c0
    have xX1 := KX.out.c1
    go_wp2_with fail
    refine (toCups_any _ _ _ _ _ _ (HR.out.next q.out) hcap).mono ?_
    rintro e w11 ⟨gd, ha11, hz11, rfl, hrow11, hb11⟩
    clear xX0 xX1
    have S11 := hide (hb11).size
    replace q := hide (below_next q.out hb11)
    replace KX := hide (KX.out.next hb11)
    replace RW := hide (And.intro (RW.out.1.below hb11 (by have := S0.out; have := S00.out; have := S1.out; have := S2.out; have := S3.out; have := S4.out; have := T4.out; have := S5.out; have := S6.out; have := S7.out; have := S8.out; have := S9.out; have := S10.out; have := S11.out; omega)) (RW.out.2.below hb11 (by have := S0.out; have := S00.out; have := S1.out; have := S2.out; have := S3.out; have := S4.out; have := T4.out; have := S5.out; have := S6.out; have := S7.out; have := S8.out; have := S9.out; have := S10.out; have := S11.out; omega)))
    replace OG := hide (OG.out.below hb11)
    clear hb11
    have Od := hide (Own.of_row hrow11 ha11 (by unfold maxLen; omega))
    have Ld := hide (show ∀ ad : Addr, some (⟨gd, 0, none⟩ : Addr) = some ad → w10.heap.size ≤ ad.block ∧ ad.block < w11.heap.size from fun ad hA => by injection hA with hA; subst hA; exact ⟨ha11, hz11⟩)
    clear hrow11 ha11 hz11
    go_wp2_with fail
    refine (HIM.out _ _ Od.out.ints (HT.out.next q.out)).mono ?_
    rintro e w12 ⟨Ah, ch, vh, rfl, hh1, hh2, OH, hb12⟩
    have S12 := hide (hb12).size
    replace q := hide (below_next q.out hb12)
    replace KX := hide (KX.out.next hb12)
    replace RW := hide (And.intro (RW.out.1.below hb12 (by have := S0.out; have := S00.out; have := S1.out; have := S2.out; have := S3.out; have := S4.out; have := T4.out; have := S5.out; have := S6.out; have := S7.out; have := S8.out; have := S9.out; have := S10.out; have := S11.out; have := S12.out; omega)) (RW.out.2.below hb12 (by have := S0.out; have := S00.out; have := S1.out; have := S2.out; have := S3.out; have := S4.out; have := T4.out; have := S5.out; have := S6.out; have := S7.out; have := S8.out; have := S9.out; have := S10.out; have := S11.out; have := S12.out; omega)))
    replace OG := hide (OG.out.below hb12)
    replace Od := hide (Od.out.below hb12)
    clear hb12
    replace OH := hide OH
    go_wp2_with fail
    refine (eqIntSS_same _ _ _ _ _ _ _ _ fs _ OH.out.vals OH.out.ints (RW.out.1.more (by have := S0.out; have := S00.out; have := S1.out; have := S2.out; have := S3.out; have := S4.out; have := T4.out; have := S5.out; have := S6.out; have := S7.out; have := S8.out; have := S9.out; have := S10.out; have := S11.out; have := S12.out; omega)) (RW.out.2.more (by have := S0.out; have := S00.out; have := S1.out; have := S2.out; have := S3.out; have := S4.out; have := T4.out; have := S5.out; have := S6.out; have := S7.out; have := S8.out; have := S9.out; have := S10.out; have := S11.out; have := S12.out; omega)) (Nat.le_refl _) (by omega) HQ.out).mono ?_
    rintro e w13 ⟨rfl, hb13⟩
    have S13 := hide (hb13).size
    replace q := hide (below_next q.out hb13)
    replace KX := hide (KX.out.next hb13)
    replace RW := hide (And.intro (RW.out.1.below hb13 (by have := S0.out; have := S00.out; have := S1.out; have := S2.out; have := S3.out; have := S4.out; have := T4.out; have := S5.out; have := S6.out; have := S7.out; have := S8.out; have := S9.out; have := S10.out; have := S11.out; have := S12.out; have := S13.out; omega)) (RW.out.2.below hb13 (by have := S0.out; have := S00.out; have := S1.out; have := S2.out; have := S3.out; have := S4.out; have := T4.out; have := S5.out; have := S6.out; have := S7.out; have := S8.out; have := S9.out; have := S10.out; have := S11.out; have := S12.out; have := S13.out; omega)))
    replace OG := hide (OG.out.below hb13)
    replace Od := hide (Od.out.below hb13)
    replace OH := hide (OH.out.below hb13)
    clear hb13
    go_wp2_with fail
    refine (heldIntSS_any _ _ _ _ _ _ _ _ (by have := OG.out.vals; rw [HM.out] at this; exact this) OG.out.ints rfl (by omega) hSZ (by omega) (by omega)).mono ?_
    rintro e w' ⟨rfl, rfl⟩
    go_wp2_with fail
    go_ret
    exact ⟨rfl, q.out⟩
end Go.Proofs.YtmknencbjhcehaaDoor
