
/-
  THE WALK OF PLAYMIXES' EXACT LAW, the given frame left out: for all cups and mixes the law returns true and writes nothing that was there. (Printed by playlaw.py.)
-/
import Derived.Test.YtjfkadmmmhefbaaDoorCuL
import Derived.Test.YtjfkadmmmhefbaaDoorCuO
import Derived.Test.YtjfkadmmmhefbaaDoorCuZ
import Derived.Test.YtjfkadmmmhefbaaDoorCuXB
import Derived.Test.YtjfkadmmmhefbaaDoorCuXD
import Derived.Test.YtjfkadmmmhefbaaDoorTss
import Derived.Test.YtjfkadmmmhefbaaDoorSsM
import Derived.Deep.RegionHeld3
namespace Go.Proofs.YtjfkadmmmhefbaaDoor
open Go.RowKit Go.Deep
set_option linter.unusedVariables false

theorem Tab.of {w w' : World} {B : Nat} (h : Tab w) (hb : Below B w w') (hB : B = w.heap.size) : Tab w' := by subst hB; exact h.next hb
set_option maxRecDepth 100000 in
set_option maxHeartbeats 4000000 in
theorem lawPlayMixes (A : Option Addr) (n c : Nat) (zs : List Int) (u : Int) (MA : Option Addr) (mn mc : Nat) (vs : List Value) (ms : List (List Int)) (w : World) (hr : Ints w w.heap.size A n zs) (hmax : n ≤ 9223372036854775807)
    (hv : Vals w w.heap.size MA mn vs) (hi : IntVs w w.heap.size vs ms) (hmm : mn ≤ 9223372036854775807) (hml : ∀ j, j < ms.length → (ms.getD j []).length ≤ 9223372036854775807) (hT : Tab w) :
    Calls Tryd.prog 3 #[.agg #[.slice A n c, .int .i64 u], .slice MA mn mc] w fun e w' => e = .returned (.bool true) ∧ Below w.heap.size w w' := by
  obtain rfl := hr.len
  obtain rfl : ms.length = mn := (hv.1.symm.trans hi.1).symm
  have KB := hide (show Below w.heap.size w (w.alloc (.cells #[.slice A zs.length c, .int .i64 u] 24)) from (Below.refl _ _).alloc (Nat.le_refl _) _)
  have KX := hide (Bx.new w 24 (.slice A zs.length c) (.int .i64 u))
  have HZ := hide (fun W => szCups_any A zs.length c u 1048576 W hmax (by omega) (by omega))
  by_cases hbig : (1048576 : Int) < zs.length
  · rw [if_pos hbig] at HZ
    clear hbig
    go_enter Tryd.func3, Tryd.ntmps3
    go_wp2_with fail
    refine (HZ.out _).mono ?_; rintro e w1 ⟨rfl, hb1⟩
    go_wp2_with fail
    go_ret
    exact ⟨rfl, KB.out.trans (hb1.mono KB.out.size)⟩
  · rw [if_neg hbig] at HZ
    have hlt : ¬ ((1048576 : Int) - (zs.length : Int) < 0) := by omega
    have hlow : zs.length ≤ 1048576 := by omega
    have hcap : zs.length ≤ 17592186044416 := by omega
    have HV := hide hv
    have HI := hide hi
    have HZM := hide (fun W (h : Below w.heap.size w W) => szIntSS_any MA ms.length mc w.heap.size vs ms (1048576 - (zs.length : Int)) W (HV.out.below h (Nat.le_refl _)) (HI.out.below h (Nat.le_refl _)) h.size hmm hml (by omega) (by omega))
    have HT := hide hT
    have HR := hide hr
    clear hr hbig hmax hv hi hT hmm hml
    go_enter Tryd.func3, Tryd.ntmps3
    have q := KB
    have S0 := hide KB.out.size
    have S00 := hide (show (w.alloc (.cells #[.slice A zs.length c, .int .i64 u] 24)).heap.size = w.heap.size + 1 from by simp)
    have xX0 := KX.out.c0
    have xX1 := KX.out.c1
    go_wp2_with fail
    refine (HZ.out _).mono ?_
    rintro e w1 ⟨rfl, hb1⟩
    clear xX0 xX1
    have S1 := hide (hb1).size
    replace q := hide (below_next q.out hb1)
    replace KX := hide (KX.out.next hb1)
    clear hb1
    go_wp2_with fail
    refine (HZM.out _ q.out).mono ?_
    rintro e w2 ⟨⟨r, rfl, hrr⟩, hb2⟩
    have S2 := hide (hb2).size
    replace q := hide (below_next q.out hb2)
    replace KX := hide (KX.out.next hb2)
    clear hb2
    rcases hrr with hneg | ⟨hsum, hpos⟩
    · go_wp2_with fail
      go_ret
      exact ⟨rfl, q.out⟩
    have hnn : ¬ r < 0 := by omega
    have hSZ : sizeSS ms ≤ 1048576 := by omega
    have hmlow : ms.length ≤ 1048576 := by omega
    have hmcap : ms.length ≤ 17592186044416 := by omega
    have HQ := hide (fun k (hk : k < ms.length) => Nat.le_trans (sizeSS_one ms k hk) (Nat.le_trans hSZ (show 1048576 ≤ 17592186044416 by omega)))
    have HSP := hide (fun g gm vs' W (h : Ints W W.heap.size (some ⟨g, 0, none⟩) zs.length zs) (hv : Vals W W.heap.size (some ⟨gm, 0, none⟩) ms.length vs') (hi : IntVs W W.heap.size vs' ms) => specPlayMixes_any (some ⟨g, 0, none⟩) zs.length zs.length W.heap.size zs u (some ⟨gm, 0, none⟩) ms.length ms.length vs' ms W h hv hi (Nat.le_refl _) hcap)
    have HIM := hide (fun g gm vs' W (h : Ints W W.heap.size (some ⟨g, 0, none⟩) zs.length zs) (hv : Vals W W.heap.size (some ⟨gm, 0, none⟩) ms.length vs') (hi : IntVs W W.heap.size vs' ms) (hT : Tab W) => PlayMixes_any (some ⟨g, 0, none⟩) zs.length zs.length W.heap.size zs u (some ⟨gm, 0, none⟩) ms.length ms.length vs' ms W h hv hi (Nat.le_refl _) hcap hmcap hT)
    have HCM := hide (fun W (h : Below w.heap.size w W) => toIntSS_any MA ms.length mc w.heap.size vs ms W (HV.out.below h (Nat.le_refl _)) (HI.out.below h (Nat.le_refl _)) h.size hmlow HQ.out)
    have hF : (pmL zs u ms).length ≤ 1048576 := pmL_len zs u ms
    generalize pmL zs u ms = fs at *
    generalize pmU zs u ms = fu at *
    generalize pmOk zs u ms = bb at *
    have nb : (bb != bb) = false := by simp
    clear hsum hpos HZ HZM
    have xX0 := KX.out.c0
    have xX1 := KX.out.c1
    go_wp2_with fail
    refine (toCups_any _ _ _ _ _ _ (HR.out.next q.out) hcap).mono ?_
    rintro e w3 ⟨ga, ha3, hz3, rfl, hrow3, hb3⟩
    clear xX0 xX1
    have S3 := hide (hb3).size
    replace q := hide (below_next q.out hb3)
    replace KX := hide (KX.out.next hb3)
    clear hb3
    have Oa := hide (Own.of_row hrow3 ha3 (by unfold maxLen; omega))
    have La := hide (show ∀ ad : Addr, some (⟨ga, 0, none⟩ : Addr) = some ad → w2.heap.size ≤ ad.block ∧ ad.block < w3.heap.size from fun ad hA => by injection hA with hA; subst hA; exact ⟨ha3, hz3⟩)
    clear hrow3 ha3 hz3
    go_wp2_with fail
    refine (HCM.out _ q.out).mono ?_
    rintro e w4 ⟨mp, np, hm14, hm24, rfl, hown4, hb4⟩
    have S4 := hide (hb4).size
    replace q := hide (below_next q.out hb4)
    replace KX := hide (KX.out.next hb4)
    replace Oa := hide (Oa.out.below hb4)
    clear hb4
    have Mp := hide hown4
    have Kp := hide hown4.blk_lt
    clear hown4 hm14 hm24
    go_wp2_with fail
    refine (HSP.out _ _ _ _ Oa.out.ints Mp.out.vals Mp.out.ints).mono ?_
    rintro e w5 ⟨Aw, cw, rfl, hw1, hw2, hownw, hb5⟩
    have S5 := hide (hb5).size
    replace q := hide (below_next q.out hb5)
    replace KX := hide (KX.out.next hb5)
    replace Oa := hide (Oa.out.below hb5)
    replace Mp := hide (Mp.out.below hb5)
    clear hb5
    clear Oa
    clear Mp
    have RW := hide (hownw.ints)
    clear hownw
    have hbx : Below w5.heap.size w5 (w5.alloc (.cells #[.slice Aw fs.length cw, .int .i64 fu] 28)) := (Below.refl _ _).alloc (Nat.le_refl _) _
    have BW := hide (Bx.new w5 28 (.slice Aw fs.length cw) (.int .i64 fu))
    have T5 := hide (show (w5.alloc (.cells #[.slice Aw fs.length cw, .int .i64 fu] 28)).heap.size = w5.heap.size + 1 from by simp)
    replace q := hide (below_next q.out hbx)
    replace KX := hide (KX.out.next hbx)
    replace RW := hide (RW.out.below hbx (by have := S0.out; have := S00.out; have := S1.out; have := S2.out; have := S3.out; have := S4.out; have := S5.out; have := T5.out; omega))
    clear hbx
    have xX0 := KX.out.c0
    have xX1 := KX.out.c1
    go_wp2_with fail
    generalize (w5.alloc (.cells #[.slice Aw fs.length cw, .int .i64 fu] 28)) = v5 at *
    try go_wp2_with fail
    refine (toCups_any _ _ _ _ _ _ (HR.out.next q.out) hcap).mono ?_
    rintro e w6 ⟨gb, ha6, hz6, rfl, hrow6, hb6⟩
    clear xX0 xX1
    have S6 := hide (hb6).size
    replace q := hide (below_next q.out hb6)
    replace KX := hide (KX.out.next hb6)
    replace RW := hide (RW.out.below hb6 (by have := S0.out; have := S00.out; have := S1.out; have := S2.out; have := S3.out; have := S4.out; have := S5.out; have := T5.out; have := S6.out; omega))
    replace BW := hide (BW.out.next hb6)
    clear hb6
    have Ob := hide (Own.of_row hrow6 ha6 (by unfold maxLen; omega))
    have Lb := hide (show ∀ ad : Addr, some (⟨gb, 0, none⟩ : Addr) = some ad → v5.heap.size ≤ ad.block ∧ ad.block < w6.heap.size from fun ad hA => by injection hA with hA; subst hA; exact ⟨ha6, hz6⟩)
    clear hrow6 ha6 hz6
    have hbx : Below w6.heap.size w6 (w6.alloc (.cells #[.slice (some ⟨gb, 0, none⟩) zs.length zs.length, .int .i64 u] 28)) := (Below.refl _ _).alloc (Nat.le_refl _) _
    have BY := hide (Bx.new w6 28 (.slice (some ⟨gb, 0, none⟩) zs.length zs.length) (.int .i64 u))
    have T6 := hide (show (w6.alloc (.cells #[.slice (some ⟨gb, 0, none⟩) zs.length zs.length, .int .i64 u] 28)).heap.size = w6.heap.size + 1 from by simp)
    replace q := hide (below_next q.out hbx)
    replace KX := hide (KX.out.next hbx)
    replace RW := hide (RW.out.below hbx (by have := S0.out; have := S00.out; have := S1.out; have := S2.out; have := S3.out; have := S4.out; have := S5.out; have := T5.out; have := S6.out; have := T6.out; omega))
    replace BW := hide (BW.out.next hbx)
    replace Ob := hide (Ob.out.below hbx)
    clear hbx
    go_wp2_with fail
    generalize (w6.alloc (.cells #[.slice (some ⟨gb, 0, none⟩) zs.length zs.length, .int .i64 u] 28)) = v6 at *
    try go_wp2_with fail
    refine (HCM.out _ q.out).mono ?_
    rintro e w7 ⟨mb, nb, hm17, hm27, rfl, hown7, hb7⟩
    have S7 := hide (hb7).size
    replace q := hide (below_next q.out hb7)
    replace KX := hide (KX.out.next hb7)
    replace RW := hide (RW.out.below hb7 (by have := S0.out; have := S00.out; have := S1.out; have := S2.out; have := S3.out; have := S4.out; have := S5.out; have := T5.out; have := S6.out; have := T6.out; have := S7.out; omega))
    replace BW := hide (BW.out.next hb7)
    replace Ob := hide (Ob.out.below hb7)
    replace BY := hide (BY.out.next hb7)
    clear hb7
    have Mb := hide hown7
    have Kb := hide hown7.blk_lt
    clear hown7 hm17 hm27
    have xY0 := BY.out.c0
    have xY1 := BY.out.c1
    go_wp2_with fail
    refine (HIM.out _ _ _ _ Ob.out.ints Mb.out.vals Mb.out.ints (HT.out.next q.out)).mono ?_
    rintro e w8 ⟨Ag, cg, rfl, hg1, hg2, OG, hb8⟩
    clear xY0 xY1
    have S8 := hide (hb8).size
    replace q := hide (below_next q.out hb8)
    replace KX := hide (KX.out.next hb8)
    replace RW := hide (RW.out.below hb8 (by have := S0.out; have := S00.out; have := S1.out; have := S2.out; have := S3.out; have := S4.out; have := S5.out; have := T5.out; have := S6.out; have := T6.out; have := S7.out; have := S8.out; omega))
    replace BW := hide (BW.out.next hb8)
    replace Ob := hide (Ob.out.below hb8)
    replace BY := hide (BY.out.next hb8)
    replace Mb := hide (Mb.out.below hb8)
    clear hb8
    have LG := hide (show ∀ ad : Addr, Ag = some ad → w7.heap.size ≤ ad.block ∧ ad.block < w8.heap.size from fun ad hA => by
      rcases OG.form with ⟨h1, _⟩ | ⟨g, c', h1, hb, hlt, _⟩
      · injection h1 with h1; rw [h1] at hA; cases hA
      · injection h1 with h1; rw [h1] at hA; injection hA with hA; subst hA; exact ⟨hb, hlt⟩)
    replace OG := hide OG
    have hbx : Below w8.heap.size w8 (w8.alloc (.cells #[.slice Ag fs.length cg, .int .i64 fu] 28)) := (Below.refl _ _).alloc (Nat.le_refl _) _
    have BG := hide (Bx.new w8 28 (.slice Ag fs.length cg) (.int .i64 fu))
    have T8 := hide (show (w8.alloc (.cells #[.slice Ag fs.length cg, .int .i64 fu] 28)).heap.size = w8.heap.size + 1 from by simp)
    replace q := hide (below_next q.out hbx)
    replace KX := hide (KX.out.next hbx)
    replace RW := hide (RW.out.below hbx (by have := S0.out; have := S00.out; have := S1.out; have := S2.out; have := S3.out; have := S4.out; have := S5.out; have := T5.out; have := S6.out; have := T6.out; have := S7.out; have := S8.out; have := T8.out; omega))
    replace BW := hide (BW.out.next hbx)
    replace Ob := hide (Ob.out.below hbx)
    replace BY := hide (BY.out.next hbx)
    replace Mb := hide (Mb.out.below hbx)
    replace OG := hide (OG.out.below hbx)
    clear hbx
    have xW0 := BW.out.c0
    have xW1 := BW.out.c1
    have xG0 := BG.out.c0
    have xG1 := BG.out.c1
    go_wp2_with fail
    generalize (w8.alloc (.cells #[.slice Ag fs.length cg, .int .i64 fu] 28)) = v8 at *
    try go_wp2_with fail
    refine (eqCups_same _ _ _ _ _ _ _ _ _ _ OG.out.ints RW.out (Nat.le_refl _) (by have := S0.out; have := S00.out; have := S1.out; have := S2.out; have := S3.out; have := S4.out; have := S5.out; have := T5.out; have := S6.out; have := T6.out; have := S7.out; have := S8.out; have := T8.out; omega) (by omega)).mono ?_
    rintro e w9 ⟨rfl, hb9⟩
    clear xW0 xW1 xG0 xG1
    have S9 := hide (hb9).size
    replace q := hide (below_next q.out hb9)
    replace KX := hide (KX.out.next hb9)
    replace RW := hide (RW.out.below hb9 (by have := S0.out; have := S00.out; have := S1.out; have := S2.out; have := S3.out; have := S4.out; have := S5.out; have := T5.out; have := S6.out; have := T6.out; have := S7.out; have := S8.out; have := T8.out; have := S9.out; omega))
    replace BW := hide (BW.out.next hb9)
    replace Ob := hide (Ob.out.below hb9)
    replace BY := hide (BY.out.next hb9)
    replace Mb := hide (Mb.out.below hb9)
    replace OG := hide (OG.out.below hb9)
    replace BG := hide (BG.out.next hb9)
    clear hb9
    have HS5 := hide (fun W (h : Below w9.heap.size w9 W) => And.intro h (And.intro (BY.out.next h).c0 (And.intro (BY.out.next h).c1 (And.intro (KX.out.next h).c0 (KX.out.next h).c1))))
    have HTC := hide (fun W (h : Below w9.heap.size w9 W) => toCups_any A zs.length c zs u W (HR.out.next (below_next q.out h)) hcap)
    have HEQ := hide (fun W (h : Below w9.heap.size w9 W) g (h' : Ints W W.heap.size (some ⟨g, 0, none⟩) zs.length zs) => eqCups_same (some ⟨gb, 0, none⟩) (some ⟨g, 0, none⟩) zs.length zs.length zs.length _ _ zs u W (Ob.out.below h).ints h' (Nat.le_refl _) (Nat.le_refl _) hcap)
    go_wp2_with fail
    first | go_region_held3 (fun W => Below w9.heap.size w9 W ∧ W.cell? ⟨w6.heap.size, 0, none⟩ = some (.slice (some ⟨gb, 0, none⟩) zs.length zs.length) ∧ W.cell? ⟨w6.heap.size, 1, none⟩ = some (.int .i64 u) ∧ W.cell? ⟨w.heap.size, 0, none⟩ = some (.slice A zs.length c) ∧ W.cell? ⟨w.heap.size, 1, none⟩ = some (.int .i64 u))
      (first | exact HS5.out _ (Below.refl _ _).drew | exact HS5.out _ (below_next (And.left (by assumption)) hbd2) | exact HS5.out _ (below_next (And.left (by assumption)) hbd1) | go_keep)
      (first
      | (go_at_call 7; (with_reducible refine (HTC.out _ (And.left (by assumption))).mono ?_); rintro e wd1 ⟨g3, _, hz3, rfl, hrow3, hbd1⟩)
      | (go_at_call 10; (with_reducible refine (HEQ.out _ (And.left (by assumption)) _ (hrow3.ints hz3)).mono ?_); rintro e wd2 ⟨rfl, hbd2⟩)) | fail
    have hbd : Below w9.heap.size w9 wd2 := And.left (by assumption : Below w9.heap.size w9 wd2 ∧ _)
    clear HTC HEQ HS5
    have S10 := hide (hbd).size
    replace q := hide (below_next q.out hbd)
    replace KX := hide (KX.out.next hbd)
    replace RW := hide (RW.out.below hbd (by have := S0.out; have := S00.out; have := S1.out; have := S2.out; have := S3.out; have := S4.out; have := S5.out; have := T5.out; have := S6.out; have := T6.out; have := S7.out; have := S8.out; have := T8.out; have := S9.out; have := S10.out; omega))
    replace BW := hide (BW.out.next hbd)
    replace Ob := hide (Ob.out.below hbd)
    replace BY := hide (BY.out.next hbd)
    replace Mb := hide (Mb.out.below hbd)
    replace OG := hide (OG.out.below hbd)
    replace BG := hide (BG.out.next hbd)
    clear hbd
    go_wp2_with fail
    refine (HCM.out _ q.out).mono ?_
    rintro e w11 ⟨mc, nc, hm111, hm211, rfl, hown11, hb11⟩
    have S11 := hide (hb11).size
    replace q := hide (below_next q.out hb11)
    replace KX := hide (KX.out.next hb11)
    replace RW := hide (RW.out.below hb11 (by have := S0.out; have := S00.out; have := S1.out; have := S2.out; have := S3.out; have := S4.out; have := S5.out; have := T5.out; have := S6.out; have := T6.out; have := S7.out; have := S8.out; have := T8.out; have := S9.out; have := S10.out; have := S11.out; omega))
    replace BW := hide (BW.out.next hb11)
    replace Ob := hide (Ob.out.below hb11)
    replace BY := hide (BY.out.next hb11)
    replace Mb := hide (Mb.out.below hb11)
    replace OG := hide (OG.out.below hb11)
    replace BG := hide (BG.out.next hb11)
    clear hb11
    go_wp2_with fail
    refine (eqIntSS_same _ _ _ _ _ _ _ _ ms _ Mb.out.vals Mb.out.ints hown11.vals hown11.ints (Nat.le_refl _) hmcap HQ.out).mono ?_
    rintro e w12 ⟨rfl, hb12⟩
    have S12 := hide (hb12).size
    replace q := hide (below_next q.out hb12)
    replace KX := hide (KX.out.next hb12)
    replace RW := hide (RW.out.below hb12 (by have := S0.out; have := S00.out; have := S1.out; have := S2.out; have := S3.out; have := S4.out; have := S5.out; have := T5.out; have := S6.out; have := T6.out; have := S7.out; have := S8.out; have := T8.out; have := S9.out; have := S10.out; have := S11.out; have := S12.out; omega))
    replace BW := hide (BW.out.next hb12)
    replace Ob := hide (Ob.out.below hb12)
    replace BY := hide (BY.out.next hb12)
    replace Mb := hide (Mb.out.below hb12)
    replace OG := hide (OG.out.below hb12)
    replace BG := hide (BG.out.next hb12)
    clear hb12
    clear hown11 hm111 hm211
    have xY0 := BY.out.c0
    have xY1 := BY.out.c1
    go_wp2_with fail
    refine (markCups_any _ _ _ _ _ _ _ _ Ob.out rfl (by omega) (by omega) (by omega) (by have := S0.out; have := S00.out; have := S1.out; have := S2.out; have := S3.out; have := S4.out; have := S5.out; have := T5.out; have := S6.out; have := T6.out; have := S7.out; have := S8.out; have := T8.out; have := S9.out; have := S10.out; have := S11.out; have := S12.out; omega)).mono ?_
    rintro e w13 ⟨rfl, _, hb13, hoth13⟩
    clear xY0 xY1
    have S13 := hide (hb13).size
    replace q := hide (q.out.trans (hb13.mono (by have := S0.out; have := S00.out; have := S1.out; have := S2.out; have := S3.out; have := S4.out; have := S5.out; have := T5.out; have := S6.out; have := T6.out; have := S7.out; have := S8.out; have := T8.out; have := S9.out; have := S10.out; have := S11.out; have := S12.out; have := S13.out; omega)))
    replace KX := hide (KX.out.below hb13 (by have := S0.out; have := S00.out; have := S1.out; have := S2.out; have := S3.out; have := S4.out; have := S5.out; have := T5.out; have := S6.out; have := T6.out; have := S7.out; have := S8.out; have := T8.out; have := S9.out; have := S10.out; have := S11.out; have := S12.out; have := S13.out; omega))
    replace RW := hide (RW.out.below hb13 (by have := S0.out; have := S00.out; have := S1.out; have := S2.out; have := S3.out; have := S4.out; have := S5.out; have := T5.out; have := S6.out; have := T6.out; have := S7.out; have := S8.out; have := T8.out; have := S9.out; have := S10.out; have := S11.out; have := S12.out; have := S13.out; omega))
    replace BW := hide (BW.out.below hb13 (by have := S0.out; have := S00.out; have := S1.out; have := S2.out; have := S3.out; have := S4.out; have := S5.out; have := T5.out; have := S6.out; have := T6.out; have := S7.out; have := S8.out; have := T8.out; have := S9.out; have := S10.out; have := S11.out; have := S12.out; have := S13.out; omega))
    replace BY := hide (show Bx w13 w6.heap.size 28 (.slice (some ⟨gb, 0, none⟩) zs.length zs.length) (.int .i64 u) from (hoth13 _ BY.out.lt (fun ad hA e => by have h' := (Lb.out ad hA).2; have := S0.out; have := S00.out; have := S1.out; have := S2.out; have := S3.out; have := S4.out; have := S5.out; have := T5.out; have := S6.out; have := T6.out; have := S7.out; have := S8.out; have := T8.out; have := S9.out; have := S10.out; have := S11.out; have := S12.out; have := S13.out; omega)).trans BY.out)
    replace Mb := hide (Mb.out.keep fun h hh hl => hoth13 h hl (fun ad hA e => by have h' := (Lb.out ad hA).2; have := S0.out; have := S00.out; have := S1.out; have := S2.out; have := S3.out; have := S4.out; have := S5.out; have := T5.out; have := S6.out; have := T6.out; have := S7.out; have := S8.out; have := T8.out; have := S9.out; have := S10.out; have := S11.out; have := S12.out; have := S13.out; omega))
    replace OG := hide (OG.out.keep fun h hh hl => hoth13 h hl (fun ad hA e => by have h' := (Lb.out ad hA).2; have := S0.out; have := S00.out; have := S1.out; have := S2.out; have := S3.out; have := S4.out; have := S5.out; have := T5.out; have := S6.out; have := T6.out; have := S7.out; have := S8.out; have := T8.out; have := S9.out; have := S10.out; have := S11.out; have := S12.out; have := S13.out; omega))
    replace BG := hide (show Bx w13 w8.heap.size 28 (.slice Ag fs.length cg) (.int .i64 fu) from (hoth13 _ BG.out.lt (fun ad hA e => by have h' := (Lb.out ad hA).2; have := S0.out; have := S00.out; have := S1.out; have := S2.out; have := S3.out; have := S4.out; have := S5.out; have := T5.out; have := S6.out; have := T6.out; have := S7.out; have := S8.out; have := T8.out; have := S9.out; have := S10.out; have := S11.out; have := S12.out; have := S13.out; omega)).trans BG.out)
    clear hb13
    clear hoth13
    clear Ob
    go_wp2_with fail
    refine (markIntSS_oth _ _ _ _ _ _ _ _ _ Mb.out rfl hSZ (by omega) (by omega) (by have := S0.out; have := S00.out; have := S1.out; have := S2.out; have := S3.out; have := S4.out; have := S5.out; have := T5.out; have := S6.out; have := T6.out; have := S7.out; have := S8.out; have := T8.out; have := S9.out; have := S10.out; have := S11.out; have := S12.out; have := S13.out; omega) hmcap Kb.out).mono ?_
    rintro e w14 ⟨rfl, hb14, hoth14⟩
    have S14 := hide (hb14).size
    replace q := hide (q.out.trans (hb14.mono (by have := S0.out; have := S00.out; have := S1.out; have := S2.out; have := S3.out; have := S4.out; have := S5.out; have := T5.out; have := S6.out; have := T6.out; have := S7.out; have := S8.out; have := T8.out; have := S9.out; have := S10.out; have := S11.out; have := S12.out; have := S13.out; have := S14.out; omega)))
    replace KX := hide (KX.out.below hb14 (by have := S0.out; have := S00.out; have := S1.out; have := S2.out; have := S3.out; have := S4.out; have := S5.out; have := T5.out; have := S6.out; have := T6.out; have := S7.out; have := S8.out; have := T8.out; have := S9.out; have := S10.out; have := S11.out; have := S12.out; have := S13.out; have := S14.out; omega))
    replace RW := hide (RW.out.below hb14 (by have := S0.out; have := S00.out; have := S1.out; have := S2.out; have := S3.out; have := S4.out; have := S5.out; have := T5.out; have := S6.out; have := T6.out; have := S7.out; have := S8.out; have := T8.out; have := S9.out; have := S10.out; have := S11.out; have := S12.out; have := S13.out; have := S14.out; omega))
    replace BW := hide (BW.out.below hb14 (by have := S0.out; have := S00.out; have := S1.out; have := S2.out; have := S3.out; have := S4.out; have := S5.out; have := T5.out; have := S6.out; have := T6.out; have := S7.out; have := S8.out; have := T8.out; have := S9.out; have := S10.out; have := S11.out; have := S12.out; have := S13.out; have := S14.out; omega))
    replace BY := hide (BY.out.below hb14 (by have := S0.out; have := S00.out; have := S1.out; have := S2.out; have := S3.out; have := S4.out; have := S5.out; have := T5.out; have := S6.out; have := T6.out; have := S7.out; have := S8.out; have := T8.out; have := S9.out; have := S10.out; have := S11.out; have := S12.out; have := S13.out; have := S14.out; omega))
    replace OG := hide (OG.out.keep fun h hh hl => hoth14 h (by have := S0.out; have := S00.out; have := S1.out; have := S2.out; have := S3.out; have := S4.out; have := S5.out; have := T5.out; have := S6.out; have := T6.out; have := S7.out; have := S8.out; have := T8.out; have := S9.out; have := S10.out; have := S11.out; have := S12.out; have := S13.out; have := S14.out; omega) hl)
    replace BG := hide (show Bx w14 w8.heap.size 28 (.slice Ag fs.length cg) (.int .i64 fu) from (hoth14 _ (by have := S0.out; have := S00.out; have := S1.out; have := S2.out; have := S3.out; have := S4.out; have := S5.out; have := T5.out; have := S6.out; have := T6.out; have := S7.out; have := S8.out; have := T8.out; have := S9.out; have := S10.out; have := S11.out; have := S12.out; have := S13.out; have := S14.out; omega) BG.out.lt).trans BG.out)
    clear hb14 hoth14
    clear Mb
    have xW0 := BW.out.c0
    have xW1 := BW.out.c1
    have xG0 := BG.out.c0
    have xG1 := BG.out.c1
    go_wp2_with fail
    refine (eqCups_same _ _ _ _ _ _ _ _ _ _ OG.out.ints RW.out (Nat.le_refl _) (by have := S0.out; have := S00.out; have := S1.out; have := S2.out; have := S3.out; have := S4.out; have := S5.out; have := T5.out; have := S6.out; have := T6.out; have := S7.out; have := S8.out; have := T8.out; have := S9.out; have := S10.out; have := S11.out; have := S12.out; have := S13.out; have := S14.out; omega) (by omega)).mono ?_
    rintro e w15 ⟨rfl, hb15⟩
    clear xW0 xW1 xG0 xG1
    have S15 := hide (hb15).size
    replace q := hide (below_next q.out hb15)
    replace KX := hide (KX.out.next hb15)
    replace RW := hide (RW.out.below hb15 (by have := S0.out; have := S00.out; have := S1.out; have := S2.out; have := S3.out; have := S4.out; have := S5.out; have := T5.out; have := S6.out; have := T6.out; have := S7.out; have := S8.out; have := T8.out; have := S9.out; have := S10.out; have := S11.out; have := S12.out; have := S13.out; have := S14.out; have := S15.out; omega))
    replace BW := hide (BW.out.next hb15)
    replace BY := hide (BY.out.next hb15)
    replace OG := hide (OG.out.below hb15)
    replace BG := hide (BG.out.next hb15)
    clear hb15
    have xG0 := BG.out.c0
    have xG1 := BG.out.c1
    go_wp2_with fail
    refine (markCups_any _ _ _ _ _ _ _ _ OG.out rfl (by omega) (by omega) (by omega) (by have := S0.out; have := S00.out; have := S1.out; have := S2.out; have := S3.out; have := S4.out; have := S5.out; have := T5.out; have := S6.out; have := T6.out; have := S7.out; have := S8.out; have := T8.out; have := S9.out; have := S10.out; have := S11.out; have := S12.out; have := S13.out; have := S14.out; have := S15.out; omega)).mono ?_
    rintro e w16 ⟨rfl, hG16, hb16, hoth16⟩
    clear xG0 xG1
    have S16 := hide (hb16).size
    replace q := hide (q.out.trans (hb16.mono (by have := S0.out; have := S00.out; have := S1.out; have := S2.out; have := S3.out; have := S4.out; have := S5.out; have := T5.out; have := S6.out; have := T6.out; have := S7.out; have := S8.out; have := T8.out; have := S9.out; have := S10.out; have := S11.out; have := S12.out; have := S13.out; have := S14.out; have := S15.out; have := S16.out; omega)))
    replace KX := hide (KX.out.below hb16 (by have := S0.out; have := S00.out; have := S1.out; have := S2.out; have := S3.out; have := S4.out; have := S5.out; have := T5.out; have := S6.out; have := T6.out; have := S7.out; have := S8.out; have := T8.out; have := S9.out; have := S10.out; have := S11.out; have := S12.out; have := S13.out; have := S14.out; have := S15.out; have := S16.out; omega))
    replace RW := hide (RW.out.below hb16 (by have := S0.out; have := S00.out; have := S1.out; have := S2.out; have := S3.out; have := S4.out; have := S5.out; have := T5.out; have := S6.out; have := T6.out; have := S7.out; have := S8.out; have := T8.out; have := S9.out; have := S10.out; have := S11.out; have := S12.out; have := S13.out; have := S14.out; have := S15.out; have := S16.out; omega))
    replace BW := hide (BW.out.below hb16 (by have := S0.out; have := S00.out; have := S1.out; have := S2.out; have := S3.out; have := S4.out; have := S5.out; have := T5.out; have := S6.out; have := T6.out; have := S7.out; have := S8.out; have := T8.out; have := S9.out; have := S10.out; have := S11.out; have := S12.out; have := S13.out; have := S14.out; have := S15.out; have := S16.out; omega))
    replace BY := hide (BY.out.below hb16 (by have := S0.out; have := S00.out; have := S1.out; have := S2.out; have := S3.out; have := S4.out; have := S5.out; have := T5.out; have := S6.out; have := T6.out; have := S7.out; have := S8.out; have := T8.out; have := S9.out; have := S10.out; have := S11.out; have := S12.out; have := S13.out; have := S14.out; have := S15.out; have := S16.out; omega))
    replace BG := hide (show Bx w16 w8.heap.size 28 (.slice Ag fs.length cg) (.int .i64 fu) from (hoth16 _ BG.out.lt (fun ad hA e => by have h' := (LG.out ad hA).2; have := S0.out; have := S00.out; have := S1.out; have := S2.out; have := S3.out; have := S4.out; have := S5.out; have := T5.out; have := S6.out; have := T6.out; have := S7.out; have := S8.out; have := T8.out; have := S9.out; have := S10.out; have := S11.out; have := S12.out; have := S13.out; have := S14.out; have := S15.out; have := S16.out; omega)).trans BG.out)
    clear hb16
    replace OG := hide hG16
    clear hG16 hoth16
    have xG0 := BG.out.c0
    have xG1 := BG.out.c1
    go_wp2_with fail
    refine (heldCups_any _ _ _ _ _ _ _ (by simpa [marks_length] using OG.out.ints) (Nat.le_refl _) (by omega) (by omega) (by omega)).mono ?_
    rintro e w17 ⟨rfl, hb17⟩
    clear xG0 xG1
    have S17 := hide (hb17).size
    replace q := hide (below_next q.out hb17)
    replace KX := hide (KX.out.next hb17)
    replace RW := hide (RW.out.below hb17 (by have := S0.out; have := S00.out; have := S1.out; have := S2.out; have := S3.out; have := S4.out; have := S5.out; have := T5.out; have := S6.out; have := T6.out; have := S7.out; have := S8.out; have := T8.out; have := S9.out; have := S10.out; have := S11.out; have := S12.out; have := S13.out; have := S14.out; have := S15.out; have := S16.out; have := S17.out; omega))
    replace BW := hide (BW.out.next hb17)
    replace BY := hide (BY.out.next hb17)
    replace OG := hide (OG.out.below hb17)
    replace BG := hide (BG.out.next hb17)
    clear hb17
    have xX0 := KX.out.c0
    have xX1 := KX.out.c1
    go_wp2_with fail
    refine (toCups_any _ _ _ _ _ _ (HR.out.next q.out) hcap).mono ?_
    rintro e w18 ⟨gd, ha18, hz18, rfl, hrow18, hb18⟩
    clear xX0 xX1
    have S18 := hide (hb18).size
    replace q := hide (below_next q.out hb18)
    replace KX := hide (KX.out.next hb18)
    replace RW := hide (RW.out.below hb18 (by have := S0.out; have := S00.out; have := S1.out; have := S2.out; have := S3.out; have := S4.out; have := S5.out; have := T5.out; have := S6.out; have := T6.out; have := S7.out; have := S8.out; have := T8.out; have := S9.out; have := S10.out; have := S11.out; have := S12.out; have := S13.out; have := S14.out; have := S15.out; have := S16.out; have := S17.out; have := S18.out; omega))
    replace BW := hide (BW.out.next hb18)
    replace BY := hide (BY.out.next hb18)
    replace OG := hide (OG.out.below hb18)
    replace BG := hide (BG.out.next hb18)
    clear hb18
    have Od := hide (Own.of_row hrow18 ha18 (by unfold maxLen; omega))
    have Ld := hide (show ∀ ad : Addr, some (⟨gd, 0, none⟩ : Addr) = some ad → w17.heap.size ≤ ad.block ∧ ad.block < w18.heap.size from fun ad hA => by injection hA with hA; subst hA; exact ⟨ha18, hz18⟩)
    clear hrow18 ha18 hz18
    go_wp2_with fail
    refine (HCM.out _ q.out).mono ?_
    rintro e w19 ⟨md, nd, hm119, hm219, rfl, hown19, hb19⟩
    have S19 := hide (hb19).size
    replace q := hide (below_next q.out hb19)
    replace KX := hide (KX.out.next hb19)
    replace RW := hide (RW.out.below hb19 (by have := S0.out; have := S00.out; have := S1.out; have := S2.out; have := S3.out; have := S4.out; have := S5.out; have := T5.out; have := S6.out; have := T6.out; have := S7.out; have := S8.out; have := T8.out; have := S9.out; have := S10.out; have := S11.out; have := S12.out; have := S13.out; have := S14.out; have := S15.out; have := S16.out; have := S17.out; have := S18.out; have := S19.out; omega))
    replace BW := hide (BW.out.next hb19)
    replace BY := hide (BY.out.next hb19)
    replace OG := hide (OG.out.below hb19)
    replace BG := hide (BG.out.next hb19)
    replace Od := hide (Od.out.below hb19)
    clear hb19
    have Md := hide hown19
    have Kd := hide hown19.blk_lt
    clear hown19 hm119 hm219
    go_wp2_with fail
    refine (HIM.out _ _ _ _ Od.out.ints Md.out.vals Md.out.ints (HT.out.next q.out)).mono ?_
    rintro e w20 ⟨Ah, ch, rfl, hh1, hh2, OH, hb20⟩
    have S20 := hide (hb20).size
    replace q := hide (below_next q.out hb20)
    replace KX := hide (KX.out.next hb20)
    replace RW := hide (RW.out.below hb20 (by have := S0.out; have := S00.out; have := S1.out; have := S2.out; have := S3.out; have := S4.out; have := S5.out; have := T5.out; have := S6.out; have := T6.out; have := S7.out; have := S8.out; have := T8.out; have := S9.out; have := S10.out; have := S11.out; have := S12.out; have := S13.out; have := S14.out; have := S15.out; have := S16.out; have := S17.out; have := S18.out; have := S19.out; have := S20.out; omega))
    replace BW := hide (BW.out.next hb20)
    replace BY := hide (BY.out.next hb20)
    replace OG := hide (OG.out.below hb20)
    replace BG := hide (BG.out.next hb20)
    replace Od := hide (Od.out.below hb20)
    replace Md := hide (Md.out.below hb20)
    clear hb20
    replace OH := hide OH
    have hbx : Below w20.heap.size w20 (w20.alloc (.cells #[.slice Ah fs.length ch, .int .i64 fu] 28)) := (Below.refl _ _).alloc (Nat.le_refl _) _
    have BH := hide (Bx.new w20 28 (.slice Ah fs.length ch) (.int .i64 fu))
    have T20 := hide (show (w20.alloc (.cells #[.slice Ah fs.length ch, .int .i64 fu] 28)).heap.size = w20.heap.size + 1 from by simp)
    replace q := hide (below_next q.out hbx)
    replace KX := hide (KX.out.next hbx)
    replace RW := hide (RW.out.below hbx (by have := S0.out; have := S00.out; have := S1.out; have := S2.out; have := S3.out; have := S4.out; have := S5.out; have := T5.out; have := S6.out; have := T6.out; have := S7.out; have := S8.out; have := T8.out; have := S9.out; have := S10.out; have := S11.out; have := S12.out; have := S13.out; have := S14.out; have := S15.out; have := S16.out; have := S17.out; have := S18.out; have := S19.out; have := S20.out; have := T20.out; omega))
    replace BW := hide (BW.out.next hbx)
    replace BY := hide (BY.out.next hbx)
    replace OG := hide (OG.out.below hbx)
    replace BG := hide (BG.out.next hbx)
    replace Od := hide (Od.out.below hbx)
    replace Md := hide (Md.out.below hbx)
    replace OH := hide (OH.out.below hbx)
    clear hbx
    have xW0 := BW.out.c0
    have xW1 := BW.out.c1
    have xH0 := BH.out.c0
    have xH1 := BH.out.c1
    go_wp2_with fail
    generalize (w20.alloc (.cells #[.slice Ah fs.length ch, .int .i64 fu] 28)) = v20 at *
    try go_wp2_with fail
    refine (eqCups_same _ _ _ _ _ _ _ _ _ _ OH.out.ints RW.out (Nat.le_refl _) (by have := S0.out; have := S00.out; have := S1.out; have := S2.out; have := S3.out; have := S4.out; have := S5.out; have := T5.out; have := S6.out; have := T6.out; have := S7.out; have := S8.out; have := T8.out; have := S9.out; have := S10.out; have := S11.out; have := S12.out; have := S13.out; have := S14.out; have := S15.out; have := S16.out; have := S17.out; have := S18.out; have := S19.out; have := S20.out; have := T20.out; omega) (by omega)).mono ?_
    rintro e w21 ⟨rfl, hb21⟩
    clear xW0 xW1 xH0 xH1
    have S21 := hide (hb21).size
    replace q := hide (below_next q.out hb21)
    replace KX := hide (KX.out.next hb21)
    replace RW := hide (RW.out.below hb21 (by have := S0.out; have := S00.out; have := S1.out; have := S2.out; have := S3.out; have := S4.out; have := S5.out; have := T5.out; have := S6.out; have := T6.out; have := S7.out; have := S8.out; have := T8.out; have := S9.out; have := S10.out; have := S11.out; have := S12.out; have := S13.out; have := S14.out; have := S15.out; have := S16.out; have := S17.out; have := S18.out; have := S19.out; have := S20.out; have := T20.out; have := S21.out; omega))
    replace BW := hide (BW.out.next hb21)
    replace BY := hide (BY.out.next hb21)
    replace OG := hide (OG.out.below hb21)
    replace BG := hide (BG.out.next hb21)
    replace Od := hide (Od.out.below hb21)
    replace Md := hide (Md.out.below hb21)
    replace OH := hide (OH.out.below hb21)
    replace BH := hide (BH.out.next hb21)
    clear hb21
    have xG0 := BG.out.c0
    have xG1 := BG.out.c1
    go_wp2_with fail
    refine (heldCups_any _ _ _ _ _ _ _ (by simpa [marks_length] using OG.out.ints) (Nat.le_refl _) (by omega) (by omega) (by omega)).mono ?_
    rintro e w22 ⟨rfl, hb22⟩
    clear xG0 xG1
    have S22 := hide (hb22).size
    replace q := hide (below_next q.out hb22)
    replace KX := hide (KX.out.next hb22)
    replace RW := hide (RW.out.below hb22 (by have := S0.out; have := S00.out; have := S1.out; have := S2.out; have := S3.out; have := S4.out; have := S5.out; have := T5.out; have := S6.out; have := T6.out; have := S7.out; have := S8.out; have := T8.out; have := S9.out; have := S10.out; have := S11.out; have := S12.out; have := S13.out; have := S14.out; have := S15.out; have := S16.out; have := S17.out; have := S18.out; have := S19.out; have := S20.out; have := T20.out; have := S21.out; have := S22.out; omega))
    replace BW := hide (BW.out.next hb22)
    replace BY := hide (BY.out.next hb22)
    replace OG := hide (OG.out.below hb22)
    replace BG := hide (BG.out.next hb22)
    replace Od := hide (Od.out.below hb22)
    replace Md := hide (Md.out.below hb22)
    replace OH := hide (OH.out.below hb22)
    replace BH := hide (BH.out.next hb22)
    clear hb22
    go_wp2_with fail
    go_ret
    exact ⟨rfl, q.out⟩
end Go.Proofs.YtjfkadmmmhefbaaDoor
