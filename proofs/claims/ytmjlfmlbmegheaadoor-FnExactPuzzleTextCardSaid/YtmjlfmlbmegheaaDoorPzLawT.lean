
/-
  THE WALKS OF EXACT LAWS OVER A PUZZLE, the given frame left out: for every puzzle the law returns true and writes nothing that was there. (Printed by pzlaw.py.)
-/
import Derived.Test.YtmjlfmlbmegheaaDoorLaws0
import Derived.Test.YtmjlfmlbmegheaaDoorMark
import Derived.Test.YtmjlfmlbmegheaaDoorPzL
import Derived.Deep.RegionHeld3
import Derived.Deep.Cut
import Derived.Test.YtmjlfmlbmegheaaDoorPzX
import Derived.Test.YtmjlfmlbmegheaaDoorPzXm
namespace Go.Proofs.YtmjlfmlbmegheaaDoor
open Go.RowKit Go.Deep
set_option linter.unusedVariables false

set_option maxRecDepth 100000 in
set_option maxHeartbeats 4000000 in
theorem lawPuzzleText (A : Option Addr) (n c : Nat) (cs : List Cl) (u : Int) (w : World) (hr : Cls w w.heap.size A n cs) (hmax : n ≤ 9223372036854775807) :
    Calls Tryd.prog 3 #[.agg #[.int .i64 u, .slice A n c]] w fun e w' => e = .returned (.bool true) ∧ Below w.heap.size w w' := by
  obtain rfl := hr.len
  have KB := hide (show Below w.heap.size w (w.alloc (.cells #[.int .i64 u, .slice A cs.length c] 24)) from (Below.refl _ _).alloc (Nat.le_refl _) _)
  have KX := hide (Bx.new w 24 (.int .i64 u) (.slice A cs.length c))
  have HZ := hide (fun W => szPuzzle_any A cs.length c u 1048576 W hmax (by omega) (by omega))
  by_cases hbig : (1048576 : Int) < cs.length
  · rw [if_pos hbig] at HZ
    clear hbig
    go_enter Tryd.func3, Tryd.ntmps3
    go_wp2_with fail
    refine (HZ.out _).mono ?_; rintro e w1 ⟨rfl, hb1⟩
    go_wp2_with fail
    go_ret
    exact ⟨rfl, KB.out.trans (hb1.mono KB.out.size)⟩
  · rw [if_neg hbig] at HZ
    have hlt : ¬ ((1048576 : Int) - (cs.length : Int) < 0) := by omega
    have hcap : cs.length ≤ 17592186044416 := by omega
    have hcap2 : cs.length ≤ 1099511627776 := by omega
    have hlow : cs.length ≤ 1048576 := by omega
    have HSP := hide (fun g W (h : Cls W W.heap.size (some ⟨g, 0, none⟩) cs.length cs) => specPuzzleText_any (some ⟨g, 0, none⟩) cs.length cs.length W.heap.size cs u W h (Nat.le_refl _) hcap)
    have HIM := hide (fun g W (h : Cls W W.heap.size (some ⟨g, 0, none⟩) cs.length cs) => PuzzleText_any (some ⟨g, 0, none⟩) cs.length cs.length W.heap.size cs u W h (Nat.le_refl _) hcap)
    generalize pzxT u cs = a0 at *
    try have e0 : (a0 == a0) = true := by simp
    try have n0 : (a0 != a0) = false := by simp
    generalize pzOk u cs = a1 at *
    try have e1 : (a1 == a1) = true := by simp
    try have n1 : (a1 != a1) = false := by simp
    have HR := hide hr
    clear hr hbig hmax
    go_enter Tryd.func3, Tryd.ntmps3
    have S0 := hide KB.out.size
    have S00 := hide (show (w.alloc (.cells #[.int .i64 u, .slice A cs.length c] 24)).heap.size = w.heap.size + 1 from by simp)
    have xX0 := KX.out.c0
    have xX1 := KX.out.c1
    go_wp2_with fail
    refine (HZ.out _).mono ?_
    rintro e w1 ⟨rfl, hb1⟩
    clear xX0 xX1
    have S1 := hide (hb1).size
    have q := hide (below_next KB.out hb1)
    replace KX := hide (KX.out.next hb1)
    clear hb1
    have xX0 := KX.out.c0
    have xX1 := KX.out.c1
    go_wp2_with fail
    refine (toPuzzle_any _ _ _ _ _ _ (((HR.out.below q.out (Nat.le_refl _)).more (by have := S0.out; have := S00.out; have := S1.out; omega))) hcap2).mono ?_
    rintro e w2 ⟨ga, ha2, hz2, rfl, hrow2, hb2⟩
    clear xX0 xX1
    have S2 := hide (hb2).size
    replace q := hide (below_next q.out hb2)
    replace KX := hide (KX.out.next hb2)
    clear hb2
    have Oa := hide (OwnICl.of_row hrow2 ha2 (by unfold maxLen; omega))
    have La := hide (show ∀ ad : Addr, some (⟨ga, 0, none⟩ : Addr) = some ad → w1.heap.size ≤ ad.block ∧ ad.block < w2.heap.size from fun ad hA => by injection hA with hA; subst hA; exact ⟨ha2, hz2⟩)
    clear hrow2 ha2 hz2
    go_wp2_with fail
    refine (HSP.out _ _ Oa.out.list).mono ?_
    rintro e w3 ⟨rfl, hb3⟩
    have S3 := hide (hb3).size
    replace q := hide (below_next q.out hb3)
    replace KX := hide (KX.out.next hb3)
    replace Oa := hide (Oa.out.below hb3)
    clear hb3
    clear Oa
    have xX0 := KX.out.c0
    have xX1 := KX.out.c1
    go_wp2_with fail
    refine (toPuzzle_any _ _ _ _ _ _ (((HR.out.below q.out (Nat.le_refl _)).more (by have := S0.out; have := S00.out; have := S1.out; have := S2.out; have := S3.out; omega))) hcap2).mono ?_
    rintro e w4 ⟨gb, ha4, hz4, rfl, hrow4, hb4⟩
    clear xX0 xX1
    have S4 := hide (hb4).size
    replace q := hide (below_next q.out hb4)
    replace KX := hide (KX.out.next hb4)
    clear hb4
    have Ob := hide (OwnICl.of_row hrow4 ha4 (by unfold maxLen; omega))
    have Lb := hide (show ∀ ad : Addr, some (⟨gb, 0, none⟩ : Addr) = some ad → w3.heap.size ≤ ad.block ∧ ad.block < w4.heap.size from fun ad hA => by injection hA with hA; subst hA; exact ⟨ha4, hz4⟩)
    clear hrow4 ha4 hz4
    have hbx : Below w4.heap.size w4 (w4.alloc (.cells #[.int .i64 u, .slice (some ⟨gb, 0, none⟩) cs.length cs.length] 30)) := (Below.refl _ _).alloc (Nat.le_refl _) _
    have BY := hide (Bx.new w4 30 (.int .i64 u) (.slice (some ⟨gb, 0, none⟩) cs.length cs.length))
    have T4 := hide (show (w4.alloc (.cells #[.int .i64 u, .slice (some ⟨gb, 0, none⟩) cs.length cs.length] 30)).heap.size = w4.heap.size + 1 from by simp)
    replace q := hide (below_next q.out hbx)
    replace KX := hide (KX.out.next hbx)
    replace Ob := hide (Ob.out.below hbx)
    clear hbx
    have xY0 := BY.out.c0
    have xY1 := BY.out.c1
    go_wp2_with fail
    generalize (w4.alloc (.cells #[.int .i64 u, .slice (some ⟨gb, 0, none⟩) cs.length cs.length] 30)) = v4 at *
    try go_wp2_with fail
    refine (HIM.out _ _ Ob.out.list).mono ?_
    rintro e w5 ⟨rfl, hb5⟩
    clear xY0 xY1
    have S5 := hide (hb5).size
    replace q := hide (below_next q.out hb5)
    replace KX := hide (KX.out.next hb5)
    replace Ob := hide (Ob.out.below hb5)
    replace BY := hide (BY.out.next hb5)
    clear hb5
    have HS5 := hide (fun W (h : Below w5.heap.size w5 W) => And.intro h (And.intro (BY.out.next h).c0 (And.intro (BY.out.next h).c1 (And.intro (KX.out.next h).c0 (KX.out.next h).c1))))
    have HTC := hide (fun W (h : Below w5.heap.size w5 W) => toPuzzle_any A cs.length c cs u W ((HR.out.below (below_next q.out h) (Nat.le_refl _)).more (below_next q.out h).size) hcap2)
    have HEQ := hide (fun W (h : Below w5.heap.size w5 W) g (h' : Cls W W.heap.size (some ⟨g, 0, none⟩) cs.length cs) => eqPuzzle_same (some ⟨gb, 0, none⟩) (some ⟨g, 0, none⟩) cs.length cs.length cs.length _ _ cs u W (Ob.out.below h).list h' (Nat.le_refl _) (Nat.le_refl _) hcap2)
    go_wp2_with fail
    first | go_region_held3 (fun W => Below w5.heap.size w5 W ∧ W.cell? ⟨w4.heap.size, 0, none⟩ = some (.int .i64 u) ∧ W.cell? ⟨w4.heap.size, 1, none⟩ = some (.slice (some ⟨gb, 0, none⟩) cs.length cs.length) ∧ W.cell? ⟨w.heap.size, 0, none⟩ = some (.int .i64 u) ∧ W.cell? ⟨w.heap.size, 1, none⟩ = some (.slice A cs.length c))
      (first | exact HS5.out _ (Below.refl _ _).drew | exact HS5.out _ (below_next (And.left (by assumption)) hbd2) | exact HS5.out _ (below_next (And.left (by assumption)) hbd1) | go_keep)
      (first
      | (go_at_call 7; (with_reducible refine (HTC.out _ (And.left (by assumption))).mono ?_); rintro e wd1 ⟨g3, _, hz3, rfl, hrow3, hbd1⟩)
      | (go_at_call 9; (with_reducible refine (HEQ.out _ (And.left (by assumption)) _ (hrow3.list hz3)).mono ?_); rintro e wd2 ⟨rfl, hbd2⟩)) | fail
    have hbd : Below w5.heap.size w5 wd2 := And.left (by assumption : Below w5.heap.size w5 wd2 ∧ _)
    clear HTC HEQ HS5
    have S6 := hide hbd.size
    replace q := hide (below_next q.out hbd)
    replace KX := hide (KX.out.next hbd)
    replace Ob := hide (Ob.out.below hbd)
    replace BY := hide (BY.out.next hbd)
    clear hbd
    go_wp2_with fail
    go_ret
    exact ⟨rfl, q.out⟩
end Go.Proofs.YtmjlfmlbmegheaaDoor
