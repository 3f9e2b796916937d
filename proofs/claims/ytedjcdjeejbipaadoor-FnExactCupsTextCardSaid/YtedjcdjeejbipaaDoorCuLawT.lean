
/-
  THE WALKS OF EXACT LAWS OVER CUPS WHOSE RESULTS ARE NO MEMORY, the given frame left out: for all cups the law returns true and writes nothing that was there.
-/
import Derived.Test.YtedjcdjeejbipaaDoorCuL
import Derived.Deep.RegionHeld3
import Derived.Test.YtedjcdjeejbipaaDoorCuT
namespace Go.Proofs.YtedjcdjeejbipaaDoor
open Go.RowKit Go.Deep
set_option linter.unusedVariables false

set_option maxRecDepth 100000 in
theorem lawCupsText (A : Option Addr) (n c : Nat) (zs : List Int) (u : Int) (w : World) (hr : Ints w w.heap.size A n zs) (hmax : n ≤ 9223372036854775807) (hT : TabP w ∧ Tab w) :
    Calls Tryd.prog 3 #[.agg #[.slice A n c, .int .i64 u]] w fun e w' => e = .returned (.bool true) ∧ Below w.heap.size w w' := by
  obtain rfl := hr.len
  have KB := hide (show Below w.heap.size w (w.alloc (.cells #[.slice A zs.length c, .int .i64 u] 24)) from (Below.refl _ _).alloc (Nat.le_refl _) _)
  have KX := hide (Bx.new w 24 (.slice A zs.length c) (.int .i64 u))
  have HZ := hide (fun W => szCups_any A zs.length c u 1048576 W hmax (by omega) (by omega))
  by_cases hbig : (1048576 : Int) < zs.length
  · rw [if_pos hbig] at HZ
    clear hbig
    go_enter Tryd.func3, Tryd.ntmps3
    go_wp2_with fail
    refine (HZ.out _).mono ?_; rintro e w1 ⟨rfl, hb1⟩
    go_wp2_with fail
    go_ret
    exact ⟨rfl, KB.out.trans (hb1.mono KB.out.size)⟩
  · rw [if_neg hbig] at HZ
    have hlt : ¬ ((1048576 : Int) - (zs.length : Int) < 0) := by omega
    have hcap : zs.length ≤ 17592186044416 := by omega
    have HS := hide (fun B g c W (h : Ints W B (some ⟨g, 0, none⟩) zs.length zs) hB => specCupsText_any (some ⟨g, 0, none⟩) zs.length c B zs u W h hB hcap)
    have HI := hide (fun B g c W (h : Ints W B (some ⟨g, 0, none⟩) zs.length zs) hB hT => CupsText_any (some ⟨g, 0, none⟩) zs.length c B zs u W h hB hcap hT)
    have HT := hide hT
    clear hT
    generalize cupT zs u = a0 at *
    try have e0 : (a0 == a0) = true := by simp
    try have n0 : (a0 != a0) = false := by simp
    generalize cuOk zs u = a1 at *
    try have e1 : (a1 == a1) = true := by simp
    try have n1 : (a1 != a1) = false := by simp
    go_enter Tryd.func3, Tryd.ntmps3
    go_wp2_with fail
    refine (HZ.out _).mono ?_; rintro e w1 ⟨rfl, hb1⟩
    have r1 := hide hb1
    have q1 := hide (KB.out.trans (hb1.mono KB.out.size))
    have x0 := (KX.out.next hb1).c0
    have x1 := (KX.out.next hb1).c1
    clear hb1 HZ
    go_wp2_with fail
    refine (toCups_any _ _ _ _ _ _ (hr.next q1.out) hcap).mono ?_
    rintro e w2 ⟨g1, _, hz1, rfl, hrow1, hb2⟩
    have r2 := hide (below_next r1.out hb2)
    have q2 := hide (below_next q1.out hb2)
    clear hb2 x0 x1
    go_wp2_with fail
    refine (HS.out _ _ _ _ (hrow1.ints hz1) (Nat.le_refl _)).mono ?_
    rintro e w3 ⟨rfl, hb3⟩
    have r3 := hide (below_next r2.out hb3)
    have q3 := hide (below_next q2.out hb3)
    have x0 := (KX.out.next r3.out).c0
    have x1 := (KX.out.next r3.out).c1
    clear hb3 hrow1 hz1 HS
    go_wp2_with fail
    refine (toCups_any _ _ _ _ _ _ (hr.next q3.out) hcap).mono ?_
    rintro e w4 ⟨g2, _, hz2, rfl, hrow2, hb4⟩
    have b4 : Below w4.heap.size w4 (w4.alloc (.cells #[.slice (some ⟨g2, 0, none⟩) zs.length zs.length, .int .i64 u] 28)) := (Below.refl _ _).alloc (Nat.le_refl _) _
    have Y4 := hide (Bx.new w4 28 (.slice (some ⟨g2, 0, none⟩) zs.length zs.length) (.int .i64 u))
    have hx4 := hide ((hrow2.ints hz2).next b4)
    have r4 := hide (below_next (below_next r3.out hb4) b4)
    have q4 := hide (below_next (below_next q3.out hb4) b4)
    have z4 := hide (show w4.heap.size < (w4.alloc (.cells #[.slice (some ⟨g2, 0, none⟩) zs.length zs.length, .int .i64 u] 28)).heap.size from by simp)
    clear hb4 hrow2 hz2 x0 x1 b4
    go_wp2_with fail
    refine (HI.out _ _ _ _ hx4.out (Nat.le_refl _) ⟨HT.out.1.next q4.out, HT.out.2.next q4.out⟩).mono ?_
    rintro e w5 ⟨rfl, hb5⟩
    have hx5 := hx4.out.next hb5
    have r5 := hide (below_next r4.out hb5)
    have q5 := hide (below_next q4.out hb5)
    have Y5 := hide (Y4.out.next hb5)
    have HS5 := hide (fun W (h : Below w5.heap.size w5 W) => And.intro h (And.intro (Y5.out.next h).c0 (And.intro (Y5.out.next h).c1 (And.intro (KX.out.next (below_next r5.out h)).c0 (KX.out.next (below_next r5.out h)).c1))))
    have HTC := hide (fun W (h : Below w5.heap.size w5 W) => toCups_any A zs.length c zs u W (hr.next (below_next q5.out h)) hcap)
    have HEQ := hide (fun W (h : Below w5.heap.size w5 W) g (h' : Ints W W.heap.size (some ⟨g, 0, none⟩) zs.length zs) => eqCups_same (some ⟨g2, 0, none⟩) (some ⟨g, 0, none⟩) zs.length zs.length zs.length _ _ zs u W (hx5.next h) h' (Nat.le_refl _) (Nat.le_refl _) hcap)
    clear hb5 hx4 HI
    go_wp2_with fail
    first | go_region_held3 (fun W => Below w5.heap.size w5 W ∧ W.cell? ⟨w4.heap.size, 0, none⟩ = some (.slice (some ⟨g2, 0, none⟩) zs.length zs.length) ∧ W.cell? ⟨w4.heap.size, 1, none⟩ = some (.int .i64 u) ∧
          W.cell? ⟨w.heap.size, 0, none⟩ = some (.slice A zs.length c) ∧ W.cell? ⟨w.heap.size, 1, none⟩ = some (.int .i64 u))
      (first | exact HS5.out _ (Below.refl _ _).drew | exact HS5.out _ (below_next (And.left (by assumption)) hb7) | exact HS5.out _ (below_next (And.left (by assumption)) hb6) | go_keep)
      (first
      | (go_at_call 7; (with_reducible refine (HTC.out _ (And.left (by assumption))).mono ?_); rintro e w6 ⟨g3, _, hz3, rfl, hrow3, hb6⟩)
      | (go_at_call 9; (with_reducible refine (HEQ.out _ (And.left (by assumption)) _ (hrow3.ints hz3)).mono ?_); rintro e w7 ⟨rfl, hb7⟩)) | fail
    have hB7 : Below w5.heap.size w5 w7 := And.left (by assumption : Below w5.heap.size w5 w7 ∧ _)
    have q7 := hide (below_next q5.out hB7)
    clear hb7 hB7 HTC HEQ HS5
    go_wp2_with fail
    go_ret
    exact ⟨rfl, q7.out⟩
end Go.Proofs.YtedjcdjeejbipaaDoor
