
/-
  A SPLIT READ BACK BY THE PROGRAM.
-/
import Derived.Test.YtflkgkajkoaaiaaDoorSlRP
import Derived.Test.YtflkgkajkoaaiaaDoorSpM
import Derived.Test.YtflkgkajkoaaiaaDoorBox
namespace Go.Proofs.YtflkgkajkoaaiaaDoor
open Go.RowKit Go.Deep
set_option linter.unusedVariables false

def pSV (w : List UInt8) : Value := match pS w with
  | some d => .tuple #[.agg #[.int .i64 d.x0, .int .i64 d.x1], .bool true]
  | none => .tuple #[.agg #[.int .i64 0, .int .i64 0], .bool false]
theorem pSV_none {w : List UInt8} (h : pS w = none) : pSV w = .tuple #[.agg #[.int .i64 0, .int .i64 0], .bool false] := by unfold pSV; rw [h]
theorem pSV_some {w : List UInt8} {d : Sp} (h : pS w = some d) : pSV w = .tuple #[.agg #[.int .i64 d.x0, .int .i64 d.x1], .bool true] := by unfold pSV; rw [h]

set_option maxRecDepth 1000000 in
set_option maxHeartbeats 1000000 in
theorem parseSplit_any (l : List UInt8) (hl : l.length ≤ 1048576) (w : World) (hP : LaidP w) :
    Calls Tryd.prog 24 #[.string (bs l)] w fun e w' => e = .returned (pSV l) ∧ Below w.heap.size w w' := by
  have HSI := hide (fun W (h : LaidP W) => splitPartsInt_any58 l hl W h)
  have hb0 : Below w.heap.size w (w.alloc (.cells #[.int .i64 0, .int .i64 0] 37)) := (Below.refl _ _).alloc (Nat.le_refl _) _
  have HP0 := hide (hP.next hb0)
  have X0 := Bx.new w 37 (.int .i64 0) (.int .i64 0)
  clear hP
  cases hs : spI58 l 2 with
  | none =>
    have HV := hide (pSV_none (pS_no_pn hs))
    rw [hs] at HSI
    rw [HV.out]
    clear hs
    generalize bs l = s at *
    go_enter Tryd.func24, Tryd.ntmps24
    go_wp2_with fail
    generalize (w.alloc (.cells #[.int .i64 0, .int .i64 0] 37)) = W0 at *
    refine (HSI.out _ HP0.out).mono ?_; rintro e w1 ⟨A1, c1, rfl, h1, h2, hown, hb1⟩
    have X1 := X0.next hb1
    have e0 := X1.c0
    have e1 := X1.c1
    have k0 := X1.f 0
    have k1 := X1.f 1
    have V := (X1.set0 (.int .i64 0)).set1 (.int .i64 0)
    have r0 := V.c0
    have r1 := V.c1
    have hbe := below_next hb0 hb1
    go_wp2_with fail
    exact bodyPost_ret (v := .tuple #[.agg #[.int .i64 0, .int .i64 0], .bool false]) (by simp [results, Tryd.results24, go_sem, e0, e1, r0, r1]) rfl ⟨rfl, (hbe.setCell (Nat.le_refl _) _).setCell (Nat.le_refl _) _⟩
  | some ns =>
    have hpn := pS_of_pn hs
    rw [hs] at HSI
    by_cases h2 : ns.length = 2
    · obtain ⟨a, b, rfl, ht, hy, hno⟩ := hpn.1 h2
      clear hpn hs h2
      have HD := hide (fun W => isSplitOfSome_any a b W)
      cases hk : sok a b
      · have HV := hide (pSV_none (pS_none2 (hno hk)))
        rw [hk] at HD
        rw [HV.out]
        clear hk hy hno ht
        generalize bs l = s at *
        go_enter Tryd.func24, Tryd.ntmps24
        go_wp2_with fail
        generalize (w.alloc (.cells #[.int .i64 0, .int .i64 0] 37)) = W0 at *
        refine (HSI.out _ HP0.out).mono ?_; rintro e w1 ⟨A1, c1, rfl, h1, h2, hown, hb1⟩
        obtain ⟨g, rfl, _, hgl⟩ := hown.head (by simp)
        have hc0 : w1.cell? ⟨g, 0, none⟩ = some (.int .i64 a) := (World.ownsRow.cellAt hown 0 (by simp)).trans rfl
        have hc1 : w1.cell? ⟨g, 1, none⟩ = some (.int .i64 b) := (World.ownsRow.cellAt hown 1 (by simp)).trans rfl
        have X1 := X0.next hb1
        have hbe := below_next hb0 hb1
        have s1 := hbe.size
        clear hown hb1
        go_wp2_with fail
        go_region
        all_goals
          have X2 := (X1.alloc (.cells #[.int .i64 a, .int .i64 b] 37)).drewN 1
          have XS := (Bx.new w1 37 (.int .i64 a) (.int .i64 b)).drewN 1
          have hbe2 := below_drewN (hbe.alloc s1 (.cells #[.int .i64 a, .int .i64 b] 37)) 1
          go_wp2_with fail
          refine (HD.out _).mono ?_; rintro e w2 ⟨rfl, hb2⟩
          have X3 := X2.next hb2
          have XS3 := XS.next hb2
          have e0 := X3.c0
          have e1 := X3.c1
          have k0 := X3.f 0
          have k1 := X3.f 1
          have V := (X3.set0 (.int .i64 0)).set1 (.int .i64 0)
          have r0 := V.c0
          have r1 := V.c1
          have hbf := below_next hbe2 hb2
          go_wp2_with fail
          exact bodyPost_ret (v := .tuple #[.agg #[.int .i64 0, .int .i64 0], .bool false]) (by simp [results, Tryd.results24, go_sem, e0, e1, r0, r1]) rfl ⟨rfl, (hbf.setCell (Nat.le_refl _) _).setCell (Nat.le_refl _) _⟩
      · have HV := hide (show pSV l = .tuple #[.agg #[.int .i64 a, .int .i64 b], .bool true] from by
          have e := hy hk
          exact pSV_some (d := ⟨a, b⟩) (by rw [← e]; exact pS_some ht (by rw [e]; exact hk)))
        rw [hk] at HD
        rw [HV.out]
        clear hk hy hno ht
        generalize bs l = s at *
        go_enter Tryd.func24, Tryd.ntmps24
        go_wp2_with fail
        generalize (w.alloc (.cells #[.int .i64 0, .int .i64 0] 37)) = W0 at *
        refine (HSI.out _ HP0.out).mono ?_; rintro e w1 ⟨A1, c1, rfl, h1, h2, hown, hb1⟩
        obtain ⟨g, rfl, _, hgl⟩ := hown.head (by simp)
        have hc0 : w1.cell? ⟨g, 0, none⟩ = some (.int .i64 a) := (World.ownsRow.cellAt hown 0 (by simp)).trans rfl
        have hc1 : w1.cell? ⟨g, 1, none⟩ = some (.int .i64 b) := (World.ownsRow.cellAt hown 1 (by simp)).trans rfl
        have X1 := X0.next hb1
        have hbe := below_next hb0 hb1
        have s1 := hbe.size
        clear hown hb1
        go_wp2_with fail
        go_region
        all_goals
          have X2 := (X1.alloc (.cells #[.int .i64 a, .int .i64 b] 37)).drewN 1
          have XS := (Bx.new w1 37 (.int .i64 a) (.int .i64 b)).drewN 1
          have hbe2 := below_drewN (hbe.alloc s1 (.cells #[.int .i64 a, .int .i64 b] 37)) 1
          go_wp2_with fail
          refine (HD.out _).mono ?_; rintro e w2 ⟨rfl, hb2⟩
          have X3 := X2.next hb2
          have XS3 := XS.next hb2
          have e0 := X3.c0
          have e1 := X3.c1
          have k0 := X3.f 0
          have k1 := X3.f 1
          have g0 := XS3.c0
          have g1 := XS3.c1
          have V := (X3.set0 (.int .i64 a)).set1 (.int .i64 b)
          have r0 := V.c0
          have r1 := V.c1
          have hbf := below_next hbe2 hb2
          go_wp2_with fail
          exact bodyPost_ret (v := .tuple #[.agg #[.int .i64 a, .int .i64 b], .bool true]) (by simp [results, Tryd.results24, go_sem, r0, r1]) rfl ⟨rfl, (hbf.setCell (Nat.le_refl _) _).setCell (Nat.le_refl _) _⟩
    · have HV := hide (pSV_none (pS_none1 (hpn.2 h2)))
      rw [HV.out]
      have h2i : ¬ ((ns.length : Int) = 2) := by omega
      have HS2 := hide (fun W (h : LaidP W) => HSI.out W h)
      clear hs hpn HSI h2
      generalize bs l = s at *
      go_enter Tryd.func24, Tryd.ntmps24
      go_wp2_with fail
      generalize (w.alloc (.cells #[.int .i64 0, .int .i64 0] 37)) = W0 at *
      refine (HS2.out _ HP0.out).mono ?_; rintro e w1 ⟨A1, c1, rfl, h1, h2, hown, hb1⟩
      have X1 := X0.next hb1
      have e0 := X1.c0
      have e1 := X1.c1
      have k0 := X1.f 0
      have k1 := X1.f 1
      have V := (X1.set0 (.int .i64 0)).set1 (.int .i64 0)
      have r0 := V.c0
      have r1 := V.c1
      have hbe := below_next hb0 hb1
      go_wp2_with fail
      exact bodyPost_ret (v := .tuple #[.agg #[.int .i64 0, .int .i64 0], .bool false]) (by simp [results, Tryd.results24, go_sem, e0, e1, r0, r1]) rfl ⟨rfl, (hbe.setCell (Nat.le_refl _) _).setCell (Nat.le_refl _) _⟩
end Go.Proofs.YtflkgkajkoaaiaaDoor
