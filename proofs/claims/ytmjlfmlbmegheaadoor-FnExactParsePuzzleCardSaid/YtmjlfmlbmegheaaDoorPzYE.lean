
/-
  A CLUE READ BACK BY THE PROGRAM.
-/
import Derived.Test.YtmjlfmlbmegheaaDoorPzYP
import Derived.Test.YtmjlfmlbmegheaaDoorClM
import Derived.Test.YtmjlfmlbmegheaaDoorCBx
namespace Go.Proofs.YtmjlfmlbmegheaaDoor
open Go.RowKit Go.Deep
set_option linter.unusedVariables false

def pCV (w : List UInt8) : Value := match pC w with
  | some d => .tuple #[.agg #[.int .i64 d.x0, .int .i64 d.x1, .int .i64 d.x2, .int .i64 d.x3], .bool true]
  | none => .tuple #[.agg #[.int .i64 0, .int .i64 0, .int .i64 0, .int .i64 0], .bool false]
theorem pCV_none {w : List UInt8} (h : pC w = none) : pCV w = .tuple #[.agg #[.int .i64 0, .int .i64 0, .int .i64 0, .int .i64 0], .bool false] := by unfold pCV; rw [h]
theorem pCV_some {w : List UInt8} {d : Cl} (h : pC w = some d) : pCV w = .tuple #[.agg #[.int .i64 d.x0, .int .i64 d.x1, .int .i64 d.x2, .int .i64 d.x3], .bool true] := by unfold pCV; rw [h]
theorem pCI_not {ns : List Int} (h : ¬ ns.length = 4) : pCI ns = none := by
  unfold pCI
  split
  · exact absurd rfl h
  · rfl
theorem pCI_four {ns : List Int} (h : ns.length = 4) : ∃ a b c d, ns = [a, b, c, d] := match ns, h with
  | [a, b, c, d], _ => ⟨a, b, c, d, rfl⟩

set_option maxRecDepth 1000000 in
set_option maxHeartbeats 1000000 in
theorem parseClue_any (l : List UInt8) (hl : l.length ≤ 1048576) (w : World) (hP : LaidP w) :
    Calls Tryd.prog 45 #[.string (bs l)] w fun e w' => e = .returned (pCV l) ∧ Below w.heap.size w w' := by
  have HSI := hide (fun W (h : LaidP W) => splitPartsInt_any46 l hl W h)
  have hb0 : Below w.heap.size w (w.alloc (.cells #[.int .i64 0, .int .i64 0, .int .i64 0, .int .i64 0] 44)) := (Below.refl _ _).alloc (Nat.le_refl _) _
  have HP0 := hide (hP.next hb0)
  have X0 := CBox.new w 44 ⟨0, 0, 0, 0⟩
  have HBD := hide (show pC l = (spI46 l 4).bind pCI from rfl)
  dsimp only at X0
  clear hP
  cases hs : spI46 l 4 with
  | none =>
    have HV := hide (pCV_none (show pC l = none from by rw [HBD.out, hs]; rfl))
    rw [hs] at HSI
    rw [HV.out]
    clear hs
    generalize bs l = s at *
    go_enter Tryd.func45, Tryd.ntmps45
    go_wp2_with fail
    generalize (w.alloc (.cells #[.int .i64 0, .int .i64 0, .int .i64 0, .int .i64 0] 44)) = W0 at *
    refine (HSI.out _ HP0.out).mono ?_; rintro e w1 ⟨A1, c1, rfl, h1, h2, hown, hb1⟩
    have X1 := X0.next hb1
    have e0 := X1.c0
    have e1 := X1.c1
    have e2 := X1.c2
    have e3 := X1.c3
    have k0 := X1.f 0
    have k1 := X1.f 1
    have k2 := X1.f 2
    have k3 := X1.f 3
    have V := (((X1.set0 0).set1 0).set2 0).set3 0
    have r0 := V.c0
    have r1 := V.c1
    have r2 := V.c2
    have r3 := V.c3
    have hbe := below_next hb0 hb1
    go_wp2_with fail
    exact bodyPost_ret (v := .tuple #[.agg #[.int .i64 0, .int .i64 0, .int .i64 0, .int .i64 0], .bool false]) (by simp [results, Tryd.results45, go_sem, r0, r1, r2, r3]) rfl ⟨rfl, below_set4 hbe (Nat.le_refl _) _ _ _ _⟩
  | some ns =>
    rw [hs] at HSI
    by_cases h2 : ns.length = 4
    · obtain ⟨a, b, c, d, rfl⟩ := pCI_four h2
      have HV := hide (pCV_some (show pC l = some ⟨a, b, c, d⟩ from by rw [HBD.out, hs]; rfl))
      dsimp only at HV
      rw [HV.out]
      clear hs h2
      generalize bs l = s at *
      go_enter Tryd.func45, Tryd.ntmps45
      go_wp2_with fail
      generalize (w.alloc (.cells #[.int .i64 0, .int .i64 0, .int .i64 0, .int .i64 0] 44)) = W0 at *
      refine (HSI.out _ HP0.out).mono ?_; rintro e w1 ⟨A1, c1, rfl, h1, h2, hown, hb1⟩
      obtain ⟨g, rfl, _, hgl⟩ := hown.head (by simp)
      have hc0 : w1.cell? ⟨g, 0, none⟩ = some (.int .i64 a) := (World.ownsRow.cellAt hown 0 (by simp)).trans rfl
      have hc1 : w1.cell? ⟨g, 1, none⟩ = some (.int .i64 b) := (World.ownsRow.cellAt hown 1 (by simp)).trans rfl
      have hc2 : w1.cell? ⟨g, 2, none⟩ = some (.int .i64 c) := (World.ownsRow.cellAt hown 2 (by simp)).trans rfl
      have hc3 : w1.cell? ⟨g, 3, none⟩ = some (.int .i64 d) := (World.ownsRow.cellAt hown 3 (by simp)).trans rfl
      have X1 := X0.next hb1
      have e0 := X1.c0
      have e1 := X1.c1
      have e2 := X1.c2
      have e3 := X1.c3
      have k0 := X1.f 0
      have k1 := X1.f 1
      have k2 := X1.f 2
      have k3 := X1.f 3
      have V := (((X1.set0 a).set1 b).set2 c).set3 d
      have r0 := V.c0
      have r1 := V.c1
      have r2 := V.c2
      have r3 := V.c3
      have hbe := hide (below_next hb0 hb1)
      clear hown hb1
      go_wp2_with fail
      go_region
      all_goals
        go_wp2_with fail
        exact bodyPost_ret (v := .tuple #[.agg #[.int .i64 a, .int .i64 b, .int .i64 c, .int .i64 d], .bool true]) (by simp [results, Tryd.results45, go_sem, r0, r1, r2, r3]) rfl ⟨rfl, (below_set4 hbe.out (Nat.le_refl _) _ _ _ _).drew⟩
    · have HV := hide (pCV_none (show pC l = none from by rw [HBD.out, hs]; exact pCI_not h2))
      rw [HV.out]
      have h2i : ¬ ((ns.length : Int) = 4) := by omega
      clear hs h2
      generalize bs l = s at *
      go_enter Tryd.func45, Tryd.ntmps45
      go_wp2_with fail
      generalize (w.alloc (.cells #[.int .i64 0, .int .i64 0, .int .i64 0, .int .i64 0] 44)) = W0 at *
      refine (HSI.out _ HP0.out).mono ?_; rintro e w1 ⟨A1, c1, rfl, h1, h2, hown, hb1⟩
      have X1 := X0.next hb1
      have e0 := X1.c0
      have e1 := X1.c1
      have e2 := X1.c2
      have e3 := X1.c3
      have k0 := X1.f 0
      have k1 := X1.f 1
      have k2 := X1.f 2
      have k3 := X1.f 3
      have V := (((X1.set0 0).set1 0).set2 0).set3 0
      have r0 := V.c0
      have r1 := V.c1
      have r2 := V.c2
      have r3 := V.c3
      have hbe := below_next hb0 hb1
      go_wp2_with fail
      exact bodyPost_ret (v := .tuple #[.agg #[.int .i64 0, .int .i64 0, .int .i64 0, .int .i64 0], .bool false]) (by simp [results, Tryd.results45, go_sem, r0, r1, r2, r3]) rfl ⟨rfl, below_set4 hbe (Nat.le_refl _) _ _ _ _⟩
end Go.Proofs.YtmjlfmlbmegheaaDoor
