
/-
  MOVES THAT HELP, THE PROGRAM's WAY: the first move of those with the least end.
-/
import Derived.Test.YtloiaininfhfiaaBmJ
import Derived.Deep.RegionWith
import Derived.Deep.RegionHeld3
namespace Go.Proofs.Ytloiaininfhfiaa
open Go.RowKit Go.Deep
set_option linter.unusedVariables false

/-- The list of all moves, as it lies. -/
def Moves (W : World) (gl M K : Nat) : Prop := gl < W.heap.size ∧ ∀ k, k < K → W.cell? ⟨gl, k * 2, none⟩ = some (.int .i64 ((k / M : Nat) : Int)) ∧ W.cell? ⟨gl, k * 2 + 1, none⟩ = some (.int .i64 ((k % M : Nat) : Int))
theorem Moves.next {W W' : World} {gl M K : Nat} (h : Moves W gl M K) (hb : Below W.heap.size W W') : Moves W' gl M K :=
  ⟨Nat.lt_of_lt_of_le h.1 hb.size, fun k hk => ⟨(hb.cell (p := ⟨gl, k * 2, none⟩) h.1).trans (h.2 k hk).1, (hb.cell (p := ⟨gl, k * 2 + 1, none⟩) h.1).trans (h.2 k hk).2⟩⟩

def vAt (V : List Int) (k : Nat) : Int := V.getD k 0
theorem vAt_yes {V : List Int} {k : Nat} (h : vAt V k < vAt V (flAt V k)) : flAt V (k + 1) = k := flAt_yes h
theorem vAt_no {V : List Int} {k : Nat} (h : ¬ vAt V k < vAt V (flAt V k)) : flAt V (k + 1) = flAt V k := flAt_no h

set_option maxRecDepth 100000 in
set_option maxHeartbeats 4000000 in
theorem firstLeastJm_any (gl cl B bp bj bm : Nat) (A A' : Option Addr) (c c' : Nat) (zs ps : List Int) (M : Nat) (W : World) (h : Held W B bp bj bm A A' c c' zs ps M) (hb : jboth zs M ps = true) (hl : Moves W gl M (ps.length * M)) (hc : ps.length * M ≤ cl) (hcm : cl ≤ maxLen) :
    Calls Try.prog 23 #[.slice (some ⟨gl, 0, none⟩) (ps.length * M) cl, .func (.func 19) #[] #[.pointer (some ⟨bp, 0, none⟩), .pointer (some ⟨bj, 0, none⟩), .pointer (some ⟨bm, 0, none⟩)]] W
      fun e w' => e = .returned (.agg #[.int .i64 ((flAt (endsL zs ps M) (ps.length * M) / M : Nat) : Int), .int .i64 ((flAt (endsL zs ps M) (ps.length * M) % M : Nat) : Int)]) ∧ Below W.heap.size W w' := by
  have hm := jboth_m hb
  have hpl := (jfit_of (jboth_of hb).2).1
  have hgd := jgood_of (jask_of (jboth_of hb).1).1
  have hK1 : 0 < ps.length * M := Nat.mul_pos (by omega) (by omega)
  have hK2 : ps.length * M ≤ 36 := by
    have := Nat.mul_le_mul (show ps.length ≤ 9 by omega) (show M ≤ 4 by omega); omega
  have HC := hide (fun q (hq : q < ps.length * M) W h => byEnd_any B bp bj bm A A' c c' zs ps M q W h hb hq)
  have HAT := hide (fun q (hq : q < ps.length * M) => (show vAt (endsL zs ps M) q = endZ zs (mvd ps M q) M from endsL_at zs ps hq))
  have HVL := hide (endsL_length zs ps M)
  have HFL := hide (flAt_lt (endsL zs ps M) (by rw [endsL_length]; exact hK1))
  have HF1 := hide (flAt_one (endsL zs ps M))
  have HH := hide h
  have HM := hide hl
  generalize endsL zs ps M = V at *
  generalize ps.length * M = K at *
  unfold maxLen at hcm
  clear hb h hl hpl hgd
  have HCa := hide (fun q (hq : q < K) W (h : Held W B bp bj bm A A' c c' zs ps M) => (HAT.out q hq) ▸ HC.out q hq W h)
  clear HC
  -- the first one
  have hc0 := (HM.out.2 0 hK1).1
  have hc1 := (HM.out.2 0 hK1).2
  have HC0 := hide (fun W h => HCa.out 0 hK1 W h)
  obtain ⟨i0, hi0⟩ : ∃ i0 : Nat, i0 = 0 / M := ⟨_, rfl⟩
  obtain ⟨j0, hj0⟩ : ∃ j0 : Nat, j0 = 0 % M := ⟨_, rfl⟩
  rw [← hi0] at hc0 HC0
  rw [← hj0] at hc1 HC0
  have HI0 := hide hi0
  have HJ0 := hide hj0
  clear hi0 hj0
  rw [Nat.zero_mul] at hc0 hc1
  have e01 : (0 + 1) = 1 := rfl
  rw [e01] at hc1
  clear e01
  go_enter Try.func23, Try.ntmps23
  go_wp2_with fail
  have hA : Below W.heap.size W (W.alloc (.cells #[.int .i64 0, .int .i64 0] 38)) := (Below.refl _ _).alloc (Nat.le_refl _) _
  have BR := hide (Bx.new W 38 (.int .i64 0) (.int .i64 0))
  have HH1 := hide (HH.out.next hA)
  have HM1 := hide (HM.out.next hA)
  have HA := hide hA
  have hk0 : (W.alloc (.cells #[.int .i64 0, .int .i64 0] 38)).cell? ⟨gl, 0, none⟩ = some (.int .i64 (i0 : Int)) := (hA.cell (p := ⟨gl, 0, none⟩) HM.out.1).trans hc0
  have hk1 : (W.alloc (.cells #[.int .i64 0, .int .i64 0] 38)).cell? ⟨gl, 1, none⟩ = some (.int .i64 (j0 : Int)) := (hA.cell (p := ⟨gl, 1, none⟩) HM.out.1).trans hc1
  clear hA hc0 hc1
  generalize W.alloc (.cells #[.int .i64 0, .int .i64 0] 38) = W1 at *
  have HS := hide (fun X (h : Below W1.heap.size W1 X) => And.intro h (And.intro ((h.cell (p := ⟨gl, 0, none⟩) HM1.out.1).trans hk0) ((h.cell (p := ⟨gl, 1, none⟩) HM1.out.1).trans hk1)))
  have HCW := hide (fun X (h : Below W1.heap.size W1 X) => HC0.out X (HH1.out.next h))
  go_region_held3 (fun X => Below W1.heap.size W1 X ∧ X.cell? ⟨gl, 0, none⟩ = some (.int .i64 (i0 : Int)) ∧ X.cell? ⟨gl, 1, none⟩ = some (.int .i64 (j0 : Int)))
    (first | exact HS.out _ (Below.refl _ _).drew | exact HS.out _ (below_next (And.left (by assumption)) hb2) | exact HS.out _ (Below.alloc (And.left (by assumption)) (Below.size (And.left (by assumption))) _) | exact HS.out _ (Below.setCell (And.left (by assumption)) (Below.size (And.left (by assumption))) _) | exact HS.out _ (Below.alloc (below_next (w1 := W1.drew) (Below.refl _ _).drew hb2) (by have := hb2.size; exact this) _) | exact HS.out _ (Below.setCell (Below.setCell (below_next (w1 := (W1.alloc _).drew) ((Below.refl _ _).alloc (Nat.le_refl _) _).drew hb2) (Nat.le_refl _) _) (Nat.le_refl _) _) | go_keep)
    (first
    | (go_at_call 19; (with_reducible refine (HCW.out _ (And.left (by assumption))).mono ?_); rintro e w2 ⟨rfl, hb2⟩; first
      | (have qq : Bx w2 W1.heap.size 38 (.int .i64 0) (.int .i64 0) := (Bx.new W1.drew 38 (.int .i64 0) (.int .i64 0)).next hb2; have qr := qq.set0 (.int .i64 (i0 : Int)); have q1 := qq.c0; have q2 := qq.f 0; have q5 := qq.c1; have q6 := qq.f 1; have q3 := qr.c1; have q4 := qr.f 1; clear qq qr)
      | skip))
  all_goals
    first
    | (have FX := Bx.new w2 38 (.int .i64 (i0 : Int)) (.int .i64 (j0 : Int))
       have FW : Below W1.heap.size W1 w2 := below_next (w1 := W1.drew) (Below.refl _ _).drew hb2
       have FB := FW.alloc FW.size (.cells #[.int .i64 (i0 : Int), .int .i64 (j0 : Int)] 38)
       have FN : W1.heap.size ≤ w2.heap.size := FW.size
       clear hb2 FW
       generalize (w2.alloc (.cells #[.int .i64 (i0 : Int), .int .i64 (j0 : Int)] 38)) = W3 at *
       generalize w2.heap.size = b5 at *)
    | (have FX := (((Bx.new W1.drew 38 (.int .i64 0) (.int .i64 0)).next hb2).set0 (.int .i64 (i0 : Int))).set1 (.int .i64 (j0 : Int))
       have FW : Below W1.heap.size W1 w2 := below_next (w1 := (W1.alloc _).drew) ((Below.refl _ _).alloc (Nat.le_refl _) _).drew hb2
       have FB := (FW.setCell (p := ⟨W1.heap.size, 0, none⟩) (Nat.le_refl _) (.int .i64 (i0 : Int))).setCell (p := ⟨W1.heap.size, 1, none⟩) (Nat.le_refl _) (.int .i64 (j0 : Int))
       have FN : W1.heap.size ≤ W1.heap.size := Nat.le_refl _
       clear hb2 FW q1 q2 q3 q4 q5 q6
       change Bx ((w2.setCell ⟨W1.heap.size, 0, none⟩ (.int .i64 (i0 : Int))).setCell ⟨W1.heap.size, 1, none⟩ (.int .i64 (j0 : Int))) W1.heap.size _ _ _ at FX
       generalize ((w2.setCell ⟨W1.heap.size, 0, none⟩ (.int .i64 (i0 : Int))).setCell ⟨W1.heap.size, 1, none⟩ (.int .i64 (j0 : Int))) = W3 at *
       generalize hb5 : W1.heap.size = b5 at FX FN ⊢
       rw [hb5] at FB
       rw [← hb5] at FB FN
       have FN : W1.heap.size ≤ b5 := by omega
       clear hb5)
    clear HS HCW hk0 hk1
    have hW : W.heap.size < W1.heap.size := BR.out.lt
    have BR3 := hide (BR.out.below FB hW)
    have HB3 := hide (HA.out.trans (FB.mono (by omega)))
    have hneb : b5 ≠ W.heap.size := by omega
    have hneb' : W.heap.size ≠ b5 := by omega
    by_cases hcl : cl = 1
    · obtain rfl : K = 1 := by omega
      subst hcl
      have x0 := FX.c0
      have x1 := FX.c1
      have r0 := BR3.out.c0
      have r1 := BR3.out.f 0
      have r2 := (BR3.out.set0 (.int .i64 (i0 : Int))).c1
      have r3 := (BR3.out.set0 (.int .i64 (i0 : Int))).f 1
      go_wp2_with fail
      refine wp_loop_rounds 1 ?_
      rw [rounds_succ]
      have hz := (BR3.out.set0 (.int .i64 (i0 : Int))).set1 (.int .i64 (j0 : Int))
      have z0 := hz.c0
      have z1 := hz.c1
      go_wp2_with fail
      exact bodyPost_ret (v := .agg #[.int .i64 (i0 : Int), .int .i64 (j0 : Int)])
        (by simp [results, Try.results23, go_sem, z0, z1]) rfl
        ⟨by rw [HF1.out, ← HI0.out, ← HJ0.out], (HB3.out.setCell (Nat.le_refl _) _).setCell (Nat.le_refl _) _⟩
    · have hK1c : K - 1 ≤ cl - 1 := by omega
      have HFX := hide FX
      have HFB := hide FB
      clear FX FB
      go_wp2_with fail
      go_loopw [6, 21] (fun v i wr => ∃ j : Nat, j + 1 ≤ K ∧ i = .int .i64 j ∧ v = .int .i64 (vAt V (flAt V (j + 1))) ∧ Bx wr b5 38 (.int .i64 ((flAt V (j + 1) / M : Nat) : Int)) (.int .i64 ((flAt V (j + 1) % M : Nat) : Int)) ∧ Below W1.heap.size W1 wr)
        (fun _ i _ => K - (intOf i).toNat)
      case atStart => exact ⟨0, by omega, rfl, by rw [HF1.out], by rw [HF1.out, ← HI0.out, ← HJ0.out]; exact HFX.out, HFB.out⟩
      case round =>
        obtain ⟨j, hj, rfl, rfl, hbx, hb⟩ := hrel
        by_cases hlt : j + 1 < K
        · have hm2 := HM1.out.next hb
          obtain ⟨m1, m2⟩ := hm2.2 (j + 1) hlt
          rw [show (j + 1) * 2 = 2 + j * 2 by omega] at m1 m2
          have HCJ := hide (fun X (h : Below W1.heap.size W1 X) => HCa.out (j + 1) hlt X (HH1.out.next h))
          obtain ⟨i1, hi1⟩ : ∃ i1 : Nat, i1 = (j + 1) / M := ⟨_, rfl⟩
          obtain ⟨j1, hj1⟩ : ∃ j1 : Nat, j1 = (j + 1) % M := ⟨_, rfl⟩
          rw [← hi1, ← hj1] at HCJ
          rw [← hi1] at m1
          rw [← hj1] at m2
          have HI1 := hide hi1
          have HJ1 := hide hj1
          have hsz := hb.size
          have HBX := hide hbx
          have HQ := hide hb
          have hjm : (j : Int) < ((K - 1 : Nat) : Int) := by omega
          have HYS := hide (fun (h : vAt V (j + 1) < vAt V (flAt V (j + 1))) => vAt_yes h)
          have HNO := hide (fun (h : ¬ vAt V (j + 1) < vAt V (flAt V (j + 1))) => vAt_no h)
          clear hi1 hj1 hbx hb hm2
          have hA2 := HQ.out.alloc hsz (.cells #[.int .i64 (i1 : Int), .int .i64 (j1 : Int)] 38)
          have B8 := hide (Bx.new wr 38 (.int .i64 (i1 : Int)) (.int .i64 (j1 : Int)))
          have BX2 := hide (HBX.out.alloc (.cells #[.int .i64 (i1 : Int), .int .i64 (j1 : Int)] 38))
          have HA2 := hide hA2
          have HC2 := hide (HCJ.out _ hA2)
          clear hA2
          by_cases hcp : vAt V (j + 1) < vAt V (flAt V (j + 1))
          · have HY := hide (HYS.out hcp)
            generalize vAt V (flAt V (j + 1)) = v0 at *
            generalize hv1 : vAt V (j + 1) = v1 at *
            have HV1 := hide hv1
            clear hv1
            go_wp2_with fail
            refine HC2.out.mono ?_
            rintro e w4 ⟨rfl, hb4⟩
            have B84 := hide (B8.out.next hb4)
            have BX4 := hide (BX2.out.next hb4)
            have HB4 := hide (HA2.out.trans (hb4.mono HA2.out.size))
            have c0 := B84.out.c0
            have c1 := B84.out.c1
            have d0 := BX4.out.c0
            have d1 := BX4.out.f 0
            have d2 := (BX4.out.set0 (.int .i64 (i1 : Int))).c1
            have d3 := (BX4.out.set0 (.int .i64 (i1 : Int))).f 1
            have HNX := hide ((BX4.out.set0 (.int .i64 (i1 : Int))).set1 (.int .i64 (j1 : Int)))
            clear hb4
            go_wp2_with fail
            go_roundw
            case rel => exact ⟨j + 1, by omega, by go_num, by rw [HY.out, HV1.out], by rw [HY.out, ← HI1.out, ← HJ1.out]; exact HNX.out, (HB4.out.setCell FN _).setCell FN _⟩
            case measure => simp [intOf]; omega
          · have HY := hide (HNO.out hcp)
            generalize hv0 : vAt V (flAt V (j + 1)) = v0 at *
            have HV0 := hide hv0
            clear hv0
            generalize vAt V (j + 1) = v1 at *
            go_wp2_with fail
            refine HC2.out.mono ?_
            rintro e w4 ⟨rfl, hb4⟩
            have BX4 := hide (BX2.out.next hb4)
            have HB4 := hide (HA2.out.trans (hb4.mono HA2.out.size))
            clear hb4
            go_wp2_with fail
            go_roundw
            case rel => exact ⟨j + 1, by omega, by go_num, by rw [HY.out, HV0.out], by rw [HY.out]; exact BX4.out, HB4.out⟩
            case measure => simp [intOf]; omega
        · obtain rfl : K = j + 1 := by omega
          have x0 := hbx.c0
          have x1 := hbx.c1
          have BRX := hide (BR.out.below hb hW)
          have HBX := hide (HA.out.trans (hb.mono (by omega)))
          generalize hi1 : flAt V (j + 1) / M = i1 at *
          generalize hj1 : flAt V (j + 1) % M = j1 at *
          have HI1 := hide hi1
          have HJ1 := hide hj1
          clear hi1 hj1
          have r0 := BRX.out.c0
          have r1 := BRX.out.f 0
          have r2 := (BRX.out.set0 (.int .i64 (i1 : Int))).c1
          have r3 := (BRX.out.set0 (.int .i64 (i1 : Int))).f 1
          have hz := (BRX.out.set0 (.int .i64 (i1 : Int))).set1 (.int .i64 (j1 : Int))
          have z0 := hz.c0
          have z1 := hz.c1
          clear hbx hb
          go_wp2_with fail
          exact bodyPost_ret (v := .agg #[.int .i64 (i1 : Int), .int .i64 (j1 : Int)])
            (by simp [results, Try.results23, go_sem, z0, z1]) rfl
            ⟨by rw [HI1.out, HJ1.out], (HBX.out.setCell (Nat.le_refl _) _).setCell (Nat.le_refl _) _⟩
end Go.Proofs.Ytloiaininfhfiaa
