
/-
  MOVES THAT HELP, THE PROGRAM's WAY: the closure that tells the end behind a move.
-/
import Derived.Test.YtloiaininfhfiaaBmI
import Derived.Test.YtloiaininfhfiaaBox
namespace Go.Proofs.Ytloiaininfhfiaa
open Go.RowKit Go.Deep
set_option linter.unusedVariables false

/-- What the closure reads: the plan, the jobs and the number of machines through their variables. -/
structure Held (W : World) (B bp bj bm : Nat) (A A' : Option Addr) (c c' : Nat) (zs ps : List Int) (M : Nat) : Prop where
  pl : One W bp 22 (.slice A' ps.length c')
  jb : One W bj 22 (.slice A zs.length c)
  mc : One W bm 3 (.int .i64 (M : Int))
  zr : Ints W B A zs.length zs
  pr : Ints W B A' ps.length ps
  hB : B ≤ W.heap.size
theorem Held.next {W W' : World} {B bp bj bm M c c' : Nat} {A A' : Option Addr} {zs ps : List Int} (h : Held W B bp bj bm A A' c c' zs ps M) (hb : Below W.heap.size W W') : Held W' B bp bj bm A A' c c' zs ps M :=
  ⟨h.pl.below hb h.pl.lt, h.jb.below hb h.jb.lt, h.mc.below hb h.mc.lt, h.zr.below hb h.hB, h.pr.below hb h.hB, Nat.le_trans h.hB hb.size⟩

set_option maxRecDepth 100000 in
theorem byEnd_any (B bp bj bm : Nat) (A A' : Option Addr) (c c' : Nat) (zs ps : List Int) (M q : Nat) (W : World) (h : Held W B bp bj bm A A' c c' zs ps M) (hb : jboth zs M ps = true) (hq : q < ps.length * M) :
    Calls Try.prog 19 #[.agg #[.int .i64 ((q / M : Nat) : Int), .int .i64 ((q % M : Nat) : Int)], .pointer (some ⟨bp, 0, none⟩), .pointer (some ⟨bj, 0, none⟩), .pointer (some ⟨bm, 0, none⟩)] W
      fun e w' => e = .returned (.int .i64 (endZ zs (mvd ps M q) M)) ∧ Below W.heap.size W w' := by
  have hm := jboth_m hb
  have hpl := (jfit_of (jboth_of hb).2).1
  have hgd := jgood_of (jask_of (jboth_of hb).1).1
  have hi : q / M < ps.length := (Nat.div_lt_iff_lt_mul (by omega)).2 hq
  have hj : q % M < M := Nat.mod_lt _ (by omega)
  have HF := hide (mvd_fits hb q)
  have HML := hide (mvd_length ps M q)
  have HV := hide (show mvd ps M q = ps.set (q / M) ((q % M : Nat) : Int) from rfl)
  have HLN := hide (loadsA_length zs (mvd ps M q) M)
  have HE := hide (show endZ zs (mvd ps M q) M = up 0 (loadsA zs (mvd ps M q) M) from rfl)
  have HU := hide (up_low (l := loadsA zs (mvd ps M q) M) (by rw [loadsA_length]; omega) (loadsA_bd HF.out M) (by omega))
  have HLO := hide (fun A' c' B B' W (h1 : Ints W B A zs.length zs) (h2 : Ints W B' A' (mvd ps M q).length (mvd ps M q)) (h3 : B ≤ W.heap.size) (h4 : B' ≤ W.heap.size) => loadsOf_any A zs.length c B zs M A' (mvd ps M q).length c' B' (mvd ps M q) W h1 h2 h3 h4 HF.out)
  have hp1 : 1 ≤ ps.length := by omega
  have hp9 : ps.length ≤ 9 := by omega
  have HH := hide h
  rw [HML.out] at HLO
  generalize q / M = i at *
  generalize q % M = j at *
  generalize mvd ps M q = ps2 at *
  generalize loadsA zs ps2 M = fs at *
  have HMX := hide (fun A1 c1 w1 (h : Ints w1 w1.heap.size A1 fs.length fs) => Max_any A1 fs.length c1 w1.heap.size fs w1 h (by have := HLN.out; omega) (by have := HLN.out; omega))
  generalize up (fs.getD 0 0) fs = x at *
  clear hm hpl hgd h hb hq
  have hA : Below W.heap.size W (W.alloc (.cells #[.int .i64 (i : Int), .int .i64 (j : Int)] 38)) := (Below.refl _ _).alloc (Nat.le_refl _) _
  have H0 := hide (HH.out.next hA)
  have hc0 := H0.out.pl.cell
  have BX0 := hide (Bx.new W 38 (.int .i64 (i : Int)) (.int .i64 (j : Int)))
  have HA := hide hA
  clear hA
  go_enter Try.func19, Try.ntmps19
  go_wp2_with fail
  have hsz0 : W.heap.size < (W.alloc (.cells #[.int .i64 (i : Int), .int .i64 (j : Int)] 38)).heap.size := BX0.out.lt
  generalize W.alloc (.cells #[.int .i64 (i : Int), .int .i64 (j : Int)] 38) = W0 at *
  refine (Clone_any _ _ _ _ _ _ H0.out.pr H0.out.hB (by omega) (by omega)).mono ?_
  rintro e w2 ⟨g, cg, rfl, hg1, hg2, hcg1, hcg2, hown, hb2⟩
  have H2 := hide (H0.out.next hb2)
  have BX2 := hide (BX0.out.next hb2)
  have hi0 := BX2.out.c0
  have hi1 := BX2.out.c1
  have hown' := hown
  unfold Own at hown'
  have hold := World.ownsRow.cellAt hown' i (by omega)
  rw [List.getElem?_map, List.getElem?_eq_getElem hi, Option.map_some] at hold
  have hfz := World.ownsRow.frozenAt hown' i
  have hst : Own (w2.setCell ⟨g, i, none⟩ (.int .i64 (j : Int))) W0.heap.size 3 (.slice (some ⟨g, 0, none⟩) ps.length cg) ps2 := by
    rw [HV.out]; exact Own.stored hown rfl i (j : Int)
  have hint := hst.ints
  rw [HML.out] at hint
  have HI := hide hint
  have hbs : Below W0.heap.size W0 (w2.setCell ⟨g, i, none⟩ (.int .i64 (j : Int))) := hb2.setCell hg1 _
  have H3 := hide (H0.out.next hbs)
  have HB3 := hide (HA.out.trans (hbs.mono (by omega)))
  have hb3 := H3.out.jb.cell
  have hb4 := H3.out.mc.cell
  have hsz3 := hbs.size
  clear hown' hown hst hint hbs hb2 hc0
  go_wp2_with fail
  generalize w2.setCell ⟨g, i, none⟩ (.int .i64 (j : Int)) = W3 at *
  refine (HLO.out _ _ _ _ _ H3.out.zr HI.out H3.out.hB (Nat.le_refl _)).mono ?_
  rintro e w4 ⟨g4, c4, rfl, _, _, _, _, hown4, hb4'⟩
  have hI4 := hown4.ints
  go_wp2_with fail
  refine (HMX.out _ _ _ hI4).mono ?_
  rintro e w' ⟨rfl, rfl⟩
  go_wp2_with fail
  go_ret
  exact ⟨by rw [HE.out, ← HU.out]; rfl, HB3.out.trans (hb4'.mono (by omega))⟩
end Go.Proofs.Ytloiaininfhfiaa
