
/-
  BEST PLANS, THE PROGRAM's WAY: bestPlansOf, LeastEnd, FirstBestPlan, CountBestPlans.
-/
import Derived.Test.YtfikkgnpednjfaaGv
import Derived.Test.YtfikkgnpednjfaaLkS
import Derived.Laws.EntriesVeiled
namespace Go.Proofs.Ytfikkgnpednjfaa
open Go.RowKit Go.Deep
set_option linter.unusedVariables false

/-- What bestPlansOf gives. -/
def Found (zs : List Int) (M : Nat) (w : World) (e : Ending) (w' : World) : Prop :=
  ∃ A' c', e = .returned (.tuple #[.agg #[.int .i64 (bestR zs M).e, .slice A' (bestR zs M).p.length c', .int .i64 ((bestR zs M).c : Int)], .bool true]) ∧ Own w' w.heap.size 3 (.slice A' (bestR zs M).p.length c') (bestR zs M).p ∧ Below w.heap.size w w'

set_option maxRecDepth 100000 in
theorem bestPlansOf_no (A : Option Addr) (n c : Nat) (zs : List Int) (m : Int) (w : World) (hr : Ints w w.heap.size A n zs) (hn : n ≤ 17592186044416) (hg : jask zs m = false) :
    Calls Try.prog 18 #[.slice A n c, .int .i64 m] w fun e w' => e = .returned (.tuple #[.agg #[.int .i64 0, .slice none 0 0, .int .i64 0], .bool false]) ∧ Below w.heap.size w w' := by
  have b1 : Below w.heap.size w (w.alloc (.cells #[.slice A n c] 22)) := (Below.refl _ _).alloc (Nat.le_refl _) _
  have z1 : (w.alloc (.cells #[.slice A n c] 22)).heap.size = w.heap.size + 1 := by simp
  have b2 := b1.alloc (by omega) (.cells #[.int .i64 0, .slice none 0 0, .int .i64 0] 34)
  have o1 := (One.made w 22 (.slice A n c)).new (.cells #[.int .i64 0, .slice none 0 0, .int .i64 0] 34)
  have x2 := Tx.new (w.alloc (.cells #[.slice A n c] 22)) 34 (.int .i64 0) (.slice none 0 0) (.int .i64 0)
  rw [z1] at x2
  have c1 := o1.cell
  have X2 := hide x2
  have k0 := x2.c0
  have k1 := x2.c1
  have k2 := x2.c2
  have f0 := x2.f 0
  have f1 := (x2.set0 (.int .i64 0)).f 1
  have k3 := (x2.set0 (.int .i64 0)).c1
  have f2 := ((x2.set0 (.int .i64 0)).set1 (.slice none 0 0)).f 2
  have k4 := ((x2.set0 (.int .i64 0)).set1 (.slice none 0 0)).c2
  have xx := ((x2.set0 (.int .i64 0)).set1 (.slice none 0 0)).set2 (.int .i64 0)
  have y0 := xx.c0
  have y1 := xx.c1
  have y2 := xx.c2
  have HB2 := hide b2
  have HR := hide (hr.below b2 (Nat.le_refl _))
  clear b1 b2 z1 o1 x2 xx
  have HAJ := hide (areJobsOn_any A n c w.heap.size zs m ((w.alloc (.cells #[.slice A n c] 22)).alloc (.cells #[.int .i64 0, .slice none 0 0, .int .i64 0] 34)) HR.out hn)
  rw [hg] at HAJ
  go_enter Try.func18, Try.ntmps18
  go_wp2_with fail
  refine HAJ.out.mono ?_; rintro e w' ⟨rfl, rfl⟩
  go_wp2_with fail
  exact bodyPost_ret (v := .tuple #[.agg #[.int .i64 0, .slice none 0 0, .int .i64 0], .bool false])
    (by simp [results, Try.results18, go_sem, y0, y1, y2]) rfl
    ⟨rfl, HB2.out⟩

set_option maxRecDepth 100000 in
set_option maxHeartbeats 2000000 in
theorem bestPlansOf_yes (A : Option Addr) (n c : Nat) (zs : List Int) (M : Nat) (w : World) (hr : Ints w w.heap.size A n zs) (hn : n ≤ 17592186044416) (hg : jask zs (M : Int) = true) :
    Calls Try.prog 18 #[.slice A n c, .int .i64 (M : Int)] w (Found zs M w) := by
  obtain rfl := hr.len
  obtain ⟨hj, hm1, hm2⟩ := jask_of hg
  obtain ⟨hl1, hl9, hwz⟩ := jgood_of hj
  have ht := jgood_tot hj
  have hz : within 0 1000 zs = true := within_wide hwz (by omega) (by omega)
  have HSM := hide (jgood_small hj)
  have HR := hide hr
  have hmk := run_make_row' (P := Try.prog) 22 3 (.int .i64 0) 8 Try.underlying22 infoInt rfl .i64 .i64 M (by omega) (by omega)
  have hmk2 := run_make_row' (P := Try.prog) 22 3 (.int .i64 0) 8 Try.underlying22 infoInt rfl .i64 .i64 zs.length (by omega) (by omega)
  have hmf : ∀ (fn : Fn) (first cap : Array Value) (w : World), (Instr.makeFunc fn first cap).run Try.prog w = .ok (.func fn first cap) w := fun _ _ _ _ => rfl
  have b1 : Below w.heap.size w (w.alloc (.cells #[.slice A zs.length c] 22)) := (Below.refl _ _).alloc (Nat.le_refl _) _
  have z1 : (w.alloc (.cells #[.slice A zs.length c] 22)).heap.size = w.heap.size + 1 := by simp
  have b2 := b1.alloc (by omega) (.cells #[.int .i64 0, .slice none 0 0, .int .i64 0] 34)
  have o1 := (One.made w 22 (.slice A zs.length c)).new (.cells #[.int .i64 0, .slice none 0 0, .int .i64 0] 34)
  have x2 := Tx.new (w.alloc (.cells #[.slice A zs.length c] 22)) 34 (.int .i64 0) (.slice none 0 0) (.int .i64 0)
  have z2 : ((w.alloc (.cells #[.slice A zs.length c] 22)).alloc (.cells #[.int .i64 0, .slice none 0 0, .int .i64 0] 34)).heap.size = w.heap.size + 1 + 1 := by simp
  rw [z1] at x2
  have c1 := o1.cell
  have X2 := hide x2
  have O1 := hide o1
  have HB2 := hide b2
  have HZ2 := hide z2
  have HR2 := hide (hr.below b2 (Nat.le_refl _))
  clear b1 b2 z1 z2 o1 x2 hr
  have HAJ := hide (areJobsOn_any A zs.length c w.heap.size zs M ((w.alloc (.cells #[.slice A zs.length c] 22)).alloc (.cells #[.int .i64 0, .slice none 0 0, .int .i64 0] 34)) HR2.out hn)
  have HSU := hide (sumOf_any A zs.length c w.heap.size zs ((w.alloc (.cells #[.slice A zs.length c] 22)).alloc (.cells #[.int .i64 0, .slice none 0 0, .int .i64 0] 34)) HR2.out (by omega) HSM.out)
  rw [hg] at HAJ
  go_enter Try.func18, Try.ntmps18
  go_wp2_with fail
  refine HAJ.out.mono ?_; rintro e w' ⟨rfl, rfl⟩
  go_wp2_with fail
  refine HSU.out.mono ?_; rintro e w' ⟨rfl, rfl⟩
  generalize ((w.alloc (.cells #[.slice A zs.length c] 22)).alloc (.cells #[.int .i64 0, .slice none 0 0, .int .i64 0] 34)) = W2 at *
  have hsz2 := HZ2.out
  -- what lies where
  have xa := Tx.new W2 34 (.int .i64 (tot zs)) (.slice none 0 0) (.int .i64 0)
  have oa := O1.out.new (.cells #[.int .i64 (tot zs), .slice none 0 0, .int .i64 0] 34)
  have ba := HB2.out.alloc (by omega) (.cells #[.int .i64 (tot zs), .slice none 0 0, .int .i64 0] 34)
  have ta := X2.out.next ((Below.refl W2.heap.size W2).alloc (Nat.le_refl _) (.cells #[.int .i64 (tot zs), .slice none 0 0, .int .i64 0] 34))
  have za : (W2.alloc (.cells #[.int .i64 (tot zs), .slice none 0 0, .int .i64 0] 34)).heap.size = W2.heap.size + 1 := by simp
  generalize hWa : W2.alloc (.cells #[.int .i64 (tot zs), .slice none 0 0, .int .i64 0] 34) = Wa at *
  have rb := Row.zeros Wa zs.length 3
  have bb := ba.alloc (by omega) (.cells (madeCells #[.int .i64 0] zs.length) 3)
  have kb : Below Wa.heap.size Wa (Wa.alloc (.cells (madeCells #[.int .i64 0] zs.length) 3)) := (Below.refl _ _).alloc (Nat.le_refl _) _
  have zb : (Wa.alloc (.cells (madeCells #[.int .i64 0] zs.length) 3)).heap.size = W2.heap.size + 1 + 1 := by simp [za]
  rw [za] at rb
  generalize hWb : Wa.alloc (.cells (madeCells #[.int .i64 0] zs.length) 3) = Wb at *
  have oc := One.made Wb 22 (.slice (some ⟨W2.heap.size + 1, 0, none⟩) zs.length zs.length)
  have bc := bb.alloc (by omega) (.cells #[.slice (some ⟨W2.heap.size + 1, 0, none⟩) zs.length zs.length] 22)
  have kc := kb.alloc (by omega) (.cells #[.slice (some ⟨W2.heap.size + 1, 0, none⟩) zs.length zs.length] 22)
  have rb := rb.new (.cells #[.slice (some ⟨W2.heap.size + 1, 0, none⟩) zs.length zs.length] 22)
  have zc : (Wb.alloc (.cells #[.slice (some ⟨W2.heap.size + 1, 0, none⟩) zs.length zs.length] 22)).heap.size = W2.heap.size + 1 + 1 + 1 := by simp [zb]
  rw [zb] at oc
  generalize hWc : Wb.alloc (.cells #[.slice (some ⟨W2.heap.size + 1, 0, none⟩) zs.length zs.length] 22) = Wc at *
  have rd := Row.zeros Wc M 3
  have bd := bc.alloc (by omega) (.cells (madeCells #[.int .i64 0] M) 3)
  have kd := kc.alloc (by omega) (.cells (madeCells #[.int .i64 0] M) 3)
  have rb := rb.new (.cells (madeCells #[.int .i64 0] M) 3)
  have oc := oc.new (.cells (madeCells #[.int .i64 0] M) 3)
  have zd : (Wc.alloc (.cells (madeCells #[.int .i64 0] M) 3)).heap.size = W2.heap.size + 1 + 1 + 1 + 1 := by simp [zc]
  rw [zc] at rd
  generalize hWd : Wc.alloc (.cells (madeCells #[.int .i64 0] M) 3) = Wd at *
  have oe := One.made Wd 22 (.slice (some ⟨W2.heap.size + 1 + 1 + 1, 0, none⟩) M M)
  have be := bd.alloc (by omega) (.cells #[.slice (some ⟨W2.heap.size + 1 + 1 + 1, 0, none⟩) M M] 22)
  have ke := kd.alloc (by omega) (.cells #[.slice (some ⟨W2.heap.size + 1 + 1 + 1, 0, none⟩) M M] 22)
  have rb := rb.new (.cells #[.slice (some ⟨W2.heap.size + 1 + 1 + 1, 0, none⟩) M M] 22)
  have oc := oc.new (.cells #[.slice (some ⟨W2.heap.size + 1 + 1 + 1, 0, none⟩) M M] 22)
  have rd := rd.new (.cells #[.slice (some ⟨W2.heap.size + 1 + 1 + 1, 0, none⟩) M M] 22)
  have ze : (Wd.alloc (.cells #[.slice (some ⟨W2.heap.size + 1 + 1 + 1, 0, none⟩) M M] 22)).heap.size = W2.heap.size + 1 + 1 + 1 + 1 + 1 := by simp [zd]
  rw [zd] at oe
  generalize hWe : Wd.alloc (.cells #[.slice (some ⟨W2.heap.size + 1 + 1 + 1, 0, none⟩) M M] 22) = We at *
  have og := One.made We 43 (.func (.func 25) #[] #[.pointer (some ⟨w.heap.size, 0, none⟩), .pointer (some ⟨W2.heap.size, 0, none⟩), .pointer (some ⟨W2.heap.size + 1 + 1, 0, none⟩), .pointer (some ⟨W2.heap.size + 1 + 1 + 1 + 1, 0, none⟩), .pointer (some ⟨W2.heap.size + 1 + 1 + 1 + 1 + 1, 0, none⟩)])
  have bg := be.alloc (by omega) (.cells #[.func (.func 25) #[] #[.pointer (some ⟨w.heap.size, 0, none⟩), .pointer (some ⟨W2.heap.size, 0, none⟩), .pointer (some ⟨W2.heap.size + 1 + 1, 0, none⟩), .pointer (some ⟨W2.heap.size + 1 + 1 + 1 + 1, 0, none⟩), .pointer (some ⟨W2.heap.size + 1 + 1 + 1 + 1 + 1, 0, none⟩)]] 43)
  have kg := ke.alloc (by omega) (.cells #[.func (.func 25) #[] #[.pointer (some ⟨w.heap.size, 0, none⟩), .pointer (some ⟨W2.heap.size, 0, none⟩), .pointer (some ⟨W2.heap.size + 1 + 1, 0, none⟩), .pointer (some ⟨W2.heap.size + 1 + 1 + 1 + 1, 0, none⟩), .pointer (some ⟨W2.heap.size + 1 + 1 + 1 + 1 + 1, 0, none⟩)]] 43)
  have rb := rb.new (.cells #[.func (.func 25) #[] #[.pointer (some ⟨w.heap.size, 0, none⟩), .pointer (some ⟨W2.heap.size, 0, none⟩), .pointer (some ⟨W2.heap.size + 1 + 1, 0, none⟩), .pointer (some ⟨W2.heap.size + 1 + 1 + 1 + 1, 0, none⟩), .pointer (some ⟨W2.heap.size + 1 + 1 + 1 + 1 + 1, 0, none⟩)]] 43)
  have oc := oc.new (.cells #[.func (.func 25) #[] #[.pointer (some ⟨w.heap.size, 0, none⟩), .pointer (some ⟨W2.heap.size, 0, none⟩), .pointer (some ⟨W2.heap.size + 1 + 1, 0, none⟩), .pointer (some ⟨W2.heap.size + 1 + 1 + 1 + 1, 0, none⟩), .pointer (some ⟨W2.heap.size + 1 + 1 + 1 + 1 + 1, 0, none⟩)]] 43)
  have rd := rd.new (.cells #[.func (.func 25) #[] #[.pointer (some ⟨w.heap.size, 0, none⟩), .pointer (some ⟨W2.heap.size, 0, none⟩), .pointer (some ⟨W2.heap.size + 1 + 1, 0, none⟩), .pointer (some ⟨W2.heap.size + 1 + 1 + 1 + 1, 0, none⟩), .pointer (some ⟨W2.heap.size + 1 + 1 + 1 + 1 + 1, 0, none⟩)]] 43)
  have oe := oe.new (.cells #[.func (.func 25) #[] #[.pointer (some ⟨w.heap.size, 0, none⟩), .pointer (some ⟨W2.heap.size, 0, none⟩), .pointer (some ⟨W2.heap.size + 1 + 1, 0, none⟩), .pointer (some ⟨W2.heap.size + 1 + 1 + 1 + 1, 0, none⟩), .pointer (some ⟨W2.heap.size + 1 + 1 + 1 + 1 + 1, 0, none⟩)]] 43)
  rw [ze] at og
  generalize hWf : We.alloc (.cells #[.func (.func 25) #[] #[.pointer (some ⟨w.heap.size, 0, none⟩), .pointer (some ⟨W2.heap.size, 0, none⟩), .pointer (some ⟨W2.heap.size + 1 + 1, 0, none⟩), .pointer (some ⟨W2.heap.size + 1 + 1 + 1 + 1, 0, none⟩), .pointer (some ⟨W2.heap.size + 1 + 1 + 1 + 1 + 1, 0, none⟩)]] 43) = Wf at *
  have oa := oa.below kg oa.lt
  have xa := xa.next kg
  have ta := ta.next kg
  have HBG := hide bg
  have HTA := hide ta
  have hrn : Away W2.heap.size (W2.heap.size + 1) (W2.heap.size + 1 + 1 + 1) A := by
    intro ad e
    obtain ⟨ad', e', hlt, _⟩ := HR.out.at_ (show 0 < zs.length by omega)
    rw [e] at e'
    injection e' with e'
    subst e'
    omega
  have hdis : Dis w.heap.size W2.heap.size (W2.heap.size + 1 + 1) (W2.heap.size + 1 + 1 + 1 + 1) (W2.heap.size + 1 + 1 + 1 + 1 + 1) (W2.heap.size + 1) (W2.heap.size + 1 + 1 + 1) := by
    constructor <;> omega
  have hpw : 4 ^ zs.length ≤ 4 ^ 9 := Nat.pow_le_pow_right (by omega) hl9
  have HGV := hide (give_any W2.heap.size w.heap.size W2.heap.size (W2.heap.size + 1 + 1) (W2.heap.size + 1 + 1 + 1 + 1) (W2.heap.size + 1 + 1 + 1 + 1 + 1) (W2.heap.size + 1) (W2.heap.size + 1 + 1 + 1) A c zs M hz ht.2 hl1 hl9 (by omega) (by omega) hdis hrn (by omega) (by omega) (by omega)
    zs.length 0 (List.replicate zs.length 0) (List.replicate M 0) ⟨tot zs, [], 0⟩ Wf (by omega) (by rw [List.take_zero]; exact At.start zs M) (by simp)
    ⟨oa, oc, oe, og, HR.out.next bg⟩ ⟨none, 0, xa, Own.nil _ _ _, away_none _ _ _⟩ rb rd (.inl ⟨rfl, rfl⟩) (by
      have : up 0 (List.replicate M 0) ≤ 0 := up_le (Int.le_refl _) fun x hx => by rw [List.eq_of_mem_replicate hx]; exact Int.le_refl _
      show up 0 (List.replicate M 0) ≤ tot zs
      omega) (by simpa using Nat.le_trans hpw (by decide)))
  have HRR := hide (show lookF zs M zs.length ((List.replicate zs.length 0).take 0) (List.replicate M 0) ⟨tot zs, [], 0⟩ = bestR zs M from by
    rw [List.take_zero]
    exact look_same zs (by omega) zs.length [] _ _ _ rfl rfl)
  rw [HRR.out, show ((0 : Nat) : Int) = 0 from rfl] at HGV
  have hlt1 : w.heap.size + 1 < Wf.heap.size := HTA.out.lt
  have HLT := hide hlt1
  have e1 : ∀ o : Obj, (W2.alloc o).cell? ⟨w.heap.size, 0, none⟩ = some (.slice A zs.length c) := fun o => (O1.out.new o).cell
  clear hsz2 hlt1 xa oa ba ta rb bb kb oc bc kc rd bd kd oe be ke og bg kg hrn hdis hpw HRR za zb zc zd ze
  generalize hR : bestR zs M = R at *
  have HRB := hide hR
  clear hR
  subst hWa hWb hWc hWd hWe hWf
  go_wp2_with fail
  (with_reducible refine HGV.out.mono ?_)
  rintro e w5 ⟨rfl, P', _, _, _, _, hb5, hk5⟩
  obtain ⟨Ab, cb, htx, how, _⟩ := hb5.ob
  have d0 := htx.c0
  have d1 := htx.c1
  have d2 := htx.c2
  have x2 := HTA.out.same (hk5.sv (w.heap.size + 1) HLT.out (by have := HZ2.out; omega) (by have := HZ2.out; omega) (by have := HZ2.out; omega))
  have k0 := x2.c0
  have k1 := x2.c1
  have k2 := x2.c2
  have f0 := x2.f 0
  have f1 := (x2.set0 (.int .i64 R.e)).f 1
  have k3 := (x2.set0 (.int .i64 R.e)).c1
  have f2 := ((x2.set0 (.int .i64 R.e)).set1 (.slice Ab R.p.length cb)).f 2
  have k4 := ((x2.set0 (.int .i64 R.e)).set1 (.slice Ab R.p.length cb)).c2
  have xx := ((x2.set0 (.int .i64 R.e)).set1 (.slice Ab R.p.length cb)).set2 (.int .i64 (R.c : Int))
  have y0 := xx.c0
  have y1 := xx.c1
  have y2 := xx.c2
  have HO := hide how
  have HBF := hide (HBG.out.trans (hk5.bl.mono (by have := HZ2.out; omega)))
  clear hb5 hk5 htx how x2 xx e1
  go_wp2_with fail
  have HF : Own (((w5.setCell ⟨w.heap.size + 1, 0, none⟩ (.int .i64 R.e)).setCell ⟨w.heap.size + 1, 1, none⟩ (.slice Ab R.p.length cb)).setCell ⟨w.heap.size + 1, 2, none⟩ (.int .i64 (R.c : Int))) w.heap.size 3 (.slice Ab R.p.length cb) R.p :=
    (HO.out.keep fun h hh _ => by
      have := HZ2.out
      rw [Below.heap_setCell _ _ _ _ (by simp; omega), Below.heap_setCell _ _ _ _ (by simp; omega), Below.heap_setCell _ _ _ _ (by simp; omega)]).less (by have := HZ2.out; omega)
  exact bodyPost_ret (v := .tuple #[.agg #[.int .i64 R.e, .slice Ab R.p.length cb, .int .i64 (R.c : Int)], .bool true])
    (by simp [results, Try.results18, go_sem, y0, y1, y2]) rfl
    ⟨Ab, cb, by rw [HRB.out], by rw [HRB.out]; exact HF, ((HBF.out.setCell (by simp) _).setCell (by simp) _).setCell (by simp) _⟩
end Go.Proofs.Ytfikkgnpednjfaa
