
/-
  DropClue, BOTH WAYS.
-/
import Derived.Test.YtngegolpnofnhaaPzV
import Derived.Test.YtngegolpnofnhaaPzD
import Derived.Test.YtngegolpnofnhaaPz
import Derived.Test.YtngegolpnofnhaaOne
import Derived.Deep.RegionHeld3
namespace Go.Proofs.Ytngegolpnofnhaa
open Go.RowKit Go.Deep
set_option linter.unusedVariables false

/-- A PUZZLE BESIDE A BOOL, MADE BY THE CALL. -/
def MadeP (ds : List Cl) (h : Int) (b : Bool) (w : World) (e : Ending) (w' : World) : Prop :=
  ∃ A c, e = .returned (.tuple #[.agg #[.int .i64 h, .slice A ds.length c], .bool b]) ∧ OwnICl w' w.heap.size (.slice A ds.length c) ds.length (numsCl ds) ∧ Below w.heap.size w w'
theorem madeP_no {w w' : World} (h : Below w.heap.size w w') : MadeP [] 0 false w (.returned (.tuple #[.agg #[.int .i64 0, .slice none 0 0], .bool false])) w' :=
  ⟨none, 0, rfl, OwnICl.nil _ _, h⟩
theorem madeP_put {w w3 : World} {T : TypeId} {x y : Value} {h : Int} {A' : Option Addr} {c' base b1 : Nat} {ds : List Cl} (b : Bool) (h1 : w.heap.size ≤ b1) (R : Bx w3 b1 T x y) (hown : OwnICl w3 base (.slice A' ds.length c') ds.length (numsCl ds)) (h2 : b1 < base) (hB : Below w.heap.size w w3) :
    ((w3.setCell ⟨b1, 0, none⟩ (.int .i64 h)).setCell ⟨b1, 1, none⟩ (.slice A' ds.length c')).cell? ⟨b1, 0, none⟩ = some (.int .i64 h) ∧
    ((w3.setCell ⟨b1, 0, none⟩ (.int .i64 h)).setCell ⟨b1, 1, none⟩ (.slice A' ds.length c')).cell? ⟨b1, 1, none⟩ = some (.slice A' ds.length c') ∧
    MadeP ds h b w (.returned (.tuple #[.agg #[.int .i64 h, .slice A' ds.length c'], .bool b])) ((w3.setCell ⟨b1, 0, none⟩ (.int .i64 h)).setCell ⟨b1, 1, none⟩ (.slice A' ds.length c')) := by
  have R2 := (R.set0 (.int .i64 h)).set1 (.slice A' ds.length c')
  refine ⟨R2.c0, R2.c1, A', c', rfl, ?_, (hB.setCell (p := ⟨b1, 0, none⟩) h1 _).setCell (p := ⟨b1, 1, none⟩) h1 _⟩
  exact ((hown.keep (w' := w3.setCell ⟨b1, 0, none⟩ (.int .i64 h)) fun g hg _ => Below.heap_setCell _ _ _ _ (by simp; omega)).keep (w' := (w3.setCell ⟨b1, 0, none⟩ (.int .i64 h)).setCell ⟨b1, 1, none⟩ (.slice A' ds.length c')) fun g hg _ => Below.heap_setCell _ _ _ _ (by simp; omega)).less (by omega)
theorem noP_put {w w3 : World} {T : TypeId} {x y : Value} {b1 : Nat} (h1 : w.heap.size ≤ b1) (R : Bx w3 b1 T x y) (hB : Below w.heap.size w w3) :
    w3.cell? ⟨b1, 0, none⟩ = some x ∧ w3.frozen? ⟨b1, 0, none⟩ = false ∧ (w3.setCell ⟨b1, 0, none⟩ (.int .i64 0)).cell? ⟨b1, 1, none⟩ = some y ∧ (w3.setCell ⟨b1, 0, none⟩ (.int .i64 0)).frozen? ⟨b1, 1, none⟩ = false ∧
    ((w3.setCell ⟨b1, 0, none⟩ (.int .i64 0)).setCell ⟨b1, 1, none⟩ (.slice none 0 0)).cell? ⟨b1, 0, none⟩ = some (.int .i64 0) ∧
    ((w3.setCell ⟨b1, 0, none⟩ (.int .i64 0)).setCell ⟨b1, 1, none⟩ (.slice none 0 0)).cell? ⟨b1, 1, none⟩ = some (.slice none 0 0) ∧
    MadeP [] 0 false w (.returned (.tuple #[.agg #[.int .i64 0, .slice none 0 0], .bool false])) ((w3.setCell ⟨b1, 0, none⟩ (.int .i64 0)).setCell ⟨b1, 1, none⟩ (.slice none 0 0)) := by
  have R1 := R.set0 (.int .i64 0)
  have R2 := R1.set1 (.slice none 0 0)
  exact ⟨R.c0, R.f 0, R1.c1, R1.f 1, R2.c0, R2.c1, madeP_no ((hB.setCell (p := ⟨b1, 0, none⟩) h1 _).setCell (p := ⟨b1, 1, none⟩) h1 _)⟩
def dropOk (u : Int) (cs : List Cl) (k : Int) : Bool := pzOk u cs && decide (0 ≤ k ∧ k < cs.length)
def dropL (u : Int) (cs : List Cl) (k : Int) : List Cl := if dropOk u cs k then withoutL cs k.toNat else []
def dropU (u : Int) (cs : List Cl) (k : Int) : Int := if dropOk u cs k then u else 0
theorem dropL_len (u : Int) (cs : List Cl) (k : Int) (h : cs.length ≤ 1048576) : (dropL u cs k).length ≤ 1048576 := by
  unfold dropL withoutL
  split
  · rw [List.length_append, List.length_take, List.length_drop]; omega
  · simp
theorem drop_no {u : Int} {cs : List Cl} {k : Int} (h : dropOk u cs k = false) : dropL u cs k = [] ∧ dropU u cs k = 0 := by simp [dropL, dropU, h]
theorem drop_yes {u : Int} {cs : List Cl} {k : Int} (h : dropOk u cs k = true) : dropL u cs k = withoutL cs k.toNat ∧ dropU u cs k = u := by simp [dropL, dropU, h]

set_option maxHeartbeats 4000000 in
set_option maxRecDepth 100000 in
/-- The model's DropClue. -/
theorem specDropClue_any (A : Option Addr) (n c B : Nat) (cs : List Cl) (u k : Int) (w : World) (hr : Cls w B A n cs) (hB : B ≤ w.heap.size) (hn : n ≤ 17592186044416) (hc : n ≤ c) (hc2 : c ≤ maxLen) :
    Calls Try.prog 12 #[.agg #[.int .i64 u, .slice A n c], .int .i64 k] w (MadeP (dropL u cs k) (dropU u cs k) (dropOk u cs k) w) := by
  obtain rfl := hr.len
  obtain ⟨X0, X1, kb, ks⟩ := pair_boxes w (.int .i64 u) (.slice A cs.length c) (.int .i64 0) (.slice none 0 0) 29 29
  have HG := hide (pzGood_any A cs.length c B cs u _ (hr.below kb hB) (Nat.le_trans hB kb.size) hn)
  have HI := hide (fun W => l1In_any k 0 ((cs.length : Int) - 1) W)
  have HX0 := hide X0
  have HX1 := hide X1
  have HKB := hide kb
  have HKS := hide ks
  have HR := hide hr
  clear X0 X1 kb ks hr
  cases hg : pzOk u cs
  · have HO : Hid (dropOk u cs k = false) := hide (by unfold dropOk; rw [hg]; rfl)
    rw [hg] at HG
    rw [(drop_no HO.out).1, (drop_no HO.out).2, HO.out]
    clear hg
    go_enter Try.func12, Try.ntmps12
    go_wp2_with fail
    refine HG.out.mono ?_; rintro e w2 ⟨rfl, hb2⟩
    have hB2 := HKB.out.trans (hb2.mono HKB.out.size)
    obtain ⟨e0, f0, e1, f1, i0, i1, M0⟩ := noP_put (w := w) (by simp) (HX1.out.next hb2) hB2
    have HM := hide M0
    clear hb2 hB2 M0
    go_wp2_with fail
    exact bodyPost_ret (v := .tuple #[.agg #[.int .i64 0, .slice none 0 0], .bool false]) (by simp [results, Try.results12, go_sem, i0, i1]) rfl HM.out
  · rw [hg] at HG
    by_cases hk : 0 ≤ k ∧ k < cs.length
    · have HO : Hid (dropOk u cs k = true) := hide (by unfold dropOk; rw [hg, decide_eq_true hk]; rfl)
      have HD := hide (decide_eq_true (show 0 ≤ k ∧ k ≤ (cs.length : Int) - 1 by omega))
      rw [(drop_yes HO.out).1, (drop_yes HO.out).2, HO.out]
      have hL := (pzOk_parts hg).2.1
      obtain ⟨hk1, hk2⟩ := hk
      obtain ⟨K, rfl⟩ := Int.eq_ofNat_of_zero_le hk1
      rw [Int.toNat_natCast]
      have HW := hide (fun W (h : Cls W B A cs.length cs) (hB : B ≤ W.heap.size) => pzWithout_any A cs.length c B cs K W h hB (by omega) hc hc2 (by omega))
      clear hg hk1 hk2 hc hc2 HO
      go_enter Try.func12, Try.ntmps12
      go_wp2_with fail
      refine HG.out.mono ?_; rintro e w2 ⟨rfl, hb2⟩
      have P0 := hide (HX0.out.next hb2)
      have R0 := hide (HX1.out.next hb2)
      have HW2 := hide (HKB.out.trans (hb2.mono HKB.out.size))
      have HSZ := hide (show w.heap.size + 2 ≤ w2.heap.size from by have := hb2.size; have := HKS.out; omega)
      have hx1 := P0.out.c1
      clear hb2 HG HX0 HX1 HKB HKS
      go_wp2_with fail
      refine (HI.out _).mono ?_; rintro e w' ⟨rfl, rfl⟩; rw [HD.out]
      clear hx1
      go_wp2_with fail
      go_region_held3 (fun W => W.cell? ⟨w.heap.size, 0, none⟩ = some (.int .i64 u) ∧ W.cell? ⟨w.heap.size, 1, none⟩ = some (.slice A cs.length c))
        (first | exact ⟨P0.out.c0, P0.out.c1⟩ | exact ⟨(P0.out.next HB3.out).c0, (P0.out.next HB3.out).c1⟩ | go_keep)
        (first
        | (go_at_call 28; (with_reducible refine (HW.out _ ?_ ?_).mono ?_); (exact HR.out.below HW2.out.drew hB); (exact Nat.le_trans hB HW2.out.size); rintro e w3 ⟨A', c', rfl, hc1, hc2, hown, hb3⟩; have HB3 : Hid (Below w2.heap.size w2 w3) := hide ((Below.refl _ _).drew.trans hb3); have r0 := (R0.out.next HB3.out).c0; have r1 := (R0.out.next HB3.out).c1; have f0 := (R0.out.next HB3.out).f 0; have f1 := (R0.out.next HB3.out).f 1))
      have hs2 : w2.heap.size ≤ w3.heap.size := HB3.out.size
      have hsz := HSZ.out
      obtain ⟨i0, i1, M0⟩ := madeP_put (w := w) (h := u) (b1 := w.heap.size + 1) true (by simp) (R0.out.next HB3.out) hown (show w.heap.size + 1 < w2.drew.heap.size from by show w.heap.size + 1 < w2.heap.size; omega) (HW2.out.trans (HB3.out.mono HW2.out.size))
      have HM := hide M0
      clear hown hb3 hs2 hsz M0 r0 r1 f0 f1 HW
      go_wp2_with fail
      exact bodyPost_ret (v := .tuple #[.agg #[.int .i64 u, .slice A' (withoutL cs K).length c'], .bool true]) (by simp [results, Try.results12, go_sem, i0, i1]) rfl HM.out
    · have HO : Hid (dropOk u cs k = false) := hide (by unfold dropOk; rw [decide_eq_false hk, Bool.and_false])
      have HD := hide (decide_eq_false (show ¬ (0 ≤ k ∧ k ≤ (cs.length : Int) - 1) by omega))
      rw [(drop_no HO.out).1, (drop_no HO.out).2, HO.out]
      have hL := (pzOk_parts hg).2.1
      clear hg hk
      go_enter Try.func12, Try.ntmps12
      go_wp2_with fail
      refine HG.out.mono ?_; rintro e w2 ⟨rfl, hb2⟩
      have hx1 := (HX0.out.next hb2).c1
      have hB2 := HKB.out.trans (hb2.mono HKB.out.size)
      obtain ⟨e0, f0, e1, f1, i0, i1, M0⟩ := noP_put (w := w) (by simp) (HX1.out.next hb2) hB2
      have HM := hide M0
      clear hb2 hB2 M0
      go_wp2_with fail
      refine (HI.out _).mono ?_; rintro e w' ⟨rfl, rfl⟩; rw [HD.out]
      go_wp2_with fail
      exact bodyPost_ret (v := .tuple #[.agg #[.int .i64 0, .slice none 0 0], .bool false]) (by simp [results, Try.results12, go_sem, i0, i1]) rfl HM.out

set_option maxHeartbeats 4000000 in
set_option maxRecDepth 100000 in
/-- The program's DropClue. -/
theorem DropClue_any (A : Option Addr) (n c B : Nat) (cs : List Cl) (u k : Int) (w : World) (hr : Cls w B A n cs) (hB : B ≤ w.heap.size) (hn : n ≤ 17592186044416) (hc : n ≤ c) (hc2 : c ≤ maxLen) :
    Calls Try.prog 13 #[.agg #[.int .i64 u, .slice A n c], .int .i64 k] w (MadeP (dropL u cs k) (dropU u cs k) (dropOk u cs k) w) := by
  obtain rfl := hr.len
  obtain ⟨X0, X1, kb, ks⟩ := pair_boxes w (.int .i64 u) (.slice A cs.length c) (.int .i64 0) (.slice none 0 0) 29 29
  have HG := hide (IsPuzzle_any A cs.length c B cs u _ (hr.below kb hB) (Nat.le_trans hB kb.size) hn)
  have HI := hide (fun W => isOneAmong_any (cs.length : Int) k W)
  have HX0 := hide X0
  have HX1 := hide X1
  have HKB := hide kb
  have HKS := hide ks
  have HR := hide hr
  clear X0 X1 kb ks hr
  cases hg : pzOk u cs
  · have HO : Hid (dropOk u cs k = false) := hide (by unfold dropOk; rw [hg]; rfl)
    rw [hg] at HG
    rw [(drop_no HO.out).1, (drop_no HO.out).2, HO.out]
    clear hg
    go_enter Try.func13, Try.ntmps13
    go_wp2_with fail
    refine HG.out.mono ?_; rintro e w2 ⟨rfl, hb2⟩
    have hB2 := HKB.out.trans (hb2.mono HKB.out.size)
    obtain ⟨e0, f0, e1, f1, i0, i1, M0⟩ := noP_put (w := w) (by simp) (HX1.out.next hb2) hB2
    have HM := hide M0
    clear hb2 hB2 M0
    go_wp2_with fail
    exact bodyPost_ret (v := .tuple #[.agg #[.int .i64 0, .slice none 0 0], .bool false]) (by simp [results, Try.results13, go_sem, i0, i1]) rfl HM.out
  · rw [hg] at HG
    by_cases hk : 0 ≤ k ∧ k < cs.length
    · have HO : Hid (dropOk u cs k = true) := hide (by unfold dropOk; rw [hg, decide_eq_true hk]; rfl)
      have HD := hide (isOne_yes (show 0 ≤ k ∧ k < (cs.length : Int) by omega))
      rw [(drop_yes HO.out).1, (drop_yes HO.out).2, HO.out]
      have hL := (pzOk_parts hg).2.1
      obtain ⟨hk1, hk2⟩ := hk
      obtain ⟨K, rfl⟩ := Int.eq_ofNat_of_zero_le hk1
      rw [Int.toNat_natCast]
      have HW := hide (fun W (h : Cls W B A cs.length cs) (hB : B ≤ W.heap.size) => without_any A cs.length c B cs u K W h hB (by omega) hc (by omega))
      clear hg hk1 hk2 hc hc2 HO
      go_enter Try.func13, Try.ntmps13
      go_wp2_with fail
      refine HG.out.mono ?_; rintro e w2 ⟨rfl, hb2⟩
      have P0 := hide (HX0.out.next hb2)
      have R0 := hide (HX1.out.next hb2)
      have HW2 := hide (HKB.out.trans (hb2.mono HKB.out.size))
      have HSZ := hide (show w.heap.size + 2 ≤ w2.heap.size from by have := hb2.size; have := HKS.out; omega)
      have hx1 := P0.out.c1
      have hx0 := P0.out.c0
      clear hb2 HG HX0 HX1 HKB HKS
      go_wp2_with fail
      refine (HI.out _).mono ?_; rintro e w' ⟨rfl, rfl⟩; rw [HD.out]
      go_wp2_with fail
      refine (HW.out _ (HR.out.below HW2.out hB) (Nat.le_trans hB HW2.out.size)).mono ?_
      rintro e w3 ⟨A', c', rfl, hc1, hc2, hown, hb3⟩
      have hs2 := hb3.size
      have hsz := HSZ.out
      obtain ⟨i0, i1, M0⟩ := madeP_put (w := w) (h := u) (b1 := w.heap.size + 1) true (by simp) (R0.out.next hb3) hown (by omega) (HW2.out.trans (hb3.mono HW2.out.size))
      have HM := hide M0
      have r0 := (R0.out.next hb3).c0
      have f0 := (R0.out.next hb3).f 0
      have R1 := (R0.out.next hb3).set0 (.int .i64 u)
      have r1 := R1.c1
      have f1 := R1.f 1
      clear hown hb3 hs2 hsz M0 R1 hx0 hx1 HW
      go_wp2_with fail
      exact bodyPost_ret (v := .tuple #[.agg #[.int .i64 u, .slice A' (withoutL cs K).length c'], .bool true]) (by simp [results, Try.results13, go_sem, i0, i1]) rfl HM.out
    · have HO : Hid (dropOk u cs k = false) := hide (by unfold dropOk; rw [decide_eq_false hk, Bool.and_false])
      have HD := hide (isOne_no (show ¬ (0 ≤ k ∧ k < (cs.length : Int)) by omega))
      rw [(drop_no HO.out).1, (drop_no HO.out).2, HO.out]
      have hL := (pzOk_parts hg).2.1
      clear hg hk
      go_enter Try.func13, Try.ntmps13
      go_wp2_with fail
      refine HG.out.mono ?_; rintro e w2 ⟨rfl, hb2⟩
      have hx1 := (HX0.out.next hb2).c1
      have hB2 := HKB.out.trans (hb2.mono HKB.out.size)
      obtain ⟨e0, f0, e1, f1, i0, i1, M0⟩ := noP_put (w := w) (by simp) (HX1.out.next hb2) hB2
      have HM := hide M0
      clear hb2 hB2 M0
      go_wp2_with fail
      refine (HI.out _).mono ?_; rintro e w' ⟨rfl, rfl⟩; rw [HD.out]
      go_wp2_with fail
      exact bodyPost_ret (v := .tuple #[.agg #[.int .i64 0, .slice none 0 0], .bool false]) (by simp [results, Try.results13, go_sem, i0, i1]) rfl HM.out
end Go.Proofs.Ytngegolpnofnhaa
