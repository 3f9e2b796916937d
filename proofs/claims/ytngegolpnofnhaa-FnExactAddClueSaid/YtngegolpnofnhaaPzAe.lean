
/-
  AddClue, THE PROGRAM's WAY.
-/
import Derived.Test.YtngegolpnofnhaaPzAd
import Derived.Deep.RegionLawGrows
namespace Go.Proofs.Ytngegolpnofnhaa
open Go.RowKit Go.Deep
set_option linter.unusedVariables false

/-- 'append(v, d)' onto a list that has no room: a new list. -/
theorem step_grow_Cls {wr : World} {ops : Array Oper} {o : Oper} {a : Act} {K : Act → World → Prop} {Q : Exit → Act → World → Prop} {E : Prop} (hgd : o.guard = none) (s x : Operand) (t : TypeId)
    (ho : o.op = .call { callee := .builtin .append, args := #[s, x], argTypes := #[t, t] }) (ht : Try.prog.underlying t = some (.slice 40))
    (A : Option Addr) (n B : Nat) (ms : List Cl) (hs : a.eval s = .slice A n n) (hA : A ≠ none) (hr : Cls wr B A n ms) (g : Nat) (d : Cl) (hx : a.eval x = .slice (some ⟨g, 0, none⟩) 1 1) (hC : CBox wr g 40 d) (hlen : n < 1000000)
    (h : ∀ v' w', OwnICl w' wr.heap.size v' (ms ++ [d]).length (numsCl (ms ++ [d])) → Below wr.heap.size wr w' → K (a.put o.dst v') w') :
    if Region.wanted o (yielded ops a.tmps) = true then Oper.wp Try.prog o a wr K Q else E := by
  obtain rfl := hr.len
  obtain ⟨i0, hi, hz0, hz1, hz2⟩ := info_parts infoCl
  refine step_append_grows hgd s x t ho 40 i0 _ 4 32 ht hi hz0 hz1 hz2 rfl (by decide) A ms.length ms.length ((numsCl ms).map (Value.int .i64)) hs (fun e => absurd e hA) (by rw [List.length_map, numsCl_length]) ?_
    ⟨g, 0, none⟩ 1 1 [.int .i64 d.x0, .int .i64 d.x1, .int .i64 d.x2, .int .i64 d.x3] hx rfl ?_ ?_ (by omega) (by unfold maxLen; omega) (by omega) ?_
  · intro b hb j u hj
    rw [List.getElem?_map, numsCl_get] at hj
    by_cases hlt : j < ms.length * 4
    · rw [if_pos hlt] at hj
      simp at hj
      subst hj
      obtain ⟨b', off, had, _, hc⟩ := hr.2 (by omega)
      rw [hb] at had
      injection had with had
      subst had
      have := hc j hlt
      unfold Addr.add
      split
      · rename_i h0
        subst h0
        simpa [cellCl] using this
      · simpa [cellCl] using this
    · rw [if_neg hlt] at hj
      cases hj
  · intro j u hj
    match j, hj with
    | 0, hj => simp at hj; subst hj; rw [add_head]; exact hC.c0
    | 1, hj => simp at hj; subst hj; rw [add_head]; simpa using hC.c1
    | 2, hj => simp at hj; subst hj; rw [add_head]; simpa using hC.c2
    | 3, hj => simp at hj; subst hj; rw [add_head]; simpa using hC.c3
  · intro u hu; simp at hu; rcases hu with rfl | rfl | rfl | rfl <;> rfl
  · intro v' w' h1 h2
    refine h v' w' ⟨?_, by rw [numsCl_length]⟩ ((Below.refl _ _).grown h2 (Nat.le_refl _) (fun k hk => by cases hk))
    rw [numsCl_append, List.length_append, List.map_append, show numsCl [d] = [d.x0, d.x1, d.x2, d.x3] from by rw [numsCl_cons]; rfl]
    exact h1

set_option maxHeartbeats 4000000 in
set_option maxRecDepth 100000 in
/-- The program's AddClue. -/
theorem AddClue_any (A : Option Addr) (n c B : Nat) (cs : List Cl) (u : Int) (d : Cl) (w : World) (hr : Cls w B A n cs) (hB : B ≤ w.heap.size) (hn : n ≤ 17592186044416) (hc : n ≤ c) (hc2 : c ≤ maxLen) (hA : A ≠ none) :
    Calls Try.prog 20 #[.agg #[.int .i64 u, .slice A n c], .agg #[.int .i64 d.x0, .int .i64 d.x1, .int .i64 d.x2, .int .i64 d.x3]] w (MadeP (addL u cs d) (addU u cs d) (addOk u cs d) w) := by
  obtain rfl := hr.len
  obtain ⟨X0, X1, X2, kb, ks⟩ := add_boxes w (.int .i64 u) (.slice A cs.length c) (.int .i64 0) (.slice none 0 0) d 29 40 29
  have HG := hide (IsPuzzle_any A cs.length c B cs u _ (hr.below kb hB) (Nat.le_trans hB kb.size) hn)
  have HX0 := hide X0
  have HX1 := hide X1
  have HX2 := hide X2
  have HKB := hide kb
  have HKS := hide ks
  have HR := hide hr
  have HA := hide hA
  obtain ⟨A1, e1, h1, g1⟩ := hr.cutAt 0 cs.length cs.length (Nat.zero_le _) (Nat.le_refl _) (Nat.le_refl _)
  simp only [Nat.sub_zero, List.drop_zero, List.take_length] at e1 h1
  have HCT := hide (fun W => cut_any A A1 cs.length c u 0 cs.length W (Nat.zero_le _) hc (by rw [Nat.sub_zero]; exact e1))
  rw [show ((0 : Nat) : Int) = 0 from rfl, Nat.sub_zero] at HCT
  have H1 := hide h1
  have HA1 := hide (g1 hA)
  clear X0 X1 X2 kb ks hr hA hc hc2 e1 h1 g1
  cases hg : pzOk u cs
  · have HO : Hid (addOk u cs d = false) := hide (by unfold addOk; rw [hg]; rfl)
    rw [hg] at HG
    rw [(add_no HO.out).1, (add_no HO.out).2, HO.out]
    clear hg
    go_enter Try.func20, Try.ntmps20
    go_wp2_with fail
    refine HG.out.mono ?_; rintro e w2 ⟨rfl, hb2⟩
    have hB2 := HKB.out.trans (hb2.mono HKB.out.size)
    obtain ⟨e0, f0, e1, f1, i0, i1, M0⟩ := noP_put (w := w) (by omega) (HX2.out.next hb2) hB2
    have HM := hide M0
    clear hb2 hB2 M0
    go_wp2_with fail
    exact bodyPost_ret (v := .tuple #[.agg #[.int .i64 0, .slice none 0 0], .bool false]) (by simp [results, Try.results20, go_sem, i0, i1]) rfl HM.out
  · rw [hg] at HG
    have hh := (pzOk_parts hg).1
    have hL := (pzOk_parts hg).2.1
    have HI := hide (fun W => IsClue_any u d W)
    rw [show clueIs u d = clueOk u d from by unfold clueIs; rw [decide_eq_true hh]; rfl] at HI
    clear hh
    cases hq : clueOk u d
    · have HO : Hid (addOk u cs d = false) := hide (by unfold addOk; rw [hg, hq]; rfl)
      rw [(add_no HO.out).1, (add_no HO.out).2, HO.out]
      rw [hq] at HI
      clear hg hq
      go_enter Try.func20, Try.ntmps20
      go_wp2_with fail
      refine HG.out.mono ?_; rintro e w2 ⟨rfl, hb2⟩
      have hB2 := HKB.out.trans (hb2.mono HKB.out.size)
      have P0 := HX0.out.next hb2
      have P1 := HX1.out.next hb2
      have P2 := HX2.out.next hb2
      have HB2 := hide hB2
      have x0 := P0.c0
      have x1 := P0.c1
      have y0 := P1.c0
      have y1 := P1.c1
      have y2 := P1.c2
      have y3 := P1.c3
      have HP2 := hide P2
      clear hb2 hB2 P0 P1 P2
      go_wp2_with fail
      refine (HI.out _).mono ?_; rintro e w3 ⟨rfl, hb3⟩
      have hB3 := HB2.out.trans (hb3.mono HB2.out.size)
      obtain ⟨e0, f0, e1, f1, i0, i1, M0⟩ := noP_put (w := w) (by omega) (HP2.out.next hb3) hB3
      have HM := hide M0
      clear hb3 hB3 M0 x0 x1 y0 y1 y2 y3
      go_wp2_with fail
      exact bodyPost_ret (v := .tuple #[.agg #[.int .i64 0, .slice none 0 0], .bool false]) (by simp [results, Try.results20, go_sem, i0, i1]) rfl HM.out
    · rw [hq] at HI
      by_cases h6 : cs.length < 6
      · have HO : Hid (addOk u cs d = true) := hide (by unfold addOk; rw [hg, hq, decide_eq_true h6]; rfl)
        rw [(add_yes HO.out).1, (add_yes HO.out).2, HO.out]
        have h6b : ((cs.length : Int) == 6) = false := by simp; omega
        clear hg hq
        go_enter Try.func20, Try.ntmps20
        go_wp2_with fail
        refine HG.out.mono ?_; rintro e w2 ⟨rfl, hb2⟩
        have P0 := HX0.out.next hb2
        have P1 := HX1.out.next hb2
        have HP0 := hide P0
        have HP1 := hide P1
        have HP2 := hide (HX2.out.next hb2)
        have HB2 := hide (HKB.out.trans (hb2.mono HKB.out.size))
        have x0 := P0.c0
        have x1 := P0.c1
        have y0 := P1.c0
        have y1 := P1.c1
        have y2 := P1.c2
        have y3 := P1.c3
        clear hb2 P0 P1
        go_wp2_with fail
        refine (HI.out _).mono ?_; rintro e w3 ⟨rfl, hb3⟩
        have HB3 := hide (HB2.out.trans (hb3.mono HB2.out.size))
        have HQ0 := hide (HP0.out.next hb3)
        have HQ1 := hide (HP1.out.next hb3)
        have HQ2 := hide (HP2.out.next hb3)
        clear hb3 x0 x1 y0 y1 y2 y3
        have x0 := HQ0.out.c0
        have x1 := HQ0.out.c1
        have y0 := HQ1.out.c0
        have y1 := HQ1.out.c1
        have y2 := HQ1.out.c2
        have y3 := HQ1.out.c3
        go_wp2_with fail
        have z0 := HQ0.out.lt
        have z1 := HQ1.out.lt
        have z2 := HQ2.out.lt
        have HR1 := hide (H1.out.below HB3.out hB)
        have HS3 := hide (show B ≤ w3.heap.size from Nat.le_trans hB HB3.out.size)
        have hfd : ∀ (x y : Value) W, (Instr.field 29 (.agg #[x, y]) 1).run Try.prog W = .ok y W := fun _ _ _ => by kernel_rfl
        go_region_law (first
          | (refine step_grow_Cls rfl (.tmp 28) (.tmp 30) 27 rfl Try.underlying27 A1 cs.length B cs rfl HA1.out (HR1.out.below (FB4.out.alloc FB4.out.size _) HS3.out) (w4.heap.size) d rfl (CBox.new w4 _ d) (by omega) ?_; intro v2 w6 hown2 hb2; obtain ⟨A6, c6, rfl⟩ := hown2.shape; have FB6 := hide (show Below w3.heap.size w3 w6 from Below.trans (FB4.out.alloc FB4.out.size _) (hb2.mono (by first | exact FB4.out.size | (simp; have := FB4.out.size; omega)))); have HO6 := hide (hown2.less (base' := w3.heap.size) (by first | exact FB4.out.size | (simp; have := FB4.out.size; omega))); have p0 := (HQ0.out.next FB6.out).c0; have p1 := (HQ0.out.next FB6.out).c1; have pf := (HQ0.out.next FB6.out).f 1; clear hown2 hb2)
          | (refine step_grow_Cls rfl (.tmp 28) (.tmp 30) 27 rfl Try.underlying27 A1 cs.length B cs rfl HA1.out (HR1.out.below (Below.drew (FB4.out.alloc FB4.out.size _)) HS3.out) (w4.heap.size) d rfl (CBox.new w4 _ d) (by omega) ?_; intro v2 w6 hown2 hb2; obtain ⟨A6, c6, rfl⟩ := hown2.shape; have FB6 := hide (show Below w3.heap.size w3 w6 from Below.trans (Below.drew (FB4.out.alloc FB4.out.size _)) (hb2.mono (by first | exact FB4.out.size | (simp; have := FB4.out.size; omega)))); have HO6 := hide (hown2.less (base' := w3.heap.size) (by first | exact FB4.out.size | (simp; have := FB4.out.size; omega))); have p0 := (HQ0.out.next FB6.out).c0; have p1 := (HQ0.out.next FB6.out).c1; have pf := (HQ0.out.next FB6.out).f 1; clear hown2 hb2)
          | (refine step_grow_Cls rfl (.tmp 28) (.tmp 30) 27 rfl Try.underlying27 A1 cs.length B cs rfl HA1.out (HR1.out.below (FB4.out) HS3.out) (w3.heap.size) d rfl (C5.out) (by omega) ?_; intro v2 w6 hown2 hb2; obtain ⟨A6, c6, rfl⟩ := hown2.shape; have FB6 := hide (show Below w3.heap.size w3 w6 from Below.trans (FB4.out) (hb2.mono (by first | exact FB4.out.size | (simp; have := FB4.out.size; omega)))); have HO6 := hide (hown2.less (base' := w3.heap.size) (by first | exact FB4.out.size | (simp; have := FB4.out.size; omega))); have p0 := (HQ0.out.next FB6.out).c0; have p1 := (HQ0.out.next FB6.out).c1; have pf := (HQ0.out.next FB6.out).f 1; clear hown2 hb2)
          | (go_simp; go_at_call 35; (with_reducible refine (HCT.out _).mono ?_); rintro e w4 ⟨rfl, hb4⟩; have FB4 := hide (show Below w3.heap.size w3 w4 from (Below.refl _ _).drew.trans hb4); clear hb4; have q0 := (HQ0.out.next FB4.out).c0; have q1 := (HQ0.out.next FB4.out).c1; have q2 := (HQ1.out.next FB4.out).c0; have q3 := (HQ1.out.next FB4.out).c1; have q4 := (HQ1.out.next FB4.out).c2; have q5 := (HQ1.out.next FB4.out).c3; have z5 : w3.heap.size ≤ w4.heap.size := FB4.out.size; have z6 : w.heap.size < w4.heap.size := (by omega); have z7 : w.heap.size + 1 < w4.heap.size := (by omega); go_wp2_with fail)
          | (go_simp; go_at_call 35; (with_reducible refine (HCT.out _).mono ?_); rintro e w4 ⟨rfl, hb4⟩; have FB4 := hide (show Below w3.heap.size w3 w4 from Below.trans (Below.drew ((Below.refl _ _).alloc (Nat.le_refl _) _)) (hb4.mono (by simp))); have C5 := hide (show CBox w4 w3.heap.size 40 d from CBox.below (w := (w3.alloc (.cells #[.int .i64 d.x0, .int .i64 d.x1, .int .i64 d.x2, .int .i64 d.x3] 40)).drew) (CBox.new w3 40 d) hb4 (by simp)); clear hb4; have q0 := (HQ0.out.next FB4.out).c0; have q1 := (HQ0.out.next FB4.out).c1; have q2 := (HQ1.out.next FB4.out).c0; have q3 := (HQ1.out.next FB4.out).c1; have q4 := (HQ1.out.next FB4.out).c2; have q5 := (HQ1.out.next FB4.out).c3; have z5 : w3.heap.size ≤ w4.heap.size := FB4.out.size; have z6 : w.heap.size < w4.heap.size := (by omega); have z7 : w.heap.size + 1 < w4.heap.size := (by omega); go_wp2_with fail))
        all_goals
          have hL : (cs ++ [d]).length = cs.length + 1 := by simp
          have Y0 := (HQ0.out.next FB6.out).set1 (.slice A6 (cs.length + 1) c6)
          have Y2 := (HQ2.out.next FB6.out).setOther (a := ⟨w.heap.size, 1, none⟩) (by first | (simp; done) | (simp; omega)) (.slice A6 (cs.length + 1) c6)
          have FO := HO6.out.keep (w' := w6.setCell ⟨w.heap.size, 1, none⟩ (.slice A6 (cs.length + 1) c6)) fun g hg _ => Below.heap_setCell _ _ _ _ (by simp; omega)
          have FB := (HB3.out.trans (FB6.out.mono HB3.out.size)).setCell (p := ⟨w.heap.size, 1, none⟩) (Nat.le_refl _) (.slice A6 (cs.length + 1) c6)
          clear p0 p1 pf x0 x1 y0 y1 y2 y3
          generalize (w6.setCell ⟨w.heap.size, 1, none⟩ (.slice A6 (cs.length + 1) c6)) = W7 at *
          have MP := madeP_put (w := w) (h := u) (b1 := w.heap.size + 1 + 1) (ds := cs ++ [d]) true (by omega) Y2 FO (by omega) FB
          rw [hL] at MP
          obtain ⟨i0, i1, M0⟩ := MP
          have HM := hide M0
          have l0 := Y0.c0
          have l1 := Y0.c1
          have r0 := Y2.c0
          have f0 := Y2.f 0
          have R1 := Y2.set0 (.int .i64 u)
          have r1 := R1.c1
          have f1 := R1.f 1
          clear M0 R1 Y0 Y2 FO FB hL
          go_wp2_with fail
          exact bodyPost_ret (v := .tuple #[.agg #[.int .i64 u, .slice A6 (cs.length + 1) c6], .bool true]) (by simp [results, Try.results20, go_sem, i0, i1]) rfl HM.out
      · have HO : Hid (addOk u cs d = false) := hide (by unfold addOk; rw [decide_eq_false h6]; simp)
        rw [(add_no HO.out).1, (add_no HO.out).2, HO.out]
        have h6b : ((cs.length : Int) == 6) = true := by simp; omega
        clear hg hq
        go_enter Try.func20, Try.ntmps20
        go_wp2_with fail
        refine HG.out.mono ?_; rintro e w2 ⟨rfl, hb2⟩
        have P0 := HX0.out.next hb2
        have P1 := HX1.out.next hb2
        have HP0 := hide P0
        have HP2 := hide (HX2.out.next hb2)
        have HB2 := hide (HKB.out.trans (hb2.mono HKB.out.size))
        have x0 := P0.c0
        have x1 := P0.c1
        have y0 := P1.c0
        have y1 := P1.c1
        have y2 := P1.c2
        have y3 := P1.c3
        clear hb2 P0 P1
        go_wp2_with fail
        refine (HI.out _).mono ?_; rintro e w3 ⟨rfl, hb3⟩
        have hB3 := HB2.out.trans (hb3.mono HB2.out.size)
        have hx1 := (HP0.out.next hb3).c1
        obtain ⟨e0, f0, e1, f1, i0, i1, M0⟩ := noP_put (w := w) (by omega) (HP2.out.next hb3) hB3
        have HM := hide M0
        clear hb3 hB3 M0 x0 x1 y0 y1 y2 y3
        go_wp2_with fail
        exact bodyPost_ret (v := .tuple #[.agg #[.int .i64 0, .slice none 0 0], .bool false]) (by simp [results, Try.results20, go_sem, i0, i1]) rfl HM.out
end Go.Proofs.Ytngegolpnofnhaa
