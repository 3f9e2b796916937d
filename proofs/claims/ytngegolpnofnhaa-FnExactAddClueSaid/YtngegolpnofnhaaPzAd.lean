
/-
  AddClue, BOTH WAYS.
-/
import Derived.Test.YtngegolpnofnhaaPzB
import Derived.Test.YtngegolpnofnhaaPzIs
import Derived.Deep.RegionLaw
namespace Go.Proofs.Ytngegolpnofnhaa
open Go.RowKit Go.Deep
set_option linter.unusedVariables false

def addOk (u : Int) (cs : List Cl) (d : Cl) : Bool := pzOk u cs && (clueOk u d && decide (cs.length < 6))
def addL (u : Int) (cs : List Cl) (d : Cl) : List Cl := if addOk u cs d then cs ++ [d] else []
def addU (u : Int) (cs : List Cl) (d : Cl) : Int := if addOk u cs d then u else 0
theorem addL_len (u : Int) (cs : List Cl) (d : Cl) : (addL u cs d).length ≤ 1048576 := by
  unfold addL
  split
  · rename_i h
    unfold addOk at h
    simp at h
    rw [List.length_append, List.length_singleton]; omega
  · simp
theorem add_no {u : Int} {cs : List Cl} {d : Cl} (h : addOk u cs d = false) : addL u cs d = [] ∧ addU u cs d = 0 := by simp [addL, addU, h]
theorem add_yes {u : Int} {cs : List Cl} {d : Cl} (h : addOk u cs d = true) : addL u cs d = cs ++ [d] ∧ addU u cs d = u := by simp [addL, addU, h]

/-- The three boxes at the beginning. -/
theorem add_boxes (w : World) (v0 v1 z0 z1 : Value) (d : Cl) (T U V : TypeId) :
    Bx (((w.alloc (.cells #[v0, v1] T)).alloc (.cells #[.int .i64 d.x0, .int .i64 d.x1, .int .i64 d.x2, .int .i64 d.x3] U)).alloc (.cells #[z0, z1] V)) w.heap.size T v0 v1 ∧
    CBox (((w.alloc (.cells #[v0, v1] T)).alloc (.cells #[.int .i64 d.x0, .int .i64 d.x1, .int .i64 d.x2, .int .i64 d.x3] U)).alloc (.cells #[z0, z1] V)) (w.heap.size + 1) U d ∧
    Bx (((w.alloc (.cells #[v0, v1] T)).alloc (.cells #[.int .i64 d.x0, .int .i64 d.x1, .int .i64 d.x2, .int .i64 d.x3] U)).alloc (.cells #[z0, z1] V)) (w.heap.size + 1 + 1) V z0 z1 ∧
    Below w.heap.size w (((w.alloc (.cells #[v0, v1] T)).alloc (.cells #[.int .i64 d.x0, .int .i64 d.x1, .int .i64 d.x2, .int .i64 d.x3] U)).alloc (.cells #[z0, z1] V)) ∧
    (((w.alloc (.cells #[v0, v1] T)).alloc (.cells #[.int .i64 d.x0, .int .i64 d.x1, .int .i64 d.x2, .int .i64 d.x3] U)).alloc (.cells #[z0, z1] V)).heap.size = w.heap.size + 3 := by
  have l3 : ∀ (w : World) (o : Obj), (w.alloc o).heap.size = w.heap.size + 1 := fun w o => by simp
  have q1 := CBox.new (w.alloc (.cells #[v0, v1] T)) U d
  rw [l3] at q1
  have q2 := Bx.new ((w.alloc (.cells #[v0, v1] T)).alloc (.cells #[.int .i64 d.x0, .int .i64 d.x1, .int .i64 d.x2, .int .i64 d.x3] U)) V z0 z1
  rw [l3, l3] at q2
  exact ⟨((Bx.new _ _ _ _).alloc _).alloc _, q1.alloc _, q2, (((Below.refl _ _).alloc (Nat.le_refl _) _).alloc (by simp) _).alloc (by simp; omega) _, by rw [l3, l3, l3]⟩

/-- 'append(v, ds...)': besides, no block that was there but v's own has changed. -/
theorem step_app_ClsG {wr : World} {ops : Array Oper} {o : Oper} {a : Act} {K : Act → World → Prop} {Q : Exit → Act → World → Prop} {E : Prop} (hgd : o.guard = none) (s x : Operand) (t : TypeId)
    (ho : o.op = .call { callee := .builtin .append, args := #[s, x], argTypes := #[t, t] }) (ht : Try.prog.underlying t = some (.slice 40))
    (base : Nat) (g0 c0 : Nat) (ms : List Cl) (n0 : Nat) (hs : a.eval s = .slice (some ⟨g0, 0, none⟩) n0 c0) (hown : OwnICl wr base (.slice (some ⟨g0, 0, none⟩) n0 c0) ms.length (numsCl ms)) (A : Option Addr) (m c B : Nat) (ds : List Cl) (hx : a.eval x = .slice A m c) (hA : A ≠ none) (hr : Cls wr B A m ds)
    (hbase : base ≤ wr.heap.size) (hlen : ms.length + m < 1000000)
    (h : ∀ v' w', OwnICl w' base v' (ms ++ ds).length (numsCl (ms ++ ds)) → Below base wr w' → (∀ g, g < wr.heap.size → g ≠ g0 → w'.heap[g]? = wr.heap[g]?) → K (a.put o.dst v') w') :
    if Region.wanted o (yielded ops a.tmps) = true then Oper.wp Try.prog o a wr K Q else E := by
  rw [if_pos (by simp [Region.wanted, hgd])]
  obtain rfl := hr.len
  obtain ⟨i0, hi, hz0, hz1, hz2⟩ := info_parts infoCl
  obtain ⟨ad, rfl⟩ : ∃ ad, A = some ad := by cases A with | none => exact absurd rfl hA | some ad => exact ⟨ad, rfl⟩
  refine wp_append_own _ s x t ho base 40 i0 _ 4 32 ht hi hz0 hz1 hz2 rfl (by decide) _ ms.length ((numsCl ms).map (Value.int .i64)) hs hown.1
    ad ds.length c ((numsCl ds).map (Value.int .i64)) hx (by rw [List.length_map, numsCl_length]) ?_ ?_ (by unfold maxLen; omega) (by omega) hbase ?_
  · intro j u hj
    rw [List.getElem?_map, numsCl_get] at hj
    by_cases hlt : j < ds.length * 4
    · rw [if_pos hlt] at hj
      simp at hj
      subst hj
      obtain ⟨b, off, had, _, hc⟩ := hr.2 (by omega)
      injection had with had
      subst had
      have := hc j hlt
      unfold Addr.add
      split
      · rename_i h0
        subst h0
        simpa [cellCl] using this
      · simpa [cellCl] using this
    · rw [if_neg hlt] at hj
      cases hj
  · intro u hu
    rw [List.mem_map] at hu
    obtain ⟨z, _, rfl⟩ := hu
    rfl
  · intro v' w' h1 h2 _
    refine h v' w' ⟨?_, by rw [numsCl_length]⟩ ?_ (fun g hg hne => h2.block g hg (by simpa [Value.ownBlock] using hne))
    · rw [numsCl_append, List.length_append, List.map_append]
      exact h1
    · refine ((Below.refl base wr).grown h2 hbase ?_)
      intro k hk
      exact (World.ownsRow.lt hown.1 k hk).1
theorem own_empty {W : World} {base g : Nat} (h : W.heap[g]? = some (.cells #[] 40 (0, 0))) (hb : base ≤ g) : OwnICl W base (.slice (some ⟨g, 0, none⟩) 0 0) 0 (numsCl []) :=
  ⟨⟨by simp [numsCl], .inr ⟨g, 0, #[], rfl, hb, h, Nat.le_refl _, by unfold maxLen; omega, by simp, by simp [numsCl]⟩⟩, rfl⟩
theorem CBox.list {w : World} {g : Nat} {d : Cl} (h : CBox w g 40 d) : Cls w (g + 1) (some ⟨g, 0, none⟩) 1 [d] := by
  refine ⟨rfl, fun _ => ⟨_, 0, rfl, Nat.lt_succ_self _, fun i hi => ?_⟩⟩
  match i, hi with
  | 0, _ => exact h.c0
  | 1, _ => exact h.c1
  | 2, _ => exact h.c2
  | 3, _ => exact h.c3
theorem heap_two (w : World) (o p : Obj) : ((w.alloc o).alloc p).heap[w.heap.size]? = some o := by
  show ((w.heap.push o).push p)[w.heap.size]? = _
  rw [Array.getElem?_push, Array.getElem?_push]
  simp
theorem heap_two' (w : World) (o p : Obj) : ((w.alloc o).alloc p).heap[w.heap.size + 1]? = some p := by
  show ((w.heap.push o).push p)[w.heap.size + 1]? = _
  rw [Array.getElem?_push]
  simp
theorem heap_one (w : World) (o : Obj) : (w.alloc o).heap[w.heap.size]? = some o := by
  show (w.heap.push o)[w.heap.size]? = _
  simp

set_option maxHeartbeats 4000000 in
set_option maxRecDepth 100000 in
/-- The model's AddClue. -/
theorem specAddClue_any (A : Option Addr) (n c B : Nat) (cs : List Cl) (u : Int) (d : Cl) (w : World) (hr : Cls w B A n cs) (hB : B ≤ w.heap.size) (hn : n ≤ 17592186044416) (hc : n ≤ c) (hc2 : c ≤ maxLen) (hA : A ≠ none) :
    Calls Try.prog 19 #[.agg #[.int .i64 u, .slice A n c], .agg #[.int .i64 d.x0, .int .i64 d.x1, .int .i64 d.x2, .int .i64 d.x3]] w (MadeP (addL u cs d) (addU u cs d) (addOk u cs d) w) := by
  obtain rfl := hr.len
  obtain ⟨X0, X1, X2, kb, ks⟩ := add_boxes w (.int .i64 u) (.slice A cs.length c) (.int .i64 0) (.slice none 0 0) d 29 40 29
  have HG := hide (pzGood_any A cs.length c B cs u _ (hr.below kb hB) (Nat.le_trans hB kb.size) hn)
  have HX0 := hide X0
  have HX1 := hide X1
  have HX2 := hide X2
  have HKB := hide kb
  have HKS := hide ks
  have HR := hide hr
  have HA := hide hA
  clear X0 X1 X2 kb ks hr hA hc hc2
  cases hg : pzOk u cs
  · have HO : Hid (addOk u cs d = false) := hide (by unfold addOk; rw [hg]; rfl)
    rw [hg] at HG
    rw [(add_no HO.out).1, (add_no HO.out).2, HO.out]
    clear hg
    go_enter Try.func19, Try.ntmps19
    go_wp2_with fail
    refine HG.out.mono ?_; rintro e w2 ⟨rfl, hb2⟩
    have hB2 := HKB.out.trans (hb2.mono HKB.out.size)
    obtain ⟨e0, f0, e1, f1, i0, i1, M0⟩ := noP_put (w := w) (by omega) (HX2.out.next hb2) hB2
    have HM := hide M0
    clear hb2 hB2 M0
    go_wp2_with fail
    exact bodyPost_ret (v := .tuple #[.agg #[.int .i64 0, .slice none 0 0], .bool false]) (by simp [results, Try.results19, go_sem, i0, i1]) rfl HM.out
  · rw [hg] at HG
    have hh := (pzOk_parts hg).1
    have hL := (pzOk_parts hg).2.1
    have HI := hide (fun W => pzClue_any u d W hh)
    clear hh
    cases hq : clueOk u d
    · have HO : Hid (addOk u cs d = false) := hide (by unfold addOk; rw [hg, hq]; rfl)
      rw [(add_no HO.out).1, (add_no HO.out).2, HO.out]
      rw [hq] at HI
      clear hg hq
      go_enter Try.func19, Try.ntmps19
      go_wp2_with fail
      refine HG.out.mono ?_; rintro e w2 ⟨rfl, hb2⟩
      have hB2 := HKB.out.trans (hb2.mono HKB.out.size)
      have P0 := HX0.out.next hb2
      have P1 := HX1.out.next hb2
      have P2 := HX2.out.next hb2
      have HB2 := hide hB2
      have x0 := P0.c0
      have x1 := P0.c1
      have y0 := P1.c0
      have y1 := P1.c1
      have y2 := P1.c2
      have y3 := P1.c3
      have HP2 := hide P2
      clear hb2 hB2 P0 P1 P2
      go_wp2_with fail
      refine (HI.out _).mono ?_; rintro e w3 ⟨rfl, hb3⟩
      have hB3 := HB2.out.trans (hb3.mono HB2.out.size)
      obtain ⟨e0, f0, e1, f1, i0, i1, M0⟩ := noP_put (w := w) (by omega) (HP2.out.next hb3) hB3
      have HM := hide M0
      clear hb3 hB3 M0 x0 x1 y0 y1 y2 y3
      go_wp2_with fail
      exact bodyPost_ret (v := .tuple #[.agg #[.int .i64 0, .slice none 0 0], .bool false]) (by simp [results, Try.results19, go_sem, i0, i1]) rfl HM.out
    · rw [hq] at HI
      by_cases h6 : cs.length < 6
      · have HO : Hid (addOk u cs d = true) := hide (by unfold addOk; rw [hg, hq, decide_eq_true h6]; rfl)
        rw [(add_yes HO.out).1, (add_yes HO.out).2, HO.out]
        have h6b : ((cs.length : Int) == 6) = false := by simp; omega
        clear hg hq
        go_enter Try.func19, Try.ntmps19
        go_wp2_with fail
        refine HG.out.mono ?_; rintro e w2 ⟨rfl, hb2⟩
        have P0 := HX0.out.next hb2
        have P1 := HX1.out.next hb2
        have HP0 := hide P0
        have HP1 := hide P1
        have HP2 := hide (HX2.out.next hb2)
        have HB2 := hide (HKB.out.trans (hb2.mono HKB.out.size))
        have x0 := P0.c0
        have x1 := P0.c1
        have y0 := P1.c0
        have y1 := P1.c1
        have y2 := P1.c2
        have y3 := P1.c3
        clear hb2 P0 P1
        go_wp2_with fail
        refine (HI.out _).mono ?_; rintro e w3 ⟨rfl, hb3⟩
        have HB3 := hide (HB2.out.trans (hb3.mono HB2.out.size))
        have HQ0 := hide (HP0.out.next hb3)
        have HQ1 := hide (HP1.out.next hb3)
        have HQ2 := hide (HP2.out.next hb3)
        clear hb3 x0 x1 y0 y1 y2 y3
        have x0 := HQ0.out.c0
        have x1 := HQ0.out.c1
        have y0 := HQ1.out.c0
        have y1 := HQ1.out.c1
        have y2 := HQ1.out.c2
        have y3 := HQ1.out.c3
        go_wp2_with fail
        have z0 := HQ0.out.lt
        have z1 := HQ1.out.lt
        have z2 := HQ2.out.lt
        have HR3 := hide (HR.out.below HB3.out hB)
        have HS3 := hide (show B ≤ w3.heap.size from Nat.le_trans hB HB3.out.size)
        have HSK : Hid (∀ W, Below w3.heap.size w3 W → (fun W => W.cell? ⟨w.heap.size, 0, none⟩ = some (.int .i64 u) ∧ W.cell? ⟨w.heap.size, 1, none⟩ = some (.slice A cs.length c) ∧ W.cell? ⟨w.heap.size + 1, 0, none⟩ = some (.int .i64 d.x0) ∧ W.cell? ⟨w.heap.size + 1, 1, none⟩ = some (.int .i64 d.x1) ∧ W.cell? ⟨w.heap.size + 1, 2, none⟩ = some (.int .i64 d.x2) ∧ W.cell? ⟨w.heap.size + 1, 3, none⟩ = some (.int .i64 d.x3)) W) := hide (fun W h => ⟨(HQ0.out.next h).c0, (HQ0.out.next h).c1, (HQ1.out.next h).c0, (HQ1.out.next h).c1, (HQ1.out.next h).c2, (HQ1.out.next h).c3⟩)
        clear x0 x1 y0 y1 y2 y3
        refine wp_region_held_drew (S := (fun W => W.cell? ⟨w.heap.size, 0, none⟩ = some (.int .i64 u) ∧ W.cell? ⟨w.heap.size, 1, none⟩ = some (.slice A cs.length c) ∧ W.cell? ⟨w.heap.size + 1, 0, none⟩ = some (.int .i64 d.x0) ∧ W.cell? ⟨w.heap.size + 1, 1, none⟩ = some (.int .i64 d.x1) ∧ W.cell? ⟨w.heap.size + 1, 2, none⟩ = some (.int .i64 d.x2) ∧ W.cell? ⟨w.heap.size + 1, 3, none⟩ = some (.int .i64 d.x3))) (by kernel_rfl) ?_ (fun hHeld => ?_)
        · exact HSK.out _ (Below.refl _ _).drew
        refine wpAnyH_take (i := 0) (v := ?_) rfl (by kernel_rfl) (by kernel_rfl) (by kernel_rfl) (fun _ _ _ h => h) (Or.inl ⟨by rfl, ?_⟩) (by assumption) ?_
        rotate_left
        · (intro w hSw; (try dsimp only at hSw); go_simp; first | done | (with_reducible rfl))
        try go_simp
        refine wpAnyH_take (i := 1) (v := ?_) rfl (by kernel_rfl) (by kernel_rfl) (by kernel_rfl) (fun _ _ _ h => h) (Or.inl ⟨by rfl, ?_⟩) (by assumption) ?_
        rotate_left
        · (intro w hSw; (try dsimp only at hSw); go_simp; first | done | (with_reducible rfl))
        try go_simp
        refine wpAnyH_take (i := 3) (v := ?_) rfl (by kernel_rfl) (by kernel_rfl) (by kernel_rfl) (fun _ _ _ h => h) (Or.inl ⟨by rfl, ?_⟩) (by assumption) ?_
        rotate_left
        · (intro w hSw; (try dsimp only at hSw); go_simp; first | done | (with_reducible rfl))
        try go_simp
        refine wpAnyH_take (i := 4) (v := ?_) rfl (by kernel_rfl) (by kernel_rfl) (by kernel_rfl) (fun _ _ _ h => h) (Or.inl ⟨by rfl, ?_⟩) (by assumption) ?_
        rotate_left
        · (intro w hSw; (try dsimp only at hSw); go_simp; first | done | (with_reducible rfl))
        try go_simp
        refine wpAnyH_take (i := 6) (v := ?_) rfl (by kernel_rfl) (by kernel_rfl) (by kernel_rfl) (fun _ _ _ h => h) (Or.inl ⟨by rfl, ?_⟩) (by assumption) ?_
        rotate_left
        · (intro w hSw; (try dsimp only at hSw); go_simp; first | done | (with_reducible rfl))
        try go_simp
        refine wpAnyH_ready (rs := [2, 7]) (by kernel_rfl) (by simp) ?_
        refine AllReadyH.cons rfl (fun K hK => ?_) (AllReadyH.cons rfl (fun K hK => ?_) AllReadyH.nil)
        ·
          go_simp
          have FBn := hide (show Below w3.heap.size w3 (w3.alloc (.cells #[] 40)).drew from Below.drew ((Below.refl _ _).alloc (Nat.le_refl _) _))
          refine hK.out _ _ (HSK.out _ FBn.out) (fun hHeld => ?_)
          clear hK K
          try go_simp
          refine wpAnyH_ready (rs := [5, 7]) (by kernel_rfl) (by simp) ?_
          refine AllReadyH.cons rfl (fun K hK => ?_) (AllReadyH.cons rfl (fun K hK => ?_) AllReadyH.nil)
          ·
            refine step_app_ClsG rfl (.tmp 25) (.tmp 27) 27 rfl Try.underlying27 (w3.heap.size) (w3.heap.size) 0 [] 0 rfl (own_empty (heap_one _ _) (Nat.le_refl _)) A cs.length c B cs rfl HA.out (HR3.out.below FBn.out HS3.out) (by simp <;> omega) (by simp; omega) ?_
            intro v1 w5 hown1 hb1 ho1
            rw [List.nil_append] at hown1
            obtain ⟨A5, c5, rfl⟩ := hown1.shape
            have O5 := hide (hown1.less (base' := w3.heap.size) (by omega))
            have FB5 := hide (FBn.out.trans (hb1.mono (by omega)))
            clear hown1 hb1 ho1
            refine hK.out _ _ (HSK.out _ FB5.out) (fun hHeld => ?_)
            clear hK K
            try go_simp
            refine wpAnyH_ready (rs := [7]) (by kernel_rfl) (by simp) ?_
            refine AllReadyH.cons rfl (fun K hK => ?_) AllReadyH.nil
            go_simp
            have FBn := hide (show Below w3.heap.size w3 (w5.alloc (.cells #[.int .i64 d.x0, .int .i64 d.x1, .int .i64 d.x2, .int .i64 d.x3] 40)) from FB5.out.alloc FB5.out.size _)
            refine hK.out _ _ (HSK.out _ FBn.out) (fun hHeld => ?_)
            clear hK K
            try go_simp
            refine wpAnyH_ready (rs := [8]) (by kernel_rfl) (by simp) ?_
            refine AllReadyH.cons rfl (fun K hK => ?_) AllReadyH.nil
            refine step_app_Cls rfl (.tmp 28) (.tmp 30) 27 rfl Try.underlying27 w3.heap.size _ cs rfl (O5.out.keep fun _ _ hg => Below.heap_alloc _ _ _ hg) (some ⟨w5.heap.size, 0, none⟩) 1 1 _ [d] rfl (by simp) ((CBox.new w5 40 d).list) FBn.out.size (by omega) ?_
            intro v2 w6 hown2 hb2
            obtain ⟨A6, c6, rfl⟩ := hown2.shape
            have FB6 := hide (FBn.out.trans hb2)
            obtain ⟨i0, i1, M0⟩ := madeP_put (w := w) (h := u) (b1 := w.heap.size + 1 + 1) true (by omega) (HQ2.out.next FB6.out) hown2 (by omega) (HB3.out.trans (FB6.out.mono HB3.out.size))
            have HM := hide M0
            have Q6 := HQ2.out.next FB6.out
            have r0 := Q6.c0
            have f0 := Q6.f 0
            have R1 := Q6.set0 (.int .i64 u)
            have r1 := R1.c1
            have f1 := R1.f 1
            have r2 := R1.c0
            clear hown2 hb2 M0 R1 Q6
            generalize hLn : (cs ++ [d]).length = L at *
            refine hK.out _ _ (HSK.out _ FB6.out) (fun hHeld => ?_)
            clear hK K
            try go_simp
            refine wpAnyH_take (i := 9) (v := ?_) rfl (by kernel_rfl) (by kernel_rfl) (by kernel_rfl) (fun _ _ _ h => h) (Or.inl ⟨by rfl, ?_⟩) (by assumption) ?_
            rotate_left
            · (intro w hSw; (try dsimp only at hSw); go_simp; first | done | (with_reducible rfl))
            try go_simp
            refine wpAnyH_ready (rs := [10]) (by kernel_rfl) (by simp) ?_
            refine AllReadyH.cons rfl (fun K hK => ?_) AllReadyH.nil
            go_simp
            refine hK.out _ _ ?_ (fun hHeld => ?_)
            · obtain ⟨h0, h1, h2, h3, h4, h5⟩ := HSK.out _ FB6.out
              refine ⟨?_, ?_, ?_, ?_, ?_, ?_⟩ <;> go_simp
            clear hK K
            try go_simp
            refine wpAnyH_take (i := 11) (v := ?_) rfl (by kernel_rfl) (by kernel_rfl) (by kernel_rfl) (fun _ _ _ h => h) (Or.inl ⟨by rfl, ?_⟩) (by assumption) ?_
            rotate_left
            · (intro w hSw; (try dsimp only at hSw); go_simp; first | done | (with_reducible rfl))
            try go_simp
            refine wpAnyH_done (by kernel_rfl) ?_ _
            go_wp2_with fail
            exact bodyPost_ret (v := .tuple #[.agg #[.int .i64 u, .slice A6 L c6], .bool true]) (by simp [results, Try.results19, go_sem, i0, i1]) rfl HM.out
          ·
            go_simp
            have FBn := hide (show Below w3.heap.size w3 ((w3.alloc (.cells #[] 40)).alloc (.cells #[.int .i64 d.x0, .int .i64 d.x1, .int .i64 d.x2, .int .i64 d.x3] 40)).drew from Below.drew (((Below.refl _ _).alloc (Nat.le_refl _) _).alloc (by simp) _))
            refine hK.out _ _ (HSK.out _ FBn.out) (fun hHeld => ?_)
            clear hK K
            try go_simp
            refine wpAnyH_ready (rs := [5]) (by kernel_rfl) (by simp) ?_
            refine AllReadyH.cons rfl (fun K hK => ?_) AllReadyH.nil
            refine step_app_ClsG rfl (.tmp 25) (.tmp 27) 27 rfl Try.underlying27 (w3.heap.size) (w3.heap.size) 0 [] 0 rfl (own_empty (heap_two _ _ _) (Nat.le_refl _)) A cs.length c B cs rfl HA.out (HR3.out.below FBn.out HS3.out) (by simp <;> omega) (by simp; omega) ?_
            intro v1 w5 hown1 hb1 ho1
            rw [List.nil_append] at hown1
            obtain ⟨A5, c5, rfl⟩ := hown1.shape
            have O5 := hide (hown1.less (base' := w3.heap.size) (by omega))
            have FB5 := hide (FBn.out.trans (hb1.mono (by omega)))
            have C5 := hide (show CBox w5 (w3.heap.size + 1) 40 d from (ho1 (w3.heap.size + 1) (by first | (simp; done) | (simp; omega)) (by omega)).trans (heap_two' _ _ _))
            clear hown1 hb1 ho1
            refine hK.out _ _ (HSK.out _ FB5.out) (fun hHeld => ?_)
            clear hK K
            try go_simp
            refine wpAnyH_ready (rs := [8]) (by kernel_rfl) (by simp) ?_
            refine AllReadyH.cons rfl (fun K hK => ?_) AllReadyH.nil
            refine step_app_Cls rfl (.tmp 28) (.tmp 30) 27 rfl Try.underlying27 w3.heap.size _ cs rfl (O5.out) (some ⟨w3.heap.size + 1, 0, none⟩) 1 1 _ [d] rfl (by simp) (C5.out.list) FB5.out.size (by omega) ?_
            intro v2 w6 hown2 hb2
            obtain ⟨A6, c6, rfl⟩ := hown2.shape
            have FB6 := hide (FB5.out.trans hb2)
            obtain ⟨i0, i1, M0⟩ := madeP_put (w := w) (h := u) (b1 := w.heap.size + 1 + 1) true (by omega) (HQ2.out.next FB6.out) hown2 (by omega) (HB3.out.trans (FB6.out.mono HB3.out.size))
            have HM := hide M0
            have Q6 := HQ2.out.next FB6.out
            have r0 := Q6.c0
            have f0 := Q6.f 0
            have R1 := Q6.set0 (.int .i64 u)
            have r1 := R1.c1
            have f1 := R1.f 1
            have r2 := R1.c0
            clear hown2 hb2 M0 R1 Q6
            generalize hLn : (cs ++ [d]).length = L at *
            refine hK.out _ _ (HSK.out _ FB6.out) (fun hHeld => ?_)
            clear hK K
            try go_simp
            refine wpAnyH_take (i := 9) (v := ?_) rfl (by kernel_rfl) (by kernel_rfl) (by kernel_rfl) (fun _ _ _ h => h) (Or.inl ⟨by rfl, ?_⟩) (by assumption) ?_
            rotate_left
            · (intro w hSw; (try dsimp only at hSw); go_simp; first | done | (with_reducible rfl))
            try go_simp
            refine wpAnyH_ready (rs := [10]) (by kernel_rfl) (by simp) ?_
            refine AllReadyH.cons rfl (fun K hK => ?_) AllReadyH.nil
            go_simp
            refine hK.out _ _ ?_ (fun hHeld => ?_)
            · obtain ⟨h0, h1, h2, h3, h4, h5⟩ := HSK.out _ FB6.out
              refine ⟨?_, ?_, ?_, ?_, ?_, ?_⟩ <;> go_simp
            clear hK K
            try go_simp
            refine wpAnyH_take (i := 11) (v := ?_) rfl (by kernel_rfl) (by kernel_rfl) (by kernel_rfl) (fun _ _ _ h => h) (Or.inl ⟨by rfl, ?_⟩) (by assumption) ?_
            rotate_left
            · (intro w hSw; (try dsimp only at hSw); go_simp; first | done | (with_reducible rfl))
            try go_simp
            refine wpAnyH_done (by kernel_rfl) ?_ _
            go_wp2_with fail
            exact bodyPost_ret (v := .tuple #[.agg #[.int .i64 u, .slice A6 L c6], .bool true]) (by simp [results, Try.results19, go_sem, i0, i1]) rfl HM.out
        ·
          go_simp
          have FBn := hide (show Below w3.heap.size w3 (w3.alloc (.cells #[.int .i64 d.x0, .int .i64 d.x1, .int .i64 d.x2, .int .i64 d.x3] 40)).drew from Below.drew ((Below.refl _ _).alloc (Nat.le_refl _) _))
          refine hK.out _ _ (HSK.out _ FBn.out) (fun hHeld => ?_)
          clear hK K
          try go_simp
          refine wpAnyH_ready (rs := [2]) (by kernel_rfl) (by simp) ?_
          refine AllReadyH.cons rfl (fun K hK => ?_) AllReadyH.nil
          go_simp
          have FBn := hide (show Below w3.heap.size w3 ((w3.alloc (.cells #[.int .i64 d.x0, .int .i64 d.x1, .int .i64 d.x2, .int .i64 d.x3] 40)).alloc (.cells #[] 40)).drew from Below.drew (((Below.refl _ _).alloc (Nat.le_refl _) _).alloc (by simp) _))
          refine hK.out _ _ (HSK.out _ FBn.out) (fun hHeld => ?_)
          clear hK K
          try go_simp
          refine wpAnyH_ready (rs := [5]) (by kernel_rfl) (by simp) ?_
          refine AllReadyH.cons rfl (fun K hK => ?_) AllReadyH.nil
          refine step_app_ClsG rfl (.tmp 25) (.tmp 27) 27 rfl Try.underlying27 (w3.heap.size + 1) (w3.heap.size + 1) 0 [] 0 rfl (own_empty (heap_two' _ _ _) (Nat.le_refl _)) A cs.length c B cs rfl HA.out (HR3.out.below FBn.out HS3.out) (by simp <;> omega) (by simp; omega) ?_
          intro v1 w5 hown1 hb1 ho1
          rw [List.nil_append] at hown1
          obtain ⟨A5, c5, rfl⟩ := hown1.shape
          have O5 := hide (hown1.less (base' := w3.heap.size) (by omega))
          have FB5 := hide (FBn.out.trans (hb1.mono (by omega)))
          have C5 := hide (show CBox w5 w3.heap.size 40 d from (ho1 w3.heap.size (by first | (simp; done) | (simp; omega)) (by omega)).trans (heap_two _ _ _))
          clear hown1 hb1 ho1
          refine hK.out _ _ (HSK.out _ FB5.out) (fun hHeld => ?_)
          clear hK K
          try go_simp
          refine wpAnyH_ready (rs := [8]) (by kernel_rfl) (by simp) ?_
          refine AllReadyH.cons rfl (fun K hK => ?_) AllReadyH.nil
          refine step_app_Cls rfl (.tmp 28) (.tmp 30) 27 rfl Try.underlying27 w3.heap.size _ cs rfl (O5.out) (some ⟨w3.heap.size, 0, none⟩) 1 1 _ [d] rfl (by simp) (C5.out.list) FB5.out.size (by omega) ?_
          intro v2 w6 hown2 hb2
          obtain ⟨A6, c6, rfl⟩ := hown2.shape
          have FB6 := hide (FB5.out.trans hb2)
          obtain ⟨i0, i1, M0⟩ := madeP_put (w := w) (h := u) (b1 := w.heap.size + 1 + 1) true (by omega) (HQ2.out.next FB6.out) hown2 (by omega) (HB3.out.trans (FB6.out.mono HB3.out.size))
          have HM := hide M0
          have Q6 := HQ2.out.next FB6.out
          have r0 := Q6.c0
          have f0 := Q6.f 0
          have R1 := Q6.set0 (.int .i64 u)
          have r1 := R1.c1
          have f1 := R1.f 1
          have r2 := R1.c0
          clear hown2 hb2 M0 R1 Q6
          generalize hLn : (cs ++ [d]).length = L at *
          refine hK.out _ _ (HSK.out _ FB6.out) (fun hHeld => ?_)
          clear hK K
          try go_simp
          refine wpAnyH_take (i := 9) (v := ?_) rfl (by kernel_rfl) (by kernel_rfl) (by kernel_rfl) (fun _ _ _ h => h) (Or.inl ⟨by rfl, ?_⟩) (by assumption) ?_
          rotate_left
          · (intro w hSw; (try dsimp only at hSw); go_simp; first | done | (with_reducible rfl))
          try go_simp
          refine wpAnyH_ready (rs := [10]) (by kernel_rfl) (by simp) ?_
          refine AllReadyH.cons rfl (fun K hK => ?_) AllReadyH.nil
          go_simp
          refine hK.out _ _ ?_ (fun hHeld => ?_)
          · obtain ⟨h0, h1, h2, h3, h4, h5⟩ := HSK.out _ FB6.out
            refine ⟨?_, ?_, ?_, ?_, ?_, ?_⟩ <;> go_simp
          clear hK K
          try go_simp
          refine wpAnyH_take (i := 11) (v := ?_) rfl (by kernel_rfl) (by kernel_rfl) (by kernel_rfl) (fun _ _ _ h => h) (Or.inl ⟨by rfl, ?_⟩) (by assumption) ?_
          rotate_left
          · (intro w hSw; (try dsimp only at hSw); go_simp; first | done | (with_reducible rfl))
          try go_simp
          refine wpAnyH_done (by kernel_rfl) ?_ _
          go_wp2_with fail
          exact bodyPost_ret (v := .tuple #[.agg #[.int .i64 u, .slice A6 L c6], .bool true]) (by simp [results, Try.results19, go_sem, i0, i1]) rfl HM.out
      · have HO : Hid (addOk u cs d = false) := hide (by unfold addOk; rw [decide_eq_false h6]; simp)
        rw [(add_no HO.out).1, (add_no HO.out).2, HO.out]
        have h6b : ((cs.length : Int) == 6) = true := by simp; omega
        clear hg hq
        go_enter Try.func19, Try.ntmps19
        go_wp2_with fail
        refine HG.out.mono ?_; rintro e w2 ⟨rfl, hb2⟩
        have P0 := HX0.out.next hb2
        have P1 := HX1.out.next hb2
        have HP0 := hide P0
        have HP2 := hide (HX2.out.next hb2)
        have HB2 := hide (HKB.out.trans (hb2.mono HKB.out.size))
        have x0 := P0.c0
        have x1 := P0.c1
        have y0 := P1.c0
        have y1 := P1.c1
        have y2 := P1.c2
        have y3 := P1.c3
        clear hb2 P0 P1
        go_wp2_with fail
        refine (HI.out _).mono ?_; rintro e w3 ⟨rfl, hb3⟩
        have hB3 := HB2.out.trans (hb3.mono HB2.out.size)
        have hx1 := (HP0.out.next hb3).c1
        obtain ⟨e0, f0, e1, f1, i0, i1, M0⟩ := noP_put (w := w) (by omega) (HP2.out.next hb3) hB3
        have HM := hide M0
        clear hb3 hB3 M0 x0 x1 y0 y1 y2 y3
        go_wp2_with fail
        exact bodyPost_ret (v := .tuple #[.agg #[.int .i64 0, .slice none 0 0], .bool false]) (by simp [results, Try.results19, go_sem, i0, i1]) rfl HM.out
end Go.Proofs.Ytngegolpnofnhaa
