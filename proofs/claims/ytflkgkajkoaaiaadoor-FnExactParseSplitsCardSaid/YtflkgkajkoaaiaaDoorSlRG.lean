
/-
  THE MODEL's ParseSplits.
-/
import Derived.Test.YtflkgkajkoaaiaaDoorSlRP
import Derived.Test.YtflkgkajkoaaiaaDoorSlU
import Derived.Test.YtflkgkajkoaaiaaDoorSpM
import Derived.Deep.RegionLaw
import Derived.Deep.RegionHeld3
namespace Go.Proofs.YtflkgkajkoaaiaaDoor
open Go.RowKit Go.Deep
set_option linter.unusedVariables false

theorem ps_no {l : List UInt8} (h : 360 < l.length) : psOk l = false ∧ psL l = [] := by
  have he : l.isEmpty = false := by cases l with
    | nil => simp at h
    | cons => rfl
  have h1 : psOk l = false := by
    cases e : psOk l
    · rfl
    · unfold psOk at e
      rw [he, Bool.false_or] at e
      simp only [Bool.and_eq_true, decide_eq_true_eq] at e
      have := ps_short l e.2.1 e.2.2 e.1
      omega
  exact ⟨h1, by unfold psL; rw [h1]; rfl⟩
theorem ps_of {l : List UInt8} (h : l ≠ []) : psOk l = (twoAllS (sp44 l) && spsOk ((sp44 l).map spOf)) ∧ (psOk l = true → psL l = (sp44 l).map spOf) := by
  have he : l.isEmpty = false := by cases l with
    | nil => exact absurd rfl h
    | cons => rfl
  refine ⟨?_, fun h1 => by unfold psL; rw [h1, he]; rfl⟩
  unfold psOk spsOk
  rw [he, Bool.false_or, List.length_map]
  cases decide ((sp44 l).length ≤ 60) <;> cases twoAllS (sp44 l) <;> rfl
theorem twoAllS_not {ws : List (List UInt8)} (k : Nat) (hk : k < ws.length) (h : two58 (ws[k]'hk) = false) : twoAllS ws = false := by
  unfold twoAllS
  rw [List.all_eq_false]
  exact ⟨_, List.getElem_mem hk, by rw [h]; simp⟩
theorem twoAllS_yes {ws : List (List UInt8)} (h : ∀ (k : Nat) (hk : k < ws.length), two58 (ws[k]'hk) = true) : twoAllS ws = true := by
  unfold twoAllS
  rw [List.all_eq_true]
  intro w hw
  obtain ⟨k, hk, rfl⟩ := List.getElem_of_mem hw
  exact h k hk

/-- One split more, as a step of a region that draws. -/
theorem step_app_Sp {W : World} {ops : Array Oper} {o : Oper} {a : Act} {K : Act → World → Prop} {Q : Exit → Act → World → Prop} {E : Prop} (hgd : o.guard = none) (s x : Operand) (t : TypeId)
    (ho : o.op = .call { callee := .builtin .append, args := #[s, x], argTypes := #[t, t] }) (ht : Tryd.prog.underlying t = some (.slice 37))
    (base : Nat) (v : Value) (ms : List Sp) (hs : a.eval s = v) (hown : OwnISp W base v ms.length (numsSp ms)) (d : Sp) (g c : Nat) (hx : a.eval x = .slice (some ⟨g, 0, none⟩) 1 c)
    (h0 : W.cell? ⟨g, 0, none⟩ = some (.int .i64 d.x0)) (h1 : W.cell? ⟨g, 1, none⟩ = some (.int .i64 d.x1)) (hbase : base ≤ W.heap.size) (hlen : ms.length < 1000000)
    (h : ∀ v' w', OwnISp w' base v' (ms ++ [d]).length (numsSp (ms ++ [d])) → Below base W w' → K (a.put o.dst v') w') :
    if Region.wanted o (yielded ops a.tmps) = true then Oper.wp Tryd.prog o a W K Q else E := by
  rw [if_pos (by simp [Region.wanted, hgd])]
  obtain ⟨i0, hi, hz0, hz1, hz2⟩ := info_parts infoSp
  refine wp_append_own _ s x t ho base 37 i0 (.agg #[.int .i64 0, .int .i64 0]) 2 16 ht hi hz0 hz1 hz2 rfl (by decide) v ms.length ((numsSp ms).map (Value.int .i64)) hs hown.1
    ⟨g, 0, none⟩ 1 c [.int .i64 d.x0, .int .i64 d.x1] hx rfl ?_ ?_ (by unfold maxLen; omega) (by omega) hbase ?_
  · intro j u hj
    match j, hj with
    | 0, hj => simp at hj; subst hj; rw [add_head]; exact h0
    | 1, hj => simp at hj; subst hj; rw [add_head]; exact h1
  · intro u hu; simp at hu; rcases hu with rfl | rfl <;> rfl
  · intro v' w' k1 k2 _
    refine h v' w' ⟨?_, ?_⟩ ?_
    · rw [numsSp_append, List.length_append, List.map_append, show numsSp [d] = [d.x0, d.x1] from by rw [numsSp_cons]; rfl]
      exact k1
    · rw [numsSp_length]
    · refine ((Below.refl base W).grown k2 hbase ?_)
      intro k hk
      exact (World.ownsRow.lt hown.1 k hk).1

set_option maxRecDepth 1000000 in
theorem specParseSplits_any (l : List UInt8) (hl : l.length ≤ 1048576) (w : World) :
    Calls Tryd.prog 10 #[.string (bs l)] w (MadeRSp (psL l) (psOk l) w) := by
  have hlen := str_len l
  by_cases h360 : 360 < l.length
  · obtain ⟨e1, e2⟩ := ps_no h360
    rw [e1, e2]
    have h3 : 360 < (l.length : Int) := by omega
    clear e1 e2
    generalize bs l = s at *
    go_enter Tryd.func10, Tryd.ntmps10
    go_wp2_with fail
    go_ret2
    exact madeRSp_none (Below.refl _ _)
  by_cases he : l = []
  · subst he
    rw [show psL [] = [] from rfl, show psOk [] = true from rfl]
    have HL := hide (fun W => slList_any none 0 0 0 [] W Sps.none_ (Nat.zero_le _) (by omega))
    have HT := hide (fun W => slText_any none 0 0 0 [] W Sps.none_ (Nat.zero_le _) (by omega) rfl)
    rw [show spsOk [] = true from rfl] at HL
    rw [show spT [] = [] from rfl] at HT
    have e0 : ((bs []).toList == (bs []).toList) = true := by simp
    rw [show (([] : List UInt8).length : Nat) = 0 from rfl] at hlen
    generalize bs [] = s at *
    go_enter Tryd.func10, Tryd.ntmps10
    go_wp2_with fail
    refine (HL.out _).mono ?_; rintro e w1 ⟨rfl, hb1⟩
    go_wp2_with fail
    refine (HT.out _).mono ?_; rintro e w2 ⟨rfl, hb2⟩
    go_wp2_with fail
    go_ret2
    exact ⟨none, 0, rfl, OwnISp.nil _ _, below_next hb1 hb2⟩
  · obtain ⟨ho, hL⟩ := ps_of he
    have hpl := sp_length44 l
    have hcl : l.count 44 ≤ l.length := List.count_le_length
    have hwn : (sp44 l).length ≤ 361 := by omega
    have hl0 : 0 < (l.length : Int) := by
      cases l with
      | nil => exact absurd rfl he
      | cons => simp
    have h3 : ¬ (360 < (l.length : Int)) := by omega
    have HS := hide (fun W => l1Split_any44 l W (by omega))
    have HB := hide (fun (h1 : twoAllS (sp44 l) = true) (h2 : spGoodL ((sp44 l).map spOf) = true) => spT_back l h1 h2)
    have Hpo := hide ho
    have HpL := hide hL
    have Hpc := hide (fun (x : List UInt8) (hx : x ∈ sp44 l) => show x.length < 1000000 from by have := sp_piece_len44 l x hx; omega)
    clear ho hL hpl hcl he h360
    generalize hss : bs l = s at *
    have Hss := hide hss
    clear hss
    generalize sp44 l = ws at *
    go_enter Tryd.func10, Tryd.ntmps10
    go_wp2_with fail
    refine (HS.out _).mono ?_; rintro e w1 ⟨A, c, rfl, _, _, hown, hb1⟩
    have hstr := hown.strs
    have s1 := hb1.size
    go_wp2_with fail
    have HSt := hide hstr
    clear hstr hown
    go_loopw [4, 17] (fun v i wr => ∃ k : Nat, k ≤ ws.length ∧ i = .int .i64 k ∧ OwnISp wr w1.heap.size v ((ws.map spOf).take k).length (numsSp ((ws.map spOf).take k)) ∧ Below w1.heap.size w1 wr ∧ (∀ (j : Nat) (hj : j < ws.length), j < k → two58 (ws[j]'hj) = true))
      (fun _ i _ => ws.length - (intOf i).toNat)
    case atStart => exact ⟨0, Nat.zero_le _, rfl, OwnISp.nil _ _, Below.refl _ _, fun j _ hj => by omega⟩
    case round =>
      obtain ⟨k, hk, rfl, hown, hb2, htwo⟩ := hrel
      have HW := hide htwo
      clear htwo
      have s2 := hb2.size
      by_cases hlt : k < ws.length
      · obtain ⟨ad, hada, hab, hcell⟩ := (HSt.out.below hb2 (Nat.le_refl _)).at_ hlt
        have HG := hide (show ws.getD k [] = ws[k] from by simp [List.getD, List.getElem?_eq_getElem hlt])
        rw [HG.out] at hcell
        have HT := hide (twoAllS_not (ws := ws) k hlt)
        have HNx := hide (show two58 (ws[k]'hlt) = true → ∀ (j : Nat) (hj : j < ws.length), j < k + 1 → two58 (ws[j]'hj) = true from fun h j hj hjk => by
          by_cases e : j = k
          · subst e; exact h
          · exact HW.out j hj (by omega))
        have HM := hide (show (ws.map spOf).take (k + 1) = (ws.map spOf).take k ++ [spOf (ws[k]'hlt)] from by
          rw [List.take_add_one, List.getElem?_map, List.getElem?_eq_getElem hlt]; rfl)
        have hll : ((ws.map spOf).take k).length < 1000000 := by rw [List.length_take, List.length_map]; omega
        have HPc := hide (Hpc.out (ws[k]'hlt) (List.getElem_mem hlt))
        generalize (ws.map spOf).take k = ms at *
        generalize ws[k] = pc at *
        subst hada
        have HSq := hide (fun W => l1Split_any58 pc W HPc.out)
        cases h2 : two58 pc
        · have HF := hide (HT.out h2)
          have HDo := hide (show psOk l = false from by rw [Hpo.out, HF.out]; rfl)
          have HDl := hide (show psL l = [] from by unfold psL; rw [HDo.out]; rfl)
          have h2i : ¬ ((sp58 pc).length : Int) = 2 := by
            have : ¬ (sp58 pc).length = 2 := of_decide_eq_false h2
            omega
          rw [HDo.out, HDl.out]
          generalize bs pc = pz at *
          clear h2
          go_wp2_with fail
          refine (HSq.out _).mono ?_; rintro e w3 ⟨A3, c3, rfl, _, _, hown3, hb3⟩
          go_wp2_with fail
          go_ret2
          exact madeRSp_none (below_next hb1 (below_next hb2 hb3))
        · obtain ⟨qa, qb, hq⟩ := two_lists h2
          have Hd := hide (spOf_two hq)
          have HN2 := hide (HNx.out h2)
          rw [hq] at HSq
          have hla : qa.length ≤ pc.length := sp_piece_len58 pc qa (by rw [hq]; exact List.mem_cons_self)
          have hlb : qb.length ≤ pc.length := sp_piece_len58 pc qb (by rw [hq]; exact List.mem_cons_of_mem _ List.mem_cons_self)
          have hpl := HPc.out
          have HRa := hide (fun W => l1Read_any qa W (by omega))
          have HRb := hide (fun W => l1Read_any qb W (by omega))
          rw [Hd.out] at HM
          clear h2 hq hla hlb hpl
          generalize rd qa = x0 at *
          generalize rd qb = x1 at *
          generalize bs pc = pz at *
          go_wp2_with fail
          refine (HSq.out _).mono ?_; rintro e w3 ⟨A3, c3, rfl, _, _, hown3, hb3⟩
          have hl2 : ([qa, qb] : List (List UInt8)).length = 2 := rfl
          rw [hl2] at hown3 ⊢
          obtain ⟨g3, e3, hg3⟩ : ∃ g3, A3 = some ⟨g3, 0, none⟩ ∧ g3 < w3.heap.size := by
            rcases hown3.form with ⟨_, h⟩ | ⟨g, c, h, _, h', _⟩
            · cases h
            · injection h with h; exact ⟨g, h, h'⟩
          subst e3
          have hc0 : w3.cell? ⟨g3, 0, none⟩ = some (.string (bs qa)) := (World.ownsRow.cellAt hown3 0 (by simp)).trans rfl
          have hc1 : w3.cell? ⟨g3, 1, none⟩ = some (.string (bs qb)) := (World.ownsRow.cellAt hown3 1 (by simp)).trans rfl
          have HO := hide (hown.below hb3)
          have hb23 := below_next hb2 hb3
          have s3 := hb23.size
          generalize bs qa = za at *
          generalize bs qb = zb at *
          clear hown3 hown hb3
          have HSK : Hid (∀ W', Below w3.heap.size w3 W' → (Below w3.heap.size w3 W' ∧ W'.cell? ⟨g3, 0, none⟩ = some (.string za) ∧ W'.cell? ⟨g3, 1, none⟩ = some (.string zb))) := hide fun W' h => ⟨h, (h.cell (p := ⟨g3, 0, none⟩) hg3).trans hc0, (h.cell (p := ⟨g3, 1, none⟩) hg3).trans hc1⟩
          go_wp2_with fail
          have hbs : w1.heap.size ≤ w3.heap.size := s3
          go_region_law (first
            | (refine step_app_Sp rfl _ _ 26 rfl Tryd.underlying26 w1.heap.size _ ms rfl ?_ ⟨x0, x1⟩ w3.heap.size 1 rfl ?_ ?_ ?_ hll ?_; (exact HO.out.keep (fun h _ hl => Below.heap_alloc w3 (.cells #[.int .i64 x0, .int .i64 x1] 37) h hl)); (simp); (simp); (simp; omega); intro v' w' hown' hb')
            | (go_simp; go_at_call 22; (first | ((with_reducible refine (HRa.out _).mono ?_); rintro e w' ⟨rfl, rfl⟩) | ((with_reducible refine (HRb.out _).mono ?_); rintro e w' ⟨rfl, rfl⟩)); go_wp2_with fail))
          all_goals
            have HO2 := hide hown'
            have hB2 : Below w1.heap.size w1 w' := by
              first
              | exact Below.trans (Below.trans hb23 ((Below.refl w1.heap.size w3).drew.alloc hbs (.cells #[.int .i64 x0, .int .i64 x1] 37))) hb'
              | exact Below.trans (Below.trans hb23 ((Below.refl w1.heap.size w3).alloc hbs (.cells #[.int .i64 x0, .int .i64 x1] 37)).drew) hb'
              | exact Below.trans (Below.trans hb23 ((Below.refl w1.heap.size w3).alloc hbs (.cells #[.int .i64 x0, .int .i64 x1] 37)).drew.drew) hb'
            rw [← HM.out] at HO2
            clear hown' hb'
            go_wp2_with fail
            go_roundw
            case rel => exact ⟨k + 1, by omega, by go_num, HO2.out, hB2, HN2.out⟩
            case measure => simp [intOf]; omega
      · have HTw := hide (twoAllS_yes (ws := ws) (fun j hj => HW.out j hj (by omega)))
        have hkl : (ws.map spOf).take k = ws.map spOf := List.take_of_length_le (by rw [List.length_map]; omega)
        have hml : (ws.map spOf).length = ws.length := by simp
        rw [hkl, hml] at hown
        have HML := hide hml
        obtain ⟨A', c', rfl⟩ := hown.shape
        have HLs := hide (slList_any A' ws.length c' wr.heap.size (ws.map spOf) wr hown.list (Nat.le_refl _) (by omega))
        have Hown := hide hown
        have hpo := Hpo.out
        rw [HTw.out, Bool.true_and] at hpo
        clear hkl hown hml
        cases hd : spsOk (ws.map spOf)
        · rw [hd] at hpo HLs
          have HDo := hide hpo
          have HDl := hide (show psL l = [] from by unfold psL; rw [HDo.out]; rfl)
          clear hpo hd
          go_wp2_with fail
          refine HLs.out.mono ?_; rintro e w2 ⟨rfl, hb3⟩
          go_wp2_with fail
          go_ret2
          rw [HDo.out, HDl.out]
          exact madeRSp_none (below_next hb1 (below_next hb2 hb3))
        · have hgl : spGoodL (ws.map spOf) = true ∧ ws.length ≤ 60 := by
            unfold spsOk at hd
            simp only [Bool.and_eq_true, decide_eq_true_eq] at hd
            exact ⟨hd.2, by have := hd.1; rw [HML.out] at this; exact this⟩
          have HTx := hide (fun (W : World) (hb : Below wr.heap.size wr W) => slText_any A' ws.length c' wr.heap.size (ws.map spOf) W (Hown.out.list.below hb (Nat.le_refl _)) hb.size hgl.2 hgl.1)
          rw [HB.out HTw.out hgl.1, Hss.out] at HTx
          rw [hd] at hpo HLs
          have HDo := hide hpo
          have HDl := hide (HpL.out hpo)
          have e0 : (s.toList == s.toList) = true := by simp
          clear hpo hd hgl
          go_wp2_with fail
          refine HLs.out.mono ?_; rintro e w2 ⟨rfl, hb3⟩
          go_wp2_with fail
          refine (HTx.out _ hb3).mono ?_; rintro e w3 ⟨rfl, hb4⟩
          have Hown2 := hide ((Hown.out.below hb3).below hb4)
          go_wp2_with fail
          go_ret2
          rw [HDo.out, HDl.out]
          exact ⟨A', c', by rw [HML.out]; rfl, by rw [HML.out]; exact Hown2.out.less s1, below_next (below_next hb1 (below_next hb2 hb3)) hb4⟩
end Go.Proofs.YtflkgkajkoaaiaaDoor
