
/-
  THE MODEL's ParseDoublings.
-/
import Derived.Test.YtlblajmblaknoaaDoorParDP
import Derived.Test.YtlblajmblaknoaaDoorParM
import Derived.Test.YtlblajmblaknoaaDoorDbM
import Derived.Deep.RegionLaw
namespace Go.Proofs.YtlblajmblaknoaaDoor
open Go.RowKit Go.Deep
set_option linter.unusedVariables false

theorem dp_no {l : List UInt8} (h : 300 < l.length) : dpOk l = false ∧ dpL l = [] := by
  have he : l.isEmpty = false := by cases l with
    | nil => simp at h
    | cons => rfl
  have h1 : dpOk l = false := by
    cases e : dpOk l
    · rfl
    · unfold dpOk at e
      rw [he, Bool.false_or] at e
      simp only [Bool.and_eq_true, decide_eq_true_eq] at e
      have := db_short l e.2.1 e.1
      omega
  exact ⟨h1, by unfold dpL; rw [h1]; rfl⟩
theorem dp_of {l : List UInt8} (h : l ≠ []) : dpOk l = (twoAll (sp l) && dbsOk ((sp l).map dbOf)) ∧ (dpOk l = true → dpL l = (sp l).map dbOf) := by
  have he : l.isEmpty = false := by cases l with
    | nil => exact absurd rfl h
    | cons => rfl
  refine ⟨?_, fun h1 => by unfold dpL; rw [h1, he]; rfl⟩
  unfold dpOk dbsOk
  rw [he, Bool.false_or, List.length_map]
  cases decide ((sp l).length ≤ 100) <;> cases twoAll (sp l) <;> rfl
theorem twoAll_not {ws : List (List UInt8)} (k : Nat) (hk : k < ws.length) (h : ¬ (ws[k]'hk).length = 2) : twoAll ws = false := by
  unfold twoAll
  rw [List.all_eq_false]
  exact ⟨_, List.getElem_mem hk, by simpa using h⟩
theorem twoAll_yes {ws : List (List UInt8)} (h : ∀ (k : Nat) (hk : k < ws.length), (ws[k]'hk).length = 2) : twoAll ws = true := by
  unfold twoAll
  rw [List.all_eq_true]
  intro w hw
  obtain ⟨k, hk, rfl⟩ := List.getElem_of_mem hw
  simpa using h k hk

/-- One doubling more, as a step of a region that draws. -/
theorem step_app_Db {W : World} {ops : Array Oper} {o : Oper} {a : Act} {K : Act → World → Prop} {Q : Exit → Act → World → Prop} {E : Prop} (hgd : o.guard = none) (s x : Operand) (t : TypeId)
    (ho : o.op = .call { callee := .builtin .append, args := #[s, x], argTypes := #[t, t] }) (ht : Tryd.prog.underlying t = some (.slice 31))
    (base : Nat) (v : Value) (ms : List Db) (hs : a.eval s = v) (hown : OwnIDb W base v ms.length (numsDb ms)) (d : Db) (g c : Nat) (hx : a.eval x = .slice (some ⟨g, 0, none⟩) 1 c)
    (h0 : W.cell? ⟨g, 0, none⟩ = some (.int .i64 d.x0)) (h1 : W.cell? ⟨g, 1, none⟩ = some (.int .i64 d.x1)) (hbase : base ≤ W.heap.size) (hlen : ms.length < 1000000)
    (h : ∀ v' w', OwnIDb w' base v' (ms ++ [d]).length (numsDb (ms ++ [d])) → Below base W w' → K (a.put o.dst v') w') :
    if Region.wanted o (yielded ops a.tmps) = true then Oper.wp Tryd.prog o a W K Q else E := by
  rw [if_pos (by simp [Region.wanted, hgd])]
  obtain ⟨i0, hi, hz0, hz1, hz2⟩ := info_parts infoDb
  refine wp_append_own _ s x t ho base 31 i0 (.agg #[.int .i64 0, .int .i64 0]) 2 16 ht hi hz0 hz1 hz2 rfl (by decide) v ms.length ((numsDb ms).map (Value.int .i64)) hs hown.1
    ⟨g, 0, none⟩ 1 c [.int .i64 d.x0, .int .i64 d.x1] hx rfl ?_ ?_ (by unfold maxLen; omega) (by omega) hbase ?_
  · intro j u hj
    match j, hj with
    | 0, hj => simp at hj; subst hj; rw [add_head]; exact h0
    | 1, hj => simp at hj; subst hj; rw [add_head]; exact h1
  · intro u hu; simp at hu; rcases hu with rfl | rfl <;> rfl
  · intro v' w' k1 k2 _
    refine h v' w' ⟨?_, ?_⟩ ?_
    · rw [numsDb_append, List.length_append, List.map_append, show numsDb [d] = [d.x0, d.x1] from by rw [numsDb_cons]; rfl]
      exact k1
    · rw [numsDb_length]
    · refine ((Below.refl base W).grown k2 hbase ?_)
      intro k hk
      exact (World.ownsRow.lt hown.1 k hk).1

set_option maxRecDepth 1000000 in
theorem specParseDoublings_any (l : List UInt8) (hl : l.length ≤ 1048576) (w : World) :
    Calls Tryd.prog 4 #[.string (bs l)] w (MadeRDb (dpL l) (dpOk l) w) := by
  have hlen := str_len l
  by_cases h300 : 300 < l.length
  · obtain ⟨e1, e2⟩ := dp_no h300
    rw [e1, e2]
    have h3 : 300 < (l.length : Int) := by omega
    clear e1 e2
    generalize bs l = s at *
    go_enter Tryd.func4, Tryd.ntmps4
    go_wp2_with fail
    go_ret2
    exact madeRDb_none (Below.refl _ _)
  by_cases he : l = []
  · subst he
    rw [show dpL [] = [] from rfl, show dpOk [] = true from rfl]
    have HL := hide (fun W => dbList_any none 0 0 0 [] W Dbs.none_ (Nat.zero_le _) (by omega))
    have HT := hide (fun W => dbText_any none 0 0 0 [] W Dbs.none_ (Nat.zero_le _) (by omega) rfl)
    rw [show dbsOk [] = true from rfl] at HL
    rw [show dbT [] = [] from rfl] at HT
    have e0 : ((bs []).toList == (bs []).toList) = true := by simp
    rw [show (([] : List UInt8).length : Nat) = 0 from rfl] at hlen
    generalize bs [] = s at *
    go_enter Tryd.func4, Tryd.ntmps4
    go_wp2_with fail
    refine (HL.out _).mono ?_; rintro e w1 ⟨rfl, hb1⟩
    go_wp2_with fail
    refine (HT.out _).mono ?_; rintro e w2 ⟨rfl, hb2⟩
    go_wp2_with fail
    go_ret2
    exact ⟨none, 0, rfl, OwnIDb.nil _ _, below_next hb1 hb2⟩
  · obtain ⟨ho, hL⟩ := dp_of he
    have hpl := sp_length l
    have hcl : l.count 45 ≤ l.length := List.count_le_length
    have hwn : (sp l).length ≤ 301 := by omega
    have hl0 : 0 < (l.length : Int) := by
      cases l with
      | nil => exact absurd rfl he
      | cons => simp
    have h3 : ¬ (300 < (l.length : Int)) := by omega
    have HS := hide (fun W => l1Split_any l W (by omega))
    have HB := hide (fun (h1 : twoAll (sp l) = true) (h2 : dbGoodL ((sp l).map dbOf) = true) => dbT_back l h1 h2)
    have Hpo := hide ho
    have HpL := hide hL
    have Hpl := hide (fun (k : Nat) (hk : k < (sp l).length) => str_len ((sp l).getD k []))
    have Hpi := hide (fun (k : Nat) (hk : k < (sp l).length) => str_at ((sp l).getD k []))
    clear ho hL hpl hcl he h300
    generalize hss : bs l = s at *
    have Hss := hide hss
    clear hss
    generalize sp l = ws at *
    go_enter Tryd.func4, Tryd.ntmps4
    go_wp2_with fail
    refine (HS.out _).mono ?_; rintro e w1 ⟨A, c, rfl, _, _, hown, hb1⟩
    have hstr := hown.strs
    have s1 := hb1.size
    go_wp2_with fail
    have HSt := hide hstr
    clear hstr hown
    go_loopw [4, 16] (fun v i wr => ∃ k : Nat, k ≤ ws.length ∧ i = .int .i64 k ∧ OwnIDb wr w1.heap.size v ((ws.map dbOf).take k).length (numsDb ((ws.map dbOf).take k)) ∧ Below w1.heap.size w1 wr ∧ (∀ (j : Nat) (hj : j < ws.length), j < k → (ws[j]'hj).length = 2))
      (fun _ i _ => ws.length - (intOf i).toNat)
    case atStart => exact ⟨0, Nat.zero_le _, rfl, OwnIDb.nil _ _, Below.refl _ _, fun j _ hj => by omega⟩
    case round =>
      obtain ⟨k, hk, rfl, hown, hb2, htwo⟩ := hrel
      have HW := hide htwo
      clear htwo
      have s2 := hb2.size
      by_cases hlt : k < ws.length
      · obtain ⟨ad, hada, hab, hcell⟩ := (HSt.out.below hb2 (Nat.le_refl _)).at_ hlt
        have HG := hide (show ws.getD k [] = ws[k] from by simp [List.getD, List.getElem?_eq_getElem hlt])
        have hpl := Hpl.out k hlt
        have HI := hide (Hpi.out k hlt)
        rw [HG.out] at hcell hpl HI
        have HT := hide (twoAll_not (ws := ws) k hlt)
        have HNx := hide (show (ws[k]'hlt).length = 2 → ∀ (j : Nat) (hj : j < ws.length), j < k + 1 → (ws[j]'hj).length = 2 from fun h j hj hjk => by
          by_cases e : j = k
          · subst e; exact h
          · exact HW.out j hj (by omega))
        have HM := hide (show (ws.map dbOf).take (k + 1) = (ws.map dbOf).take k ++ [dbOf (ws[k]'hlt)] from by
          rw [List.take_add_one, List.getElem?_map, List.getElem?_eq_getElem hlt]; rfl)
        have hll : ((ws.map dbOf).take k).length < 1000000 := by rw [List.length_take, List.length_map]; omega
        generalize (ws.map dbOf).take k = ms at *
        generalize ws[k] = pc at *
        subst hada
        by_cases h2 : pc.length = 2
        · rw [h2] at hpl
          have hi0 := HI.out 0 (by omega)
          have hi1 := HI.out 1 (by omega)
          have hx0 : (pc[0]'(by omega)).toNat < 256 := (pc[0]'(by omega)).toNat_lt
          have hx1 : (pc[1]'(by omega)).toNat < 256 := (pc[1]'(by omega)).toNat_lt
          have Hd := hide (show dbOf pc = ⟨((pc[0]'(by omega)).toNat : Int) - 48, ((pc[1]'(by omega)).toNat : Int) - 48⟩ from by
            unfold dbOf; simp [List.getD, h2])
          rw [show (((0 : Nat) : Int)) = 0 from rfl] at hi0
          rw [show (((1 : Nat) : Int)) = 1 from rfl] at hi1
          generalize (pc[0]'(by omega)).toNat = x0 at *
          generalize (pc[1]'(by omega)).toNat = x1 at *
          have HN2 := hide (HNx.out h2)
          clear h2
          generalize bs pc = pz at *
          have hO : OwnIDb (wr.alloc (.cells #[.int .i64 ((x0 : Int) - 48), .int .i64 ((x1 : Int) - 48)] 31)).drew w1.heap.size u4 ms.length (numsDb ms) := hown.keep (w' := wr.alloc (.cells #[.int .i64 ((x0 : Int) - 48), .int .i64 ((x1 : Int) - 48)] 31)) fun _ _ hg => Below.heap_alloc wr (.cells #[.int .i64 ((x0 : Int) - 48), .int .i64 ((x1 : Int) - 48)] 31) _ hg
          have HO := hide hO
          have hB : Below w1.heap.size wr (wr.alloc (.cells #[.int .i64 ((x0 : Int) - 48), .int .i64 ((x1 : Int) - 48)] 31)).drew := ((Below.refl w1.heap.size wr).alloc s2 _).drew
          have HB := hide hB
          have HBs := hide (show w1.heap.size ≤ (wr.alloc (.cells #[.int .i64 ((x0 : Int) - 48), .int .i64 ((x1 : Int) - 48)] 31)).drew.heap.size from Nat.le_trans s2 hB.size)
          have hw0 : IntKind.i64.wrap (x0 : Int) = (x0 : Int) := IntWalk.i64_in _ (by omega)
          have hw1 : IntKind.i64.wrap (x1 : Int) = (x1 : Int) := IntWalk.i64_in _ (by omega)
          have hw2 : IntKind.i64.wrap ((x0 : Int) - 48) = (x0 : Int) - 48 := IntWalk.i64_in _ (by omega)
          have hw3 : IntKind.i64.wrap ((x1 : Int) - 48) = (x1 : Int) - 48 := IntWalk.i64_in _ (by omega)
          clear hO hB
          go_wp2_with fail
          go_region_law (refine step_app_Db rfl (.tmp 23) (.tmp 33) 22 rfl Tryd.underlying22 w1.heap.size u4 ms (by simp [Act.eval, Act.put]) HO.out ⟨(x0 : Int) - 48, (x1 : Int) - 48⟩ wr.heap.size 1 (by simp [Act.eval, Act.put]) (by simp) (by simp) HBs.out hll ?_; intro v' w' hown' hb')
          all_goals
            have HO2 := hide hown'
            have HB2 := hide (HB.out.trans hb')
            rw [← Hd.out, ← HM.out] at HO2
            clear hown' hb' hw0 hw1 hw2 hw3
            go_wp2_with fail
            go_roundw
            case rel => exact ⟨k + 1, by omega, by go_num, HO2.out, hb2.trans HB2.out, HN2.out⟩
            case measure => simp [intOf]; omega
        · have HF := hide (HT.out h2)
          have HDo := hide (show dpOk l = false from by rw [Hpo.out, HF.out]; rfl)
          have HDl := hide (show dpL l = [] from by unfold dpL; rw [HDo.out]; rfl)
          have h2i : ¬ ((pc.length : Int) = 2) := by omega
          rw [HDo.out, HDl.out]
          generalize bs pc = pz at *
          clear h2
          go_wp2_with fail
          go_ret2
          exact madeRDb_none (below_next hb1 hb2)
      · have HTw := hide (twoAll_yes (ws := ws) (fun j hj => HW.out j hj (by omega)))
        have hkl : (ws.map dbOf).take k = ws.map dbOf := List.take_of_length_le (by rw [List.length_map]; omega)
        have hml : (ws.map dbOf).length = ws.length := by simp
        rw [hkl, hml] at hown
        have HML := hide hml
        obtain ⟨A', c', rfl⟩ := hown.shape
        have HLs := hide (dbList_any A' ws.length c' wr.heap.size (ws.map dbOf) wr hown.list (Nat.le_refl _) (by omega))
        have Hown := hide hown
        have hpo := Hpo.out
        rw [HTw.out, Bool.true_and] at hpo
        clear hkl hown hml
        cases hd : dbsOk (ws.map dbOf)
        · rw [hd] at hpo HLs
          have HDo := hide hpo
          have HDl := hide (show dpL l = [] from by unfold dpL; rw [HDo.out]; rfl)
          clear hpo hd
          go_wp2_with fail
          refine HLs.out.mono ?_; rintro e w2 ⟨rfl, hb3⟩
          go_wp2_with fail
          go_ret2
          rw [HDo.out, HDl.out]
          exact madeRDb_none (below_next hb1 (below_next hb2 hb3))
        · have hgl : dbGoodL (ws.map dbOf) = true ∧ ws.length ≤ 100 := by
            unfold dbsOk at hd
            simp only [Bool.and_eq_true, decide_eq_true_eq] at hd
            exact ⟨hd.2, by have := hd.1; rw [HML.out] at this; exact this⟩
          have HTx := hide (fun (W : World) (hb : Below wr.heap.size wr W) => dbText_any A' ws.length c' wr.heap.size (ws.map dbOf) W (Hown.out.list.below hb (Nat.le_refl _)) hb.size hgl.2 hgl.1)
          rw [HB.out HTw.out hgl.1, Hss.out] at HTx
          rw [hd] at hpo HLs
          have HDo := hide hpo
          have HDl := hide (HpL.out hpo)
          have e0 : (s.toList == s.toList) = true := by simp
          clear hpo hd hgl
          go_wp2_with fail
          refine HLs.out.mono ?_; rintro e w2 ⟨rfl, hb3⟩
          go_wp2_with fail
          refine (HTx.out _ hb3).mono ?_; rintro e w3 ⟨rfl, hb4⟩
          have Hown2 := hide ((Hown.out.below hb3).below hb4)
          go_wp2_with fail
          go_ret2
          rw [HDo.out, HDl.out]
          exact ⟨A', c', by rw [HML.out]; rfl, by rw [HML.out]; exact Hown2.out.less s1, below_next (below_next hb1 (below_next hb2 hb3)) hb4⟩
end Go.Proofs.YtlblajmblaknoaaDoor
