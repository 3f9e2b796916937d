import Derived.Test.YtnakkmmmkbjfbaaMg05
import Derived.StillTailTactics
import Derived.Test.YtnakkmmmkbjfbaaMg13
import Derived.Laws.IdiomCopy
import Derived.Lib.LazyBuf

/-
  LISTS OF STRUCTS OF 2 NUMBERS (impl.Doubling), THE SECOND PART: szDoublingS, eqDoublingS. Printed by structs.py.
-/
namespace Go.Proofs.Ytnakkmmmkbjfbaa
open Go.RowKit Go.Deep
set_option linter.unusedVariables false

set_option maxRecDepth 1000000 in
theorem eqDoublingS_same (A A' : Option Addr) (n c c' B B' : Nat) (ms : List Db) (w : World) (hr : Dbs w B A n ms) (hr' : Dbs w B' A' n ms) (hB : B ≤ w.heap.size) (hB' : B' ≤ w.heap.size) (hn : n ≤ 1099511627776) :
    Calls Try.prog 13 #[.slice A n c, .slice A' n c'] w fun e w' => e = .returned (.bool true) ∧ Below w.heap.size w w' := by
  obtain rfl := hr.len
  have hne : ((ms.length : Int) != (ms.length : Int)) = false := by simp
  go_enter Try.func13, Try.ntmps13
  go_wp2
  go_loopw [5] (fun i wr => ∃ k : Nat, k ≤ ms.length ∧ i = .int .i64 k ∧ Below w.heap.size w wr)
    (fun i _ => ms.length - (intOf i).toNat)
  case atStart => exact ⟨0, Nat.zero_le _, rfl, Below.refl _ _⟩
  case round =>
    obtain ⟨k, hk, rfl, hb⟩ := hrel
    have hsz := hb.size
    by_cases hlt : k < ms.length
    · obtain ⟨b, off, rfl, hab, hc0, hc1⟩ := (hr.below hb (by omega)).at_ hlt hlt
      obtain ⟨b', off', rfl, hab', hd0, hd1⟩ := (hr'.below hb (by omega)).at_ hlt hlt
      generalize ms[k] = m at *
      go_wp2_with fail
      go_still_tail 8, (by kernel_rfl)
      go_wp2_with fail
      refine (eqDoubling_same m _).mono ?_
      rintro e w' ⟨rfl, hb'⟩
      go_wp2_with fail
      go_roundw
      case rel => exact ⟨k + 1, by omega, by go_num, below_next (w1 := wr.drew) hb.drew hb'⟩
      case measure => simp [intOf]; omega
    · go_wp2
      go_ret
      exact ⟨rfl, hb⟩
end Go.Proofs.Ytnakkmmmkbjfbaa

/-
  slices.IndexFunc, slices.DeleteFunc AT DOUBLINGS, with the closure of 'doublings'.
-/
namespace Go.Proofs.Ytnakkmmmkbjfbaa
open Go.RowKit Go.Deep
set_option linter.unusedVariables false

theorem OwnIDb.put {w : World} {base g n c : Nat} {ms : List Db} (h : OwnIDb w base (.slice (some ⟨g, 0, none⟩) n c) n (numsDb ms)) (i : Nat) (hi : i < ms.length) (d : Db) :
    OwnIDb ((w.setCell ⟨g, i * 2, none⟩ (.int .i64 d.x0)).setCell ⟨g, i * 2 + 1, none⟩ (.int .i64 d.x1)) base (.slice (some ⟨g, 0, none⟩) n c) n (numsDb (ms.set i d)) := by
  have hl := h.2
  rw [numsDb_length] at hl
  refine ⟨?_, by rw [numsDb_length, List.length_set]; omega⟩
  have h1 := (World.ownsRow.stored (World.ownsRow.stored h.1 (i * 2) (.int .i64 d.x0)).1 (i * 2 + 1) (.int .i64 d.x1)).1
  rw [← List.map_set, ← List.map_set] at h1
  have e : numsDb (ms.set i d) = ((numsDb ms).set (i * 2) d.x0).set (i * 2 + 1) d.x1 := by
    apply List.ext_getElem?
    intro j
    rw [numsDb_get, List.length_set, List.getElem?_set, List.length_set, numsDb_length, List.getElem?_set, numsDb_length, numsDb_get]
    by_cases h0 : i * 2 + 1 = j
    · subst h0
      rw [if_pos rfl, if_pos (by omega), if_pos (by omega)]
      unfold numDb
      simp [show (i * 2 + 1) % 2 = 1 from by omega, show (i * 2 + 1) / 2 = i from by omega, List.getD, hi]
    · rw [if_neg h0]
      by_cases h1 : i * 2 = j
      · subst h1
        rw [if_pos rfl, if_pos (by omega), if_pos (by omega)]
        unfold numDb
        simp [show (i * 2) / 2 = i from by omega, List.getD, hi]
      · rw [if_neg h1]
        have hne : i ≠ j / 2 := by omega
        unfold numDb
        simp [List.getD, List.getElem?_set_ne hne]
  rw [e]
  exact h1
theorem OwnIDb.cut {w : World} {base g n c : Nat} {ms : List Db} (h : OwnIDb w base (.slice (some ⟨g, 0, none⟩) n c) n (numsDb ms)) (i : Nat) (hi : i ≤ n) :
    OwnIDb w base (.slice (some ⟨g, 0, none⟩) i c) i (numsDb (ms.take i)) := by
  have hl := h.2
  rw [numsDb_length] at hl
  have e : numsDb (ms.take i) = (numsDb ms).take (i * 2) := by
    apply List.ext_getElem?
    intro j
    rw [numsDb_get, List.getElem?_take, numsDb_get, List.length_take]
    by_cases h1 : j < i * 2
    · rw [if_pos (by omega), if_pos h1, if_pos (by omega)]
      unfold numDb
      simp [List.getD, List.getElem?_take, show j / 2 < i from by omega]
    · rw [if_neg (by omega), if_neg h1]
  refine ⟨⟨?_, ?_⟩, by rw [numsDb_length, List.length_take]; omega⟩
  · rw [List.length_map, numsDb_length, List.length_take]; omega
  · rcases h.1.2 with ⟨hv, _⟩ | ⟨g', cap, cur, hv, hb, hg, hn, hm, hc, ht⟩
    · cases hv
    · cases hv
      refine .inr ⟨g, c, cur, rfl, hb, hg, by omega, hm, hc, ?_⟩
      rw [e, List.map_take, ← ht, List.take_take, Nat.min_eq_left (by omega)]
theorem OwnIDb.clear {base g i c : Nat} {xs : List Int} : ∀ (vs : List Value) (o : Nat) (w : World), i * 2 ≤ o → OwnIDb w base (.slice (some ⟨g, 0, none⟩) i c) i xs → OwnIDb (w.setCells g o vs) base (.slice (some ⟨g, 0, none⟩) i c) i xs
  | [], _, _, _, h => h
  | v :: r, o, w, ho, h => by
    refine OwnIDb.clear r (o + 1) _ (by omega) ⟨?_, h.2⟩
    have h1 := (World.ownsRow.stored h.1 o v).1
    rw [List.set_eq_of_length_le (by rw [List.length_map, h.2]; exact ho)] at h1
    exact h1

theorem run_clear_db (w : World) (ty : TypeId) (b o n c : Nat) (hn : 0 < n)
    (hc : ∀ j, j < n * 2 → (w.cell? ⟨b, o + j, none⟩).isSome = true) (hf : ∀ j, j < n * 2 → w.frozen? ⟨b, o + j, none⟩ = false) :
    (Builtin.clear_ #[28] ty #[.slice (some ⟨b, o, none⟩) n c]).run Try.prog w = .ok (.tuple #[]) (w.setCells b o (List.replicate (n * 2) (.int .i64 0))) := by
  have hv : ∀ w, (zeroValue 38).run Try.prog w = .ok (.agg #[.int .i64 0, .int .i64 0]) w := fun w => by kernel_rfl
  have hzc : (Builtin.zeroCells (Value.agg #[.int .i64 0, .int .i64 0]).cells n).toList = List.replicate (n * 2) (Value.int .i64 0) := by
    simp [Builtin.zeroCells, Value.cells]
    apply List.ext_getElem
    · simp
    · intro i h1 h2
      have : i % 2 = 0 ∨ i % 2 = 1 := by omega
      rcases this with h | h <;> simp [h]
  have hst := run_storeCells_cells (P := Try.prog) b o (List.replicate (n * 2) (Value.int .i64 0)) 0 w (by simpa using hc) (by simpa using hf) (by intro v hv'; rw [List.eq_of_mem_replicate hv']; rfl)
  simp only [Nat.add_zero] at hst
  obtain ⟨m, rfl⟩ : ∃ m, n = m + 1 := ⟨n - 1, by omega⟩
  simp [Builtin.clear_, run_underlying Try.underlying28, hv, hzc, hst]

/-- Kept by the closure. -/
def keepD (zs : List Int) (d : Db) : Bool := canD zs d.x0 d.x1
def FN (br : Nat) : Value := .func (Fn.func 56) #[] #[.pointer (some ⟨br, 0, none⟩)]

set_option maxRecDepth 1000000 in
theorem IndexFunc_any (base g n c br : Nat) (L : List Db) (zs : List Int) (w : World) (hs : small zs) (hz : zs.length ≤ 4) (hown : OwnIDb w base (.slice (some ⟨g, 0, none⟩) n c) n (numsDb L)) (hn : n ≤ 100000)
    (hbr : br < w.heap.size) (hrow : w.rowIs br 42 4 (fun j => .int .i64 (pd zs j))) :
    Calls Try.prog 58 #[.slice (some ⟨g, 0, none⟩) n c, .func (Fn.func 56) #[] #[.pointer (some ⟨br, 0, none⟩)]] w
      fun e w' => (∃ i : Nat, i ≤ L.length ∧ (∀ (j : Nat) (_ : j < L.length), j < i → keepD zs L[j] = true) ∧ (∀ (h : i < L.length), keepD zs L[i] = false) ∧ e = .returned (.int .i64 (if i < L.length then (i : Int) else -1))) ∧ Below w.heap.size w w' := by
  have hr := hown.list
  have hl := hr.len
  subst hl
  have HF := hide (fun (d : Db) W (h : W.rowIs br 42 4 (fun j => .int .i64 (pd zs j))) => dblFn_any zs d br W hs hz h)
  have Hrow := hide hrow
  clear hs hrow hown
  go_enter Try.func58, Try.ntmps58
  go_wp2_with fail
  go_loopw [8] (fun i wr => ∃ k : Nat, k ≤ L.length ∧ i = .int .i64 k ∧ Hid (∀ (j : Nat) (_ : j < L.length), j < k → keepD zs L[j] = true) ∧ Below w.heap.size w wr)
    (fun i _ => L.length - (intOf i).toNat)
  case atStart => exact ⟨0, Nat.zero_le _, rfl, hide (fun _ _ h => by omega), Below.refl _ _⟩
  case round =>
    obtain ⟨k, hk, rfl, HAll, hb⟩ := hrel
    have hb0 := hb.size
    by_cases hlt : k < L.length
    · obtain ⟨b, off, hA, hab, hc0, hc1⟩ := (hr.below hb (Nat.le_refl _)).at_ hlt hlt
      obtain ⟨rfl, rfl⟩ : b = g ∧ off = 0 := by injection hA with h; injection h with h1 h2 _; exact ⟨h1.symm, h2.symm⟩
      rw [Nat.zero_add] at hc0 hc1
      have HFk := hide (HF.out L[k] wr (Hrow.out.of_block (hb.block _ hbr)))
      clear hA
      cases hkp : keepD zs L[k]
      · have hkp' : canD zs L[k].x0 L[k].x1 = false := hkp
        have HK := hide hkp
        rw [hkp'] at HFk
        clear hkp hkp'
        generalize hdk : L[k] = d at *
        have HDK := hide hdk
        clear hdk
        go_wp2_with fail
        refine HFk.out.mono ?_; rintro e w2 ⟨rfl, hb2⟩
        go_wp2_with fail
        go_ret
        refine ⟨⟨k, by omega, HAll.out, fun h => by rw [HDK.out]; exact HK.out, ?_⟩, below_next hb hb2⟩
        rw [if_pos hlt]; rfl
      · have hkp' : canD zs L[k].x0 L[k].x1 = true := hkp
        have HK := hide hkp
        rw [hkp'] at HFk
        clear hkp hkp'
        generalize hdk : L[k] = d at *
        have HDK := hide hdk
        clear hdk
        go_wp2_with fail
        refine HFk.out.mono ?_; rintro e w2 ⟨rfl, hb2⟩
        go_wp2_with fail
        go_roundw
        case rel =>
          refine ⟨k + 1, by omega, by go_num, hide (fun j hj hjk => ?_), below_next hb hb2⟩
          rcases Nat.lt_or_ge j k with h | h
          · exact HAll.out j hj h
          · have e : j = k := by omega
            subst e; rw [HDK.out]; exact HK.out
        case measure => simp [intOf]; omega
    · go_wp2_with fail
      go_ret
      refine ⟨⟨k, by omega, HAll.out, fun h => absurd h hlt, ?_⟩, hb⟩
      rw [if_neg hlt]; rfl

theorem filter_all {α : Type} {p : α → Bool} : ∀ (L : List α), (∀ (j : Nat) (_ : j < L.length), p L[j] = true) → L.filter p = L := fun L h =>
  List.filter_eq_self.2 fun x hx => by obtain ⟨j, hj, rfl⟩ := List.getElem_of_mem hx; exact h j hj
theorem take_all {α : Type} {p : α → Bool} (L : List α) (i : Nat) (h : ∀ (j : Nat) (_ : j < L.length), j < i → p L[j] = true) : (L.take i).filter p = L.take i :=
  filter_all _ fun j hj => by
    rw [List.getElem_take]
    exact h j (by rw [List.length_take] at hj; omega) (by rw [List.length_take] at hj; omega)
theorem filter_take_succ {α : Type} {p : α → Bool} (L : List α) (j : Nat) (hj : j < L.length) : (L.take (j + 1)).filter p = (L.take j).filter p ++ (if p L[j] then [L[j]] else []) := by
  rw [List.take_succ_eq_append_getElem hj, List.filter_append]
  congr 1
  simp [List.filter_cons]

set_option maxRecDepth 1000000 in
set_option maxHeartbeats 2000000 in
theorem DeleteFunc_any (base g c br : Nat) (L : List Db) (zs : List Int) (w : World) (hs : small zs) (hz : zs.length ≤ 4) (hown : OwnIDb w base (.slice (some ⟨g, 0, none⟩) L.length c) L.length (numsDb L)) (hn : L.length ≤ 100000) (hc : L.length ≤ c) (hc2 : c ≤ maxLen)
    (hg : base ≤ g) (hgw : g < w.heap.size) (hbr : br < base) (hrow : w.rowIs br 42 4 (fun j => .int .i64 (pd zs j))) :
    Calls Try.prog 54 #[.slice (some ⟨g, 0, none⟩) L.length c, .func (Fn.func 56) #[] #[.pointer (some ⟨br, 0, none⟩)]] w
      fun e w' => e = .returned (.slice (some ⟨g, 0, none⟩) (L.filter (keepD zs)).length c) ∧ OwnIDb w' base (.slice (some ⟨g, 0, none⟩) (L.filter (keepD zs)).length c) (L.filter (keepD zs)).length (numsDb (L.filter (keepD zs))) ∧ Below base w w' := by
  have HI := hide (IndexFunc_any base g L.length c br L zs w hs hz hown hn (by omega) hrow)
  have HF := hide (fun (d : Db) W (h : W.rowIs br 42 4 (fun j => .int .i64 (pd zs j))) => dblFn_any zs d br W hs hz h)
  have Hrow := hide hrow
  have Hown := hide hown
  clear hs hrow hown
  unfold maxLen at hc2
  go_enter Try.func54, Try.ntmps54
  go_wp2_with fail
  refine HI.out.mono ?_; rintro e w1 ⟨⟨i, hi, hkeep, hdel, rfl⟩, hb1⟩
  have HKeep := hide hkeep
  have HDel := hide hdel
  clear hkeep hdel
  by_cases hil : i < L.length
  · rw [if_pos hil]
    have hne : ((i : Int) == -1) = false := by simp <;> omega
    go_wp2_with fail
    go_loopw [5, 6] (fun a b wr => ∃ (i j : Nat) (cur : List Db), a = .int .i64 i ∧ b = .int .i64 j ∧ i < j ∧ j ≤ L.length ∧ Hid (cur.length = L.length) ∧ Hid (cur.take i = (L.take j).filter (keepD zs)) ∧ Hid (∀ k, j ≤ k → cur[k]? = L[k]?) ∧
        OwnIDb wr base (.slice (some ⟨g, 0, none⟩) L.length c) L.length (numsDb cur) ∧ Below base w wr)
      (fun _ b _ => L.length - (intOf b).toNat)
    case atStart =>
      refine ⟨i, i + 1, L, rfl, by go_num, by omega, by omega, hide rfl, hide ?_, hide (fun _ _ => rfl), Hown.out.below hb1, hb1.mono (by omega)⟩
      rw [filter_take_succ L i hil, HDel.out hil, take_all L i HKeep.out]; simp
    case round =>
      clear hil hi HKeep HDel
      obtain ⟨i, j, cur, rfl, rfl, hij, hj, HL, HT, HR, hown, hb⟩ := hrel
      have hbs := hb.size
      have hr := hown.list
      by_cases hlt : j < L.length
      · have hltc : j < cur.length := by rw [HL.out]; exact hlt
        obtain ⟨b, off, hA, hab, hc0, hc1⟩ := hr.at_ hlt hltc
        obtain ⟨rfl, rfl⟩ : g = b ∧ 0 = off := by injection hA with h; injection h with h1 h2 _; exact ⟨h1, h2⟩
        rw [Nat.zero_add] at hc0 hc1
        have hcj : cur[j] = L[j] := by
          have := HR.out j (Nat.le_refl _)
          rw [List.getElem?_eq_getElem hltc, List.getElem?_eq_getElem hlt] at this
          exact Option.some.inj this
        rw [hcj] at hc0 hc1
        have Hcj := hide hcj
        have hro := (Hrow.out.of_block (hb.block _ hbr)).of_block (w' := wr.alloc (.cells #[.int .i64 L[j].x0, .int .i64 L[j].x1] 38)) (Below.heap_alloc _ _ _ (by omega))
        have hfj := HF.out L[j] _ hro
        have Hown2 := hide hown
        clear hA hr hcj hro hown
        cases hkp : keepD zs L[j]
        · have hkp' : canD zs L[j].x0 L[j].x1 = false := hkp
          have HT2 := hide (show cur.take i = (L.take (j + 1)).filter (keepD zs) from by rw [filter_take_succ L j hlt, hkp, HT.out]; simp)
          rw [hkp'] at hfj
          have HFj := hide hfj
          clear hkp hkp' hfj
          generalize L[j] = d at *
          go_wp2_with fail
          refine HFj.out.mono ?_; rintro e w2 ⟨rfl, hb2⟩
          go_wp2_with fail
          go_roundw
          case rel =>
            exact ⟨i, j + 1, cur, rfl, by go_num, by omega, by omega, HL, HT2, hide (fun k hk => HR.out k (by omega)), (Hown2.out.keep (fun _ _ hg => Below.heap_alloc _ _ _ hg)).below hb2, (hb.alloc (by omega) _).trans (hb2.mono (by simp; omega))⟩
          case measure => simp [intOf]; omega
        · have hkp' : canD zs L[j].x0 L[j].x1 = true := hkp
          have hic : i < cur.length := by omega
          have HT2 := hide (show (cur.set i L[j]).take (i + 1) = (L.take (j + 1)).filter (keepD zs) from by
            rw [filter_take_succ L j hlt, hkp, ← HT.out, List.take_succ_eq_append_getElem (by rw [List.length_set]; exact hic), List.getElem_set_self, List.take_set_of_le (by omega)]; simp)
          have HR2 := hide (show ∀ k, j + 1 ≤ k → (cur.set i L[j])[k]? = L[k]? from fun k hk => by rw [List.getElem?_set_ne (by omega)]; exact HR.out k (by omega))
          have HL2 := hide (show (cur.set i L[j]).length = L.length from by rw [List.length_set]; exact HL.out)
          have hputs := fun W (h : OwnIDb W base (.slice (some ⟨g, 0, none⟩) L.length c) L.length (numsDb cur)) => h.put i hic L[j]
          have HPut := hide hputs
          have Hic := hide hic
          rw [hkp'] at hfj
          have HFj := hide hfj
          clear hkp hkp' hfj hputs hic
          generalize L[j] = d at *
          have k0 : (wr.alloc (.cells #[.int .i64 d.x0, .int .i64 d.x1] 38)).cell? ⟨wr.heap.size, 0, none⟩ = some (.int .i64 d.x0) := by simp
          have k1 : (wr.alloc (.cells #[.int .i64 d.x0, .int .i64 d.x1] 38)).cell? ⟨wr.heap.size, 1, none⟩ = some (.int .i64 d.x1) := by simp
          have z0 : wr.heap.size < (wr.alloc (.cells #[.int .i64 d.x0, .int .i64 d.x1] 38)).heap.size := by simp
          have hbo := hb.alloc (by omega) (.cells #[.int .i64 d.x0, .int .i64 d.x1] 38)
          have hown0 := Hown2.out.keep (w' := wr.alloc (.cells #[.int .i64 d.x0, .int .i64 d.x1] 38)) (fun _ _ hg => Below.heap_alloc _ _ _ hg)
          have Hown0 := hide hown0
          clear hown0
          go_wp2_with fail
          generalize (wr.alloc (.cells #[.int .i64 d.x0, .int .i64 d.x1] 38)) = W0 at *
          refine HFj.out.mono ?_; rintro e w2 ⟨rfl, hb2⟩
          have c0 := (hb2.cell (p := ⟨wr.heap.size, 0, none⟩) z0).trans k0
          have c1 := (hb2.cell (p := ⟨wr.heap.size, 1, none⟩) z0).trans k1
          have hown2 := Hown0.out.below hb2
          have o0 := hown2.at_ (k := i * 2) (by omega) (by rw [numsDb_length, HL.out]; omega)
          have o1 := hown2.at_ (k := i * 2 + 1) (by omega) (by rw [numsDb_length, HL.out]; omega)
          have f0 := World.ownsRow.frozenAt hown2.1 (i * 2)
          have f1 := World.ownsRow.frozenAt hown2.1 (i * 2 + 1)
          have HP := hide (HPut.out w2 hown2)
          have hii : (i : Int) < (L.length : Int) := by omega
          clear k0 k1 hown2
          go_wp2_with fail
          go_roundw
          case rel =>
            exact ⟨i + 1, j + 1, cur.set i d, by go_num, by go_num, by omega, by omega, HL2, HT2, HR2, HP.out, ((hbo.trans (hb2.mono (by omega))).setCell hg _ (p := ⟨g, i * 2, none⟩)).setCell hg _ (p := ⟨g, i * 2 + 1, none⟩)⟩
          case measure => simp [intOf]; omega
      · have hjn : j = L.length := by omega
        have HTn := hide (show cur.take i = L.filter (keepD zs) from by rw [HT.out, hjn, List.take_length])
        have hni : 0 < L.length - i := by omega
        have hclr := fun ty => run_clear_db wr ty g (i * 2) (L.length - i) (c - i) hni
          (fun k hk => by rw [hown.at_ (k := i * 2 + k) (by omega) (by rw [numsDb_length, HL.out]; omega)]; rfl)
          (fun k _ => World.ownsRow.frozenAt hown.1 (i * 2 + k))
        have HX := hide (OwnIDb.clear (List.replicate ((L.length - i) * 2) (.int .i64 0)) (i * 2) wr (Nat.le_refl _) (hown.cut i (by omega)))
        have HB := hide (_root_.Go.below_setCells (B := base) (b := g) hg (List.replicate ((L.length - i) * 2) (.int .i64 0)) (i * 2) wr hb)
        have hii : (i : Int) ≤ (L.length : Int) := by omega
        have hci : (i : Int) ≤ (c : Int) := by omega
        have hic2 : i < c := by omega
        have HLf := hide (show (L.filter (keepD zs)).length = i from by rw [← HTn.out, List.length_take, HL.out]; omega)
        clear hr hown hjn
        go_wp2_with fail
        go_ret
        exact ⟨by rw [HLf.out]; rfl, by rw [HLf.out, ← HTn.out]; exact HX.out, HB.out⟩
  · rw [if_neg hil]
    have HE := hide (show L.filter (keepD zs) = L from filter_all L (fun j hj => HKeep.out j hj (by omega)))
    go_wp2_with fail
    go_ret
    rw [HE.out]
    exact ⟨rfl, Hown.out.below hb1, hb1.mono (by omega)⟩

theorem innD_filter (zs : List Int) (f : Nat) : ∀ j, innD zs f j = ((List.range j).map fun (t : Nat) => (⟨(f : Int), (t : Int)⟩ : Db)).filter (keepD zs)
  | 0 => rfl
  | j + 1 => by
    rw [innD, innD_filter zs f j, List.range_succ, List.map_append, List.filter_append]
    congr 1
    cases h : canD zs (f : Int) (j : Int) <;> simp [List.filter_cons, keepD, h]
theorem keep_no {zs : List Int} {f t : Nat} (h : ¬ (f < zs.length ∧ t < zs.length ∧ f ≠ t)) : keepD zs ⟨(f : Int), (t : Int)⟩ = false := canD_no (fun hc => h ⟨by have := hc.2.1; simp only at this; omega, by have := hc.2.2.2.1; simp only at this; omega, by have := hc.2.2.2.2.1; simp only at this; omega⟩)
theorem all12_eq : all12 = [⟨0, 1⟩, ⟨0, 2⟩, ⟨0, 3⟩, ⟨1, 0⟩, ⟨1, 2⟩, ⟨1, 3⟩, ⟨2, 0⟩, ⟨2, 1⟩, ⟨2, 3⟩, ⟨3, 0⟩, ⟨3, 1⟩, ⟨3, 2⟩] := rfl
theorem all_eq (zs : List Int) (h2 : 2 ≤ zs.length) (h4 : zs.length ≤ 4) : all12.filter (keepD zs) = allD zs := by
  have n00 : keepD zs ⟨0, 0⟩ = false := keep_no (f := 0) (t := 0) (by omega)
  have n11 : keepD zs ⟨1, 1⟩ = false := keep_no (f := 1) (t := 1) (by omega)
  have n22 : keepD zs ⟨2, 2⟩ = false := keep_no (f := 2) (t := 2) (by omega)
  have n33 : keepD zs ⟨3, 3⟩ = false := keep_no (f := 3) (t := 3) (by omega)
  rw [all12_eq]
  unfold allD
  have hl : zs.length = 2 ∨ zs.length = 3 ∨ zs.length = 4 := by omega
  rcases hl with h | h | h
  · have m02 : keepD zs ⟨0, 2⟩ = false := keep_no (f := 0) (t := 2) (by omega)
    have m03 : keepD zs ⟨0, 3⟩ = false := keep_no (f := 0) (t := 3) (by omega)
    have m12 : keepD zs ⟨1, 2⟩ = false := keep_no (f := 1) (t := 2) (by omega)
    have m13 : keepD zs ⟨1, 3⟩ = false := keep_no (f := 1) (t := 3) (by omega)
    have m20 : keepD zs ⟨2, 0⟩ = false := keep_no (f := 2) (t := 0) (by omega)
    have m21 : keepD zs ⟨2, 1⟩ = false := keep_no (f := 2) (t := 1) (by omega)
    have m23 : keepD zs ⟨2, 3⟩ = false := keep_no (f := 2) (t := 3) (by omega)
    have m30 : keepD zs ⟨3, 0⟩ = false := keep_no (f := 3) (t := 0) (by omega)
    have m31 : keepD zs ⟨3, 1⟩ = false := keep_no (f := 3) (t := 1) (by omega)
    have m32 : keepD zs ⟨3, 2⟩ = false := keep_no (f := 3) (t := 2) (by omega)
    have a0 : (List.range 2).map (fun (t : Nat) => (⟨((0 : Nat) : Int), (t : Int)⟩ : Db)) = [⟨0, 0⟩, ⟨0, 1⟩] := rfl
    have a1 : (List.range 2).map (fun (t : Nat) => (⟨((1 : Nat) : Int), (t : Int)⟩ : Db)) = [⟨1, 0⟩, ⟨1, 1⟩] := rfl
    rw [h]
    simp only [outD, h, innD_filter, a0, a1, List.nil_append, ← List.filter_append, List.cons_append]
    simp only [List.filter_cons, n00, n11, n22, n33, m02, m03, m12, m13, m20, m21, m23, m30, m31, m32, Bool.false_eq_true, if_false, List.filter_nil]
  · have m03 : keepD zs ⟨0, 3⟩ = false := keep_no (f := 0) (t := 3) (by omega)
    have m13 : keepD zs ⟨1, 3⟩ = false := keep_no (f := 1) (t := 3) (by omega)
    have m23 : keepD zs ⟨2, 3⟩ = false := keep_no (f := 2) (t := 3) (by omega)
    have m30 : keepD zs ⟨3, 0⟩ = false := keep_no (f := 3) (t := 0) (by omega)
    have m31 : keepD zs ⟨3, 1⟩ = false := keep_no (f := 3) (t := 1) (by omega)
    have m32 : keepD zs ⟨3, 2⟩ = false := keep_no (f := 3) (t := 2) (by omega)
    have a0 : (List.range 3).map (fun (t : Nat) => (⟨((0 : Nat) : Int), (t : Int)⟩ : Db)) = [⟨0, 0⟩, ⟨0, 1⟩, ⟨0, 2⟩] := rfl
    have a1 : (List.range 3).map (fun (t : Nat) => (⟨((1 : Nat) : Int), (t : Int)⟩ : Db)) = [⟨1, 0⟩, ⟨1, 1⟩, ⟨1, 2⟩] := rfl
    have a2 : (List.range 3).map (fun (t : Nat) => (⟨((2 : Nat) : Int), (t : Int)⟩ : Db)) = [⟨2, 0⟩, ⟨2, 1⟩, ⟨2, 2⟩] := rfl
    rw [h]
    simp only [outD, h, innD_filter, a0, a1, a2, List.nil_append, ← List.filter_append, List.cons_append]
    simp only [List.filter_cons, n00, n11, n22, n33, m03, m13, m23, m30, m31, m32, Bool.false_eq_true, if_false, List.filter_nil]
  · have a0 : (List.range 4).map (fun (t : Nat) => (⟨((0 : Nat) : Int), (t : Int)⟩ : Db)) = [⟨0, 0⟩, ⟨0, 1⟩, ⟨0, 2⟩, ⟨0, 3⟩] := rfl
    have a1 : (List.range 4).map (fun (t : Nat) => (⟨((1 : Nat) : Int), (t : Int)⟩ : Db)) = [⟨1, 0⟩, ⟨1, 1⟩, ⟨1, 2⟩, ⟨1, 3⟩] := rfl
    have a2 : (List.range 4).map (fun (t : Nat) => (⟨((2 : Nat) : Int), (t : Int)⟩ : Db)) = [⟨2, 0⟩, ⟨2, 1⟩, ⟨2, 2⟩, ⟨2, 3⟩] := rfl
    have a3 : (List.range 4).map (fun (t : Nat) => (⟨((3 : Nat) : Int), (t : Int)⟩ : Db)) = [⟨3, 0⟩, ⟨3, 1⟩, ⟨3, 2⟩, ⟨3, 3⟩] := rfl
    rw [h]
    simp only [outD, h, innD_filter, a0, a1, a2, a3, List.nil_append, ← List.filter_append, List.cons_append]
    simp only [List.filter_cons, n00, n11, n22, n33, Bool.false_eq_true, if_false, List.filter_nil]
end Go.Proofs.Ytnakkmmmkbjfbaa
