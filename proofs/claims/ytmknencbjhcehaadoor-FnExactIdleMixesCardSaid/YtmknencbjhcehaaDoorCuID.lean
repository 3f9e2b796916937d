
/-
  THE PROGRAM's IdleMixes: the closure, slices.IndexFunc, slices.DeleteFunc over lists of lists.
-/
import Derived.Test.YtmknencbjhcehaaDoorCuIM
import Derived.Test.YtmknencbjhcehaaDoorCu
import Derived.Test.YtmknencbjhcehaaDoorTz
import Derived.Laws.IdiomCopy
import Derived.Lib.LazyBuf
namespace Go.Proofs.YtmknencbjhcehaaDoor
open Go.RowKit Go.Deep
set_option linter.unusedVariables false

/-- All that was there is as it was, but for block g. -/
def Same (w : World) (g : Nat) (w' : World) : Prop := ∀ h, h < w.heap.size → h ≠ g → w'.heap[h]? = w.heap[h]?
theorem Same.refl (w : World) (g : Nat) : Same w g w := fun _ _ _ => rfl
theorem Same.next {w w1 w2 : World} {g : Nat} (h : Same w g w1) (hs : w.heap.size ≤ w1.heap.size) (hb : Below w1.heap.size w1 w2) : Same w g w2 := fun k hk hne => (hb.block k (by omega)).trans (h k hk hne)
theorem Same.setCell {w w1 : World} {g : Nat} (h : Same w g w1) (i : Nat) (v : Value) : Same w g (w1.setCell ⟨g, i, none⟩ v) := fun k hk hne => (Below.heap_setCell _ _ _ _ hne).trans (h k hk hne)
theorem cell_same {w w' : World} {p : Addr} (h : w'.heap[p.block]? = w.heap[p.block]?) : w'.cell? p = w.cell? p := by simp only [World.cell?, h]

/-- The closure's answer at the pair x, in every world that is as w but for block g. -/
def Tells (w : World) (g br : Nat) (zs : List Int) (x : Value × List Int) : Prop :=
  ∀ W, Same w g W → w.heap.size ≤ W.heap.size → Calls Tryd.prog 18 #[x.1, .pointer (some ⟨br, 0, none⟩)] W fun e w' => e = .returned (.bool (!keepP zs x)) ∧ Below W.heap.size W w'

set_option maxRecDepth 100000 in
set_option maxHeartbeats 1000000 in
theorem tells_any (w : World) (g br B base : Nat) (T : TypeId) (A : Option Addr) (c : Nat) (zs : List Int) (u : Value) (x : Value × List Int) (hX : Bx w br T (.slice A zs.length c) u) (hr : Ints w B A zs.length zs) (hB : B ≤ g) (hbr : br ≠ g) (hg : g < w.heap.size)
    (ho : Own w base 3 x.1 x.2) (hne : ∀ b, x.1.ownBlock = some b → b ≠ g) (hp : isPair zs.length x.2) : Tells w g br zs x := by
  intro W hS hsz
  obtain ⟨gm, cm, a, b, e1, e2, ha, hb, hgm, m0, m1⟩ := pair_cells ho hp
  obtain ⟨xv, xm⟩ := x
  dsimp only at e1 e2 hne ⊢
  subst e1 e2
  have hgg : gm ≠ g := hne gm rfl
  obtain ⟨ad, rfl, hab, hcell⟩ := ints_cell hr (by omega)
  have n0 := (cell_same (w' := W) (p := ⟨gm, 0, none⟩) (hS gm hgm hgg)).trans m0
  have n1 := (cell_same (w' := W) (p := ⟨gm, 1, none⟩) (hS gm hgm hgg)).trans m1
  have za := (cell_same (w := w) (w' := W) (p := ad.add a) (by rw [block_of_add]; exact hS _ (by omega) (by omega))).trans (hcell a ha)
  have zb := (cell_same (w := w) (w' := W) (p := ad.add b) (by rw [block_of_add]; exact hS _ (by omega) (by omega))).trans (hcell b hb)
  have c0 := (cell_same (w' := W) (p := ⟨br, 0, none⟩) (hS br hX.lt hbr)).trans hX.c0
  have hai : (a : Int) < (zs.length : Int) := by omega
  have hbi : (b : Int) < (zs.length : Int) := by omega
  have HKP := hide (show keepP zs (.slice (some ⟨gm, 0, none⟩) 2 cm, [(a : Int), (b : Int)]) = (zs.getD a 0 == zs.getD b 0) from rfl)
  rw [HKP.out]
  clear hr hX ho hne hp hcell m0 m1 hS
  generalize zs.getD a 0 = ya at *
  generalize zs.getD b 0 = yb at *
  generalize zs.length = n at *
  go_enter Tryd.func18, Tryd.ntmps18
  go_wp2_with fail
  go_region
  all_goals
    go_wp2_with fail
    go_ret
    exact ⟨rfl, (Below.refl _ _).drew⟩

abbrev CH (br : Nat) : Value := .func (Fn.func 18) #[] #[.pointer (some ⟨br, 0, none⟩)]
theorem row_cell {w : World} {base g c n : Nat} {xs : List (Value × List Int)} (h : w.ownsRow base 22 1 (.slice (some ⟨g, 0, none⟩) n c) n (xs.map Prod.fst)) (k : Nat) (hk : k < xs.length) (hkn : k < n) : w.cell? ⟨g, k, none⟩ = some xs[k].1 := by
  rw [World.ownsRow.cellAt h k (by omega)]
  simp [hk]

set_option maxRecDepth 1000000 in
theorem IndexFunc_any (base g c br : Nat) (L : List (Value × List Int)) (zs : List Int) (w : World) (hown : w.ownsRow base 22 1 (.slice (some ⟨g, 0, none⟩) L.length c) L.length (L.map Prod.fst)) (hn : L.length ≤ 100000) (hg : g < w.heap.size)
    (hf : ∀ x ∈ L, Tells w g br zs x) :
    Calls Tryd.prog 30 #[.slice (some ⟨g, 0, none⟩) L.length c, .func (Fn.func 18) #[] #[.pointer (some ⟨br, 0, none⟩)]] w
      fun e w' => (∃ i : Nat, i ≤ L.length ∧ (∀ (j : Nat) (_ : j < L.length), j < i → keepP zs L[j] = true) ∧ (∀ (h : i < L.length), keepP zs L[i] = false) ∧ e = .returned (.int .i64 (if i < L.length then (i : Int) else -1))) ∧ Below w.heap.size w w' := by
  have HF := hide hf
  have HO := hide hown
  clear hf hown
  go_enter Tryd.func30, Tryd.ntmps30
  go_wp2_with fail
  go_loopw [8] (fun i wr => ∃ k : Nat, k ≤ L.length ∧ i = .int .i64 k ∧ Hid (∀ (j : Nat) (_ : j < L.length), j < k → keepP zs L[j] = true) ∧ Below w.heap.size w wr)
    (fun i _ => L.length - (intOf i).toNat)
  case atStart => exact ⟨0, Nat.zero_le _, rfl, hide (fun _ _ h => by omega), Below.refl _ _⟩
  case round =>
    obtain ⟨k, hk, rfl, HAll, hb⟩ := hrel
    have hb0 := hb.size
    by_cases hlt : k < L.length
    · have hc0 := (hb.cell (p := ⟨g, k, none⟩) hg).trans (row_cell HO.out k hlt hlt)
      have HFk := hide (HF.out L[k] (List.getElem_mem hlt) wr (fun h hh _ => hb.block h hh) hb0)
      cases hkp : keepP zs L[k]
      · have HK := hide hkp
        rw [hkp] at HFk
        clear hkp
        generalize hdk : L[k] = d at *
        have HDK := hide hdk
        clear hdk
        go_wp2_with fail
        refine HFk.out.mono ?_; rintro e w2 ⟨rfl, hb2⟩
        go_wp2_with fail
        go_ret
        refine ⟨⟨k, by omega, HAll.out, fun h => by rw [HDK.out]; exact HK.out, ?_⟩, below_next hb hb2⟩
        rw [if_pos hlt]; rfl
      · have HK := hide hkp
        rw [hkp] at HFk
        clear hkp
        generalize hdk : L[k] = d at *
        have HDK := hide hdk
        clear hdk
        go_wp2_with fail
        refine HFk.out.mono ?_; rintro e w2 ⟨rfl, hb2⟩
        go_wp2_with fail
        go_roundw
        case rel =>
          refine ⟨k + 1, by omega, by go_num, hide (fun j hj hjk => ?_), below_next hb hb2⟩
          rcases Nat.lt_or_ge j k with h | h
          · exact HAll.out j hj h
          · have e : j = k := by omega
            subst e; rw [HDK.out]; exact HK.out
        case measure => simp [intOf]; omega
    · go_wp2_with fail
      go_ret
      refine ⟨⟨k, by omega, HAll.out, fun h => absurd h hlt, ?_⟩, hb⟩
      rw [if_neg hlt]; rfl

theorem run_clear_row (w : World) (ty : TypeId) (b o n c : Nat) (hn : 0 < n)
    (hc : ∀ j, j < n → (w.cell? ⟨b, o + j, none⟩).isSome = true) (hf : ∀ j, j < n → w.frozen? ⟨b, o + j, none⟩ = false) :
    (Builtin.clear_ #[26] ty #[.slice (some ⟨b, o, none⟩) n c]).run Tryd.prog w = .ok (.tuple #[]) (w.setCells b o (List.replicate n (.slice none 0 0))) := by
  have hv : ∀ w, (zeroValue 22).run Tryd.prog w = .ok (.slice none 0 0) w := fun w => by kernel_rfl
  have hzc : (Builtin.zeroCells (Value.slice none 0 0).cells n).toList = List.replicate n (Value.slice none 0 0) := by
    simp [Builtin.zeroCells, Value.cells]
    apply List.ext_getElem
    · simp
    · intro i h1 h2
      simp [Nat.mod_one]
  have hst := run_storeCells_cells (P := Tryd.prog) b o (List.replicate n (Value.slice none 0 0)) 0 w (by simpa using hc) (by simpa using hf) (by intro v hv'; rw [List.eq_of_mem_replicate hv']; rfl)
  simp only [Nat.add_zero] at hst
  obtain ⟨m, rfl⟩ : ∃ m, n = m + 1 := ⟨n - 1, by omega⟩
  simp [Builtin.clear_, run_underlying Tryd.underlying26, hv, hzc, hst]
theorem row_cut {w : World} {base g c n : Nat} {xs : List (Value × List Int)} (h : w.ownsRow base 22 1 (.slice (some ⟨g, 0, none⟩) n c) n (xs.map Prod.fst)) (i : Nat) (hi : i ≤ n) :
    w.ownsRow base 22 1 (.slice (some ⟨g, 0, none⟩) i c) i ((xs.take i).map Prod.fst) := by
  have hl := h.1
  rw [List.length_map] at hl
  refine ⟨by rw [List.length_map, List.length_take]; omega, ?_⟩
  rcases h.2 with ⟨hv, _⟩ | ⟨g', cap, cur, hv, hb, hg, hn, hm, hc, ht⟩
  · cases hv
  · cases hv
    refine .inr ⟨g, c, cur, rfl, hb, hg, by omega, hm, hc, ?_⟩
    rw [List.map_take, ← ht, List.take_take, Nat.min_eq_left (by omega)]
    simp
theorem row_clear {base g i c : Nat} {xs : List Value} : ∀ (vs : List Value) (o : Nat) (w : World), i ≤ o → xs.length = i → w.ownsRow base 22 1 (.slice (some ⟨g, 0, none⟩) i c) i xs → (w.setCells g o vs).ownsRow base 22 1 (.slice (some ⟨g, 0, none⟩) i c) i xs
  | [], _, _, _, _, h => h
  | v :: r, o, w, ho, hl, h => by
    refine row_clear r (o + 1) _ (by omega) hl ?_
    have h1 := (World.ownsRow.stored h o v).1
    rw [List.set_eq_of_length_le (by rw [hl]; exact ho)] at h1
    exact h1
theorem same_clear {w : World} {g : Nat} : ∀ (vs : List Value) (o : Nat) (w1 : World), Same w g w1 → Same w g (w1.setCells g o vs)
  | [], _, _, h => h
  | v :: r, o, w1, h => same_clear r (o + 1) _ (h.setCell o v)
theorem filter_keep {α : Type} {p : α → Bool} : ∀ (L : List α), (∀ (j : Nat) (_ : j < L.length), p L[j] = true) → L.filter p = L := fun L h =>
  List.filter_eq_self.2 fun x hx => by obtain ⟨j, hj, rfl⟩ := List.getElem_of_mem hx; exact h j hj
theorem take_keep {α : Type} {p : α → Bool} (L : List α) (i : Nat) (h : ∀ (j : Nat) (_ : j < L.length), j < i → p L[j] = true) : (L.take i).filter p = L.take i :=
  filter_keep _ fun j hj => by
    rw [List.getElem_take]
    exact h j (by rw [List.length_take] at hj; omega) (by rw [List.length_take] at hj; omega)

set_option maxRecDepth 1000000 in
set_option maxHeartbeats 2000000 in
theorem DeleteFunc_any (base g c br : Nat) (L : List (Value × List Int)) (zs : List Int) (w : World) (hown : w.ownsRow base 22 1 (.slice (some ⟨g, 0, none⟩) L.length c) L.length (L.map Prod.fst)) (hn : L.length ≤ 100000) (hc : L.length ≤ c) (hc2 : c ≤ maxLen)
    (hg : base ≤ g) (hgw : g < w.heap.size) (hf : ∀ x ∈ L, Tells w g br zs x) (hsl : ∀ x ∈ L, ∃ (gd cd : Nat), x.1 = .slice (some ⟨gd, 0, none⟩) 2 cd) :
    Calls Tryd.prog 19 #[.slice (some ⟨g, 0, none⟩) L.length c, .func (Fn.func 18) #[] #[.pointer (some ⟨br, 0, none⟩)]] w
      fun e w' => e = .returned (.slice (some ⟨g, 0, none⟩) (L.filter (keepP zs)).length c) ∧ w'.ownsRow base 22 1 (.slice (some ⟨g, 0, none⟩) (L.filter (keepP zs)).length c) (L.filter (keepP zs)).length ((L.filter (keepP zs)).map Prod.fst) ∧ Same w g w' ∧ Below base w w' := by
  have HI := hide (IndexFunc_any base g c br L zs w hown hn hgw hf)
  have HF := hide hf
  have Hown := hide hown
  have HSL := hide hsl
  clear hf hown hsl
  unfold maxLen at hc2
  go_enter Tryd.func19, Tryd.ntmps19
  go_wp2_with fail
  refine HI.out.mono ?_; rintro e w1 ⟨⟨i, hi, hkeep, hdel, rfl⟩, hb1⟩
  have HKeep := hide hkeep
  have HDel := hide hdel
  have hb1s := hb1.size
  clear hkeep hdel
  by_cases hil : i < L.length
  · rw [if_pos hil]
    have hne : ((i : Int) == -1) = false := by simp <;> omega
    go_wp2_with fail
    go_loopw [5, 6] (fun a b wr => ∃ (i j : Nat) (cur : List (Value × List Int)), a = .int .i64 i ∧ b = .int .i64 j ∧ i < j ∧ j ≤ L.length ∧ Hid (cur.length = L.length) ∧ Hid (cur.take i = (L.take j).filter (keepP zs)) ∧ Hid (∀ k, j ≤ k → cur[k]? = L[k]?) ∧
        Hid (wr.ownsRow base 22 1 (.slice (some ⟨g, 0, none⟩) L.length c) L.length (cur.map Prod.fst)) ∧ Hid (Same w g wr) ∧ Below base w wr)
      (fun _ b _ => L.length - (intOf b).toNat)
    case atStart =>
      refine ⟨i, i + 1, L, rfl, by go_num, by omega, by omega, hide rfl, hide ?_, hide (fun _ _ => rfl), hide (ownsRow_keep Hown.out (fun h _ hh => hb1.block h hh)), hide (fun h hh _ => hb1.block h hh), hb1.mono (by omega)⟩
      rw [filter_succ L i hil, HDel.out hil, take_keep L i HKeep.out]; simp
    case round =>
      clear hil hi HKeep HDel
      obtain ⟨i, j, cur, rfl, rfl, hij, hj, HL, HT, HR, HO, HS, hb⟩ := hrel
      have hbs := hb.size
      by_cases hlt : j < L.length
      · have hltc : j < cur.length := by rw [HL.out]; exact hlt
        have hc0 := row_cell HO.out j hltc hlt
        have hcj : cur[j] = L[j] := by
          have := HR.out j (Nat.le_refl _)
          rw [List.getElem?_eq_getElem hltc, List.getElem?_eq_getElem hlt] at this
          exact Option.some.inj this
        rw [hcj] at hc0
        have HFj := hide (HF.out L[j] (List.getElem_mem hlt) wr HS.out hbs)
        have HSU := hide (filter_succ (p := keepP zs) L j hlt)
        clear hcj
        cases hkp : keepP zs L[j]
        · have HT2 := hide (show cur.take i = (L.take (j + 1)).filter (keepP zs) from by rw [HSU.out, hkp, HT.out]; simp)
          rw [hkp] at HFj
          clear hkp
          generalize L[j] = d at *
          go_wp2_with fail
          refine HFj.out.mono ?_; rintro e w2 ⟨rfl, hb2⟩
          go_wp2_with fail
          go_roundw
          case rel =>
            exact ⟨i, j + 1, cur, rfl, by go_num, by omega, by omega, HL, HT2, hide (fun k hk => HR.out k (by omega)), hide (ownsRow_keep HO.out (fun h _ hh => hb2.block h hh)), hide (HS.out.next hbs hb2), hb.trans (hb2.mono (by omega))⟩
          case measure => simp [intOf]; omega
        · have hic : i < cur.length := by omega
          have HT2 := hide (show (cur.set i L[j]).take (i + 1) = (L.take (j + 1)).filter (keepP zs) from by
            rw [HSU.out, hkp, ← HT.out, List.take_succ_eq_append_getElem (by rw [List.length_set]; exact hic), List.getElem_set_self, List.take_set_of_le (by omega)]; simp)
          have HR2 := hide (show ∀ k, j + 1 ≤ k → (cur.set i L[j])[k]? = L[k]? from fun k hk => by rw [List.getElem?_set_ne (by omega)]; exact HR.out k (by omega))
          have HL2 := hide (show (cur.set i L[j]).length = L.length from by rw [List.length_set]; exact HL.out)
          rw [hkp] at HFj
          have Hci := hide (fun (W : World) (h : W.ownsRow base 22 1 (.slice (some ⟨g, 0, none⟩) L.length c) L.length (cur.map Prod.fst)) => row_cell h i hic (by omega))
          have hsl := HSL.out L[j] (List.getElem_mem hlt)
          clear hkp
          generalize L[j] = d at *
          obtain ⟨dv, dm⟩ := d
          obtain ⟨gd, cd, ed⟩ := hsl
          dsimp only at ed
          subst ed
          dsimp only at hc0 HFj
          go_wp2_with fail
          refine HFj.out.mono ?_; rintro e w2 ⟨rfl, hb2⟩
          have HO2 := hide (ownsRow_keep (w' := w2) HO.out (fun h _ hh => hb2.block h hh))
          have o0 := Hci.out w2 HO2.out
          have f0 := World.ownsRow.frozenAt HO2.out i
          have HP := hide (show (w2.setCell ⟨g, i, none⟩ (.slice (some ⟨gd, 0, none⟩) 2 cd)).ownsRow base 22 1 (.slice (some ⟨g, 0, none⟩) L.length c) L.length ((cur.set i (.slice (some ⟨gd, 0, none⟩) 2 cd, dm)).map Prod.fst) from by
            rw [List.map_set]; exact (World.ownsRow.stored HO2.out i (.slice (some ⟨gd, 0, none⟩) 2 cd)).1)
          have HS2 := hide ((HS.out.next hbs hb2).setCell i (.slice (some ⟨gd, 0, none⟩) 2 cd))
          have HB2 := hide ((hb.trans (hb2.mono (by omega))).setCell hg (.slice (some ⟨gd, 0, none⟩) 2 cd) (p := ⟨g, i, none⟩))
          have hii : (i : Int) < (L.length : Int) := by omega
          go_wp2_with fail
          go_roundw
          case rel =>
            exact ⟨i + 1, j + 1, cur.set i (.slice (some ⟨gd, 0, none⟩) 2 cd, dm), by go_num, by go_num, by omega, by omega, HL2, HT2, HR2, HP, HS2, HB2.out⟩
          case measure => simp [intOf]; omega
      · have hjn : j = L.length := by omega
        have HTn := hide (show cur.take i = L.filter (keepP zs) from by rw [HT.out, hjn, List.take_length])
        have hni : 0 < L.length - i := by omega
        have hclr := fun ty => run_clear_row wr ty g i (L.length - i) (c - i) hni
          (fun k hk => by rw [row_cell HO.out (i + k) (by rw [HL.out]; omega) (by omega)]; rfl)
          (fun k _ => World.ownsRow.frozenAt HO.out (i + k))
        have HLf := hide (show (L.filter (keepP zs)).length = i from by rw [← HTn.out, List.length_take, HL.out]; omega)
        have HX := hide (row_clear (List.replicate (L.length - i) (.slice none 0 0)) i wr (Nat.le_refl _) (by rw [List.length_map, List.length_take, HL.out]; omega) (row_cut HO.out i (by omega)))
        have HB := hide (_root_.Go.below_setCells (B := base) (b := g) hg (List.replicate (L.length - i) (.slice none 0 0)) i wr hb)
        have HSX := hide (same_clear (List.replicate (L.length - i) (.slice none 0 0)) i wr HS.out)
        have hii : (i : Int) ≤ (L.length : Int) := by omega
        have hci : (i : Int) ≤ (c : Int) := by omega
        have hic2 : i < c := by omega
        clear hjn
        go_wp2_with fail
        go_ret
        exact ⟨by rw [HLf.out]; rfl, by rw [HLf.out, ← HTn.out]; exact HX.out, HSX.out, HB.out⟩
  · rw [if_neg hil]
    have HE := hide (show L.filter (keepP zs) = L from filter_keep L (fun j hj => HKeep.out j hj (by omega)))
    go_wp2_with fail
    go_ret
    rw [HE.out]
    exact ⟨rfl, ownsRow_keep Hown.out (fun h _ hh => hb1.block h hh), fun h hh _ => hb1.block h hh, hb1.mono (by omega)⟩

theorem prs_ne {n : Nat} (h : 2 ≤ n) : prs n ≠ [] := fun e => by
  have hm : [((0 : Nat) : Int), ((0 + 1 + 0 : Nat) : Int)] ∈ prs n := by
    unfold prs prTo
    refine List.mem_flatMap.2 ⟨0, List.mem_range.2 (by omega), ?_⟩
    unfold pr
    exact List.mem_map.2 ⟨0, List.mem_range.2 (by omega), rfl⟩
  rw [e] at hm
  cases hm
theorem ownPs_filter {w w' : World} {base g n c : Nat} {L : List (Value × List Int)} (h : OwnPs w base (.slice (some ⟨g, 0, none⟩) n c) L) (p : Value × List Int → Bool) (hs : Same w g w')
    (hr : w'.ownsRow base 22 1 (.slice (some ⟨g, 0, none⟩) (L.filter p).length c) (L.filter p).length ((L.filter p).map Prod.fst)) : OwnPs w' base (.slice (some ⟨g, 0, none⟩) (L.filter p).length c) (L.filter p) := by
  refine ⟨hr, fun x hx => ?_, h.2.2.filter _⟩
  have hx' := h.2.1 x (List.mem_filter.1 hx).1
  exact ⟨hx'.1.keepB fun b hb hlt => hs b hlt (fun e => hx'.2 b hb (by rw [e]; rfl)), fun b hb => hx'.2 b hb⟩

set_option maxRecDepth 100000 in
set_option maxHeartbeats 1000000 in
theorem IdleMixes_any (A : Option Addr) (n c B : Nat) (zs : List Int) (u : Int) (w : World) (hr : Ints w B A n zs) (hB : B ≤ w.heap.size) (hn : n ≤ 17592186044416) (hT : Tab w) :
    Calls Tryd.prog 7 #[.agg #[.slice A n c, .int .i64 u]] w (MadeSS (idleL zs u) (cuOk zs u) w) := by
  obtain rfl := hr.len
  have kb : Below w.heap.size w (w.alloc (.cells #[.slice A zs.length c, .int .i64 u] 29)) := (Below.refl _ _).alloc (Nat.le_refl _) _
  have KX := hide (Bx.new w 29 (.slice A zs.length c) (.int .i64 u))
  have HA := hide (AreCups_any A zs.length c B zs u _ (hr.below kb hB) (Nat.le_trans hB kb.size) hn (hT.next kb))
  have HKB := hide kb
  have HR := hide hr
  clear kb hr hT
  cases hc : cuOk zs u
  · rw [show idleL zs u = [] from by unfold idleL; rw [hc]; rfl]
    rw [hc] at HA
    clear hc
    go_enter Tryd.func7, Tryd.ntmps7
    go_wp2_with fail
    refine HA.out.mono ?_; rintro e w2 ⟨rfl, hb2⟩
    have HB := hide (HKB.out.trans (hb2.mono HKB.out.size))
    clear hb2
    go_wp2_with fail
    go_ret2
    exact madeSS_none HB.out
  · have HI := hide (show idleL zs u = (prs zs.length).filter (sameM zs) from by unfold idleL; rw [hc]; rfl)
    obtain ⟨h2, h6, _⟩ := cuOk_of hc
    have HPP := hide (prs_pair zs.length)
    have HPL := hide (prs_len h6)
    have HNE := hide (prs_ne h2)
    rw [hc] at HA
    have HP := hide (fun W => allMixes_any zs.length W h6)
    clear hc
    generalize idleL zs u = il at *
    go_enter Tryd.func7, Tryd.ntmps7
    go_wp2_with fail
    generalize hW0 : (w.alloc (.cells #[.slice A zs.length c, .int .i64 u] 29)) = W0 at *
    have hs0 : W0.heap.size = w.heap.size + 1 := by rw [← hW0]; simp
    clear hW0
    refine HA.out.mono ?_; rintro e w2 ⟨rfl, hb2⟩
    have HB2 := hide (HKB.out.trans (hb2.mono HKB.out.size))
    have X2 := hide (KX.out.next hb2)
    have hs2 := hb2.size
    have c0 := X2.out.c0
    clear hb2
    go_wp2_with fail
    refine (HP.out _).mono ?_; rintro e w3 ⟨Ap, cp, vs, rfl, hcp1, hcp2, hown, hb3⟩
    obtain ⟨g, rfl, hg1, hg2⟩ : ∃ g, Ap = some ⟨g, 0, none⟩ ∧ w2.heap.size ≤ g ∧ g < w3.heap.size := by
      rcases hown.form with ⟨_, e⟩ | ⟨g, c', e, h1, h2, _⟩
      · exact absurd e HNE.out
      · injection e with e; exact ⟨g, e, h1, h2⟩
    obtain ⟨hps, hsnd⟩ := hown.toPs
    generalize hL : vs.zip (prs zs.length) = L at *
    have hlen : L.length = (prs zs.length).length := by rw [← hsnd, List.length_map]
    have hl36 := HPL.out
    rw [← hlen] at hl36 hcp1 ⊢
    have hps' := hps
    rw [← hlen] at hps'
    have PS := hide hps'
    have HLP := hide (show ∀ x ∈ L, isPair zs.length x.2 from fun x hx => HPP.out _ (by rw [← hsnd]; exact List.mem_map.2 ⟨x, hx, rfl⟩))
    have HF := hide (filter_snd L (sameM zs))
    rw [hsnd] at HF
    have X3 := hide (X2.out.next hb3)
    have HB3 := hide (HB2.out.trans (hb3.mono HB2.out.size))
    have HD := hide (DeleteFunc_any w2.heap.size g cp w.heap.size L zs w3 PS.out.1 (by omega) hcp1 hcp2 hg1 hg2 (fun x hx => tells_any w3 g w.heap.size B w2.heap.size 29 A c zs (.int .i64 u) x X3.out (HR.out.below HB3.out hB) (by omega) (by omega) hg2 (PS.out.2.1 x hx).1
      (fun b hb e => (PS.out.2.1 x hx).2 b hb (by rw [e]; rfl)) (HLP.out x hx)) (fun x hx => by
        obtain ⟨gd, cd, _, _, e, _⟩ := pair_cells (PS.out.2.1 x hx).1 (HLP.out x hx)
        exact ⟨gd, cd, e⟩))
    clear hb3 hown c0 hL hps hps' hsnd HPP HP hlen HNE HPL
    go_wp2_with fail
    refine HD.out.mono ?_; rintro e w4 ⟨rfl, hrow, hsame, hb4⟩
    have hO := (ownPs_filter PS.out (keepP zs) hsame hrow).toVs.less (base' := w.heap.size) (by omega)
    rw [show (L.filter (keepP zs)).map Prod.snd = il from by rw [HI.out]; exact HF.out] at hO
    have hbw : Below w.heap.size w w4 := HB3.out.trans (hb4.mono (by omega))
    obtain ⟨A', c', e', hmade⟩ := madeSS_of (b := true) hO hbw
    rw [e'] at hmade
    have HM := hide hmade
    clear hO hmade hrow hsame hb4 HD
    go_wp2_with fail
    go_ret2
    exact HM.out
end Go.Proofs.YtmknencbjhcehaaDoor
