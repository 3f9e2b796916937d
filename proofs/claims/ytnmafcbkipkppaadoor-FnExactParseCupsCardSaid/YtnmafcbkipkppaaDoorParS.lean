
/-
  THE PROGRAM's splitParts OVER NUMBERS; the pieces that strings.SplitN gives.
-/
import Derived.Test.YtnmafcbkipkppaaDoorParI
import Derived.Laws.Rows
namespace Go.Proofs.YtnmafcbkipkppaaDoor
open Go.RowKit Go.Deep
set_option linter.unusedVariables false

theorem splitB_bs (k : Nat) (l : List UInt8) : Lib.splitB ⟨#[45]⟩ 0 k (bs l) = (Lib.splitK [45] 0 k l).map bs := by
  have h := Lib.splitB_data ⟨#[45]⟩ 0 k (bs l)
  have e : ∀ ps : List ByteArray, ps = (ps.map (·.data.toList)).map bs := by
    intro ps
    rw [List.map_map]
    have : (bs ∘ fun x : ByteArray => x.data.toList) = id := by
      funext x
      simp [bs]
    rw [this, List.map_id]
  rw [e (Lib.splitB ⟨#[45]⟩ 0 k (bs l)), h, bs_data]

theorem cells_at (q : List (List UInt8)) (N k : Nat) (hk : k < q.length) : (Lib.cellsOf (q.map bs) N)[k]? = some (.string (bs (q.getD k []))) := by
  unfold Lib.cellsOf
  rw [List.getElem?_toArray, List.getElem?_append_left (by simpa using hk), List.getElem?_map, List.getElem?_map, List.getElem?_eq_getElem hk]
  simp [List.getD, List.getElem?_eq_getElem hk]
/-- The pieces of a text, at most m + 1: all where there are no more than m. -/
theorem SplitN_any (l : List UInt8) (m : Nat) (hm : 1 ≤ m) (hm2 : m ≤ 1000) (hl : l.length < 4294967281) (w : World) (hS : w.ShapedOpen Tryd.prog) :
    Calls Tryd.prog 21 #[.string (bs l), .string ⟨#[45]⟩, .int .i64 ((m : Int) + 1)] w fun e w' =>
      ∃ (ws : List (List UInt8)) (c : Nat), e = .returned (.slice (some ⟨w.heap.size, 0, none⟩) ws.length c) ∧ Strs w' w'.heap.size (some ⟨w.heap.size, 0, none⟩) ws.length ws ∧ Below w.heap.size w w' ∧ ws.length ≤ m + 1 ∧
        ((sp l).length ≤ m → ws = sp l) ∧ (m < (sp l).length → ws.length = m + 1) := by
  have hk := sp_length l
  have hcl : l.count 45 ≤ l.length := List.count_le_length
  have hN := Lib.splitB_length_le ⟨#[45]⟩ 0 (min (m + 1) ((bs l).size + 1) - 1) (bs l)
  rw [splitB_bs, List.length_map] at hN
  have hc := Tryd.strings_SplitN_shaped (bs l) ⟨#[45]⟩ (m + 1) w hS (by rw [bs_len]; exact hl) (Nat.le_refl _) (by omega) (by omega)
  rw [splitB_bs] at hc
  rw [show (((m + 1 : Nat)) : Int) = (m : Int) + 1 from by omega] at hc
  refine hc.mono ?_
  rintro e w' ⟨rfl, rfl⟩
  rw [bs_len] at *
  refine ⟨Lib.splitK [45] 0 (min (m + 1) (l.length + 1) - 1) l, min (m + 1) (l.length + 1), by rw [List.length_map], ?_, (Below.refl _ _).alloc (Nat.le_refl _) _, by omega, ?_, ?_⟩
  · refine ⟨rfl, fun _ => ⟨_, rfl, by simp, fun k hk => ?_⟩⟩
    rw [add_head]
    rw [World.cell?_alloc_at]
    · exact cells_at _ _ k hk
    · rfl
  · intro h
    exact splitK_sp _ l (by omega)
  · intro h
    rw [splitK_over _ l (by omega)]
    omega

theorem pnAll_snoc : ∀ {ws : List (List UInt8)} {ns : List Int} {w : List UInt8} {n : Int}, pnAll ws = some ns → pn w = some n → pnAll (ws ++ [w]) = some (ns ++ [n])
  | [], ns, w, n, h, hn => by
    simp [pnAll] at h; subst h
    simp [pnAll, hn]
  | x :: xs, ns, w, n, h, hn => by
    unfold pnAll at h
    split at h
    · cases h
    · rename_i a ha
      split at h
      · cases h
      · rename_i ms hm
        injection h with h
        subst h
        rw [List.cons_append, pnAll, ha, pnAll_snoc hm hn]
        rfl
theorem pnAll_bad : ∀ {ws : List (List UInt8)} {k : Nat} (hk : k < ws.length), pn (ws[k]'hk) = none → pnAll ws = none
  | x :: xs, 0, _, h => by
    have h' : pn x = none := h
    unfold pnAll; rw [h']
  | x :: xs, k + 1, hk, h => by
    have h' := pnAll_bad (ws := xs) (k := k) (by simpa using hk) (by simpa using h)
    unfold pnAll
    rw [h']
    cases pn x <;> rfl

/-- What splitParts gives over numbers. -/
def spI (l : List UInt8) (m : Nat) : Option (List Int) := if (sp l).length ≤ m then pnAll (sp l) else none

set_option maxRecDepth 1000000 in
theorem splitPartsInt_any (l : List UInt8) (hl : l.length ≤ 1048576) (w : World) (hP : LaidP w) :
    Calls Tryd.prog 11 #[.string (bs l), .string ⟨#[45]⟩, .int .i64 12, .func (.func 12) #[] #[]] w (MadeP ((spI l 12).getD []) (spI l 12).isSome w) := by
  have HSN := hide (SplitN_any l 12 (by omega) (by omega) (by omega) w hP.2.2)
  rw [show (((12 : Nat) : Int) + 1) = 13 from rfl] at HSN
  have HP := hide hP
  have HD := hide (show spI l 12 = if (sp l).length ≤ 12 then pnAll (sp l) else none from rfl)
  have HPL := hide (fun (k : Nat) (hk : k < (sp l).length) => sp_piece_len l ((sp l).getD k []) (by rw [List.getD, List.getElem?_eq_getElem hk]; exact List.getElem_mem hk))
  clear hP
  generalize bs l = s at *
  generalize hsp : sp l = ps at *
  generalize spI l 12 = r at *
  clear hsp
  go_enter Tryd.func11, Tryd.ntmps11
  go_wp2_with fail
  refine HSN.out.mono ?_
  rintro e w1 ⟨ws, c, rfl, hstr, hb1, hlen, hy, hn⟩
  have HY := hide hy
  have HN := hide hn
  have s1 := hb1.size
  have hP1 := hide (HP.out.next hb1)
  clear hy hn
  by_cases hle : ps.length ≤ 12
  · obtain rfl : ws = ps := HY.out hle
    have HR := hide (show r = pnAll ws from by rw [HD.out, if_pos hle])
    have hmk := run_make_row' (P := Tryd.prog) 22 3 (.int .i64 0) 8 Tryd.underlying22 infoInt rfl .i64 .i64 ws.length (by omega) (by omega)
    go_wp2_with fail
    go_loopw [30] (fun i wr => ∃ (k : Nat) (ns : List Int), k ≤ ws.length ∧ ns.length = k ∧ pnAll (ws.take k) = some ns ∧ i = .int .i64 k ∧ wr.rowIs w1.heap.size 3 ws.length (fun j => .int .i64 (ns.getD j 0)) ∧ Below w1.heap.size w1 wr ∧ w1.heap.size < wr.heap.size)
      (fun i _ => ws.length - (intOf i).toNat)
    case atStart => exact ⟨0, [], Nat.zero_le _, rfl, by simp [pnAll], rfl, (World.rowIs_made w1 _ _ _).congr (fun i _ => by simp), (Below.refl _ _).alloc (Nat.le_refl _) _, by simp⟩
    case round =>
      obtain ⟨k, ns, hk, hns, hpa, rfl, hrow, hb2, hs2⟩ := hrel
      have HPA := hide hpa
      have HNS := hide hns
      have Hrow := hide hrow
      clear hpa hns hrow
      by_cases hlt : k < ws.length
      · obtain ⟨ad, hada, hab, hcell⟩ := (hstr.below hb2 (Nat.le_refl _)).at_ hlt
        injection hada with hada
        subst hada
        rw [add_head] at hcell
        have HG := hide (show ws.getD k [] = ws[k] from by simp [List.getD, List.getElem?_eq_getElem hlt])
        have HK := hide (parseNumber_any (ws.getD k []) (by have := HPL.out k hlt; omega) wr (hP1.out.next hb2))
        rw [HG.out] at hcell HK
        have HT := hide (show ws.take (k + 1) = ws.take k ++ [ws[k]] from by rw [List.take_add_one, List.getElem?_eq_getElem hlt]; rfl)
        have HB := hide (fun h => pnAll_bad (ws := ws) hlt h)
        generalize ws[k] = pc at *
        cases hpn : pn pc with
        | none =>
          have hrn : r = none := by rw [HR.out]; exact HB.out hpn
          rw [hpn] at HK
          subst hrn
          generalize bs pc = pz at *
          clear hpn
          go_wp2_with fail
          refine HK.out.mono ?_; rintro e w2 ⟨rfl, hb3⟩
          go_wp2_with fail
          go_ret2
          exact madeP_nil _ _ (below_next hb1 (below_next hb2 hb3))
        | some n =>
          rw [hpn] at HK
          have HPN := hide hpn
          generalize bs pc = pz at *
          clear hpn
          go_wp2_with fail
          refine HK.out.mono ?_; rintro e w2 ⟨rfl, hb3⟩
          have hrow2 := Hrow.out.of_block (hb3.block _ hs2)
          have hold := hrow2.cell hlt
          have hfz := hrow2.frozen k
          have s2 := hb2.size
          have s3 := hb3.size
          go_wp2_with fail
          go_roundw
          case rel =>
            refine ⟨k + 1, ns ++ [n], by omega, by have := HNS.out; simp; omega, by rw [HT.out]; exact pnAll_snoc HPA.out HPN.out, by go_num, (hrow2.set k _).congr (fun i hi => ?_), (hb2.trans (hb3.mono s2)).setCell (Nat.le_refl _) _, by simp; omega⟩
            have hk' := HNS.out
            by_cases e : i = k
            · subst e
              rw [if_pos rfl]
              simp [List.getD, ← hk']
            · rw [if_neg e]
              simp only [List.getD]
              rcases Nat.lt_or_ge i k with h | h
              · rw [List.getElem?_append_left (by omega)]
              · rw [List.getElem?_eq_none (by omega), List.getElem?_eq_none (by simp; omega)]
          case measure => simp [intOf]; omega
      · have e : k = ws.length := by omega
        have HE := hide (show r = some ns from by rw [HR.out, ← HPA.out, e, List.take_length])
        have hk' : ns.length = ws.length := by rw [HNS.out, e]
        have HO := hide (Own.of_row (base := w1.heap.size) (zs := ns) (w := wr) (t := 3) (g := w1.heap.size) (by unfold Row; rw [hk']; exact Hrow.out) (Nat.le_refl _) (by unfold maxLen; omega))
        have HK := hide hk'
        clear e hk' hstr
        have hre : r = some ns := HE.out
        clear HE
        subst hre
        go_wp2_with fail
        go_ret2
        have hO := HO.out
        refine ⟨some ⟨w1.heap.size, 0, none⟩, ns.length, ?_, Nat.le_refl _, by rw [HK.out]; unfold maxLen; omega, hO.less s1, below_next hb1 hb2⟩
        show _ = Ending.returned (.tuple #[.slice _ ns.length ns.length, .bool true])
        rw [HK.out]
        rfl
  · have hrn : r = none := by rw [HD.out, if_neg hle]
    subst hrn
    have hw13 : ws.length = 13 := HN.out (by omega)
    go_wp2_with fail
    go_ret2
    exact madeP_nil _ _ hb1
end Go.Proofs.YtnmafcbkipkppaaDoor
