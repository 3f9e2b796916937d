
/-
  THE PROGRAM's ParsePuzzle: splitParts over clues.
-/
import Derived.Test.YtmjlfmlbmegheaaDoorPzYE
import Derived.Test.YtmjlfmlbmegheaaDoorShelfC
namespace Go.Proofs.YtmjlfmlbmegheaaDoor
open Go.RowKit Go.Deep
set_option linter.unusedVariables false

def pcOf (w : List UInt8) : Cl := (pC w).getD ⟨0, 0, 0, 0⟩
theorem pC_cases (w : List UInt8) : pC w = none ∨ pC w = some (pcOf w) := by
  unfold pcOf
  cases h : pC w with
  | none => exact .inl rfl
  | some d => exact .inr rfl
def spC (l : List UInt8) (m : Nat) : Option (List Cl) := if (sp44 l).length ≤ m then pCAll (sp44 l) else none
theorem pCAll_bad {ws : List (List UInt8)} {k : Nat} (hk : k < ws.length) (h : pC (ws[k]'hk) = none) : pCAll ws = none := by
  induction ws generalizing k with
  | nil => simp at hk
  | cons x xs ih =>
    cases k with
    | zero => have h' : pC x = none := h; unfold pCAll; rw [h']
    | succ k =>
      have h' := ih (k := k) (by simpa using hk) (by simpa using h)
      unfold pCAll
      rw [h']
      cases pC x <;> rfl
theorem pCAll_all {ws : List (List UInt8)} (h : ∀ (k : Nat) (hk : k < ws.length), pC (ws[k]'hk) = some (pcOf (ws[k]'hk))) : pCAll ws = some (ws.map pcOf) := by
  induction ws with
  | nil => rfl
  | cons x xs ih =>
    have h0 : pC x = some (pcOf x) := h 0 (by simp)
    have h1 := ih (fun k hk => h (k + 1) (by simpa using hk))
    unfold pCAll
    rw [h0, h1]; rfl

set_option maxRecDepth 1000000 in
theorem splitPartsCl_any (l : List UInt8) (hl : l.length ≤ 1048576) (w : World) (hP : LaidP w) :
    Calls Tryd.prog 44 #[.string (bs l), .string ⟨#[44]⟩, .int .i64 6, .func (.func 45) #[] #[]] w (MadeRCl ((spC l 6).getD []) (spC l 6).isSome w) := by
  have HSN := hide (SplitN_any44 l 6 (by omega) (by omega) (by omega) w hP.2.2)
  have HP := hide hP
  rw [show (((6 : Nat) : Int) + 1) = 7 from rfl] at HSN
  have HD := hide (show spC l 6 = if (sp44 l).length ≤ 6 then pCAll (sp44 l) else none from rfl)
  have HPL := hide (fun (k : Nat) (hk : k < (sp44 l).length) => sp_piece_len44 l ((sp44 l).getD k []) (by rw [List.getD, List.getElem?_eq_getElem hk]; exact List.getElem_mem hk))
  obtain ⟨i0, hi, hz0, hz1, hz2⟩ := info_parts infoCl
  have Hmk := hide (fun (n : Nat) (hn : n ≤ 6) (w : World) => (by
    have := run_make_rowCl (P := Tryd.prog) 28 44 i0 _ Tryd.underlying28 hi hz0 .i64 .i64 n n (Nat.le_refl _) (by rw [hz2]; omega) (by omega) w
    rw [hz1] at this
    exact this : (Instr.makeSlice 28 (.int .i64 (n : Int)) (.int .i64 (n : Int))).run Tryd.prog w = .ok (.slice (some ⟨w.heap.size, 0, none⟩) n n) (w.alloc (.cells (madeCells #[.int .i64 0, .int .i64 0, .int .i64 0, .int .i64 0] (n * 4)) 44))))
  clear hP hi hz0 hz1 hz2
  generalize bs l = s at *
  generalize hsp : sp44 l = ps at *
  generalize spC l 6 = r at *
  clear hsp
  go_enter Tryd.func44, Tryd.ntmps44
  go_wp2_with fail
  refine HSN.out.mono ?_
  rintro e w1 ⟨ws, c, rfl, hstr, hb1, hlen, hy, hn⟩
  have HY := hide hy
  have HN := hide hn
  have s1 := hb1.size
  have hP1 := hide (HP.out.next hb1)
  clear hy hn
  by_cases hle : ps.length ≤ 6
  · obtain rfl : ws = ps := HY.out hle
    have HR := hide (show r = pCAll ws from by rw [HD.out, if_pos hle])
    have hmk := Hmk.out ws.length hle
    have HML := hide (show (ws.map pcOf).length = ws.length from by simp)
    go_wp2_with fail
    go_loopw [30] (fun i wr => ∃ (k : Nat), k ≤ ws.length ∧ (∀ (j : Nat) (hj : j < ws.length), j < k → pC (ws[j]'hj) = some (pcOf (ws[j]'hj))) ∧ i = .int .i64 k ∧
        wr.rowIs w1.heap.size 44 (ws.length * 4) (fun j => if j < k * 4 then cellCl (ws.map pcOf) j else .int .i64 0) ∧ Below w1.heap.size w1 wr ∧ w1.heap.size < wr.heap.size)
      (fun i _ => ws.length - (intOf i).toNat)
    case atStart => exact ⟨0, Nat.zero_le _, fun j _ hj => by omega, rfl, (made_Cl w1 _ _).congr (fun i _ => by simp), (Below.refl _ _).alloc (Nat.le_refl _) _, by simp⟩
    case round =>
      obtain ⟨k, hk, hpa, rfl, hrow, hb2, hs2⟩ := hrel
      have HPA := hide hpa
      have Hrow := hide hrow
      clear hpa hrow
      by_cases hlt : k < ws.length
      · obtain ⟨ad, hada, hab, hcell⟩ := (hstr.below hb2 (Nat.le_refl _)).at_ hlt
        injection hada with hada
        subst hada
        rw [add_head] at hcell
        have HG := hide (show ws.getD k [] = ws[k] from by simp [List.getD, List.getElem?_eq_getElem hlt])
        have HK := hide (parseClue_any (ws.getD k []) (by have := HPL.out k hlt; omega) wr (hP1.out.next hb2))
        rw [HG.out] at hcell HK
        have HB := hide (fun h => pCAll_bad (ws := ws) hlt h)
        have HM := hide (show (ws.map pcOf)[k]'(by rw [HML.out]; exact hlt) = pcOf (ws[k]'hlt) from by simp)
        have HMr := hide (fun (w : World) h => row_Cl (w := w) (g := w1.heap.size) (T := 44) (N := ws.length * 4) (ms := ws.map pcOf) (k := k) (by rw [HML.out]; exact hlt) h)
        rw [HM.out] at HMr
        have hnxt : pC (ws[k]'hlt) = some (pcOf (ws[k]'hlt)) → ∀ (j : Nat) (hj : j < ws.length), j < k + 1 → pC (ws[j]'hj) = some (pcOf (ws[j]'hj)) := fun h j hj hjk => by
          by_cases e : j = k
          · subst e; exact h
          · exact HPA.out j hj (by omega)
        have HNx := hide hnxt
        clear hnxt HM
        generalize ws[k] = pc at *
        rcases pC_cases pc with hpn | hpn
        · have hrn : r = none := by rw [HR.out]; exact HB.out hpn
          rw [show pCV pc = .tuple #[.agg #[.int .i64 0, .int .i64 0, .int .i64 0, .int .i64 0], .bool false] from by unfold pCV; rw [hpn]] at HK
          subst hrn
          generalize bs pc = pz at *
          clear hpn
          go_wp2_with fail
          refine HK.out.mono ?_; rintro e w2 ⟨rfl, hb3⟩
          go_wp2_with fail
          go_ret2
          exact madeRCl_none (below_next hb1 (below_next hb2 (hb3.alloc hb3.size _)))
        · rw [show pCV pc = .tuple #[.agg #[.int .i64 (pcOf pc).x0, .int .i64 (pcOf pc).x1, .int .i64 (pcOf pc).x2, .int .i64 (pcOf pc).x3], .bool true] from by unfold pCV; rw [hpn]] at HK
          have HPN := hide (HNx.out hpn)
          generalize bs pc = pz at *
          generalize (pcOf pc).x0 = x0 at *
          generalize (pcOf pc).x1 = x1 at *
          generalize (pcOf pc).x2 = x2 at *
          generalize (pcOf pc).x3 = x3 at *
          clear hpn
          go_wp2_with fail
          refine HK.out.mono ?_; rintro e w2 ⟨rfl, hb3⟩
          have s2 := hb2.size
          have s3 := hb3.size
          have hrow2 : (w2.alloc (.cells #[.int .i64 x0, .int .i64 x1, .int .i64 x2, .int .i64 x3] 44)).rowIs w1.heap.size 44 (ws.length * 4) (fun j => if j < k * 4 then cellCl (ws.map pcOf) j else .int .i64 0) := (Hrow.out.of_block (hb3.block _ hs2)).of_block (Below.heap_alloc _ _ _ (by omega))
          have o0 := hrow2.cell (show k * 4 < ws.length * 4 by omega)
          have o1 := hrow2.cell (show k * 4 + 1 < ws.length * 4 by omega)
          have o2 := hrow2.cell (show k * 4 + 2 < ws.length * 4 by omega)
          have o3 := hrow2.cell (show k * 4 + 3 < ws.length * 4 by omega)
          rw [if_neg (by omega)] at o0 o1 o2 o3
          have f0 := hrow2.frozen (k * 4)
          have f1 := hrow2.frozen (k * 4 + 1)
          have f2 := hrow2.frozen (k * 4 + 2)
          have f3 := hrow2.frozen (k * 4 + 3)
          have HRw := hide (HMr.out _ hrow2)
          clear hrow2
          go_wp2_with fail
          go_roundw
          case rel => exact ⟨k + 1, by omega, HPN.out, by go_num, HRw.out, ((((((hb2.trans (hb3.mono (by omega))).alloc (by omega) _).setCell (Nat.le_refl _) _).setCell (Nat.le_refl _) _).setCell (Nat.le_refl _) _).setCell (Nat.le_refl _) _), by simp; omega⟩
          case measure => simp [intOf]; omega
      · have e : k = ws.length := by omega
        have HE := hide (show r = some (ws.map pcOf) from by rw [HR.out]; exact pCAll_all (fun j hj => HPA.out j hj (by omega)))
        have HO := hide (OwnICl.of_row (base := w1.heap.size) (ms := ws.map pcOf) (w := wr) (g := w1.heap.size) (by
          unfold RowCl
          rw [HML.out]
          exact Hrow.out.congr (fun i hi => by rw [if_pos (by rw [e]; omega)])) (Nat.le_refl _) (by rw [HML.out]; unfold maxLen; omega))
        rw [HML.out] at HO
        clear e hstr
        have hre : r = some (ws.map pcOf) := HE.out
        clear HE
        subst hre
        go_wp2_with fail
        go_ret2
        have hO := HO.out
        refine ⟨some ⟨w1.heap.size, 0, none⟩, ws.length, ?_, ?_, below_next hb1 hb2⟩
        · show _ = Ending.returned (.tuple #[.slice _ (ws.map pcOf).length ws.length, .bool true])
          rw [HML.out]; rfl
        · show OwnICl wr w.heap.size (.slice _ (ws.map pcOf).length ws.length) (ws.map pcOf).length (numsCl (ws.map pcOf))
          rw [HML.out]; exact hO.less s1
  · have hrn : r = none := by rw [HD.out, if_neg hle]
    subst hrn
    have hw13 : ws.length = 7 := HN.out (by omega)
    go_wp2_with fail
    go_ret2
    exact madeRCl_none hb1


theorem pCs_split (l : List UInt8) (h : l ≠ []) : pCs l = spC l 6 := by
  have he : l.isEmpty = false := by cases l with
    | nil => exact absurd rfl h
    | cons => rfl
  unfold pCs spC
  rw [he]; rfl

set_option maxRecDepth 1000000 in
theorem parseClues_any (l : List UInt8) (hl : l.length ≤ 1048576) (w : World) (hP : LaidP w) :
    Calls Tryd.prog 26 #[.string (bs l)] w (MadeRCl ((pCs l).getD []) (pCs l).isSome w) := by
  have HS := hide (splitPartsCl_any l hl w hP)
  clear hP
  by_cases he : l = []
  · subst he
    rw [show pCs [] = some [] from rfl]
    have hem : (bs []).toList.isEmpty = true := by rw [show (bs []).toList = [] from ByteArray.toList_mk []]; rfl
    clear HS
    go_enter Tryd.func26, Tryd.ntmps26
    go_wp2_with fail
    go_ret2
    exact ⟨none, 0, rfl, OwnICl.nil _ _, Below.refl _ _⟩
  · rw [pCs_split l he]
    have hem : (bs l).toList.isEmpty = false := by
      rw [show (bs l).toList = l from ByteArray.toList_mk l]
      cases l with
      | nil => exact absurd rfl he
      | cons => rfl
    generalize (spC l 6).getD [] = ds at *
    generalize (spC l 6).isSome = b at *
    clear he
    generalize bs l = s at *
    go_enter Tryd.func26, Tryd.ntmps26
    go_wp2_with fail
    refine HS.out.mono ?_
    rintro e w1 ⟨A, c, rfl, hown, hb1⟩
    go_wp2_with fail
    go_ret2
    exact ⟨A, c, rfl, hown, hb1⟩
end Go.Proofs.YtmjlfmlbmegheaaDoor
