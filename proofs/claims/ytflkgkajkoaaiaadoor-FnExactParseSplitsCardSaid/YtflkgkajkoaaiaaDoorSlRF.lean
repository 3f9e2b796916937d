
/-
  THE PROGRAM's ParseSplits: splitParts over splits.
-/
import Derived.Test.YtflkgkajkoaaiaaDoorSlRE
namespace Go.Proofs.YtflkgkajkoaaiaaDoor
open Go.RowKit Go.Deep
set_option linter.unusedVariables false

def spS (l : List UInt8) (m : Nat) : Option (List Sp) := if (sp44 l).length ≤ m then pSAll (sp44 l) else none
theorem pSAll_bad {ws : List (List UInt8)} {k : Nat} (hk : k < ws.length) (h : pS (ws[k]'hk) = none) : pSAll ws = none := by
  induction ws generalizing k with
  | nil => simp at hk
  | cons x xs ih =>
    cases k with
    | zero => have h' : pS x = none := h; unfold pSAll; rw [h']
    | succ k =>
      have h' := ih (k := k) (by simpa using hk) (by simpa using h)
      unfold pSAll
      rw [h']
      cases pS x <;> rfl
theorem pSAll_all {ws : List (List UInt8)} (h : ∀ (k : Nat) (hk : k < ws.length), pS (ws[k]'hk) = some (spOf (ws[k]'hk))) : pSAll ws = some (ws.map spOf) := by
  induction ws with
  | nil => rfl
  | cons x xs ih =>
    have h0 : pS x = some (spOf x) := h 0 (by simp)
    have h1 := ih (fun k hk => h (k + 1) (by simpa using hk))
    unfold pSAll
    rw [h0, h1]; rfl

set_option maxRecDepth 1000000 in
theorem splitPartsSp_any (l : List UInt8) (hl : l.length ≤ 1048576) (w : World) (hP : LaidP w) :
    Calls Tryd.prog 23 #[.string (bs l), .string ⟨#[44]⟩, .int .i64 60, .func (.func 24) #[] #[]] w (MadeRSp ((spS l 60).getD []) (spS l 60).isSome w) := by
  have HSN := hide (SplitN_any44 l 60 (by omega) (by omega) (by omega) w hP.2.2)
  have HP := hide hP
  rw [show (((60 : Nat) : Int) + 1) = 61 from rfl] at HSN
  have HD := hide (show spS l 60 = if (sp44 l).length ≤ 60 then pSAll (sp44 l) else none from rfl)
  have HPL := hide (fun (k : Nat) (hk : k < (sp44 l).length) => sp_piece_len44 l ((sp44 l).getD k []) (by rw [List.getD, List.getElem?_eq_getElem hk]; exact List.getElem_mem hk))
  obtain ⟨i0, hi, hz0, hz1, hz2⟩ := info_parts infoSp
  have Hmk := hide (fun (n : Nat) (hn : n ≤ 60) (w : World) => (by
    have := run_make_rowSp (P := Tryd.prog) 26 37 i0 _ Tryd.underlying26 hi hz0 .i64 .i64 n n (Nat.le_refl _) (by rw [hz2]; omega) (by omega) w
    rw [hz1] at this
    exact this : (Instr.makeSlice 26 (.int .i64 (n : Int)) (.int .i64 (n : Int))).run Tryd.prog w = .ok (.slice (some ⟨w.heap.size, 0, none⟩) n n) (w.alloc (.cells (madeCells #[.int .i64 0, .int .i64 0] (n * 2)) 37))))
  clear hP hi hz0 hz1 hz2
  generalize bs l = s at *
  generalize hsp : sp44 l = ps at *
  generalize spS l 60 = r at *
  clear hsp
  go_enter Tryd.func23, Tryd.ntmps23
  go_wp2_with fail
  refine HSN.out.mono ?_
  rintro e w1 ⟨ws, c, rfl, hstr, hb1, hlen, hy, hn⟩
  have HY := hide hy
  have HN := hide hn
  have s1 := hb1.size
  have hP1 := hide (HP.out.next hb1)
  clear hy hn
  by_cases hle : ps.length ≤ 60
  · obtain rfl : ws = ps := HY.out hle
    have HR := hide (show r = pSAll ws from by rw [HD.out, if_pos hle])
    have hmk := Hmk.out ws.length hle
    have HML := hide (show (ws.map spOf).length = ws.length from by simp)
    go_wp2_with fail
    go_loopw [30] (fun i wr => ∃ (k : Nat), k ≤ ws.length ∧ (∀ (j : Nat) (hj : j < ws.length), j < k → pS (ws[j]'hj) = some (spOf (ws[j]'hj))) ∧ i = .int .i64 k ∧
        wr.rowIs w1.heap.size 37 (ws.length * 2) (fun j => if j < k * 2 then cellSp (ws.map spOf) j else .int .i64 0) ∧ Below w1.heap.size w1 wr ∧ w1.heap.size < wr.heap.size)
      (fun i _ => ws.length - (intOf i).toNat)
    case atStart => exact ⟨0, Nat.zero_le _, fun j _ hj => by omega, rfl, (made_Sp w1 _ _).congr (fun i _ => by simp), (Below.refl _ _).alloc (Nat.le_refl _) _, by simp⟩
    case round =>
      obtain ⟨k, hk, hpa, rfl, hrow, hb2, hs2⟩ := hrel
      have HPA := hide hpa
      have Hrow := hide hrow
      clear hpa hrow
      by_cases hlt : k < ws.length
      · obtain ⟨ad, hada, hab, hcell⟩ := (hstr.below hb2 (Nat.le_refl _)).at_ hlt
        injection hada with hada
        subst hada
        rw [add_head] at hcell
        have HG := hide (show ws.getD k [] = ws[k] from by simp [List.getD, List.getElem?_eq_getElem hlt])
        have HK := hide (parseSplit_any (ws.getD k []) (by have := HPL.out k hlt; omega) wr (hP1.out.next hb2))
        rw [HG.out] at hcell HK
        have HB := hide (fun h => pSAll_bad (ws := ws) hlt h)
        have HM := hide (show (ws.map spOf)[k]'(by rw [HML.out]; exact hlt) = spOf (ws[k]'hlt) from by simp)
        have HMr := hide (fun (w : World) h => row_Sp (w := w) (g := w1.heap.size) (T := 37) (N := ws.length * 2) (ms := ws.map spOf) (k := k) (by rw [HML.out]; exact hlt) h)
        rw [HM.out] at HMr
        have hnxt : pS (ws[k]'hlt) = some (spOf (ws[k]'hlt)) → ∀ (j : Nat) (hj : j < ws.length), j < k + 1 → pS (ws[j]'hj) = some (spOf (ws[j]'hj)) := fun h j hj hjk => by
          by_cases e : j = k
          · subst e; exact h
          · exact HPA.out j hj (by omega)
        have HNx := hide hnxt
        clear hnxt HM
        generalize ws[k] = pc at *
        rcases pS_cases pc with ⟨hpn, _⟩ | ⟨_, _, hpn⟩
        · have hrn : r = none := by rw [HR.out]; exact HB.out hpn
          rw [show pSV pc = .tuple #[.agg #[.int .i64 0, .int .i64 0], .bool false] from by unfold pSV; rw [hpn]] at HK
          subst hrn
          generalize bs pc = pz at *
          clear hpn
          go_wp2_with fail
          refine HK.out.mono ?_; rintro e w2 ⟨rfl, hb3⟩
          go_wp2_with fail
          go_ret2
          exact madeRSp_none (below_next hb1 (below_next hb2 (hb3.alloc hb3.size _)))
        · rw [show pSV pc = .tuple #[.agg #[.int .i64 (spOf pc).x0, .int .i64 (spOf pc).x1], .bool true] from by unfold pSV; rw [hpn]] at HK
          have HPN := hide (HNx.out hpn)
          generalize bs pc = pz at *
          generalize (spOf pc).x0 = x0 at *
          generalize (spOf pc).x1 = x1 at *
          clear hpn
          go_wp2_with fail
          refine HK.out.mono ?_; rintro e w2 ⟨rfl, hb3⟩
          have s2 := hb2.size
          have s3 := hb3.size
          have hrow2 : (w2.alloc (.cells #[.int .i64 x0, .int .i64 x1] 37)).rowIs w1.heap.size 37 (ws.length * 2) (fun j => if j < k * 2 then cellSp (ws.map spOf) j else .int .i64 0) := (Hrow.out.of_block (hb3.block _ hs2)).of_block (Below.heap_alloc _ _ _ (by omega))
          have o0 := hrow2.cell (show k * 2 < ws.length * 2 by omega)
          have o1 := hrow2.cell (show k * 2 + 1 < ws.length * 2 by omega)
          rw [if_neg (by omega)] at o0 o1
          have f0 := hrow2.frozen (k * 2)
          have f1 := hrow2.frozen (k * 2 + 1)
          have HRw := hide (HMr.out _ hrow2)
          clear hrow2
          go_wp2_with fail
          go_roundw
          case rel => exact ⟨k + 1, by omega, HPN.out, by go_num, HRw.out, ((((hb2.trans (hb3.mono (by omega))).alloc (by omega) _).setCell (Nat.le_refl _) _).setCell (Nat.le_refl _) _), by simp; omega⟩
          case measure => simp [intOf]; omega
      · have e : k = ws.length := by omega
        have HE := hide (show r = some (ws.map spOf) from by rw [HR.out]; exact pSAll_all (fun j hj => HPA.out j hj (by omega)))
        have HO := hide (OwnISp.of_row (base := w1.heap.size) (ms := ws.map spOf) (w := wr) (g := w1.heap.size) (by
          unfold RowSp
          rw [HML.out]
          exact Hrow.out.congr (fun i hi => by rw [if_pos (by rw [e]; omega)])) (Nat.le_refl _) (by rw [HML.out]; unfold maxLen; omega))
        rw [HML.out] at HO
        clear e hstr
        have hre : r = some (ws.map spOf) := HE.out
        clear HE
        subst hre
        go_wp2_with fail
        go_ret2
        have hO := HO.out
        refine ⟨some ⟨w1.heap.size, 0, none⟩, ws.length, ?_, ?_, below_next hb1 hb2⟩
        · show _ = Ending.returned (.tuple #[.slice _ (ws.map spOf).length ws.length, .bool true])
          rw [HML.out]; rfl
        · show OwnISp wr w.heap.size (.slice _ (ws.map spOf).length ws.length) (ws.map spOf).length (numsSp (ws.map spOf))
          rw [HML.out]; exact hO.less s1
  · have hrn : r = none := by rw [HD.out, if_neg hle]
    subst hrn
    have hw13 : ws.length = 61 := HN.out (by omega)
    go_wp2_with fail
    go_ret2
    exact madeRSp_none hb1

theorem ps_split (l : List UInt8) (h : l ≠ []) : psOk l = (spS l 60).isSome ∧ psL l = (spS l 60).getD [] := by
  have he : l.isEmpty = false := by cases l with
    | nil => exact absurd rfl h
    | cons => rfl
  unfold psL psOk spS
  rw [he, Bool.false_or]
  by_cases h1 : (sp44 l).length ≤ 60
  · rw [if_pos h1, decide_eq_true h1, Bool.true_and]
    rcases pSAll_cases (sp44 l) with ⟨a, b, c⟩ | ⟨a, b⟩
    · rw [a, b, c]; exact ⟨rfl, rfl⟩
    · rw [a, b]; exact ⟨rfl, rfl⟩
  · rw [if_neg h1, decide_eq_false h1]; exact ⟨rfl, rfl⟩

theorem ParseSplits_any (l : List UInt8) (hl : l.length ≤ 1048576) (w : World) (hP : LaidP w) :
    Calls Tryd.prog 11 #[.string (bs l)] w (MadeRSp (psL l) (psOk l) w) := by
  have HS := hide (splitPartsSp_any l hl w hP)
  clear hP
  by_cases he : l = []
  · subst he
    rw [show psL [] = [] from rfl, show psOk [] = true from rfl]
    have hem : (bs []).toList.isEmpty = true := by rw [show (bs []).toList = [] from ByteArray.toList_mk []]; rfl
    clear HS
    go_enter Tryd.func11, Tryd.ntmps11
    go_wp2_with fail
    go_ret2
    exact ⟨none, 0, rfl, OwnISp.nil _ _, Below.refl _ _⟩
  · obtain ⟨e1, e2⟩ := ps_split l he
    rw [e1, e2]
    have hem : (bs l).toList.isEmpty = false := by
      rw [show (bs l).toList = l from ByteArray.toList_mk l]
      cases l with
      | nil => exact absurd rfl he
      | cons => rfl
    generalize (spS l 60).getD [] = ds at *
    generalize (spS l 60).isSome = b at *
    clear e1 e2 he
    generalize bs l = s at *
    go_enter Tryd.func11, Tryd.ntmps11
    go_wp2_with fail
    refine HS.out.mono ?_
    rintro e w1 ⟨A, c, rfl, hown, hb1⟩
    go_wp2_with fail
    go_ret2
    exact ⟨A, c, rfl, hown, hb1⟩
end Go.Proofs.YtflkgkajkoaaiaaDoor
