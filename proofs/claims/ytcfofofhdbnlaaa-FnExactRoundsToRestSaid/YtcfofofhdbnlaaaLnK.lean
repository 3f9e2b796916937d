
/-
  THE MODEL'S RoundsToRest: l1Has, chRest.
-/
import Derived.Test.YtcfofofhdbnlaaaLnN
import Derived.Test.YtcfofofhdbnlaaaLnX
namespace Go.Proofs.Ytcfofofhdbnlaaa
open Go.RowKit Go.Deep
set_option linter.unusedVariables false

def hasIn (zs : List Int) (x : Int) : Bool := zs.any (· == x)
theorem hasIn_yes {zs : List Int} {x : Int} {k : Nat} (hk : k < zs.length) (h : zs.getD k 0 = x) : hasIn zs x = true := by
  unfold hasIn
  rw [List.any_eq_true]
  exact ⟨zs[k], List.getElem_mem hk, by rw [getD_ge hk] at h; simpa using h⟩
theorem hasIn_no {zs : List Int} {x : Int} (h : ∀ k : Nat, k < zs.length → zs.getD k 0 ≠ x) : hasIn zs x = false := by
  unfold hasIn
  rw [List.any_eq_false]
  intro z hz
  obtain ⟨k, hk, rfl⟩ := List.getElem_of_mem hz
  have := h k hk
  rw [getD_ge hk] at this
  simpa using this
theorem l1Has_any (A : Option Addr) (n c B : Nat) (zs : List Int) (x : Int) (w : World) (hr : Ints w B A n zs) (hn : n ≤ 1000000) :
    Calls Try.prog 40 #[.slice A n c, .int .i64 x] w fun e w' => e = .returned (.bool (hasIn zs x)) ∧ w = w' := by
  obtain rfl := hr.len
  go_enter Try.func40, Try.ntmps40
  go_wp2
  go_loop [9] (fun i => ∃ k : Nat, k ≤ zs.length ∧ i = .int .i64 k ∧ ∀ j : Nat, j < k → zs.getD j 0 ≠ x)
    (fun i => zs.length - (intOf i).toNat)
  case atStart => exact ⟨0, Nat.zero_le _, rfl, fun j hj => by omega⟩
  case round =>
    obtain ⟨k, hk, rfl, hall⟩ := hrel
    have HA := hide hall
    clear hall
    by_cases hlt : k < zs.length
    · have HY := hide (fun h => hasIn_yes (zs := zs) (x := x) hlt h)
      have HS := hide (show zs.getD k 0 ≠ x → ∀ j : Nat, j < k + 1 → zs.getD j 0 ≠ x from fun h j hj => by
        by_cases e : j = k
        · rw [e]; exact h
        · exact HA.out j (by omega))
      obtain ⟨ad, rfl, hab, hcell⟩ := hr.at_ hlt
      generalize zs.getD k 0 = a at *
      by_cases h1 : a = x
      · have HE := hide (HY.out h1)
        subst h1
        go_wp2
        go_ret
        exact ⟨by rw [HE.out]; rfl, rfl⟩
      · go_wp2
        go_round
        case rel => exact ⟨k + 1, by omega, by go_num, HS.out h1⟩
        case measure => simp [intOf]; omega
    · have HE := hide (hasIn_no (zs := zs) (x := x) (fun j hj => HA.out j (by omega)))
      go_wp2
      go_ret
      exact ⟨by rw [HE.out]; rfl, rfl⟩
theorem ready_has {zs : List Int} : hasIn (readyL zs) 1 = !(rested zs) := by
  cases h : rested zs
  · obtain ⟨j, hj, h1⟩ := rested_find h
    exact hasIn_yes (k := j) (by rw [readyL_length]; exact hj) (by rw [readyL_getD, if_pos h1])
  · refine hasIn_no fun k hk => ?_
    rw [readyL_length] at hk
    rw [readyL_getD]
    have : ¬ 1 < zs.getD k 0 := fun h1 => by have := rested_no k hk h1; rw [h] at this; cases this
    rw [if_neg this]; omega

/-- The first k added. -/
def addTo (ss us : List Int) : Nat → List Int
  | 0 => ss
  | k + 1 => more (addTo ss us k) k (us.getD k 0)
theorem addTo_length (ss us : List Int) (k : Nat) : (addTo ss us k).length = ss.length := by
  induction k with
  | zero => rfl
  | succ k ih => unfold addTo; rw [more_length, ih]
theorem addTo_getD (ss us : List Int) (k j : Nat) (hk : k ≤ ss.length) : (addTo ss us k).getD j 0 = ss.getD j 0 + if j < k then us.getD j 0 else 0 := by
  induction k with
  | zero => rw [if_neg (by omega)]; simp [addTo]
  | succ k ih =>
    have hi := ih (by omega)
    show (more (addTo ss us k) k (us.getD k 0)).getD j 0 = _
    rw [more_getD _ _ _ _ (by rw [addTo_length]; omega), hi]
    by_cases e : k = j
    · subst e; rw [if_neg (by omega), if_pos rfl, if_pos (by omega)]; omega
    · rw [if_neg e]
      by_cases h2 : j < k
      · rw [if_pos h2, if_pos (by omega)]; omega
      · rw [if_neg h2, if_neg (by omega)]; omega
theorem addTo_all (ss us : List Int) (h : us.length = ss.length) : addTo ss us ss.length = plus ss us := by
  refine list_ext_getD (by rw [addTo_length, plus_length]) fun j hj => ?_
  rw [addTo_length] at hj
  rw [addTo_getD _ _ _ _ (Nat.le_refl _), plus_getD _ _ _ h, if_pos hj]

theorem Ints.setOther {w : World} {B n g j : Nat} {A : Option Addr} {zs : List Int} (h : Ints w B A n zs) (hg : ∀ ad, A = some ad → ad.block ≠ g) (v : Value) : Ints (w.setCell ⟨g, j, none⟩ v) B A n zs := by
  refine ⟨h.1, fun h0 => ?_⟩
  obtain ⟨ad, e, hb, hc⟩ := h.2 h0
  refine ⟨ad, e, hb, fun k hk => ?_⟩
  have hne : (ad.add k).block ≠ g := by
    have := hg ad e
    unfold Addr.add
    split
    · exact this
    · exact this
  rw [World.cell?_of_block (w := w) (a := ad.add k) (heap_setCell_other w ⟨g, j, none⟩ _ v hne)]
  exact hc k hk

set_option maxRecDepth 100000 in
/-- WHAT THE MODEL'S SEARCH FOR REST LEAVES. -/
theorem chRest_any (A : Option Addr) (n c B : Nat) (zs : List Int) (w : World) (hr : Ints w B A n zs) (hB : B ≤ w.heap.size) (hg : hgood zs = true) :
    Calls Try.prog 30 #[.slice A n c] w fun e w' =>
      ∃ g1 c1 g2, e = .returned (.tuple #[.slice (some ⟨g1, 0, none⟩) n c1, .slice (some ⟨g2, 0, none⟩) n n, .int .i64 (rounds zs : Int)]) ∧ n ≤ c1 ∧ c1 ≤ maxLen ∧
        Own w' w.heap.size 3 (.slice (some ⟨g1, 0, none⟩) n c1) (chipsOf zs (seqF zs (rounds zs))) ∧ Own w' w.heap.size 3 (.slice (some ⟨g2, 0, none⟩) n n) (seqF zs (rounds zs)) ∧ Below w.heap.size w w' := by
  obtain rfl := hr.len
  obtain ⟨h1, h20, _⟩ := hgood_of hg
  have hmk := run_make_row' (P := Try.prog) 22 3 (.int .i64 0) 8 Try.underlying22 infoInt rfl .i64 .i64 zs.length (by omega) (by omega)
  have HG := hide hg
  clear hg
  go_enter Try.func30, Try.ntmps30
  go_wp2_with fail
  have hrow' : Row (w.alloc (.cells (madeCells #[.int .i64 0] zs.length) 3)) w.heap.size 3 (seqF zs 0) := by
    unfold Row
    rw [show (seqF zs 0).length = zs.length from noF_length _]
    exact (World.rowIs_made w _ _ _).congr (fun i hi => by rw [show seqF zs 0 = noF zs.length from rfl, noF_getD])
  have ho := Own.of_row (base := w.heap.size) hrow' (Nat.le_refl _) (by rw [show (seqF zs 0).length = zs.length from noF_length _]; unfold maxLen; omega)
  rw [show (seqF zs 0).length = zs.length from noF_length _] at ho
  have hb0 : Below w.heap.size w (w.alloc (.cells (madeCells #[.int .i64 0] zs.length) 3)) := (Below.refl _ _).alloc (Nat.le_refl _) _
  have hr0 := hr.below hb0 hB
  have hsz0 : w.heap.size < (w.alloc (.cells (madeCells #[.int .i64 0] zs.length) 3)).heap.size := by simp
  have hfst : chipsOf zs (seqF zs 0) = zs := chipsOf_noF zs _
  have hlo : ∀ ad, A = some ad → ad.block ≠ w.heap.size := fun ad e => by
    obtain ⟨ad', e', hb', _⟩ := hr.2 (by omega)
    rw [e] at e'; cases e'
    omega
  clear hrow'
  generalize (w.alloc (.cells (madeCells #[.int .i64 0] zs.length) 3)) = w0 at *
  go_loopw [0, 6] (fun v p wr => ∃ (r c2 : Nat) (A2 : Option Addr), v = .slice A2 zs.length c2 ∧ p = .int .i64 (r : Int) ∧ (∀ i, i < r → restAt zs i = false) ∧ Ints wr wr.heap.size A2 zs.length (chipsOf zs (seqF zs r)) ∧ (∀ ad, A2 = some ad → ad.block ≠ w.heap.size) ∧
      Own wr w.heap.size 3 (.slice (some ⟨w.heap.size, 0, none⟩) zs.length zs.length) (seqF zs r) ∧ Below w.heap.size w wr ∧ w.heap.size < wr.heap.size)
    (fun _ p _ => 66001 - (intOf p).toNat)
  case atStart => exact ⟨0, c, A, rfl, rfl, fun i hi => by omega, by rw [hfst]; exact hr0.more (by omega), hlo, ho, hb0, hsz0⟩
  case round =>
    obtain ⟨r, c2, A2, rfl, rfl, hno, hI, hlo2, hos, hbr, hszr⟩ := hrel
    have hrb := rounds_bd HG.out r hno
    have HI := hide hI
    have Hno := hide hno
    have HOs := hide hos
    have HBr := hide hbr
    have Hlo2 := hide hlo2
    have hbz := hbr.size
    have HRd := hide (chReady_any A2 zs.length c2 wr.heap.size (chipsOf zs (seqF zs r)) wr HI.out (Nat.le_refl _) (by omega) (by omega))
    rw [show readyL (chipsOf zs (seqF zs r)) = readyF zs (seqF zs r) from rfl] at HRd
    have HRl := hide (readyF_length zs (seqF zs r))
    have HSl := hide (seqF_length zs r)
    have hhas : hasIn (readyF zs (seqF zs r)) 1 = !(restAt zs r) := ready_has
    clear hI hno hos hbr hlo2 ho hb0 hr0 hfst hlo hsz0
    cases hre : restAt zs r
    · have HN2 := hide (show ∀ i, i < r + 1 → restAt zs i = false from fun i hi => by
        by_cases e : i = r
        · subst e; exact hre
        · exact Hno.out i (by omega))
      have hrb2 := rounds_bd HG.out (r + 1) HN2.out
      rw [hre] at hhas
      have HH := hide hhas
      have hz2 : ∀ q : Nat, -1000000000 ≤ (chipsOf zs (seqF zs r)).getD q 0 ∧ (chipsOf zs (seqF zs r)).getD q 0 ≤ 1000000000 := fun q => by
        by_cases hq : q < zs.length
        · rw [chipsOf_getD _ _ _ hq]
          have := rowAt_bd HG.out (seq_upto HG.out r) (q + 1)
          omega
        · rw [getD_over _ _ (by rw [chipsOf_length]; omega)]; omega
      have HF := hide (fun A' c' B' W (hW : Ints W wr.heap.size A2 zs.length (chipsOf zs (seqF zs r))) (hT : Ints W B' A' zs.length (readyF zs (seqF zs r))) h3 h4 => chFire_any A2 A' zs.length c2 c' wr.heap.size B' (chipsOf zs (seqF zs r)) (readyF zs (seqF zs r)) W hW hT h3 h4 (by omega) h20 hz2 (small_of (readyL_upto _) (by omega)))
      rw [chips_next] at HF
      have HL2 := hide (chipsOf_length zs (seqF zs (r + 1)))
      clear hz2 hhas hre
      go_wp2_with fail
      refine HRd.out.mono ?_
      rintro e w5 ⟨g5, c5, rfl, hg5, _, hc5, _, hown5, hb5⟩
      rw [HRl.out]
      have hT5 := hown5.ints
      rw [HRl.out] at hT5
      have s5 := hb5.size
      go_wp2_with fail
      refine (l1Has_any _ _ _ _ _ _ _ hT5 (by omega)).mono ?_; rintro e w' ⟨rfl, rfl⟩
      rw [HH.out]
      have hI5 := HI.out.below hb5 (Nat.le_refl _)
      go_wp2_with fail
      refine (HF.out _ c5 _ _ hI5 hT5 s5 (Nat.le_refl _)).mono ?_
      rintro e w6 ⟨g6, c6, rfl, hg6, _, hc7, hc8, hown6, hb6⟩
      rw [HL2.out] at hown6 hc7
      rw [HL2.out]
      have hT6 := hT5.below hb6 (Nat.le_refl _)
      have s6 := hb6.size
      have hL6 := hown6.ints
      rw [HL2.out] at hL6
      have hO6 := (HOs.out.below hb5).below hb6
      have hB6 := HBr.out.trans ((below_next hb5 hb6).mono hbz)
      have HL6 := hide hL6
      have HT6 := hide hT6
      have HAll := hide (addTo_all (seqF zs r) (readyF zs (seqF zs r)) (by rw [HRl.out, HSl.out]))
      clear hown5 hown6 hT5 hI5 hb5 hb6 hL6 hT6
      go_wp2_with fail
      have h5n : g5 ≠ w.heap.size := by omega
      have h6n : g6 ≠ w.heap.size := by omega
      have HU := hide (seq_upto HG.out r)
      have hru : upto (readyF zs (seqF zs r)) 1 := readyL_upto _
      have HRU := hide hru
      have hz6 : w.heap.size < w6.heap.size := by omega
      clear hru
      go_loopw [27] (fun i wy => ∃ k : Nat, k ≤ zs.length ∧ i = .int .i64 k ∧ Own wy w.heap.size 3 (.slice (some ⟨w.heap.size, 0, none⟩) zs.length zs.length) (addTo (seqF zs r) (readyF zs (seqF zs r)) k) ∧
          Ints wy w6.heap.size (some ⟨g5, 0, none⟩) zs.length (readyF zs (seqF zs r)) ∧ Ints wy w6.heap.size (some ⟨g6, 0, none⟩) zs.length (chipsOf zs (seqF zs (r + 1))) ∧ Below w.heap.size w wy ∧ w6.heap.size ≤ wy.heap.size)
        (fun i _ => zs.length - (intOf i).toNat)
      case atStart => exact ⟨0, Nat.zero_le _, rfl, hO6, HT6.out.more s6, HL6.out, hB6, Nat.le_refl _⟩
      case round =>
        obtain ⟨k, hk, rfl, hOk, hTk, hLk, hBk, hSk⟩ := hrel
        by_cases hlt : k < zs.length
        · have HAk := hide (show addTo (seqF zs r) (readyF zs (seqF zs r)) (k + 1) = more (addTo (seqF zs r) (readyF zs (seqF zs r)) k) k ((readyF zs (seqF zs r)).getD k 0) from rfl)
          have hal : (addTo (seqF zs r) (readyF zs (seqF zs r)) k).length = zs.length := by rw [addTo_length, HSl.out]
          have HAL := hide hal
          have hv : (addTo (seqF zs r) (readyF zs (seqF zs r)) k).getD k 0 = (seqF zs r).getD k 0 := by rw [addTo_getD _ _ _ _ (by rw [HSl.out]; omega), if_neg (by omega), Int.add_zero]
          have ho' := hOk
          unfold Own at ho'
          rw [hal] at ho'
          have hold := World.ownsRow.cellAt ho' k (by omega)
          rw [List.getElem?_map, List.getElem?_eq_getElem (by rw [hal]; exact hlt), Option.map_some, ← getD_ge (by rw [hal]; exact hlt), hv] at hold
          have hfz := World.ownsRow.frozenAt ho' k
          have HV := hide hv
          have hu1 := HU.out k
          have hu2 := HRU.out k
          obtain ⟨ad5, had5, _, hc5b⟩ := hTk.at_ hlt
          obtain rfl : ad5 = ⟨g5, 0, none⟩ := by injection had5 with h; exact h.symm
          rw [add_mid, Nat.zero_add] at hc5b
          have HT := hide (hTk.setOther (g := w.heap.size) (j := k) (fun ad e => by cases e; exact h5n))
          have HL := hide (hLk.setOther (g := w.heap.size) (j := k) (fun ad e => by cases e; exact h6n))
          have HO := hide hOk
          have HB := hide hBk
          clear ho' hal hv had5 hTk hLk hOk hBk
          generalize (seqF zs r).getD k 0 = s at *
          generalize (readyF zs (seqF zs r)).getD k 0 = t at *
          go_wp2_with fail
          go_roundw
          case rel =>
            refine ⟨k + 1, by omega, by go_num, ?_, HT.out _, HL.out _, HB.out.setCell (Nat.le_refl _) _, by simpa using hSk⟩
            have := Own.stored HO.out HAL.out k (s + t)
            rw [HAk.out]
            unfold more
            rw [HV.out]
            exact this
          case measure => simp [intOf]; omega
        · obtain rfl : k = zs.length := by omega
          rw [show addTo (seqF zs r) (readyF zs (seqF zs r)) zs.length = seqF zs (r + 1) from by have := HAll.out; rw [HSl.out] at this; exact this] at hOk
          go_wp2_with fail
          go_roundw
          case rel => exact ⟨r + 1, c6, some ⟨g6, 0, none⟩, rfl, by go_num, HN2.out, hLk.more hSk, fun ad e => by cases e; exact h6n, hOk, hBk, by omega⟩
          case measure => simp [intOf]; omega
    · have HRs := hide (rounds_of HG.out r hre Hno.out)
      rw [hre] at hhas
      have HH := hide hhas
      have HOw := hide (fun W (h : Ints W wr.heap.size A2 zs.length (chipsOf zs (seqF zs r))) (h2 : wr.heap.size ≤ W.heap.size) => l1Own_any A2 zs.length c2 wr.heap.size (chipsOf zs (seqF zs r)) W h h2 (by omega) (by omega))
      have HCl := hide (chipsOf_length zs (seqF zs r))
      clear hhas hre
      go_wp2_with fail
      refine HRd.out.mono ?_
      rintro e w5 ⟨g5, c5, rfl, _, _, _, _, hown5, hb5⟩
      rw [HRl.out]
      have hT5 := hown5.ints
      rw [HRl.out] at hT5
      have s5 := hb5.size
      go_wp2_with fail
      refine (l1Has_any _ _ _ _ _ _ _ hT5 (by omega)).mono ?_; rintro e w' ⟨rfl, rfl⟩
      rw [HH.out]
      have hI5 := HI.out.below hb5 (Nat.le_refl _)
      go_wp2_with fail
      refine (HOw.out _ hI5 s5).mono ?_
      rintro e w6 ⟨g6, c6, rfl, _, _, hc7, hc8, hown6, hb6⟩
      rw [HCl.out] at hown6 hc7
      rw [HCl.out]
      have hO6 := (HOs.out.below hb5).below hb6
      have hB6 := HBr.out.trans ((below_next hb5 hb6).mono hbz)
      go_wp2_with fail
      go_ret3
      rw [HRs.out]
      exact ⟨g6, c6, w.heap.size, rfl, hc7, hc8, hown6.less (Nat.le_trans hbz s5), hO6, hB6⟩

/-- The model's RoundsToRest. -/
theorem specRoundsToRest_any (A : Option Addr) (n c B : Nat) (zs : List Int) (w : World) (hr : Ints w B A n zs) (hB : B ≤ w.heap.size) (hn : n ≤ 17592186044416) :
    Calls Try.prog 15 #[.slice A n c] w fun e w' => e = .returned (.tuple #[.int .i64 (roundsN zs), .bool (hgood zs)]) ∧ Below w.heap.size w w' := by
  obtain rfl := hr.len
  have HA := hide (chGood_any A zs.length c B zs w hr hn)
  cases hg : hgood zs
  · rw [roundsN_no hg]
    rw [hg] at HA
    clear hg
    go_enter Try.func15, Try.ntmps15
    go_wp2_with fail
    refine HA.out.mono ?_; rintro e w' ⟨rfl, rfl⟩
    go_wp2_with fail
    go_ret2
    exact ⟨rfl, Below.refl _ _⟩
  · have HR := hide (chRest_any A zs.length c B zs w hr hB hg)
    rw [roundsN_yes hg]
    rw [hg] at HA
    clear hg
    go_enter Try.func15, Try.ntmps15
    go_wp2_with fail
    refine HA.out.mono ?_; rintro e w' ⟨rfl, rfl⟩
    go_wp2_with fail
    refine HR.out.mono ?_
    rintro e w2 ⟨g1, c1, g2, rfl, _, _, _, _, hb2⟩
    go_wp2_with fail
    go_ret2
    exact ⟨rfl, hb2⟩
end Go.Proofs.Ytcfofofhdbnlaaa
