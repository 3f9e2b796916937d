
/-
  LISTS OF LISTS AS ARGUMENTS: toIntSS (a copy), szIntSS (their size).
-/
import Derived.Test.YtjfkadmmmhefbaaDoorSs
import Derived.Test.YtjfkadmmmhefbaaDoorCuL
namespace Go.Proofs.YtjfkadmmmhefbaaDoor
open Go.RowKit Go.Deep
set_option linter.unusedVariables false

theorem infoIntS : (Tryd.prog.info? 22).map (fun i => (i.zero, i.size, i.bytes)) = some (some (.slice none 0 0), 1, 24) := by kernel_rfl

/-- WHAT toIntSS LEAVES. -/
def CopiedSS (zss : List (List Int)) (w : World) (e : Ending) (w' : World) : Prop :=
  ∃ g vs, w.heap.size ≤ g ∧ g < w'.heap.size ∧ e = .returned (.slice (some ⟨g, 0, none⟩) zss.length zss.length) ∧ OwnVs w' w.heap.size (.slice (some ⟨g, 0, none⟩) zss.length zss.length) vs zss ∧ Below w.heap.size w w'

/-- The slice value that leads to block h. -/
def headV (hs : List Nat) (zss : List (List Int)) (j : Nat) : Value := .slice (some ⟨hs.getD j 0, 0, none⟩) (zss.getD j []).length (zss.getD j []).length

theorem ownVs_of {w : World} {base g : Nat} {hs : List Nat} {zss : List (List Int)} (hg : base ≤ g) (hrow : w.rowIs g 22 zss.length (fun j => headV hs zss j)) (hm : zss.length ≤ maxLen) (hz : ∀ j, j < zss.length → (zss.getD j []).length ≤ maxLen)
    (hh : ∀ j, j < zss.length → g < hs.getD j 0 ∧ Row w (hs.getD j 0) 3 (zss.getD j [])) (hd : ∀ i j, i < j → j < zss.length → hs.getD i 0 ≠ hs.getD j 0) :
    OwnVs w base (.slice (some ⟨g, 0, none⟩) zss.length zss.length) ((List.range zss.length).map (headV hs zss)) zss := by
  have hget : ∀ j, j < zss.length → ((List.range zss.length).map (headV hs zss)).getD j undef = headV hs zss j := fun j hj => by
    simp [List.getD, hj]
  have hl : ((List.range zss.length).map (headV hs zss)).length = zss.length := by simp
  refine ⟨hl, ?_, fun k hk => ?_, fun i j hij hj b hb => ?_, fun i hi b hb => ?_⟩
  · obtain ⟨cur, h1, h2, h3⟩ := hrow
    refine ⟨by simp, .inr ⟨g, zss.length, cur, by rw [hl], hg, by simpa using h1, by rw [hl]; exact Nat.le_refl _, hm, by omega, ?_⟩⟩
    apply List.ext_getElem?
    intro i
    by_cases hi : i < zss.length
    · rw [List.getElem?_take, if_pos (by rw [hl]; omega), Array.getElem?_toList, h3 i hi]
      simp [hi]
    · rw [List.getElem?_eq_none (by simp; omega), List.getElem?_eq_none (by simp; omega)]
  · rw [hget k hk]
    exact Own.of_row (hh k hk).2 (Nat.le_trans hg (Nat.le_of_lt (hh k hk).1)) (hz k hk)
  · rw [hget i (by omega)] at hb
    rw [hget j hj]
    intro e
    simp only [headV, Value.ownBlock, Option.some.injEq] at hb e
    exact hd i j hij hj (by omega)
  · rw [hget i hi] at hb
    intro e
    simp only [headV, Value.ownBlock, Option.some.injEq] at hb e
    have := (hh i hi).1
    omega

set_option maxHeartbeats 1000000 in
set_option maxRecDepth 100000 in
theorem toIntSS_any (A : Option Addr) (n c B : Nat) (vs : List Value) (zss : List (List Int)) (w : World) (hv : Vals w B A n vs) (hi : IntVs w B vs zss) (hB : B ≤ w.heap.size) (hn : n ≤ 1048576) (hz : ∀ j, j < zss.length → (zss.getD j []).length ≤ 17592186044416) :
    Calls Tryd.prog 8 #[.slice A n c] w (CopiedSS zss w) := by
  obtain rfl : zss.length = n := (hv.1.symm.trans hi.1).symm
  have hmk := run_make_row' (P := Tryd.prog) 25 22 (.slice none 0 0) 24 Tryd.underlying25 infoIntS rfl .i64 .i64 zss.length (by omega) (by omega)
  have HV := hide hv
  have HI := hide hi
  have HZ := hide hz
  clear hv hi hz
  go_enter Tryd.func8, Tryd.ntmps8
  go_wp2_with fail
  go_loopw [4] (fun i wr => ∃ k : Nat, k ≤ zss.length ∧ i = .int .i64 k ∧ ∃ hs : List Nat, hs.length = k ∧ wr.rowIs w.heap.size 22 zss.length (fun j => if j < k then headV hs zss j else .slice none 0 0) ∧
      Hid (∀ j, j < k → w.heap.size < hs.getD j 0 ∧ hs.getD j 0 < wr.heap.size ∧ Row wr (hs.getD j 0) 3 (zss.getD j [])) ∧ Hid (∀ i j, i < j → j < k → hs.getD i 0 ≠ hs.getD j 0) ∧ Below w.heap.size w wr ∧ w.heap.size < wr.heap.size)
    (fun i _ => zss.length - (intOf i).toNat)
  case atStart => exact ⟨0, Nat.zero_le _, rfl, [], rfl, (World.rowIs_made w _ _ _).congr (fun i _ => by simp), hide (fun j h => absurd h (Nat.not_lt_zero _)), hide (fun i j _ h => absurd h (Nat.not_lt_zero _)), (Below.refl _ _).alloc (Nat.le_refl _) _, by simp⟩
  case round =>
    obtain ⟨k, hk, rfl, hs, hsl, hrow, HH, HD, hb, hsz⟩ := hrel
    by_cases hlt : k < zss.length
    · obtain ⟨ad, rfl, hab, hcell⟩ := (HV.out.below hb hB).at_ hlt
      obtain ⟨A', c', ev, hri⟩ := (HI.out.below hb hB).2 k hlt
      rw [ev] at hcell
      have HC := hide (toIntS_any A' (zss.getD k []).length c' (zss.getD k []) wr (hri.more (by omega)) (HZ.out k hlt))
      have Hrow := hide hrow
      clear hrow hri ev
      generalize hzk : zss.getD k [] = zk at *
      have HZK := hide hzk
      clear hzk
      go_wp2_with fail
      refine HC.out.mono ?_; rintro e w2 ⟨g, hg1, hg2, rfl, hrow', hb2⟩
      have hrow2 := Hrow.out.of_block (hb2.block _ hsz)
      have hold := hrow2.cell hlt
      have hfz := hrow2.frozen k
      have s2 := hb2.size
      have hb0 := hb.size
      have R2 := hide hrow2
      have hget1 : ∀ j, j < k → (hs ++ [g]).getD j 0 = hs.getD j 0 := fun j hj => by simp [List.getD, List.getElem?_append_left (show j < hs.length by omega)]
      have hget2 : (hs ++ [g]).getD k 0 = g := by simp [List.getD, ← hsl]
      have HG := hide (And.intro hget1 hget2)
      have HRW := hide hrow'
      have HB2 := hide hb2
      clear hrow2 hget1 hget2 hrow' hb2
      go_wp2_with fail
      go_roundw
      case rel =>
        refine ⟨k + 1, by omega, by go_num, hs ++ [g], by simp [hsl], (R2.out.set k _).congr (fun i hi => ?_), hide (fun j hj => ?_), hide (fun i j hij hj => ?_), (hb.trans (HB2.out.mono hb0)).setCell (Nat.le_refl _) _, by simp; omega⟩
        · by_cases e : i = k
          · subst e; rw [if_pos rfl, if_pos (by omega)]; unfold headV; rw [HG.out.2, HZK.out]
          · rw [if_neg e]
            by_cases h2 : i < k
            · rw [if_pos h2, if_pos (by omega)]; unfold headV; rw [HG.out.1 i h2]
            · rw [if_neg h2, if_neg (by omega)]
        · by_cases e : j = k
          · subst e
            rw [HG.out.2, HZK.out]
            refine ⟨by omega, by simpa using hg2, HRW.out.setOther (by simp; omega) _⟩
          · have := HH.out j (by omega)
            rw [HG.out.1 j (by omega)]
            generalize hs.getD j 0 = hj' at *
            refine ⟨this.1, by simp; omega, Row.setOther (g := hj') (World.rowIs.of_block this.2.2 (HB2.out.block _ this.2.1)) (by simp; omega) _⟩
        · by_cases e : j = k
          · subst e
            rw [HG.out.2, HG.out.1 i hij]
            have := HH.out i hij
            omega
          · rw [HG.out.1 j (by omega), HG.out.1 i (by omega)]
            exact HD.out i j hij (by omega)
      case measure => simp [intOf]; omega
    · obtain rfl : k = zss.length := by omega
      have HO := hide (ownVs_of (base := w.heap.size) (Nat.le_refl _) (hrow.congr (fun i hi => by rw [if_pos hi])) (by unfold maxLen; omega) (fun j hj => by have := HZ.out j hj; unfold maxLen; omega) (fun j hj => ⟨(HH.out j hj).1, (HH.out j hj).2.2⟩) HD.out)
      clear hrow
      go_wp2_with fail
      go_ret
      exact ⟨_, _, Nat.le_refl _, hsz, rfl, HO.out, hb⟩

set_option maxHeartbeats 1000000 in
set_option maxRecDepth 100000 in
theorem szIntSS_any (A : Option Addr) (n c B : Nat) (vs : List Value) (zss : List (List Int)) (left : Int) (w : World) (hv : Vals w B A n vs) (hi : IntVs w B vs zss) (hB : B ≤ w.heap.size) (hn : n ≤ 9223372036854775807) (hz : ∀ j, j < zss.length → (zss.getD j []).length ≤ 9223372036854775807)
    (h0 : 0 ≤ left) (h1 : left ≤ 1048576) :
    Calls Tryd.prog 5 #[.slice A n c, .int .i64 left] w fun e w' => (∃ r : Int, e = .returned (.int .i64 r) ∧ (r < 0 ∨ ((n : Int) + (sizeSS zss : Int) ≤ left ∧ 0 ≤ r))) ∧ Below w.heap.size w w' := by
  obtain rfl : zss.length = n := (hv.1.symm.trans hi.1).symm
  have HV := hide hv
  have HI := hide hi
  have HZ := hide hz
  clear hv hi hz
  have hw : wrap64 (left - (zss.length : Int)) = left - zss.length := by unfold wrap64; omega
  by_cases hl : left - (zss.length : Int) < 0
  · go_enter Tryd.func5, Tryd.ntmps5
    go_wp2_with fail
    go_ret
    exact ⟨⟨-1, rfl, .inl (by omega)⟩, Below.refl _ _⟩
  · go_enter Tryd.func5, Tryd.ntmps5
    go_wp2_with fail
    go_loopw [1, 5] (fun l i wr => ∃ k : Nat, k ≤ zss.length ∧ i = .int .i64 k ∧ (∃ r : Int, l = .int .i64 r ∧ 0 ≤ r ∧ r = left - zss.length - (sizeSS (zss.take k) : Int)) ∧ wr = w)
      (fun _ i _ => zss.length - (intOf i).toNat)
    case atStart => exact ⟨0, Nat.zero_le _, rfl, ⟨left - zss.length, rfl, by omega, by simp [sizeSS]⟩, rfl⟩
    case round =>
      obtain ⟨k, hk, rfl, ⟨r, rfl, hr0, hr1⟩, rfl⟩ := hrel
      by_cases hlt : k < zss.length
      · obtain ⟨ad, rfl, hab, hcell⟩ := HV.out.at_ hlt
        obtain ⟨A', c', ev, hri⟩ := HI.out.2 k hlt
        rw [ev] at hcell
        have HS := hide (szIntS_any A' (zss.getD k []).length c' r wr (HZ.out k hlt) hr0 (by omega))
        have HN := hide (sizeSS_succ zss k hlt)
        have HR := hide hr1
        clear ev hri hr1
        generalize (zss.getD k []).length = L at *
        by_cases hlr : r < (L : Int)
        · rw [if_pos hlr] at HS
          go_wp2_with fail
          refine HS.out.mono ?_; rintro e w' ⟨rfl, rfl⟩
          go_wp2_with fail
          go_ret
          exact ⟨⟨-1, rfl, .inl (by omega)⟩, Below.refl _ _⟩
        · rw [if_neg hlr] at HS
          have hge : ¬ (r - (L : Int) < 0) := by omega
          go_wp2_with fail
          refine HS.out.mono ?_; rintro e w' ⟨rfl, rfl⟩
          go_wp2_with fail
          go_roundw
          case rel => exact ⟨k + 1, by omega, by go_num, ⟨r - L, rfl, by omega, by have := HN.out; have := HR.out; omega⟩, by trivial⟩
          case measure => simp [intOf]; omega
      · obtain rfl : k = zss.length := by omega
        rw [List.take_length] at hr1
        go_wp2_with fail
        go_ret
        exact ⟨⟨r, rfl, .inr ⟨by omega, hr0⟩⟩, Below.refl _ _⟩
end Go.Proofs.YtjfkadmmmhefbaaDoor
