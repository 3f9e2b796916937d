
/-
  allFired, AND THE PROGRAM'S FireAll.
-/
import Derived.Test.YtcfofofhdbnlaaaLnW
namespace Go.Proofs.Ytcfofofhdbnlaaa
open Go.RowKit Go.Deep
set_option linter.unusedVariables false

/-- The first k places that could fire at first have fired. -/
def partF (zs ts : List Int) : Nat → List Int
  | 0 => ts
  | k + 1 => if 1 < rowAt zs ts (k + 1) then more (partF zs ts k) k 1 else partF zs ts k
theorem partF_length (zs ts : List Int) (k : Nat) : (partF zs ts k).length = ts.length := by
  induction k with
  | zero => rfl
  | succ k ih => unfold partF; split <;> simp [more_length, ih]
theorem partF_yes {zs ts : List Int} {k : Nat} (h : 1 < rowAt zs ts (k + 1)) : partF zs ts (k + 1) = more (partF zs ts k) k 1 := by rw [partF, if_pos h]
theorem partF_no {zs ts : List Int} {k : Nat} (h : ¬ 1 < rowAt zs ts (k + 1)) : partF zs ts (k + 1) = partF zs ts k := by rw [partF, if_neg h]
theorem partF_getD (zs ts : List Int) (k j : Nat) (hk : k ≤ ts.length) : (partF zs ts k).getD j 0 = ts.getD j 0 + if j < k ∧ 1 < rowAt zs ts (j + 1) then 1 else 0 := by
  induction k with
  | zero => rw [if_neg (by omega)]; simp [partF]
  | succ k ih =>
    have hi := ih (by omega)
    by_cases h : 1 < rowAt zs ts (k + 1)
    · rw [partF_yes h, more_getD _ _ _ _ (by rw [partF_length]; omega), hi]
      by_cases e : k = j
      · subst e; rw [if_neg (by omega), if_pos rfl, if_pos ⟨by omega, h⟩]; omega
      · rw [if_neg e]
        simp only [show (j < k + 1 ∧ 1 < rowAt zs ts (j + 1)) ↔ (j < k ∧ 1 < rowAt zs ts (j + 1)) from by constructor <;> rintro ⟨a, b⟩ <;> exact ⟨by omega, b⟩]
        omega
    · rw [partF_no h, hi]
      by_cases e : k = j
      · subst e; rw [if_neg (by omega), if_neg (fun hh => h hh.2)]
      · simp only [show (j < k + 1 ∧ 1 < rowAt zs ts (j + 1)) ↔ (j < k ∧ 1 < rowAt zs ts (j + 1)) from by constructor <;> rintro ⟨a, b⟩ <;> exact ⟨by omega, b⟩]
def readyF (zs ts : List Int) : List Int := readyL (chipsOf zs ts)
theorem readyF_length (zs ts : List Int) : (readyF zs ts).length = zs.length := by unfold readyF; rw [readyL_length, chipsOf_length]
theorem readyF_getD (zs ts : List Int) (j : Nat) (h : j < zs.length) : (readyF zs ts).getD j 0 = if 1 < rowAt zs ts (j + 1) then 1 else 0 := by
  unfold readyF; rw [readyL_getD, chipsOf_getD _ _ _ h]
theorem partF_all (zs ts : List Int) (h : ts.length = zs.length) : partF zs ts zs.length = plus ts (readyF zs ts) := by
  refine list_ext_getD (by rw [partF_length, plus_length]) fun j hj => ?_
  rw [partF_length] at hj
  rw [partF_getD _ _ _ _ (by omega), plus_getD _ _ _ (by rw [readyF_length]; omega), readyF_getD _ _ _ (by omega)]
  simp only [show (j < zs.length ∧ 1 < rowAt zs ts (j + 1)) ↔ 1 < rowAt zs ts (j + 1) from ⟨fun h => h.2, fun h' => ⟨by omega, h'⟩⟩]
theorem partF_upto {zs ts : List Int} {m : Int} (h : upto ts m) (k : Nat) (hk : k ≤ ts.length) : upto (partF zs ts k) (m + 1) := fun j => by
  rw [partF_getD _ _ _ _ hk]
  have := h j
  split <;> omega

set_option maxRecDepth 100000 in
theorem allFired_any (b : Nat) (zs ts : List Int) (m : Int) (w : World) (hL : LineAt w b 42 (lineL zs ts)) (hg : hgood zs = true) (htl : ts.length = zs.length) (hup : upto ts m) (hm : m ≤ 90000000) :
    Calls Try.prog 29 #[.pointer (some ⟨b, 0, none⟩)] w fun e w' => e = .returned (aggL (lineL zs (plus ts (readyF zs ts)))) ∧ Below w.heap.size w w' := by
  obtain ⟨h1, h20, _⟩ := hgood_of hg
  have hll := hide (fun us => lineL_length zs us)
  have hzl := hide zero43_len
  have HL := hide hL
  have HG := hide hg
  have HT := hide htl
  have HU := hide hup
  have Hm := hide hm
  have HPA := hide (partF_all zs ts htl)
  have hlt := hL.lt
  clear hL hg htl hup hm
  go_enter Try.func29, Try.ntmps29
  go_wp2_with (first
    | (with_reducible refine wpList_line_new (o := ⟨some 2, _, _, _, _, _⟩) rfl rfl ?_; intro w1 hL1 hb1 hs1
       have HL1 := hide hL1; have HB1 := hide hb1; have hle1 := hb1.size; have HX1 := hide (HL.out.of_block (hb1.block _ hlt)); have Hs1 := hide hs1; clear hL1 hb1 hs1)
    | (with_reducible refine wpList_line_load rfl (.tmp 6) rfl b _ rfl (hll.out ts) HX1.out ?_)
    | (with_reducible refine wpList_line_new (o := ⟨some 3, _, _, _, _, _⟩) rfl rfl ?_; intro w2 hL2 hb2 hs2
       have HL2 := hide hL2; have HB2 := hide (HB1.out.trans (hb2.mono hle1)); have hle2 := hb2.size; have HX2 := hide (HX1.out.of_block (hb2.block _ HX1.out.lt)); have HR2 := hide (HL1.out.of_block (hb2.block _ HL1.out.lt)); have Hlt := hide HL1.out.lt; clear hL2 hb2 hs2)
    | (with_reducible refine wpList_line_store rfl (.tmp 3) (.tmp 7) rfl w1.heap.size _ (lineL zs ts) rfl rfl (hll.out ts) hzl.out HL2.out ?_; intro w3 hL3 ho3
       have HL3 := hide hL3; have HB3 := hide (HB2.out.trans (ho3.below.mono hle1)); have HX3 := hide (HX2.out.of_block (ho3.rest _ (Nat.ne_of_lt HX1.out.lt))); have HR3 := hide (HR2.out.of_block (ho3.rest _ (Nat.ne_of_lt Hlt.out))); have hc3 := lineL_places HX3.out; clear hL3 ho3))
  clear HL1 HB1 HX1 Hs1 HL2 HB2 HX2 HR2 hc3
  have hle3 := HB3.out.size
  go_loopw [12] (fun i wr => ∃ k : Nat, k ≤ zs.length ∧ i = .int .i64 k ∧ LineAt wr w1.heap.size 42 (lineL zs (partF zs ts k)) ∧ LineAt wr w.heap.size 42 zero43 ∧ LineAt wr b 42 (lineL zs ts) ∧ Below w.heap.size w wr)
    (fun i _ => zs.length - (intOf i).toNat)
  case atStart => exact ⟨0, Nat.zero_le _, rfl, HL3.out, HR3.out, HX3.out, HB3.out⟩
  case round =>
    obtain ⟨k, hk, rfl, hLr, hZr, hXr, hbr⟩ := hrel
    have HLr := hide hLr
    have HZr := hide hZr
    have HXr := hide hXr
    have HBr := hide hbr
    clear hLr hZr hXr hbr HL3 HR3 HX3 HB3
    by_cases hlk : k < zs.length
    · have HC := hide (canFire_any b 42 (k : Int) zs ts wr HXr.out h20)
      rw [ableAt_yes hlk] at HC
      by_cases h2 : 1 < rowAt zs ts (k + 1)
      · rw [decide_eq_true (show (2 : Int) ≤ rowAt zs ts (k + 1) by omega)] at HC
        have HP := hide (partF_yes (zs := zs) h2)
        have hu2 := partF_upto (zs := zs) HU.out k (by have := HT.out; omega)
        have hm2 : mild (lineL zs (partF zs ts k)) := mild_line HG.out hu2 (by have := Hm.out; omega)
        have HF := hide (fire_any w1.heap.size 42 k 1 (lineL zs (partF zs ts k)) wr HLr.out (hll.out _) hm2 (by omega) (by omega) (by omega))
        rw [fire_line zs (partF zs ts k) k 1 (by rw [partF_length, HT.out]; exact hlk) (by rw [partF_length, HT.out]; exact h20)] at HF
        clear hu2 hm2 h2
        go_wp2_with fail
        refine HC.out.mono ?_; rintro e w' ⟨rfl, rfl⟩
        go_wp2_with fail
        refine HF.out.mono ?_; rintro e w5 ⟨rfl, hL5, ho5⟩
        have HL5 := hide hL5
        have HB5 := hide (HBr.out.trans (ho5.below.mono hle1))
        have HZ5 := hide (HZr.out.of_block (ho5.rest _ (Nat.ne_of_lt Hlt.out)))
        have HX5 := hide (HXr.out.of_block (ho5.rest _ (Nat.ne_of_lt (Nat.lt_trans hlt Hlt.out))))
        clear hL5 ho5
        go_wp2_with fail
        go_roundw
        case rel => exact ⟨k + 1, by omega, by go_num, by rw [HP.out]; exact HL5.out, HZ5.out, HX5.out, HB5.out⟩
        case measure => simp [intOf]; omega
      · rw [decide_eq_false (show ¬ (2 : Int) ≤ rowAt zs ts (k + 1) by omega)] at HC
        have HP := hide (partF_no (zs := zs) h2)
        clear h2
        go_wp2_with fail
        refine HC.out.mono ?_; rintro e w' ⟨rfl, rfl⟩
        go_wp2_with fail
        go_roundw
        case rel => exact ⟨k + 1, by omega, by go_num, by rw [HP.out]; exact HLr.out, HZr.out, HXr.out, HBr.out⟩
        case measure => simp [intOf]; omega
    · obtain rfl : k = zs.length := by omega
      rw [HPA.out] at HLr
      go_wp2_with (first
        | (with_reducible refine wpList_line_load rfl (.tmp 3) rfl w1.heap.size _ rfl (hll.out _) HLr.out ?_)
        | (with_reducible refine wpList_line_store rfl (.tmp 2) (.tmp 21) rfl w.heap.size _ (lineL zs (plus ts (readyF zs ts))) rfl rfl (hll.out _) hzl.out HZr.out ?_; intro w5 hL5 ho5))
      exact bodyPost_ret (results_line1 rfl _ _ _ _ rfl (hll.out _) hL5) rfl ⟨rfl, HBr.out.trans ho5.below⟩

theorem plus_noF (n : Nat) (us : List Int) (h : us.length = n) : plus (noF n) us = us := by
  refine list_ext_getD (by rw [plus_length, noF_length, h]) fun j hj => ?_
  rw [plus_getD _ _ _ (by rw [noF_length, h]), noF_getD]; omega

set_option maxRecDepth 100000 in
/-- The program's FireAll. -/
theorem FireAll_any (A : Option Addr) (n c B : Nat) (zs : List Int) (w : World) (hr : Ints w B A n zs) (hB : B ≤ w.heap.size) (hn : n ≤ 17592186044416) :
    Calls Try.prog 14 #[.slice A n c] w (Made3 (allR zs) (allL zs) (hgood zs) w) := by
  obtain rfl := hr.len
  have hzl := hide zero43_len
  cases hg : hgood zs
  · rw [show allR zs = [] from by simp [allR, hg], show allL zs = 0 from by simp [allL, hg]]
    have HF := hide (lineOf_no A zs.length c B zs w hr hB hn hg)
    clear hg
    go_enter Try.func14, Try.ntmps14
    go_wp2_with fail
    refine HF.out.mono ?_; rintro e w2 ⟨rfl, hb2⟩
    have HB2 := hide hb2
    have hle := HB2.out.size
    clear hb2
    go_wp2_with (first
      | (with_reducible refine wpList_line_new (o := ⟨some 5, _, _, _, _, _⟩) rfl rfl ?_; intro w3 hL3 hb3 hs3
         have HL3 := hide hL3; have HB3 := hide (HB2.out.trans (hb3.mono hle)); clear hL3 hb3 hs3)
      | (with_reducible refine wpList_line_store rfl (.tmp 5) (.tmp 11) rfl w2.heap.size _ (zero43) rfl rfl hzl.out hzl.out HL3.out ?_; intro w4 hL4 ho4
         have HB4 := hide (HB3.out.trans (ho4.below.mono hle)); have HL4 := hide hL4; clear hL4 ho4))
    go_ret3
    exact made3_none HB4.out
  · rw [show allR zs = chipsOf zs (readyL zs) from by simp [allR, hg], show allL zs = lostOf (readyL zs) from by simp [allL, hg]]
    have HF := hide (lineOf_yes A zs.length c B zs w hr hB hg)
    obtain ⟨h1, h20, _⟩ := hgood_of hg
    have htl : (readyL zs).length = zs.length := readyL_length zs
    have hup : upto (readyL zs) 1 := readyL_upto zs
    have HA := hide (fun b W (hL : LineAt W b 42 (lineL zs (noF zs.length))) => allFired_any b zs (noF zs.length) 0 W hL hg (noF_length _) (upto_noF _ _ (Int.le_refl _)) (by omega))
    have hre : readyF zs (noF zs.length) = readyL zs := by unfold readyF; rw [chipsOf_noF]
    rw [hre, plus_noF _ _ htl] at HA
    clear hre
    generalize readyL zs = ts at *
    have hll := hide (fun us => lineL_length zs us)
    have HL := hide (chipsOf_length zs ts)
    have HC := hide (fun b W (hL : LineAt W b 42 (lineL zs ts)) => list_any b 42 zs ts W hL (by omega) h20)
    have HS := hide (fun b W (hL : LineAt W b 42 (lineL zs ts)) => lost_any b 42 zs ts W hL h20 (by have := rowAt_bd hg hup 0; omega) (by have := rowAt_bd hg hup 0; omega) (by have := rowAt_bd hg hup (zs.length + 1); omega) (by have := rowAt_bd hg hup (zs.length + 1); omega))
    rw [lost_rows (by omega) htl] at HS
    generalize lostOf ts = l at *
    clear htl hup hg
    go_enter Try.func14, Try.ntmps14
    go_wp2_with fail
    refine HF.out.mono ?_; rintro e w2 ⟨rfl, hb2⟩
    have HB2 := hide hb2
    have hle := HB2.out.size
    clear hb2
    go_wp2_with (first
      | (with_reducible refine wpList_line_new (o := ⟨some 5, _, _, _, _, _⟩) rfl rfl ?_; intro w3 hL3 hb3 hs3
         have HL3 := hide hL3; have HB3 := hide (HB2.out.trans (hb3.mono hle)); clear hL3 hb3 hs3)
      | (with_reducible refine wpList_line_store rfl (.tmp 5) (.tmp 11) rfl w2.heap.size _ (lineL zs (noF zs.length)) rfl rfl (hll.out _) hzl.out HL3.out ?_; intro w4 hL4 ho4
         have HB4 := hide (HB3.out.trans (ho4.below.mono hle)); have HL4 := hide hL4; clear hL4 ho4))
    refine (HA.out _ _ HL4.out).mono ?_; rintro e w5 ⟨rfl, hb5⟩
    have hle4 := HB4.out.size
    have HB5 := hide (HB4.out.trans (hb5.mono hle4))
    have hle5 := HB5.out.size
    clear hb5
    go_wp2_with (first
      | (with_reducible refine wpList_line_new (o := ⟨some 7, _, _, _, _, _⟩) rfl rfl ?_; intro w6 hL6 hb6 hs6
         have HL6 := hide hL6; have HB6 := hide (HB5.out.trans (hb6.mono hle5)); clear hL6 hb6 hs6)
      | (with_reducible refine wpList_line_store rfl (.tmp 7) (.tmp 15) rfl w5.heap.size _ (lineL zs ts) rfl rfl (hll.out _) hzl.out HL6.out ?_; intro w7 hL7 ho7
         have HB7 := hide (HB6.out.trans (ho7.below.mono hle5)); have HL7 := hide hL7; clear hL7 ho7))
    refine (HC.out _ _ HL7.out).mono ?_
    rintro e w8 ⟨g, c5, rfl, hg1, hg2, hc1, hc2, hown, hb8⟩
    have hle7 := HB7.out.size
    have ho8 := hown.less hle7
    rw [HL.out] at hc1 ho8
    rw [HL.out]
    have HL8 := hide (HL7.out.of_block (hb8.block _ HL7.out.lt))
    have HB8 := hide (HB7.out.trans (hb8.mono hle7))
    have HO8 := hide ho8
    clear hown ho8 hb8
    go_wp2_with fail
    refine (HS.out _ _ HL8.out).mono ?_
    rintro e w9 ⟨rfl, hb9⟩
    have ho9 := HO8.out.below hb9
    go_wp2_with fail
    go_ret3
    exact ⟨some ⟨g, 0, none⟩, c5, by rw [HL.out]; rfl, by rw [HL.out]; exact hc1, hc2, by rw [HL.out]; exact ho9, below_next HB8.out hb9⟩
end Go.Proofs.Ytcfofofhdbnlaaa
