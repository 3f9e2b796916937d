
/-
  BESTCLUE, BOTH WAYS; slices.Min, slices.Index OF A NUMBER THAT IS THERE.
-/
import Derived.Test.YtpgjhmgmfajelaaPzC
import Derived.Test.YtpgjhmgmfajelaaCyP
import Derived.Deep.RegionLaw
namespace Go.Proofs.Ytpgjhmgmfajelaa
open Go.RowKit Go.Deep
set_option linter.unusedVariables false

theorem run_cut_lh (A : Option Addr) (n c : Nat) (w : World) (l k : Nat) (hl : l ≤ k) (hk : k ≤ c) : (Instr.sliceAt 38 (.slice A n c) (some (.int .i64 (l : Int))) (some (.int .i64 (k : Int))) none).run Try.prog w = .ok (sliced A l k c 4) w := by
  rw [run_sliceAt_slice _ _ _ _ _ _ undCl, run_slice_lh w _ A n c undCl .i64 .i64 l k (by omega) (by omega) (by omega), sizeCl]
  simp [Result.andThen]

/-- The first of the least, and how little it is. -/
def bst (f : Nat → Int) : Nat → Int × Int
  | 0 => (0, 0)
  | k + 1 => if k = 0 ∨ f k < (bst f k).2 then ((k : Int), f k) else bst f k
theorem bst_yes {f : Nat → Int} {k : Nat} (h : k = 0 ∨ f k < (bst f k).2) : bst f (k + 1) = ((k : Int), f k) := if_pos h
theorem bst_no {f : Nat → Int} {k : Nat} (h : ¬ (k = 0 ∨ f k < (bst f k).2)) : bst f (k + 1) = bst f k := if_neg h
theorem bst_at (f : Nat → Int) (k : Nat) (h : 0 < k) : ∃ i : Nat, i < k ∧ bst f k = ((i : Int), f i) ∧ (∀ j, j < k → f i ≤ f j) ∧ ∀ j, j < i → f i < f j := by
  induction k with
  | zero => omega
  | succ k ih =>
    by_cases h0 : k = 0
    · subst h0
      exact ⟨0, by omega, bst_yes (.inl rfl), fun j hj => by rw [show j = 0 from by omega]; exact Int.le_refl _, fun j hj => by omega⟩
    · obtain ⟨i, hi, he, h1, h2⟩ := ih (by omega)
      by_cases hlt : f k < (bst f k).2
      · refine ⟨k, by omega, bst_yes (.inr hlt), fun j hj => ?_, fun j hj => ?_⟩
        · rw [he] at hlt
          by_cases e : j = k
          · subst e; exact Int.le_refl _
          · have := h1 j (by omega); simp at hlt; omega
        · rw [he] at hlt
          have := h1 j hj; simp at hlt; omega
      · refine ⟨i, by omega, by rw [bst_no (by rintro (h | h); exact h0 h; exact hlt h), he], fun j hj => ?_, h2⟩
        rw [he] at hlt
        by_cases e : j = k
        · subst e; simp at hlt; omega
        · exact h1 j (by omega)
theorem bst_list (f : Nat → Int) (n : Nat) (h : 0 < n) : ∃ i : Nat, i < n ∧ (bst f n).1 = (i : Int) ∧ mn ((List.range n).map f) = f i ∧ ∀ j, j < i → f j ≠ f i := by
  obtain ⟨i, hi, he, h1, h2⟩ := bst_at f n h
  refine ⟨i, hi, by rw [he], ?_, fun j hj => by have := h2 j hj; omega⟩
  have a := mn_le (zs := (List.range n).map f) (z := f i) (List.mem_map.2 ⟨i, List.mem_range.2 hi, rfl⟩)
  obtain ⟨j, hj, e⟩ := List.mem_map.1 (mn_mem (zs := (List.range n).map f) (by simpa using h))
  have := h1 j (List.mem_range.1 hj)
  omega

theorem gd_at {zs : List Int} {k : Nat} (h : k < zs.length) : zs.getD k 0 = zs[k] := by simp [List.getD, List.getElem?_eq_getElem h]
/-- slices.Min of a list that is not empty. -/
theorem MinOf_any (A : Option Addr) (n c B : Nat) (zs : List Int) (w : World) (hr : Ints w B A n zs) (h0 : 0 < n) (hn : n < 1000000) :
    Calls Try.prog 53 #[.slice A n c] w fun e w' => e = .returned (.int .i64 (mn zs)) ∧ w = w' := by
  obtain rfl := hr.len
  have H1 := hide (mn_one zs h0)
  obtain ⟨ad, rfl, hab, hcell0⟩ := hr.at_ h0
  rw [gd_at h0, ← H1.out, show ad.add 0 = ad from by simp [Addr.add]] at hcell0
  go_enter Try.func53, Try.ntmps53
  go_wp2
  go_loop [3, 4] (fun m i => ∃ k : Nat, 1 ≤ k ∧ k ≤ zs.length ∧ i = .int .i64 k ∧ m = .int .i64 (mn (zs.take k)))
    (fun _ i => zs.length - (intOf i).toNat)
  case atStart => exact ⟨1, Nat.le_refl _, by omega, rfl, rfl⟩
  case round =>
    obtain ⟨k, hk1, hk, rfl, rfl⟩ := hrel
    by_cases hlt : k < zs.length
    · have Hs := hide (mn_take_succ zs k (by omega) hlt)
      obtain ⟨ad', had, _, hcell⟩ := hr.at_ hlt
      obtain rfl : ad' = ad := by injection had with h; exact h.symm
      clear had
      rw [gd_at hlt] at hcell
      generalize hz : zs[k] = z at *
      clear hz
      generalize mn (zs.take k) = m at *
      clear hcell0
      by_cases hc : z < m
      · have hm : min m z = z := by omega
        go_wp2
        go_round
        case rel => exact ⟨k + 1, by omega, by omega, by go_num, by rw [Hs.out, hm]⟩
        case measure => simp [intOf]; omega
      · have hm : min m z = m := by omega
        go_wp2
        go_round
        case rel => exact ⟨k + 1, by omega, by omega, by go_num, by rw [Hs.out, hm]⟩
        case measure => simp [intOf]; omega
    · go_wp2
      go_ret
      exact ⟨ret_int (by rw [List.take_of_length_le (by omega)]), rfl⟩

/-- slices.Index of a number that is there. -/
theorem Index_at (A : Option Addr) (n c B : Nat) (zs : List Int) (x : Int) (i : Nat) (w : World) (hr : Ints w B A n zs) (hn : n ≤ 1000000) (hi : i < zs.length) (hx : zs[i] = x) (hne : ∀ (j : Nat) (hj : j < zs.length), j < i → zs[j] ≠ x) :
    Calls Try.prog 52 #[.slice A n c, .int .i64 x] w fun e w' => e = .returned (.int .i64 (i : Int)) ∧ w = w' := by
  obtain rfl := hr.len
  have HX := hide hx
  have HN := hide hne
  clear hx hne
  go_enter Try.func52, Try.ntmps52
  go_wp2
  go_loop [8] (fun v => ∃ k : Nat, k ≤ i ∧ v = .int .i64 k)
    (fun v => zs.length - (intOf v).toNat)
  case atStart => exact ⟨0, Nat.zero_le _, rfl⟩
  case round =>
    obtain ⟨k, hk, rfl⟩ := hrel
    have hlt : k < zs.length := by omega
    obtain ⟨ad, rfl, hab, hcell⟩ := hr.at_ hlt
    rw [show zs.getD k 0 = zs[k] from by simp [List.getD, List.getElem?_eq_getElem hlt]] at hcell
    by_cases h1 : zs[k] = x
    · obtain rfl : k = i := by
        rcases Nat.lt_or_ge k i with h | h
        · exact absurd h1 (HN.out k hlt h)
        · omega
      rw [h1] at hcell
      clear h1
      go_wp2
      go_ret
      exact ⟨rfl, rfl⟩
    · have hki : k < i := by
        rcases Nat.lt_or_ge k i with h | h
        · exact h
        · obtain rfl : k = i := by omega
          exact absurd HX.out h1
      have h1' : ¬ (x = zs[k]) := fun h => h1 h.symm
      generalize zs[k] = a at *
      go_wp2
      go_round
      case rel => exact ⟨k + 1, by omega, by go_num⟩
      case measure => simp [intOf]; omega

/-- How many hidden heaps fit one clue alone. -/
def aloneF (h : Nat) (cs : List Cl) (k : Nat) : Int := cntL h ((cs.drop k).take 1)
def bestOk (u : Int) (cs : List Cl) : Bool := pzOk u cs && decide (cs.length ≠ 0)
def bestI (u : Int) (cs : List Cl) : Int := if bestOk u cs then (bst (aloneF u.toNat cs) cs.length).1 else 0
theorem bestOk_no {u : Int} {cs : List Cl} (h : pzOk u cs = false) : bestOk u cs = false ∧ bestI u cs = 0 := by simp [bestI, bestOk, h]
theorem bestOk_nil {u : Int} {cs : List Cl} (h : cs.length = 0) : bestOk u cs = false ∧ bestI u cs = 0 := by simp [bestI, bestOk, h]
theorem bestOk_yes {h : Nat} {cs : List Cl} (ho : pzOk (h : Int) cs = true) (h0 : cs.length ≠ 0) : bestOk h cs = true ∧ bestI h cs = (bst (aloneF h cs) cs.length).1 := by
  have e : bestOk h cs = true := by simp only [bestOk, ho, decide_eq_true h0]; rfl
  exact ⟨e, by simp [bestI, e]⟩
theorem drop_take_mem {cs : List Cl} {k m : Nat} (x : Cl) (h : x ∈ (cs.drop k).take m) : x ∈ cs := List.mem_of_mem_drop (List.mem_of_mem_take h)

set_option maxHeartbeats 8000000 in
set_option maxRecDepth 100000 in
/-- The program's BestClue. -/
theorem BestClue_any (A : Option Addr) (n c B : Nat) (cs : List Cl) (u : Int) (w : World) (hr : Cls w B A n cs) (hB : B ≤ w.heap.size) (hn : n ≤ 17592186044416) (hc : n ≤ c) (hc2 : c ≤ maxLen) :
    Calls Try.prog 30 #[.agg #[.int .i64 u, .slice A n c]] w fun e w' => e = .returned (.tuple #[.int .i64 (bestI u cs), .bool (bestOk u cs)]) ∧ Below w.heap.size w w' := by
  obtain rfl := hr.len
  have b1 : Below w.heap.size w (w.alloc (.cells #[.int .i64 u, .slice A cs.length c] 40)) := (Below.refl _ _).alloc (Nat.le_refl _) _
  have HX := hide (Bx.new w 40 (.int .i64 u) (.slice A cs.length c))
  have HG := hide (IsPuzzle_any A cs.length c B cs u _ (hr.below b1 hB) (Nat.le_trans hB b1.size) hn)
  have HB := hide b1
  clear b1
  cases hg : pzOk u cs
  · rw [hg] at HG
    rw [(bestOk_no hg).1, (bestOk_no hg).2]
    clear hg
    go_enter Try.func30, Try.ntmps30
    go_wp2_with fail
    refine HG.out.mono ?_; rintro e w2 ⟨rfl, hb2⟩
    have HB2 := hide (HB.out.trans (hb2.mono HB.out.size))
    clear hb2
    go_wp2_with fail
    exact bodyPost_ret (v := .tuple #[.int .i64 0, .bool false]) (by simp [results, Try.results30, go_sem]) rfl ⟨rfl, HB2.out⟩
  · rw [hg] at HG
    by_cases h0 : cs.length = 0
    · rw [(bestOk_nil h0).1, (bestOk_nil h0).2]
      have h0' : ((cs.length : Int) == 0) = true := by simp [h0]
      clear hg h0
      go_enter Try.func30, Try.ntmps30
      go_wp2_with fail
      refine HG.out.mono ?_; rintro e w2 ⟨rfl, hb2⟩
      have HB2 := hide (HB.out.trans (hb2.mono HB.out.size))
      have HX3 := hide (HX.out.next hb2)
      have x1 := HX3.out.c1
      clear hb2
      go_wp2_with fail
      exact bodyPost_ret (v := .tuple #[.int .i64 0, .bool false]) (by simp [results, Try.results30, go_sem]) rfl ⟨rfl, HB2.out⟩
    · have h0' : ((cs.length : Int) == 0) = false := by rw [beq_eq_false_iff_ne]; omega
      obtain ⟨hh, h6, hck⟩ := pzOk_parts hg
      obtain ⟨h, rfl⟩ := Int.eq_ofNat_of_zero_le (show 0 ≤ u by omega)
      rw [(bestOk_yes hg h0).1, (bestOk_yes hg h0).2]
      have HCU := hide (show ∀ k : Nat, k < cs.length → ∃ A1, (∀ W, Calls Try.prog 51 #[.agg #[.int .i64 (h : Int), .slice A cs.length c], .int .i64 (k : Int), .int .i64 ((k : Int) + 1)] W fun e w' => e = .returned (.agg #[.int .i64 (h : Int), .slice A1 1 1]) ∧ Below W.heap.size W w') ∧
          (∀ W, Below w.heap.size w W → Calls Try.prog 45 #[.agg #[.int .i64 (h : Int), .slice A1 1 1]] W fun e w' => e = .returned (.int .i64 (aloneF h cs k)) ∧ Below W.heap.size W w') from fun k hk => by
        obtain ⟨A1, e1, h1, g1⟩ := hr.cutAt k (k + 1) (k + 1) (by omega) (by omega) (by omega)
        rw [show k + 1 - k = 1 from by omega] at e1 h1
        refine ⟨A1, fun W => ?_, fun W hb => ?_⟩
        · have := cut_any A A1 cs.length c (h : Int) k (k + 1) W (by omega) (by omega) (by rw [show k + 1 - k = 1 from by omega]; exact e1)
          rw [show ((k + 1 : Nat) : Int) = (k : Int) + 1 from by omega, show k + 1 - k = 1 from by omega] at this
          exact this
        · exact countSolutions_any A1 1 1 B ((cs.drop k).take 1) h W (h1.below hb hB) (Nat.le_trans hB hb.size) (by omega) (by omega) (subs_mem hck drop_take_mem))
      have hmk := run_make_row' (P := Try.prog) 24 3 (.int .i64 0) 8 Try.underlying24 infoInt rfl .i64 .i64 cs.length (by omega) (by omega)
      obtain ⟨i, hi, hbi, hmn, hfi⟩ := bst_list (aloneF h cs) cs.length (by omega)
      rw [hbi]
      generalize aloneF h cs = f at *
      have HMN := hide hmn
      have HFI := hide hfi
      clear hg hck hr hmn hfi hbi
      generalize hM : cs.length = M at *
      clear hM
      go_enter Try.func30, Try.ntmps30
      go_wp2_with fail
      refine HG.out.mono ?_; rintro e w2 ⟨rfl, hb2⟩
      have HB3 := hide (HB.out.trans (hb2.mono HB.out.size))
      have HX3 := hide (HX.out.next hb2)
      have x1 := HX3.out.c1
      clear hb2 HG
      go_wp2_with fail
      clear x1
      have hsz2 : w.heap.size < w2.heap.size := HX3.out.lt
      go_loopw [21] (fun i wr => ∃ k : Nat, k ≤ M ∧ i = .int .i64 k ∧ Hid (Own wr w2.heap.size 3 (.slice (some ⟨w2.heap.size, 0, none⟩) M M) (filL f M k)) ∧ Hid (Bx wr w.heap.size 40 (.int .i64 (h : Int)) (.slice A M c)) ∧ Hid (Below w.heap.size w wr) ∧ w2.heap.size < wr.heap.size)
        (fun i _ => M - (intOf i).toNat)
      case atStart =>
        refine ⟨0, Nat.zero_le _, rfl, hide ?_, hide (HX3.out.alloc _), hide (HB3.out.alloc (by omega) _), by simp⟩
        have h0 : Row (w2.alloc (.cells (madeCells #[.int .i64 0] M) 3)) w2.heap.size 3 (filL f M 0) := by
          unfold Row; rw [filL_len]
          exact (World.rowIs_made w2 _ M _).congr (fun i hi => by rw [filL_zero]; simp [List.getD, List.getElem?_replicate, hi])
        have := Own.of_row (base := w2.heap.size) h0 (Nat.le_refl _) (by rw [filL_len]; unfold maxLen; omega)
        rw [filL_len] at this
        exact this
      case round =>
        obtain ⟨k, hk, rfl, ho, X, hb, hs⟩ := hrel
        by_cases hlt : k < M
        · obtain ⟨A1, hcut, hcnt⟩ := HCU.out k hlt
          have HCT := hide hcut
          have HCN := hide hcnt
          have HF := hide (filL_succ f M k hlt)
          have HL := hide (filL_len f M k)
          clear hcut hcnt
          generalize f k = z at *
          generalize filL f M k = l1 at *
          have x0 := X.out.c0
          have x1 := X.out.c1
          go_wp2_with fail
          refine (HCT.out _).mono ?_
          rintro e w5 ⟨rfl, hb5⟩
          have HB5 := hide hb5
          clear hb5 x0 x1
          go_wp2_with fail
          refine (HCN.out _ (below_next hb.out HB5.out)).mono ?_
          rintro e w6 ⟨rfl, hb6⟩
          have HB6 := hide (below_next HB5.out hb6)
          clear hb6
          have HX6 := hide (X.out.next HB6.out)
          have HO6 := hide (ho.out.below HB6.out)
          have HB7 := hide (below_next hb.out HB6.out)
          have hs6 : w2.heap.size < w6.heap.size := by have := HB6.out.size; omega
          have hown' := HO6.out
          unfold Own at hown'
          rw [HL.out] at hown'
          have hold := World.ownsRow.cellAt hown' k (by omega)
          rw [List.getElem?_map, List.getElem?_eq_getElem (by rw [HL.out]; exact hlt), Option.map_some] at hold
          have hfz := World.ownsRow.frozenAt hown' k
          clear hown'
          generalize l1[k]'(by rw [HL.out]; exact hlt) = x at *
          go_wp2_with fail
          go_roundw
          case rel =>
            refine ⟨k + 1, by omega, by go_num, hide ?_, hide (HX6.out.setOther (by simp; omega) _), hide (HB7.out.setCell (p := ⟨w2.heap.size, k, none⟩) (by simp; omega) _), by simpa using hs6⟩
            rw [HF.out]
            exact Own.stored HO6.out HL.out k _
          case measure => simp [intOf]; omega
        · obtain rfl : k = M := by omega
          have HL := hide (filL_len f k k)
          have hint := ho.out.ints
          rw [HL.out, filL_full] at hint
          have HI := hide (Index_at (some ⟨w2.heap.size, 0, none⟩) k k wr.heap.size ((List.range k).map f) (f i) i wr hint (by omega) (by simpa using hi) (by simp) (fun j hj hji => by simpa using HFI.out j hji))
          have HM2 := hide (MinOf_any (some ⟨w2.heap.size, 0, none⟩) k k wr.heap.size ((List.range k).map f) wr hint (by omega) (by omega))
          rw [HMN.out] at HM2
          clear hint
          generalize f i = y at *
          go_wp2_with fail
          refine HM2.out.mono ?_; rintro e w' ⟨rfl, rfl⟩
          go_wp2_with fail
          refine HI.out.mono ?_; rintro e w' ⟨rfl, rfl⟩
          go_wp2_with fail
          exact bodyPost_ret (v := .tuple #[.int .i64 (i : Int), .bool true]) (by simp [results, Try.results30, go_sem]) rfl ⟨rfl, hb.out⟩

set_option maxHeartbeats 8000000 in
set_option maxRecDepth 100000 in
/-- The model's BestClue. -/
theorem specBestClue_any (A : Option Addr) (n c B : Nat) (cs : List Cl) (u : Int) (w : World) (hr : Cls w B A n cs) (hB : B ≤ w.heap.size) (hn : n ≤ 17592186044416) (hc : n ≤ c) (hc2 : c ≤ maxLen) :
    Calls Try.prog 29 #[.agg #[.int .i64 u, .slice A n c]] w fun e w' => e = .returned (.tuple #[.int .i64 (bestI u cs), .bool (bestOk u cs)]) ∧ Below w.heap.size w w' := by
  obtain rfl := hr.len
  have b1 : Below w.heap.size w (w.alloc (.cells #[.int .i64 u, .slice A cs.length c] 40)) := (Below.refl _ _).alloc (Nat.le_refl _) _
  have HX := hide (Bx.new w 40 (.int .i64 u) (.slice A cs.length c))
  have HG := hide (pzGood_any A cs.length c B cs u _ (hr.below b1 hB) (Nat.le_trans hB b1.size) hn)
  have HB := hide b1
  clear b1
  cases hg : pzOk u cs
  · rw [hg] at HG
    rw [(bestOk_no hg).1, (bestOk_no hg).2]
    clear hg
    go_enter Try.func29, Try.ntmps29
    go_wp2_with fail
    refine HG.out.mono ?_; rintro e w2 ⟨rfl, hb2⟩
    have HB2 := hide (HB.out.trans (hb2.mono HB.out.size))
    clear hb2
    go_wp2_with fail
    exact bodyPost_ret (v := .tuple #[.int .i64 0, .bool false]) (by simp [results, Try.results29, go_sem]) rfl ⟨rfl, HB2.out⟩
  · rw [hg] at HG
    by_cases h0 : cs.length = 0
    · rw [(bestOk_nil h0).1, (bestOk_nil h0).2]
      have h0' : ((cs.length : Int) == 0) = true := by simp [h0]
      clear hg h0
      go_enter Try.func29, Try.ntmps29
      go_wp2_with fail
      refine HG.out.mono ?_; rintro e w2 ⟨rfl, hb2⟩
      have HB2 := hide (HB.out.trans (hb2.mono HB.out.size))
      have HX3 := hide (HX.out.next hb2)
      have x1 := HX3.out.c1
      clear hb2
      go_wp2_with fail
      exact bodyPost_ret (v := .tuple #[.int .i64 0, .bool false]) (by simp [results, Try.results29, go_sem]) rfl ⟨rfl, HB2.out⟩
    · have h0' : ((cs.length : Int) == 0) = false := by rw [beq_eq_false_iff_ne]; omega
      obtain ⟨hh, h6, hck⟩ := pzOk_parts hg
      obtain ⟨h, rfl⟩ := Int.eq_ofNat_of_zero_le (show 0 ≤ u by omega)
      rw [(bestOk_yes hg h0).1, (bestOk_yes hg h0).2]
      have HCU := hide (show ∀ k : Nat, k < cs.length → ∃ A1, (∀ W, (Instr.sliceAt 38 (.slice A cs.length c) (some (.int .i64 (k : Int))) (some (.int .i64 ((k : Int) + 1))) none).run Try.prog W = .ok (.slice A1 1 (c - k)) W) ∧
          (∀ W, Below w.heap.size w W → Calls Try.prog 42 #[.int .i64 (h : Int), .slice A1 1 (c - k)] W (MadeVs (solsL (fitAll ((cs.drop k).take 1)) h) W)) from fun k hk => by
        obtain ⟨A1, e1, h1, g1⟩ := hr.cutAt k (k + 1) c (by omega) (by omega) (by omega)
        rw [show k + 1 - k = 1 from by omega] at e1 h1
        refine ⟨A1, fun W => by rw [show (k : Int) + 1 = ((k + 1 : Nat) : Int) from by omega, run_cut_lh A cs.length c W k (k + 1) (by omega) (by omega), e1], fun W hb => ?_⟩
        exact pzAll_any A1 1 (c - k) B ((cs.drop k).take 1) h W (h1.below hb hB) (Nat.le_trans hB hb.size) (by omega) (by omega) (subs_mem hck drop_take_mem))
      have HBY := hide (fun k (hk : k = 0 ∨ ((solsL (fitAll ((cs.drop k).take 1)) h).length : Int) < (bst (aloneF h cs) k).2) => (show bst (aloneF h cs) (k + 1) = ((k : Int), ((solsL (fitAll ((cs.drop k).take 1)) h).length : Int)) from bst_yes hk))
      have HBN := hide (fun k (hk : ¬ (k = 0 ∨ ((solsL (fitAll ((cs.drop k).take 1)) h).length : Int) < (bst (aloneF h cs) k).2)) => (show bst (aloneF h cs) (k + 1) = bst (aloneF h cs) k from bst_no hk))
      have HB0 := hide (show bst (aloneF h cs) 0 = (0, 0) from rfl)
      generalize bst (aloneF h cs) = bs at *
      clear hg hck hr
      go_enter Try.func29, Try.ntmps29
      go_wp2_with fail
      refine HG.out.mono ?_; rintro e w2 ⟨rfl, hb2⟩
      have HB3 := hide (HB.out.trans (hb2.mono HB.out.size))
      have HX3 := hide (HX.out.next hb2)
      have x1 := HX3.out.c1
      clear hb2 HG
      go_wp2_with fail
      clear x1
      go_loopw [4, 5, 20] (fun p q i wr => ∃ k : Nat, k ≤ cs.length ∧ i = .int .i64 k ∧ p = .int .i64 (bs k).1 ∧ q = .int .i64 (bs k).2 ∧ Hid (Bx wr w.heap.size 40 (.int .i64 (h : Int)) (.slice A cs.length c)) ∧ Hid (Below w.heap.size w wr))
        (fun _ _ i _ => cs.length - (intOf i).toNat)
      case atStart => exact ⟨0, Nat.zero_le _, rfl, by rw [HB0.out], by rw [HB0.out], HX3, HB3⟩
      case round =>
        obtain ⟨k, hk, rfl, rfl, rfl, X, hb⟩ := hrel
        by_cases hlt : k < cs.length
        · obtain ⟨A1, hcut, hcnt⟩ := HCU.out k hlt
          have HCN := hide hcnt
          have HY := hide (HBY.out k)
          have HN := hide (HBN.out k)
          have hw1 : wrap64 ((k : Int) + 1) = (k : Int) + 1 := by unfold wrap64; omega
          have hw2 : IntKind.i64.wrap ((k : Int) + 1) = (k : Int) + 1 := wrap_ok (by omega) (by omega)
          clear hcnt
          generalize solsL (fitAll ((cs.drop k).take 1)) h = zs2 at *
          generalize bs k = pq at *
          obtain ⟨p, q⟩ := pq
          simp only at HY HN ⊢
          generalize c - k = ck at *
          have x0 := X.out.c0
          have x1 := X.out.c1
          go_wp2_with fail
          go_region_law (go_simp; go_at_call 42; (with_reducible refine (HCN.out _ ?_).mono ?_); (exact hb.out.drew); rintro e w5 ⟨A5, c5, vs, rfl, hc5, hc6, hown5, hb5⟩; have HB5 := hide (show Below wr.heap.size wr w5 from (Below.refl _ _).drew.trans hb5); clear hown5 hb5 hc5 hc6; go_wp2_with fail)
          all_goals
            have HX6 := hide (X.out.next HB5.out)
            have HB6 := hide (below_next hb.out HB5.out)
            clear x0 x1
            cases hk0 : ((k : Int) == 0)
            · by_cases hlt2 : (zs2.length : Int) < q
              · have HE := hide (HY.out (.inr hlt2))
                go_wp2_with fail
                go_roundw
                case rel => exact ⟨k + 1, by omega, by go_num, by rw [HE.out], by rw [HE.out], HX6, HB6⟩
                case measure => simp [intOf]; omega
              · have HE := hide (HN.out (by rintro (h | h); (subst h; simp at hk0); exact hlt2 h))
                go_wp2_with fail
                go_roundw
                case rel => exact ⟨k + 1, by omega, by go_num, by rw [HE.out], by rw [HE.out], HX6, HB6⟩
                case measure => simp [intOf]; omega
            · have HE := hide (HY.out (.inl (by simpa using hk0)))
              go_wp2_with fail
              go_roundw
              case rel => exact ⟨k + 1, by omega, by go_num, by rw [HE.out], by rw [HE.out], HX6, HB6⟩
              case measure => simp [intOf]; omega
        · obtain rfl : k = cs.length := by omega
          go_wp2_with fail
          exact bodyPost_ret (v := .tuple #[.int .i64 (bs cs.length).1, .bool true]) (by simp [results, Try.results29, go_sem]) rfl ⟨rfl, hb.out⟩
end Go.Proofs.Ytpgjhmgmfajelaa
