
/-
  LEFTBYCLUES, BOTH WAYS.
-/
import Derived.Test.YtpgjhmgmfajelaaPzE
import Derived.Test.YtpgjhmgmfajelaaApp
import Derived.Deep.RegionLaw
namespace Go.Proofs.Ytpgjhmgmfajelaa
open Go.RowKit Go.Deep
set_option linter.unusedVariables false

theorem one_intsP (w : World) (p : Int) (t : TypeId) : Ints (w.alloc (.cells #[.int .i64 p] t)) (w.heap.size + 1) (some ⟨w.heap.size, 0, none⟩) 1 [p] :=
  ⟨rfl, fun _ => ⟨_, rfl, Nat.lt_succ_self _, fun k hk => by
    obtain rfl : k = 0 := by omega
    simp [Addr.add]⟩⟩
theorem rangeMap_succ (f : Nat → Int) (k : Nat) : (List.range (k + 1)).map f = (List.range k).map f ++ [f k] := by rw [List.range_succ, List.map_append]; rfl

/-- How many hidden heaps fit the first clues. -/
def leftF (h : Nat) (cs : List Cl) (k : Nat) : Int := cntL h (cs.take k)
def leftL (u : Int) (cs : List Cl) : List Int := if pzOk u cs then (List.range (cs.length + 1)).map (leftF u.toNat cs) else []
theorem leftL_no {u : Int} {cs : List Cl} (h : pzOk u cs = false) : leftL u cs = [] := by simp [leftL, h]
theorem leftL_yes {h : Nat} {cs : List Cl} (ho : pzOk (h : Int) cs = true) : leftL h cs = (List.range (cs.length + 1)).map (leftF h cs) := by simp [leftL, ho]
theorem leftL_len (u : Int) (cs : List Cl) : (leftL u cs).length ≤ 1048576 := by
  unfold leftL
  split
  · rename_i h
    have := (pzOk_parts h).2.1
    simp
    omega
  · simp

set_option maxHeartbeats 8000000 in
set_option maxRecDepth 100000 in
/-- The program's LeftByClues. -/
theorem LeftByClues_any (A : Option Addr) (n c B : Nat) (cs : List Cl) (u : Int) (w : World) (hr : Cls w B A n cs) (hB : B ≤ w.heap.size) (hn : n ≤ 17592186044416) (hc : n ≤ c) (hc2 : c ≤ maxLen) :
    Calls Try.prog 28 #[.agg #[.int .i64 u, .slice A n c]] w (MadeR (leftL u cs) (pzOk u cs) w) := by
  obtain rfl := hr.len
  have b1 : Below w.heap.size w (w.alloc (.cells #[.int .i64 u, .slice A cs.length c] 40)) := (Below.refl _ _).alloc (Nat.le_refl _) _
  have HX := hide (Bx.new w 40 (.int .i64 u) (.slice A cs.length c))
  have HG := hide (IsPuzzle_any A cs.length c B cs u _ (hr.below b1 hB) (Nat.le_trans hB b1.size) hn)
  have HB := hide b1
  clear b1
  cases hg : pzOk u cs
  · rw [hg] at HG
    rw [leftL_no hg]
    clear hg
    go_enter Try.func28, Try.ntmps28
    go_wp2_with fail
    refine HG.out.mono ?_; rintro e w2 ⟨rfl, hb2⟩
    have HB2 := hide (HB.out.trans (hb2.mono HB.out.size))
    clear hb2
    go_wp2_with fail
    go_ret2
    exact ⟨none, 0, rfl, Nat.le_refl _, by unfold maxLen; omega, Own.nil _ _ _, HB2.out⟩
  · rw [hg] at HG
    obtain ⟨hh, h6, hck⟩ := pzOk_parts hg
    obtain ⟨h, rfl⟩ := Int.eq_ofNat_of_zero_le (show 0 ≤ u by omega)
    obtain ⟨M, hM⟩ : ∃ M, M = cs.length + 1 := ⟨_, rfl⟩
    have hM6 : M ≤ 7 := by omega
    have hw1 : wrap64 ((cs.length : Int) + 1) = (M : Int) := by unfold wrap64; omega
    have hw2 : IntKind.i64.wrap ((cs.length : Int) + 1) = (M : Int) := by rw [wrap_ok (by omega) (by omega)]; omega
    have HCU := hide (show ∀ k : Nat, k < M → ∃ A1, (∀ W, Calls Try.prog 51 #[.agg #[.int .i64 (h : Int), .slice A cs.length c], .int .i64 0, .int .i64 (k : Int)] W fun e w' => e = .returned (.agg #[.int .i64 (h : Int), .slice A1 k k]) ∧ Below W.heap.size W w') ∧
        (∀ W, Below w.heap.size w W → Calls Try.prog 45 #[.agg #[.int .i64 (h : Int), .slice A1 k k]] W fun e w' => e = .returned (.int .i64 (leftF h cs k)) ∧ Below W.heap.size W w') from fun k hk => by
      obtain ⟨A1, e1, h1, g1⟩ := hr.cutAt 0 k k (Nat.zero_le _) (by omega) (by omega)
      simp only [Nat.sub_zero, List.drop_zero] at e1 h1
      refine ⟨A1, fun W => ?_, fun W hb => ?_⟩
      · have := cut_any A A1 cs.length c (h : Int) 0 k W (Nat.zero_le _) (by omega) (by rw [Nat.sub_zero]; exact e1)
        rw [show ((0 : Nat) : Int) = 0 from rfl, Nat.sub_zero] at this
        exact this
      · exact countSolutions_any A1 k k B (cs.take k) h W (h1.below hb hB) (Nat.le_trans hB hb.size) (by omega) (by omega) (subs_mem hck fun x hx => List.mem_of_mem_take hx))
    rw [leftL_yes hg, ← hM]
    have hmk := run_make_row' (P := Try.prog) 24 3 (.int .i64 0) 8 Try.underlying24 infoInt rfl .i64 .i64 M (by omega) (by omega)
    generalize leftF h cs = f at *
    have HM := hide hM
    clear hg hck hr hM
    go_enter Try.func28, Try.ntmps28
    go_wp2_with fail
    refine HG.out.mono ?_; rintro e w2 ⟨rfl, hb2⟩
    have HB3 := hide (HB.out.trans (hb2.mono HB.out.size))
    have HX3 := hide (HX.out.next hb2)
    have x1 := HX3.out.c1
    clear hb2 HG
    go_wp2_with fail
    clear x1
    have hsz2 : w.heap.size < w2.heap.size := HX3.out.lt
    go_loopw [16] (fun i wr => ∃ k : Nat, k ≤ M ∧ i = .int .i64 k ∧ Hid (Own wr w2.heap.size 3 (.slice (some ⟨w2.heap.size, 0, none⟩) M M) (filL f M k)) ∧ Hid (Bx wr w.heap.size 40 (.int .i64 (h : Int)) (.slice A cs.length c)) ∧ Hid (Below w.heap.size w wr) ∧ w2.heap.size < wr.heap.size)
      (fun i _ => M - (intOf i).toNat)
    case atStart =>
      refine ⟨0, Nat.zero_le _, rfl, hide ?_, hide (HX3.out.alloc _), hide (HB3.out.alloc (by omega) _), by simp⟩
      have h0 : Row (w2.alloc (.cells (madeCells #[.int .i64 0] M) 3)) w2.heap.size 3 (filL f M 0) := by
        unfold Row; rw [filL_len]
        exact (World.rowIs_made w2 _ M _).congr (fun i hi => by rw [filL_zero]; simp [List.getD, List.getElem?_replicate, hi])
      have := Own.of_row (base := w2.heap.size) h0 (Nat.le_refl _) (by rw [filL_len]; unfold maxLen; omega)
      rw [filL_len] at this
      exact this
    case round =>
      obtain ⟨k, hk, rfl, ho, X, hb, hs⟩ := hrel
      by_cases hlt : k < M
      · obtain ⟨A1, hcut, hcnt⟩ := HCU.out k hlt
        have HCT := hide hcut
        have HCN := hide hcnt
        have HF := hide (filL_succ f M k hlt)
        have HL := hide (filL_len f M k)
        clear hcut hcnt
        generalize f k = z at *
        generalize filL f M k = l1 at *
        have x0 := X.out.c0
        have x1 := X.out.c1
        go_wp2_with fail
        refine (HCT.out _).mono ?_
        rintro e w5 ⟨rfl, hb5⟩
        have HB5 := hide hb5
        clear hb5 x0 x1
        go_wp2_with fail
        refine (HCN.out _ (below_next hb.out HB5.out)).mono ?_
        rintro e w6 ⟨rfl, hb6⟩
        have HB6 := hide (below_next HB5.out hb6)
        clear hb6
        have HX6 := hide (X.out.next HB6.out)
        have HO6 := hide (ho.out.below HB6.out)
        have HB7 := hide (below_next hb.out HB6.out)
        have hs6 : w2.heap.size < w6.heap.size := by have := HB6.out.size; omega
        have hown' := HO6.out
        unfold Own at hown'
        rw [HL.out] at hown'
        have hold := World.ownsRow.cellAt hown' k (by omega)
        rw [List.getElem?_map, List.getElem?_eq_getElem (by rw [HL.out]; exact hlt), Option.map_some] at hold
        have hfz := World.ownsRow.frozenAt hown' k
        clear hown'
        generalize l1[k]'(by rw [HL.out]; exact hlt) = x at *
        go_wp2_with fail
        go_roundw
        case rel =>
          refine ⟨k + 1, by omega, by go_num, hide ?_, hide (HX6.out.setOther (by simp; omega) _), hide (HB7.out.setCell (p := ⟨w2.heap.size, k, none⟩) (by simp; omega) _), by simpa using hs6⟩
          rw [HF.out]
          exact Own.stored HO6.out HL.out k _
        case measure => simp [intOf]; omega
      · obtain rfl : k = M := by omega
        have hown := ho.out
        rw [filL_full] at hown
        go_wp2_with fail
        go_ret2
        exact ⟨some ⟨w2.heap.size, 0, none⟩, k, by simp, by simp, by unfold maxLen; omega, by simpa using hown.less (by omega), hb.out⟩

set_option maxHeartbeats 8000000 in
set_option maxRecDepth 100000 in
/-- The model's LeftByClues. -/
theorem specLeftByClues_any (A : Option Addr) (n c B : Nat) (cs : List Cl) (u : Int) (w : World) (hr : Cls w B A n cs) (hB : B ≤ w.heap.size) (hn : n ≤ 17592186044416) (hc : n ≤ c) (hc2 : c ≤ maxLen) :
    Calls Try.prog 27 #[.agg #[.int .i64 u, .slice A n c]] w (MadeR (leftL u cs) (pzOk u cs) w) := by
  obtain rfl := hr.len
  have b1 : Below w.heap.size w (w.alloc (.cells #[.int .i64 u, .slice A cs.length c] 40)) := (Below.refl _ _).alloc (Nat.le_refl _) _
  have HX := hide (Bx.new w 40 (.int .i64 u) (.slice A cs.length c))
  have HG := hide (pzGood_any A cs.length c B cs u _ (hr.below b1 hB) (Nat.le_trans hB b1.size) hn)
  have HB := hide b1
  clear b1
  cases hg : pzOk u cs
  · rw [hg] at HG
    rw [leftL_no hg]
    clear hg
    go_enter Try.func27, Try.ntmps27
    go_wp2_with fail
    refine HG.out.mono ?_; rintro e w2 ⟨rfl, hb2⟩
    have HB2 := hide (HB.out.trans (hb2.mono HB.out.size))
    clear hb2
    go_wp2_with fail
    go_ret2
    exact ⟨none, 0, rfl, Nat.le_refl _, by unfold maxLen; omega, Own.nil _ _ _, HB2.out⟩
  · rw [hg] at HG
    obtain ⟨hh, h6, hck⟩ := pzOk_parts hg
    obtain ⟨h, rfl⟩ := Int.eq_ofNat_of_zero_le (show 0 ≤ u by omega)
    have HCU := hide (show ∀ k : Nat, k ≤ cs.length → ∃ A1, (∀ W, (Instr.sliceAt 38 (.slice A cs.length c) none (some (.int .i64 (k : Int))) none).run Try.prog W = .ok (.slice A1 k c) W) ∧
        (∀ W, Below w.heap.size w W → Calls Try.prog 42 #[.int .i64 (h : Int), .slice A1 k c] W (MadeVs (solsL (fitAll (cs.take k)) h) W)) from fun k hk => by
      obtain ⟨A1, e1, h1, g1⟩ := hr.cutAt 0 k c (Nat.zero_le _) (by omega) (by omega)
      simp only [Nat.sub_zero, List.drop_zero] at e1 h1
      refine ⟨A1, fun W => by rw [run_cut_h A cs.length c W k (by omega), e1], fun W hb => ?_⟩
      exact pzAll_any A1 k c B (cs.take k) h W (h1.below hb hB) (Nat.le_trans hB hb.size) (by omega) (by omega) (subs_mem hck fun x hx => List.mem_of_mem_take hx))
    rw [leftL_yes hg]
    have HS := hide (show ∀ k, (List.range (k + 1)).map (leftF h cs) = (List.range k).map (leftF h cs) ++ [((solsL (fitAll (cs.take k)) h).length : Int)] from fun k => rangeMap_succ _ k)
    have HLn := hide (show ∀ k, ((List.range k).map (leftF h cs)).length = k from fun k => by simp)
    have HL0 := hide (show (List.range 0).map (leftF h cs) = [] from rfl)
    generalize hls : (fun k => (List.range k).map (leftF h cs)) = ls at *
    have hls' : ∀ k, (List.range k).map (leftF h cs) = ls k := fun k => by rw [← hls]
    simp only [hls'] at HS HLn HL0
    rw [hls' (cs.length + 1)]
    clear hg hck hr hls hls'
    go_enter Try.func27, Try.ntmps27
    go_wp2_with fail
    refine HG.out.mono ?_; rintro e w2 ⟨rfl, hb2⟩
    have HB3 := hide (HB.out.trans (hb2.mono HB.out.size))
    have HX3 := hide (HX.out.next hb2)
    have x1 := HX3.out.c1
    clear hb2 HG
    go_wp2_with fail
    clear x1
    go_loopw [4, 5] (fun v i wr => ∃ k : Nat, k ≤ cs.length + 1 ∧ i = .int .i64 k ∧ Hid (Own wr (w.heap.size + 1) 3 v (ls k)) ∧ Hid (Bx wr w.heap.size 40 (.int .i64 (h : Int)) (.slice A cs.length c)) ∧ Hid (Below w.heap.size w wr))
      (fun _ i _ => cs.length + 1 - (intOf i).toNat)
    case atStart => exact ⟨0, Nat.zero_le _, rfl, hide (by rw [HL0.out]; exact Own.nil _ _ _), HX3, HB3⟩
    case round =>
      obtain ⟨k, hk, rfl, ho, X, hb⟩ := hrel
      have x0 := X.out.c0
      have x1 := X.out.c1
      by_cases hlt : k ≤ cs.length
      · have hle : (k : Int) ≤ (cs.length : Int) := by omega
        obtain ⟨A1, hcut, hcnt⟩ := HCU.out k hlt
        have HCN := hide hcnt
        have HF := hide (HS.out k)
        have HL := hide (HLn.out k)
        clear hcnt
        generalize ls k = l1 at *
        generalize solsL (fitAll (cs.take k)) h = zs2 at *
        have hll : l1.length + 1 < 1000000 := by have := HL.out; omega
        go_wp2_with fail
        go_region_law (first
          | (go_simp; go_at_call 42; (with_reducible refine (HCN.out _ ?_).mono ?_); (exact hb.out.drew); rintro e w5 ⟨A5, c5, vs, rfl, hc5, hc6, hown5, hb5⟩; have HB5 := hide (show Below wr.heap.size wr w5 from (Below.refl _ _).drew.trans hb5); have HO5 := hide (ho.out.below HB5.out); clear hown5 hb5 hc5 hc6; go_wp2_with fail)
          | (refine step_app_ints rfl _ _ 24 3 rfl Try.underlying24 infoInt (w.heap.size + 1) _ l1 rfl (HO5.out.alloc _) _ 1 _ _ [(zs2.length : Int)] rfl (one_intsP w5 _ _) ?_ (by omega) ?_; (have := HB5.out.size; have := X.out.lt; simp; omega); intro v' w' hown' hb'))
        all_goals
          have HB6 := hide (show Below w.heap.size w w' from hb.out.trans (((HB5.out.alloc HB5.out.size (.cells #[.int .i64 (zs2.length : Int)] 3)).mono hb.out.size).trans (hb'.mono (by omega))))
          have HX6 := hide ((X.out.below (HB5.out.alloc HB5.out.size (.cells #[.int .i64 (zs2.length : Int)] 3)) X.out.lt).below hb' (by omega))
          go_wp2_with fail
          go_roundw
          case rel => exact ⟨k + 1, by omega, by go_num, hide (by rw [HF.out]; exact hown'), HX6, HB6⟩
          case measure => simp [intOf]; omega
      · obtain rfl : k = cs.length + 1 := by omega
        have hle : ¬ (((cs.length + 1 : Nat) : Int) ≤ (cs.length : Int)) := by omega
        obtain ⟨A2, c2, rfl, hc1, hc2⟩ := ho.out.shape
        go_wp2_with fail
        go_ret2
        exact ⟨A2, c2, rfl, hc1, hc2, ho.out.less (by omega), hb.out⟩
end Go.Proofs.Ytpgjhmgmfajelaa
