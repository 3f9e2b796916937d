import Derived.Test.YtnakkmmmkbjfbaaMg29
import Derived.Test.YtnakkmmmkbjfbaaMg31
import Derived.Test.YtnakkmmmkbjfbaaMg01
import Derived.Test.YtnakkmmmkbjfbaaMg03

/-
  THE FEWEST DOUBLINGS, THE PROGRAM's WAY: FirstToEmpty, FewestToEmpty, FewestToBecome.
-/
namespace Go.Proofs.Ytnakkmmmkbjfbaa
open Go.RowKit Go.Deep
set_option linter.unusedVariables false

theorem inL_pd {zs : List Int} (h4 : zs.length ≤ 4) : inL [pd zs 0, pd zs 1, pd zs 2, pd zs 3] 0 = pr0 zs := by
  unfold pr0 inL
  have key : (0 : Int) ∈ [pd zs 0, pd zs 1, pd zs 2, pd zs 3] ↔ (0 : Int) ∈ zs := by
    constructor
    · intro h
      have : ∀ k, (0 : Int) = pd zs k → (0 : Int) ∈ zs := fun k e => by
        by_cases hk : k < zs.length
        · rw [pd_lt hk] at e; rw [e]; exact List.getElem_mem hk
        · rw [pd_ge (by omega)] at e; omega
      simp only [List.mem_cons, List.not_mem_nil, or_false] at h
      rcases h with h | h | h | h
      · exact this _ h
      · exact this _ h
      · exact this _ h
      · exact this _ h
    · intro h
      obtain ⟨k, hk, e⟩ := List.getElem_of_mem h
      have e2 := pd_lt hk
      rw [e] at e2
      have : k = 0 ∨ k = 1 ∨ k = 2 ∨ k = 3 := by omega
      rcases this with rfl | rfl | rfl | rfl <;> simp [e2]
  exact decide_eq_decide.2 key
theorem isEmpty_any {zs : List Int} (h4 : zs.length ≤ 4) (q : List Int) (X : World) (hl : q.length = zs.length) : Calls Try.prog 29 (#[.agg #[.int .i64 (pd q 0), .int .i64 (pd q 1), .int .i64 (pd q 2), .int .i64 (pd q 3)]] ++ #[]) X fun e X' => e = .returned (.bool (pr0 q)) ∧ Below X.heap.size X X' := by
  rw [← inL_pd (by omega)]
  exact hasEmpty_any q X
theorem isAim_any {b0 : Nat} {gs q : List Int} {X : World} (hrow : X.rowIs b0 42 4 (fun j => .int .i64 (pd gs j))) (hb0 : b0 < X.heap.size) (hl : q.length = gs.length) (h4 : gs.length ≤ 4) :
    Calls Try.prog 35 (#[.agg #[.int .i64 (pd q 0), .int .i64 (pd q 1), .int .i64 (pd q 2), .int .i64 (pd q 3)]] ++ #[.pointer (some ⟨b0, 0, none⟩)]) X fun e X' => e = .returned (.bool (prE gs q)) ∧ Below X.heap.size X X' := by
  have hE := equal_rows hl h4 (X.alloc (.cells #[.int .i64 (pd q 0), .int .i64 (pd q 1), .int .i64 (pd q 2), .int .i64 (pd q 3)] 42))
  have e : prE gs q = decide (q = gs) := by
    unfold prE
    by_cases h : q = gs
    · subst h; simp
    · rw [decide_eq_false h]; exact Bool.eq_false_iff.2 fun hc => h (by simpa using hc)
  rw [← e] at hE
  obtain ⟨c0, c1, c2, c3⟩ := four_cells (row4_alloc X q 42)
  obtain ⟨d0, d1, d2, d3⟩ := four_cells (hrow.of_block (w' := X.alloc (.cells #[.int .i64 (pd q 0), .int .i64 (pd q 1), .int .i64 (pd q 2), .int .i64 (pd q 3)] 42)) (Below.heap_alloc _ _ _ hb0))
  clear hrow e
  generalize prE gs q = r at *
  go_enter Try.func35, Try.ntmps35
  go_wp2_with fail
  go_ret
  exact ⟨rfl, (Below.refl _ _).alloc (Nat.le_refl _) _⟩
theorem wayQ_none {zs : List Int} {pr : List Int → Bool} (h : ¬ 0 ≤ fewQ zs pr) : wayQ zs pr = [] := by
  cases hf : (Qf zs).find? (isP pr) with
  | none => exact (fewQ_none hf).2
  | some q => rw [(fewQ_some hf).1] at h; omega
theorem ftL_few {zs : List Int} (h : few zs = true) : ftL zs = wayQ zs pr0 ∧ fteOk zs = decide (0 ≤ fewQ zs pr0) := by
  have e : fteOk zs = decide (0 ≤ fewQ zs pr0) := by unfold fteOk; rw [h]; simp
  refine ⟨?_, e⟩
  by_cases h0 : 0 ≤ fewQ zs pr0
  · exact ftL_yes (by rw [e]; exact decide_eq_true h0)
  · rw [ftL_no (by rw [e]; exact decide_eq_false h0), wayQ_none h0]
theorem fteN_len (zs : List Int) : fteN zs = ((ftL zs).length : Int) := by
  unfold fteN ftL
  cases h : fteOk zs
  · rfl
  · have h' := h
    unfold fteOk at h'
    rw [Bool.and_eq_true] at h'
    exact (wayQ_len (of_decide_eq_true h'.2)).symm
theorem ftbN_few {zs gs : List Int} (h : few zs = true) (hl : gs.length = zs.length) : ftbN zs gs = ((wayQ zs (prE gs)).length : Int) ∧ ftbOk zs gs = decide (0 ≤ fewQ zs (prE gs)) := by
  have e : ftbOk zs gs = decide (0 ≤ fewQ zs (prE gs)) := by unfold ftbOk; rw [h, decide_eq_true hl]; simp
  refine ⟨?_, e⟩
  unfold ftbN
  rw [e]
  by_cases h0 : 0 ≤ fewQ zs (prE gs)
  · rw [decide_eq_true h0]; exact (wayQ_len h0).symm
  · rw [decide_eq_false h0, wayQ_none h0]; rfl

set_option maxRecDepth 100000 in
set_option maxHeartbeats 4000000 in
theorem FirstToEmpty_any (A : Option Addr) (n c : Nat) (zs : List Int) (w : World) (hr : Ints w w.heap.size A n zs) (hn : n ≤ 17592186044416) :
    Calls Try.prog 12 #[.slice A n c] w fun e w' => ∃ A' c', e = .returned (.tuple #[.slice A' (ftL zs).length c', .bool (fteOk zs)]) ∧ OwnIDb w' w.heap.size (.slice A' (ftL zs).length c') (ftL zs).length (numsDb (ftL zs)) ∧ Below w.heap.size w w' := by
  obtain rfl := hr.len
  have HG := hide (AreFewHeaps_any A zs.length c w.heap.size zs w hr hn)
  cases hg : few zs
  · have e : fteOk zs = false := by unfold fteOk; rw [hg]; rfl
    rw [ftL_no e, e]
    rw [hg] at HG
    go_enter Try.func12, Try.ntmps12
    go_wp2_with fail
    refine HG.out.mono ?_; rintro e w' ⟨rfl, rfl⟩
    go_wp2_with fail
    go_ret2
    exact ⟨none, 0, rfl, OwnIDb.nil _ _, Below.refl _ _⟩
  · rw [(ftL_few hg).1, (ftL_few hg).2]
    rw [hg] at HG
    obtain ⟨hs, h2, h4, _⟩ := few_small hg
    have HRO := hide (rowOf_any A zs.length c w.heap.size zs w hr (Nat.le_refl _) (by omega) (by omega))
    have HSF := hide (fun W => firstWay_any zs 29 #[] pr0 W hs h2 h4 (enters _ Try.func29 rfl rfl) fun q X _ hl _ => isEmpty_any h4 q X hl)
    clear hr hs hg
    generalize hL : wayQ zs pr0 = L at *
    generalize hB : decide (0 ≤ fewQ zs pr0) = fb at *
    have HL := hide hL
    have HB := hide hB
    clear hL hB
    go_enter Try.func12, Try.ntmps12
    go_wp2_with fail
    refine HG.out.mono ?_; rintro e w' ⟨rfl, rfl⟩
    go_wp2_with fail
    refine HRO.out.mono ?_; rintro e w1 ⟨rfl, hb1⟩
    go_wp2_with fail
    refine (HSF.out w1).mono ?_; rintro e w2 ⟨L2, A2, c2, f2, rfl, hL2, hf2, ho, hb2⟩
    rw [HL.out] at hL2
    rw [HB.out] at hf2
    subst hL2; subst hf2
    go_wp2_with fail
    go_ret2
    exact ⟨A2, c2, rfl, ho.less hb1.size, hb1.trans (hb2.mono hb1.size)⟩

set_option maxRecDepth 100000 in
set_option maxHeartbeats 4000000 in
theorem FewestToEmpty_any (A : Option Addr) (n c : Nat) (zs : List Int) (w : World) (hr : Ints w w.heap.size A n zs) (hn : n ≤ 17592186044416) :
    Calls Try.prog 9 #[.slice A n c] w fun e w' => e = .returned (.tuple #[.int .i64 (fteN zs), .bool (fteOk zs)]) ∧ Below w.heap.size w w' := by
  obtain rfl := hr.len
  have HF := hide (FirstToEmpty_any A zs.length c zs w hr hn)
  rw [fteN_len]
  generalize ftL zs = L at *
  generalize fteOk zs = fb at *
  clear hr
  go_enter Try.func9, Try.ntmps9
  go_wp2_with fail
  refine HF.out.mono ?_; rintro e w' ⟨A', c', rfl, _, hb⟩
  go_wp2_with fail
  go_ret2
  exact ⟨rfl, hb⟩

set_option maxRecDepth 100000 in
set_option maxHeartbeats 4000000 in
theorem FewestToBecome_any (A : Option Addr) (n c : Nat) (zs : List Int) (A' : Option Addr) (n' c' : Nat) (gs : List Int) (w : World) (hr : Ints w w.heap.size A n zs) (hr' : Ints w w.heap.size A' n' gs) (hn : n ≤ 17592186044416) (hn' : n' ≤ 17592186044416) :
    Calls Try.prog 20 #[.slice A n c, .slice A' n' c'] w fun e w' => e = .returned (.tuple #[.int .i64 (ftbN zs gs), .bool (ftbOk zs gs)]) ∧ Below w.heap.size w w' := by
  obtain rfl := hr.len
  obtain rfl := hr'.len
  have HG := hide (AreFewHeaps_any A zs.length c w.heap.size zs w hr hn)
  cases hg : few zs
  · rw [(ftb_no1 (gs := gs) hg).1, (ftb_no1 (gs := gs) hg).2]
    rw [hg] at HG
    go_enter Try.func20, Try.ntmps20
    go_wp2_with fail
    refine HG.out.mono ?_; rintro e w' ⟨rfl, rfl⟩
    go_wp2_with fail
    go_ret2
    exact ⟨rfl, Below.refl _ _⟩
  · rw [hg] at HG
    by_cases hl : gs.length = zs.length
    · rw [(ftbN_few hg hl).1, (ftbN_few hg hl).2]
      obtain ⟨hs, h2, h4, _⟩ := few_small hg
      have hle : ((gs.length : Int) != (zs.length : Int)) = false := by simp [hl]
      have HRO := hide (fun W (h : Ints W w.heap.size A zs.length zs) (hb : w.heap.size ≤ W.heap.size) => rowOf_any A zs.length c w.heap.size zs W h hb (by omega) (by omega))
      have HRG := hide (rowOf_any A' gs.length c' w.heap.size gs w hr' (Nat.le_refl _) (by omega) (by omega))
      have HR := hide hr
      have HL0 := hide hl
      have HSF := hide (fun (W : World) (b0 : Nat) (hb0 : b0 < W.heap.size) (hrow : W.rowIs b0 42 4 (fun j => .int .i64 (pd gs j))) => firstWay_any zs 35 #[.pointer (some ⟨b0, 0, none⟩)] (prE gs) W hs h2 h4 (enters _ Try.func35 rfl rfl)
        fun q X _ hq hb => isAim_any (hrow.of_block (hb.block _ hb0)) (Nat.lt_of_lt_of_le hb0 hb.size) (by omega) (by omega))
      clear hr hr' hs hg hl
      generalize hL : wayQ zs (prE gs) = L at *
      generalize hB : decide (0 ≤ fewQ zs (prE gs)) = fb at *
      have HL := hide hL
      have HB := hide hB
      clear hL hB
      go_enter Try.func20, Try.ntmps20
      go_wp2_with fail
      refine HG.out.mono ?_; rintro e w' ⟨rfl, rfl⟩
      go_wp2_with fail
      refine HRG.out.mono ?_; rintro e w1 ⟨rfl, hb1⟩
      have hrow := row4_alloc w1 gs 42
      have hA := (hb1.alloc hb1.size (.cells #[.int .i64 (pd gs 0), .int .i64 (pd gs 1), .int .i64 (pd gs 2), .int .i64 (pd gs 3)] 42))
      have hz : w1.heap.size < (w1.alloc (.cells #[.int .i64 (pd gs 0), .int .i64 (pd gs 1), .int .i64 (pd gs 2), .int .i64 (pd gs 3)] 42)).heap.size := by simp
      obtain ⟨W2, hW2⟩ : ∃ W2, W2 = w1.alloc (.cells #[.int .i64 (pd gs 0), .int .i64 (pd gs 1), .int .i64 (pd gs 2), .int .i64 (pd gs 3)] 42) := ⟨_, rfl⟩
      rw [← hW2] at hrow hA hz
      have HA := hide hA
      have HRW := hide hrow
      have hws := hA.size
      have HRO2 := hide (HRO.out W2 (HR.out.below hA (Nat.le_refl _)) hws)
      clear hA hrow
      go_wp2_with fail
      rw [← hW2]
      refine HRO2.out.mono ?_; rintro e w3 ⟨rfl, hb3⟩
      have HRW3 := hide (HRW.out.of_block (hb3.block _ hz))
      have hz3 := Nat.lt_of_lt_of_le hz hb3.size
      have HA3 := hide (HA.out.trans (hb3.mono hws))
      clear hW2
      go_wp2_with fail
      refine (HSF.out w3 w1.heap.size hz3 HRW3.out).mono ?_; rintro e w4 ⟨L2, A2, c2, f2, rfl, hL2, hf2, ho, hb4⟩
      rw [HL.out] at hL2
      rw [HB.out] at hf2
      subst hL2; subst hf2
      go_wp2_with fail
      go_ret2
      exact ⟨rfl, HA3.out.trans (hb4.mono HA3.out.size)⟩
    · rw [(ftb_no2 hl).1, (ftb_no2 hl).2]
      have hle : ((gs.length : Int) != (zs.length : Int)) = true := by simp; omega
      clear hr hr' hg
      go_enter Try.func20, Try.ntmps20
      go_wp2_with fail
      refine HG.out.mono ?_; rintro e w' ⟨rfl, rfl⟩
      go_wp2_with fail
      go_ret2
      exact ⟨rfl, Below.refl _ _⟩
end Go.Proofs.Ytnakkmmmkbjfbaa

/-
  THE WALKS OF EXACT LAWS, the given frame left out: for all numbers the law returns true and writes nothing that was there. (Printed by lawgen.py.)
-/
namespace Go.Proofs.Ytnakkmmmkbjfbaa
open Go.RowKit Go.Deep

set_option maxRecDepth 100000 in
set_option maxHeartbeats 2000000 in
theorem lawFewestToEmpty (A_xs : Option Addr) (n_xs c_xs : Nat) (xs : List Int) (w : World) (hr_xs : Ints w w.heap.size A_xs n_xs xs) :
    Calls Try.prog 3 #[.slice A_xs n_xs c_xs] w fun e w' => e = .returned (.bool true) ∧ Below w.heap.size w w' := by
  obtain rfl := hr_xs.len
  by_cases hbig_xs : 1048576 < xs.length
  · go_enter Try.func3, Try.ntmps3
    go_wp2_with fail
    go_ret
    exact ⟨rfl, Below.refl _ _⟩
  have hcap_xs : xs.length ≤ 17592186044416 := by omega
  have hlow_xs : xs.length ≤ 1048576 := by omega
  have HS := hide (fun A_xs c_xs w (h_xs : Ints w w.heap.size A_xs xs.length xs) => specFewestToEmpty_any A_xs xs.length c_xs xs w h_xs hcap_xs)
  have HI := hide (fun A_xs c_xs w (h_xs : Ints w w.heap.size A_xs xs.length xs) => FewestToEmpty_any A_xs xs.length c_xs xs w h_xs hcap_xs)
  go_enter Try.func3, Try.ntmps3
  go_wp2_with fail
  refine (toIntS_any _ _ _ _ _ (hr_xs.more (by omega)) hcap_xs).mono ?_
  rintro e w1 ⟨ga_xs, ha1, hz1, rfl, hrow1, hb1⟩
  have q1 := hb1
  have s1 := hb1.size
  have t1 := q1.size
  have r_xs_1 := hr_xs.below hb1 (by omega)
  have Xa_xs_1 := Own.of_row hrow1 ha1 (by unfold maxLen; omega)
  go_wp2_with fail
  refine (HS.out _ _ _ Xa_xs_1.ints).mono ?_
  rintro e w2 ⟨rfl, hb2⟩
  have q2 := below_next q1 hb2
  have s2 := hb2.size
  have t2 := q2.size
  have r_xs_2 := r_xs_1.below hb2 (by omega)
  have Xa_xs_2 := Xa_xs_1.below hb2
  clear q1 r_xs_1 Xa_xs_1
  clear Xa_xs_2
  go_wp2_with fail
  refine (toIntS_any _ _ _ _ _ (r_xs_2.more (by omega)) hcap_xs).mono ?_
  rintro e w3 ⟨gb_xs, ha3, hz3, rfl, hrow3, hb3⟩
  have q3 := below_next q2 hb3
  have s3 := hb3.size
  have t3 := q3.size
  have r_xs_3 := r_xs_2.below hb3 (by omega)
  clear q2 r_xs_2
  have Xb_xs_3 := Own.of_row hrow3 ha3 (by unfold maxLen; omega)
  go_wp2_with fail
  refine (HI.out _ _ _ Xb_xs_3.ints).mono ?_
  rintro e w4 ⟨rfl, hb4⟩
  have q4 := below_next q3 hb4
  have s4 := hb4.size
  have t4 := q4.size
  have r_xs_4 := r_xs_3.below hb4 (by omega)
  have Xb_xs_4 := Xb_xs_3.below hb4
  clear q3 r_xs_3 Xb_xs_3
  go_wp2_with fail
  refine (toIntS_any _ _ _ _ _ (r_xs_4.more (by omega)) hcap_xs).mono ?_
  rintro e w5 ⟨gc_xs, _, hz5, rfl, hrow5, hb5⟩
  have q5 := below_next q4 hb5
  have s5 := hb5.size
  have t5 := q5.size
  have r_xs_5 := r_xs_4.below hb5 (by omega)
  have Xb_xs_5 := Xb_xs_4.below hb5
  clear q4 r_xs_4 Xb_xs_4
  go_wp2_with fail
  refine (eqIntS_same _ _ _ _ _ _ _ _ _ Xb_xs_5.ints (hrow5.ints hz5) (Nat.le_refl _) (Nat.le_refl _) hcap_xs).mono ?_
  rintro e w6 ⟨rfl, hb6⟩
  have q6 := below_next q5 hb6
  have s6 := hb6.size
  have t6 := q6.size
  have r_xs_6 := r_xs_5.below hb6 (by omega)
  have Xb_xs_6 := Xb_xs_5.below hb6
  clear q5 r_xs_5 Xb_xs_5
  go_wp2_with fail
  go_ret
  exact ⟨rfl, q6⟩
end Go.Proofs.Ytnakkmmmkbjfbaa
