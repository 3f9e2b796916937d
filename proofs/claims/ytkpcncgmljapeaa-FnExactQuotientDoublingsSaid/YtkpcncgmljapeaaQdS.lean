
/-
  THE PROGRAM's slices.SortStableFunc of three indices by their heaps (an insertion sort, at so few). Printed by mkqd.py.
-/
import Derived.Test.YtkpcncgmljapeaaQdP
import Derived.Test.YtkpcncgmljapeaaRow
import Derived.Test.YtkpcncgmljapeaaFlows
import Derived.Test.YtkpcncgmljapeaaSums
namespace Go.Proofs.Ytkpcncgmljapeaa
open Go.RowKit Go.Deep
set_option linter.unusedVariables false

/-- x on its way down through os, ahead of rest. -/
def onWay (os : List Int) (x : Int) (rest : List Int) (j : Nat) : List Int := os.take j ++ x :: (os.drop j ++ rest)
theorem onWay_length (os : List Int) (x : Int) (rest : List Int) (j : Nat) (h : j ≤ os.length) : (onWay os x rest j).length = os.length + 1 + rest.length := by
  simp [onWay]; omega
theorem onWay_at (os : List Int) (x : Int) (rest : List Int) (j : Nat) (h : j ≤ os.length) : (onWay os x rest j).getD j 0 = x := by
  unfold onWay
  rw [List.getD, List.getElem?_append_right (by rw [List.length_take]; omega), List.length_take]
  simp [show j - min j os.length = 0 by omega]
theorem onWay_before (os : List Int) (x : Int) (rest : List Int) (j : Nat) (h : j + 1 ≤ os.length) : (onWay os x rest (j + 1)).getD j 0 = os.getD j 0 := by
  unfold onWay
  rw [List.getD, List.getElem?_append_left (by rw [List.length_take]; omega), List.getElem?_take]
  simp [List.getD]
theorem onWay_down (os : List Int) (x : Int) (rest : List Int) (j : Nat) (h : j + 1 ≤ os.length) :
    ((onWay os x rest (j + 1)).set (j + 1) (os.getD j 0)).set j x = onWay os x rest j := by
  apply List.ext_getElem?
  intro k
  have hl : j < os.length := by omega
  have e1 : os.take (j + 1) = os.take j ++ [os.getD j 0] := by
    rw [List.take_succ_eq_append_getElem hl, getD_at hl]
  have e2 : os.drop j = os.getD j 0 :: os.drop (j + 1) := by
    rw [List.drop_eq_getElem_cons hl, getD_at hl]
  unfold onWay
  rw [e1, e2]
  have hj : (os.take j).length = j := by rw [List.length_take]; omega
  have e3 : (os.take j ++ [os.getD j 0] ++ x :: (os.drop (j + 1) ++ rest)) = os.take j ++ (os.getD j 0 :: x :: (os.drop (j + 1) ++ rest)) := by simp
  rw [e3, List.set_append_right _ _ (by omega), List.set_append_right _ _ (by omega), hj]
  simp
theorem onWay_all (os : List Int) (x : Int) (rest : List Int) : onWay os x rest os.length = os ++ x :: rest := by simp [onWay]
theorem onWay_ins (os : List Int) (x : Int) (rest : List Int) (j : Nat) : onWay os x rest j = insQ os j x ++ rest := by simp [onWay, insQ]
/-- The list behind i jobs. -/
def srt (zs : List Int) (i : Nat) : List Int := qS zs i ++ (rng zs.length).drop i
theorem srt_length (zs : List Int) (i : Nat) (h : i ≤ zs.length) : (srt zs i).length = zs.length := by
  simp [srt, qS_length, rng_length]; omega
theorem srt_open (zs : List Int) (i : Nat) (h : i < zs.length) : srt zs i = onWay (qS zs i) (i : Int) ((rng zs.length).drop (i + 1)) i := by
  have h2 : i < (rng zs.length).length := by rw [rng_length]; exact h
  rw [srt, List.drop_eq_getElem_cons h2, rng_get h]
  have := onWay_all (qS zs i) (i : Int) ((rng zs.length).drop (i + 1))
  rw [qS_length] at this
  exact this.symm
theorem srt_shut (zs : List Int) (i : Nat) {j : Nat} (hj : qPos zs (qS zs i) (zs.getD i 0) = j) : onWay (qS zs i) (i : Int) ((rng zs.length).drop (i + 1)) j = srt zs (i + 1) := by
  rw [onWay_ins, srt, qS, hj]
theorem srt_one (zs : List Int) (h : 0 < zs.length) : srt zs 1 = rng zs.length := by
  have h2 : 0 < (rng zs.length).length := by rw [rng_length]; exact h
  show (insQ [] _ _) ++ _ = _
  have : qPos zs [] (zs.getD 0 0) = 0 := rfl
  show insQ (qS zs 0) (qPos zs (qS zs 0) (zs.getD 0 0)) 0 ++ _ = _
  simp only [qS, this, insQ]
  rw [show (rng zs.length).drop 1 = (rng zs.length).drop (0 + 1) from rfl]
  have := List.drop_eq_getElem_cons h2
  rw [rng_get h, List.drop_zero] at this
  simpa using this.symm
theorem srt_all (zs : List Int) : srt zs zs.length = qA zs := by
  rw [srt, List.drop_of_length_le (by rw [rng_length]; exact Nat.le_refl _)]; simp [qA]

/-- What the closure reads: the row through its variable. -/
def Jobs (w : World) (bx B : Nat) (A : Option Addr) (c : Nat) (zs : List Int) : Prop := w.rowIs bx 36 4 (fun j => .int .i64 (pd zs j))
theorem Jobs.drewN {w : World} {bx B c : Nat} {A : Option Addr} {zs : List Int} (h : Jobs w bx B A c zs) (n : Nat) : Jobs (w.drewN n) bx B A c zs := h

/-- The program's closure in division. -/
theorem byTime_any (bx B a b c : Nat) (A : Option Addr) (zs : List Int) (w : World) (h : Jobs w bx B A c zs) (ha : a < zs.length) (hb : b < zs.length) (hn : zs.length ≤ 4) (hz : small zs) :
    Calls Try.prog 28 #[.int .i64 (a : Int), .int .i64 (b : Int), .pointer (some ⟨bx, 0, none⟩)] w fun e w' => e = .returned (.int .i64 (zs.getD a 0 - zs.getD b 0)) ∧ ∃ n, w' = w.drewN n := by
  have h' : w.rowIs bx 36 4 (fun j => .int .i64 (pd zs j)) := h
  have hca := h'.cell (show a < 4 by omega)
  have hcb := h'.cell (show b < 4 by omega)
  have ba := small_get hz a ha
  have bb := small_get hz b hb
  rw [pd_lt ha] at hca
  rw [pd_lt hb] at hcb
  rw [getD_at ha, getD_at hb]
  have a4 : (a : Int) < 4 := by omega
  have b4 : (b : Int) < 4 := by omega
  clear h h' hz
  generalize zs[a] = x at *
  generalize zs[b] = y at *
  go_enter Try.func28, Try.ntmps28
  go_wp2_with fail
  go_quiet (fail)
  go_wp2_with fail
  go_ret
  exact ⟨rfl, _, rfl⟩

set_option maxRecDepth 100000 in
set_option maxHeartbeats 1000000 in
/-- The insertion sort. -/
theorem insertion_any (bx B c g co base : Nat) (A : Option Addr) (zs : List Int) (w : World) (h : Jobs w bx B A c zs) (hz : small zs) (h1 : 1 ≤ zs.length) (h9 : zs.length ≤ 4)
    (hg : Row w g 3 (rng zs.length)) (hB : B ≤ g) (hbx : bx ≠ g) (hbase : base ≤ g) :
    Calls Try.prog 35 #[.slice (some ⟨g, 0, none⟩) zs.length co, .int .i64 0, .int .i64 (zs.length : Int), .func (.func 28) #[] #[.pointer (some ⟨bx, 0, none⟩)]] w
      fun e w' => e = .returned (.tuple #[]) ∧ Row w' g 3 (qA zs) ∧ Below base w w' := by
  have HC := hide (fun W (h : Jobs W bx B A c zs) (a b : Nat) (ha : a < zs.length) (hb : b < zs.length) => byTime_any bx B a b c A zs W h ha hb h9 hz)
  have HL := hide (srt_length zs)
  have HO := hide (srt_open zs)
  have HSH := hide (srt_shut zs)
  have HOL := hide (qS_length zs)
  have HOG := hide (qS_get zs)
  have HALL := hide (srt_all zs)
  have H1 := hide (srt_one zs h1)
  have Hg := hide hg
  have Hh := hide h
  clear hz hg h
  go_enter Try.func35, Try.ntmps35
  go_wp2_with fail
  go_loopw [8] (fun i wr => ∃ q : Nat, 1 ≤ q ∧ q ≤ zs.length ∧ i = .int .i64 q ∧ Row wr g 3 (srt zs q) ∧ Jobs wr bx B A c zs ∧ Below base w wr)
    (fun i _ => zs.length - (intOf i).toNat)
  case atStart => exact ⟨1, Nat.le_refl _, h1, rfl, H1.out ▸ Hg.out, Hh.out, Below.refl _ _⟩
  case round =>
    obtain ⟨q, hq1, hq, rfl, hrow, hjobs, hb⟩ := hrel
    by_cases hlt : q < zs.length
    · rw [HO.out q hlt] at hrow
      have HSQ := hide (fun (j : Nat) => HSH.out q (j := j))
      have hol := HOL.out q
      have HGQ := hide (HOG.out q)
      have hrl : ((rng zs.length).drop (q + 1)).length + q + 1 = zs.length := by rw [List.length_drop, rng_length]; omega
      generalize qS zs q = os at *
      generalize (rng zs.length).drop (q + 1) = rest at *
      have HR := hide hrow
      have HJ := hide hjobs
      have HQB := hide hb
      have HOLQ := hide hol
      clear hrow hjobs hb hol
      go_wp2_with fail
      go_loopw [9] (fun jv wr2 => ∃ j : Nat, j ≤ q ∧ jv = .int .i64 j ∧ Row wr2 g 3 (onWay os (q : Int) rest j) ∧ Jobs wr2 bx B A c zs ∧ Below base w wr2 ∧ qK zs os (zs.getD q 0) j = qK zs os (zs.getD q 0) os.length)
        (fun jv _ => (intOf jv).toNat)
      case atStart => exact ⟨q, Nat.le_refl _, rfl, HR.out, HJ.out, HQB.out, by rw [HOLQ.out]⟩
      case round =>
        obtain ⟨j, hj, rfl, hrow, hjobs, hb, hk⟩ := hrel
        have HR2 := hide hrow
        have HJ2 := hide hjobs
        have HQ2 := hide hb
        have HK := hide hk
        clear hrow hjobs hb hk
        cases j with
        | zero =>
          have HFIN := hide (HSQ.out 0 (by show qK zs os _ os.length = 0; rw [← HK.out]; rfl))
          go_wp2_with fail
          go_quiet (fail)
          go_wp2_with fail
          go_roundw
          case rel => exact ⟨q + 1, by omega, by omega, by go_num, HFIN.out ▸ HR2.out.drewN _, HJ2.out.drewN _, below_drewN HQ2.out _⟩
          case measure => simp [intOf]; omega
        | succ j =>
          obtain ⟨jb, hjb, hjq⟩ := HGQ.out j (by omega)
          have hl1 : j + 1 ≤ os.length := by have := HOLQ.out; omega
          have hrl2 := onWay_length os (q : Int) rest (j + 1) hl1
          have hc1 := HR2.out.atD (k := j + 1) (by have := HOLQ.out; omega)
          have hc2 := HR2.out.atD (k := j) (by have := HOLQ.out; omega)
          rw [onWay_at _ _ _ _ hl1] at hc1
          rw [onWay_before _ _ _ _ hl1, hjb] at hc2
          have hf1 := HR2.out.free (j + 1)
          have hf2 := HR2.out.free j
          have HQC := hide (fun m => (show Calls Try.prog 28 #[.int .i64 (q : Int), .int .i64 (jb : Int), .pointer (some ⟨bx, 0, none⟩)] (wr.drewN m) fun e w'' => e = .returned (.int .i64 (zs.getD q 0 - zs.getD jb 0)) ∧ ∃ m, w'' = wr.drewN m from
            (HC.out (wr.drewN m) (HJ2.out.drewN m) q jb hlt (by omega)).mono fun _ _ ⟨he, n, hn⟩ => ⟨he, m + n, by rw [hn, World.drewN_drewN]⟩))
          have hp : (0 : Int) < ((j + 1 : Nat) : Int) := by omega
          have e1 : ((j + 1 : Nat) : Int) - 1 = (j : Int) := by omega
          by_cases hlx : zs.getD q 0 < zs.getD jb 0
          · have HY := hide (qK_yes (zs := zs) (os := os) (n := zs.getD q 0) (k := j) (by rw [hjb]; exact hlx))
            have HD := hide (onWay_down os (q : Int) rest j hl1)
            rw [hjb] at HD
            have hneg : zs.getD q 0 - zs.getD jb 0 < 0 := by omega
            generalize zs.getD q 0 - zs.getD jb 0 = d at *
            clear hjb
            go_wp2_with fail
            go_quiet ((go_at_call 28; exact HQC.out _))
            go_wp2_with fail
            have HRW := hide (HR2.out.drewN nq)
            have HJW := hide (HJ2.out.drewN nq)
            have HQW := hide (below_drewN HQ2.out nq)
            have hc1 : (wr.drewN nq).cell? ⟨g, j + 1, none⟩ = some (.int .i64 (q : Int)) := hc1
            have hc2 : (wr.drewN nq).cell? ⟨g, j, none⟩ = some (.int .i64 (jb : Int)) := hc2
            have hf1 : (wr.drewN nq).frozen? ⟨g, j + 1, none⟩ = false := hf1
            have hf2 : (wr.drewN nq).frozen? ⟨g, j, none⟩ = false := hf2
            generalize wr.drewN nq = W at *
            have hf3 : (W.setCell ⟨g, j + 1, none⟩ (.int .i64 (jb : Int))).frozen? ⟨g, j, none⟩ = false := (HRW.out.put (j + 1) (jb : Int)).free j
            go_region
            go_wp2_with fail
            have hgb : ∀ k, (⟨g, k, none⟩ : Addr).block = g := fun _ => rfl
            have hA : ∀ (k : Nat) (v : Value) (W' : World), Jobs W' bx B A c zs → Jobs (W'.setCell ⟨g, k, none⟩ v) bx B A c zs := fun k v W' h => World.rowIs.of_block h (Below.heap_setCell _ _ _ _ (by show bx ≠ g; exact hbx))
            refine ⟨⟨j, by omega, rfl, ?_, (hA _ _ _ (hA _ _ _ HJW.out)).drewN 1, ((HQW.out.setCell hbase _).setCell hbase _).drew, by rw [← HK.out, HY.out]⟩, by simp [intOf]⟩
            have := (HRW.out.put (j + 1) (jb : Int)).put j (q : Int)
            rw [HD.out] at this
            exact this.drewN 1
          · have HY := hide (qK_no (zs := zs) (os := os) (n := zs.getD q 0) (k := j) (by rw [hjb]; exact hlx))
            have HFIN := hide (HSQ.out (j + 1) (by show qK zs os _ os.length = _; rw [← HK.out, HY.out]))
            have hneg : ¬ zs.getD q 0 - zs.getD jb 0 < 0 := by omega
            generalize zs.getD q 0 - zs.getD jb 0 = d at *
            clear hjb
            go_wp2_with fail
            go_quiet ((go_at_call 28; exact HQC.out _))
            go_wp2_with fail
            go_roundw
            case rel => exact ⟨q + 1, by omega, by omega, by go_num, HFIN.out ▸ HR2.out.drewN _, HJ2.out.drewN _, below_drewN HQ2.out _⟩
            case measure => simp [intOf]; omega
    · obtain rfl : q = zs.length := by omega
      go_wp2_with fail
      go_end0
      exact ⟨rfl, HALL.out ▸ hrow, hb⟩

theorem stable_any (bx B c g co base : Nat) (A : Option Addr) (zs : List Int) (w : World) (h : Jobs w bx B A c zs) (hz : small zs) (h1 : 1 ≤ zs.length) (h9 : zs.length ≤ 4)
    (hg : Row w g 3 (rng zs.length)) (hB : B ≤ g) (hbx : bx ≠ g) (hbase : base ≤ g) :
    Calls Try.prog 33 #[.slice (some ⟨g, 0, none⟩) zs.length co, .int .i64 (zs.length : Int), .func (.func 28) #[] #[.pointer (some ⟨bx, 0, none⟩)]] w
      fun e w' => e = .returned (.tuple #[]) ∧ Row w' g 3 (qA zs) ∧ Below base w w' := by
  have HI := hide (insertion_any bx B c g co base A zs w h hz h1 h9 hg hB hbx hbase)
  clear h hz hg
  go_enter Try.func33, Try.ntmps33
  go_wp2_with fail
  refine wp_loop_rounds 1 ?_
  rw [rounds_succ]
  go_wp2_with fail
  refine HI.out.mono ?_
  rintro e w1 ⟨rfl, hr, hb⟩
  go_wp2_with fail
  refine wp_loop_rounds 1 ?_
  rw [rounds_succ]
  go_wp2_with fail
  go_end0
  exact ⟨rfl, hr, hb⟩

theorem sortStable_any (bx B c g co base : Nat) (A : Option Addr) (zs : List Int) (w : World) (h : Jobs w bx B A c zs) (hz : small zs) (h1 : 1 ≤ zs.length) (h9 : zs.length ≤ 4)
    (hg : Row w g 3 (rng zs.length)) (hB : B ≤ g) (hbx : bx ≠ g) (hbase : base ≤ g) :
    Calls Try.prog 27 #[.slice (some ⟨g, 0, none⟩) zs.length co, .func (.func 28) #[] #[.pointer (some ⟨bx, 0, none⟩)]] w
      fun e w' => e = .returned (.tuple #[]) ∧ Row w' g 3 (qA zs) ∧ Below base w w' := by
  have HI := hide (stable_any bx B c g co base A zs w h hz h1 h9 hg hB hbx hbase)
  clear h hz hg
  go_enter Try.func27, Try.ntmps27
  go_wp2_with fail
  refine HI.out.mono ?_
  rintro e w1 ⟨rfl, hr, hb⟩
  go_wp2_with fail
  go_end0
  exact ⟨rfl, hr, hb⟩

end Go.Proofs.Ytkpcncgmljapeaa
