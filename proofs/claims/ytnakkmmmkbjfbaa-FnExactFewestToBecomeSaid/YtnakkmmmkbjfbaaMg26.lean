import Derived.Test.YtnakkmmmkbjfbaaMg21
import Derived.Test.YtnakkmmmkbjfbaaMg25
import Derived.Test.YtnakkmmmkbjfbaaMg11
import Derived.Test.YtnakkmmmkbjfbaaMg17

/-
  THE FEWEST DOUBLINGS, THE MODEL's WAY: dbFew, FewestToEmpty, CountReached, FewestToBecome.
-/
namespace Go.Proofs.Ytnakkmmmkbjfbaa
open Go.RowKit Go.Deep
set_option linter.unusedVariables false

def pr0 (x : List Int) : Bool := inL x 0
def prE (gs x : List Int) : Bool := x == gs
theorem find_first {L : List StP} {pr : List Int → Bool} {k : Nat} {p : StP} (hp : L[k]? = some p) (hpr : pr p.1 = true) (hno : ∀ (j : Nat) (q : StP), j < k → L[j]? = some q → pr q.1 = false) : L.find? (isP pr) = some p := by
  obtain ⟨hk, e⟩ := List.getElem?_eq_some_iff.1 hp
  have hd : L = L.take k ++ p :: L.drop (k + 1) := by rw [← e, ← List.drop_eq_getElem_cons hk, List.take_append_drop]
  rw [hd, List.find?_append, none_find (fun q hq => ?_), Option.none_or, List.find?_cons]
  · simp [isP, hpr]
  · obtain ⟨j, hj, rfl⟩ := List.getElem_of_mem hq
    rw [List.length_take] at hj
    exact hno j _ (by omega) (by rw [List.getElem_take]; exact List.getElem?_eq_getElem (by omega))
theorem find_nowhere {L : List StP} {pr : List Int → Bool} (hno : ∀ (j : Nat) (q : StP), L[j]? = some q → pr q.1 = false) : L.find? (isP pr) = none :=
  none_find fun q hq => by
    obtain ⟨j, hj, rfl⟩ := List.getElem_of_mem hq
    exact hno j _ (List.getElem?_eq_getElem hj)
theorem fewQ_found {zs : List Int} {pr : List Int → Bool} {k : Nat} {p : StP} (hp : (Qf zs)[k]? = some p) (hpr : pr p.1 = true) (hno : ∀ (j : Nat) (q : StP), j < k → (Qf zs)[j]? = some q → pr q.1 = false) :
    fewQ zs pr = (p.2.length : Int) := (fewQ_some (find_first hp hpr hno)).1
theorem fewQ_nowhere {zs : List Int} {pr : List Int → Bool} (hno : ∀ (j : Nat) (q : StP), (Qf zs)[j]? = some q → pr q.1 = false) : fewQ zs pr = -1 := (fewQ_none (find_nowhere hno)).1
theorem Qf_state {zs : List Int} (hs : small zs) : ∀ q ∈ Qf zs, small q.1 ∧ q.1.length = zs.length ∧ q.1.sum = zs.sum := (Qn_ok hs _).state
theorem Qf_len {zs : List Int} (hs : small zs) (h1 : 1 ≤ zs.length) (h4 : zs.length ≤ 4) : (Qf zs).length ≤ 68921 := Qn_len hs h1 h4 _

set_option maxRecDepth 100000 in
set_option maxHeartbeats 4000000 in
/-- The model's dbFew. -/
theorem dbFew_any (A : Option Addr) (n c B : Nat) (zs : List Int) (w : World) (hr : Ints w B A n zs) (hB : B ≤ w.heap.size) (hs : small zs) (h1 : 1 ≤ n) (h4 : n ≤ 4) :
    Calls Try.prog 22 #[.slice A n c] w fun e w' => e = .returned (.int .i64 (fewQ zs pr0)) ∧ Below w.heap.size w w' := by
  obtain rfl := hr.len
  have HF := hide (dbFar_any A zs.length c B zs w hr hB hs h1 h4)
  have HST := hide (Qf_state hs)
  have hlen := Qf_len hs h1 h4
  have HFD := hide (fun k p (hp : (Qf zs)[k]? = some p) => fewQ_found (zs := zs) (pr := pr0) hp)
  have HNW := hide (fewQ_nowhere (zs := zs) (pr := pr0))
  clear hr hs
  generalize Qf zs = Q at *
  generalize fewQ zs pr0 = fw at *
  go_enter Try.func22, Try.ntmps22
  go_wp2_with fail
  refine HF.out.mono ?_; rintro e w1 ⟨qv, fv, rfl, ⟨vs, hq⟩, hf, hb⟩
  obtain ⟨A6, c6, e6, _, _⟩ := hq.shape
  obtain ⟨Af, cf, ef, _, _⟩ := hf.shape
  rw [List.length_map] at e6
  rw [show (lensOf Q).length = Q.length from by unfold lensOf; rw [List.length_map]] at ef
  subst e6; subst ef
  have HQ := hide hq
  have hfi := hf.ints
  rw [show (lensOf Q).length = Q.length from by unfold lensOf; rw [List.length_map]] at hfi
  have HL := hide hfi
  have HB := hide hb
  have hb0 := hide hb.size
  clear hq hf hb HF hfi
  go_wp2_with fail
  go_loopw [14] (fun i X => ∃ k : Nat, k ≤ Q.length ∧ i = .int .i64 (k : Int) ∧ Hid (∀ (j : Nat) (q : StP), j < k → Q[j]? = some q → pr0 q.1 = false) ∧ Hid (Below w1.heap.size w1 X))
    (fun i _ => Q.length - (intOf i).toNat)
  case atStart => exact ⟨0, Nat.zero_le _, rfl, hide (fun j q h => absurd h (by omega)), hide (Below.refl _ _)⟩
  case round =>
    obtain ⟨k, hk, rfl, HNO, HBk⟩ := hrel
    by_cases hlt : k < Q.length
    · obtain ⟨p, hp⟩ : ∃ p, Q[k]? = some p := ⟨_, List.getElem?_eq_getElem hlt⟩
      have hst := HST.out p (List.mem_of_getElem? hp)
      have hkz : k < (Q.map Prod.fst).length := by rw [List.length_map]; exact hlt
      have HQk := hide (HQ.out.below HBk.out)
      obtain ⟨ad, rfl, _, hcell⟩ := HQk.out.vals.at_ hkz
      have hrow := HQk.out.2.2.1 k hkz
      have hgk : (Q.map Prod.fst).getD k [] = p.1 := by simp [List.getD, hp]
      rw [hgk] at hrow
      obtain ⟨Ap, cp, ep, _, _⟩ := hrow.shape
      rw [ep] at hcell hrow
      have HH := hide (l1Has_in Ap p.1.length cp _ p.1 0 wr hrow.ints (by have := hst.2.1; omega))
      have hkl : k < (lensOf Q).length := by unfold lensOf; rw [List.length_map]; exact hlt
      obtain ⟨adf, rfl, _, hcf⟩ := (HL.out.below HBk.out (Nat.le_refl _)).at_ (show k < Q.length from hlt)
      rw [show (lensOf Q).getD k 0 = (p.2.length : Int) from by unfold lensOf; simp [List.getD, hp]] at hcf
      have HP := hide hp
      have hlt3 : (k : Int) < (Q.length : Int) := by omega
      clear hst hrow ep hgk hkz hkl hp
      cases hin : inL p.1 0
      · rw [hin] at HH
        have HNO2 : Hid (∀ (j : Nat) (q : StP), j < k + 1 → Q[j]? = some q → pr0 q.1 = false) := hide (fun j q hj hq => by
          by_cases e : j = k
          · subst e
            rw [HP.out] at hq
            injection hq with hq
            subst hq
            exact hin
          · exact HNO.out j q (by omega) hq)
        clear hin
        go_wp2_with fail
        refine HH.out.mono ?_; rintro e w' ⟨rfl, rfl⟩
        go_wp2_with fail
        go_roundw
        case rel => exact ⟨k + 1, by omega, by go_num, HNO2, HBk⟩
        case measure => simp [intOf]; omega
      · rw [hin] at HH
        have HE := hide (HFD.out k p HP.out hin HNO.out)
        clear hin
        go_wp2_with fail
        refine HH.out.mono ?_; rintro e w' ⟨rfl, rfl⟩
        go_wp2_with fail
        go_ret
        exact ⟨by rw [HE.out]; rfl, HB.out.trans (HBk.out.mono hb0.out)⟩
    · have HE := hide (HNW.out fun j q hq => HNO.out j q (by have := (List.getElem?_eq_some_iff.1 hq).1; omega) hq)
      have hneg : ¬ (k : Int) < (Q.length : Int) := by omega
      go_wp2_with fail
      go_ret
      exact ⟨by rw [HE.out]; rfl, HB.out.trans (HBk.out.mono hb0.out)⟩

noncomputable def fteOk (zs : List Int) : Bool := few zs && decide (0 ≤ fewQ zs pr0)
noncomputable def fteN (zs : List Int) : Int := if fteOk zs then fewQ zs pr0 else 0
theorem fte_no1 {zs : List Int} (h : few zs = false) : fteOk zs = false ∧ fteN zs = 0 := by
  have e : fteOk zs = false := by unfold fteOk; rw [h]; rfl
  exact ⟨e, by unfold fteN; rw [e]; rfl⟩
theorem fte_no2 {zs : List Int} (h : fewQ zs pr0 < 0) : fteOk zs = false ∧ fteN zs = 0 := by
  have e : fteOk zs = false := by unfold fteOk; rw [decide_eq_false (by omega)]; simp
  exact ⟨e, by unfold fteN; rw [e]; rfl⟩
theorem fte_yes {zs : List Int} (h1 : few zs = true) (h : ¬ fewQ zs pr0 < 0) : fteOk zs = true ∧ fteN zs = fewQ zs pr0 := by
  have e : fteOk zs = true := by unfold fteOk; rw [h1, decide_eq_true (by omega)]; rfl
  exact ⟨e, by unfold fteN; rw [e]; rfl⟩

set_option maxRecDepth 100000 in
set_option maxHeartbeats 2000000 in
/-- The model's FewestToEmpty. -/
theorem specFewestToEmpty_any (A : Option Addr) (n c : Nat) (zs : List Int) (w : World) (hr : Ints w w.heap.size A n zs) (hn : n ≤ 17592186044416) :
    Calls Try.prog 7 #[.slice A n c] w fun e w' => e = .returned (.tuple #[.int .i64 (fteN zs), .bool (fteOk zs)]) ∧ Below w.heap.size w w' := by
  obtain rfl := hr.len
  have HG := hide (dbGood_any A zs.length c w.heap.size zs w hr hn)
  cases hg : few zs
  · rw [(fte_no1 hg).1, (fte_no1 hg).2]
    rw [hg] at HG
    go_enter Try.func7, Try.ntmps7
    go_wp2_with fail
    refine HG.out.mono ?_; rintro e w' ⟨rfl, rfl⟩
    go_wp2_with fail
    go_ret2
    exact ⟨rfl, Below.refl _ _⟩
  · obtain ⟨hs, h2, h4, _⟩ := few_small hg
    have HD := hide (dbFew_any A zs.length c w.heap.size zs w hr (Nat.le_refl _) hs (by omega) h4)
    rw [hg] at HG
    by_cases hneg : fewQ zs pr0 < 0
    · rw [(fte_no2 hneg).1, (fte_no2 hneg).2]
      generalize fewQ zs pr0 = fw at *
      clear hr hs hg
      go_enter Try.func7, Try.ntmps7
      go_wp2_with fail
      refine HG.out.mono ?_; rintro e w' ⟨rfl, rfl⟩
      go_wp2_with fail
      refine HD.out.mono ?_; rintro e w1 ⟨rfl, hb⟩
      go_wp2_with fail
      go_ret2
      exact ⟨rfl, hb⟩
    · rw [(fte_yes hg hneg).1, (fte_yes hg hneg).2]
      generalize fewQ zs pr0 = fw at *
      clear hr hs hg
      go_enter Try.func7, Try.ntmps7
      go_wp2_with fail
      refine HG.out.mono ?_; rintro e w' ⟨rfl, rfl⟩
      go_wp2_with fail
      refine HD.out.mono ?_; rintro e w1 ⟨rfl, hb⟩
      go_wp2_with fail
      go_ret2
      exact ⟨rfl, hb⟩

/-- How many are reached. -/
noncomputable def crN (zs : List Int) : Int := if few zs then ((Qf zs).length : Int) else 0
set_option maxRecDepth 100000 in
set_option maxHeartbeats 2000000 in
/-- The model's CountReached. -/
theorem specCountReached_any (A : Option Addr) (n c : Nat) (zs : List Int) (w : World) (hr : Ints w w.heap.size A n zs) (hn : n ≤ 17592186044416) :
    Calls Try.prog 17 #[.slice A n c] w fun e w' => e = .returned (.tuple #[.int .i64 (crN zs), .bool (few zs)]) ∧ Below w.heap.size w w' := by
  obtain rfl := hr.len
  have HG := hide (dbGood_any A zs.length c w.heap.size zs w hr hn)
  cases hg : few zs
  · rw [show crN zs = 0 from by unfold crN; rw [hg]; rfl]
    rw [hg] at HG
    go_enter Try.func17, Try.ntmps17
    go_wp2_with fail
    refine HG.out.mono ?_; rintro e w' ⟨rfl, rfl⟩
    go_wp2_with fail
    go_ret2
    exact ⟨rfl, Below.refl _ _⟩
  · rw [show crN zs = ((Qf zs).length : Int) from by unfold crN; rw [hg]; rfl]
    rw [hg] at HG
    obtain ⟨hs, h2, h4, _⟩ := few_small hg
    have HF := hide (dbFar_any A zs.length c w.heap.size zs w hr (Nat.le_refl _) hs (by omega) h4)
    generalize Qf zs = Q at *
    clear hr hs hg
    go_enter Try.func17, Try.ntmps17
    go_wp2_with fail
    refine HG.out.mono ?_; rintro e w' ⟨rfl, rfl⟩
    go_wp2_with fail
    refine HF.out.mono ?_; rintro e w1 ⟨qv, fv, rfl, ⟨vs, hq⟩, hf, hb⟩
    obtain ⟨A6, c6, e6, _, _⟩ := hq.shape
    rw [List.length_map] at e6
    subst e6
    clear hq hf
    go_wp2_with fail
    go_ret2
    exact ⟨rfl, hb⟩

noncomputable def ftbOk (zs gs : List Int) : Bool := few zs && decide (gs.length = zs.length) && decide (0 ≤ fewQ zs (prE gs))
noncomputable def ftbN (zs gs : List Int) : Int := if ftbOk zs gs then fewQ zs (prE gs) else 0
theorem ftb_no1 {zs gs : List Int} (h : few zs = false) : ftbOk zs gs = false ∧ ftbN zs gs = 0 := by
  have e : ftbOk zs gs = false := by unfold ftbOk; rw [h]; rfl
  exact ⟨e, by unfold ftbN; rw [e]; rfl⟩
theorem ftb_no2 {zs gs : List Int} (h : gs.length ≠ zs.length) : ftbOk zs gs = false ∧ ftbN zs gs = 0 := by
  have e : ftbOk zs gs = false := by unfold ftbOk; rw [decide_eq_false h]; simp
  exact ⟨e, by unfold ftbN; rw [e]; rfl⟩
theorem ftb_no3 {zs gs : List Int} (h : fewQ zs (prE gs) < 0) : ftbOk zs gs = false ∧ ftbN zs gs = 0 := by
  have e : ftbOk zs gs = false := by unfold ftbOk; rw [decide_eq_false (show ¬ 0 ≤ fewQ zs (prE gs) by omega)]; simp
  exact ⟨e, by unfold ftbN; rw [e]; rfl⟩
theorem ftb_yes {zs gs : List Int} (h1 : few zs = true) (h2 : gs.length = zs.length) (h : ¬ fewQ zs (prE gs) < 0) : ftbOk zs gs = true ∧ ftbN zs gs = fewQ zs (prE gs) := by
  have e : ftbOk zs gs = true := by unfold ftbOk; rw [h1, decide_eq_true h2, decide_eq_true (show 0 ≤ fewQ zs (prE gs) by omega)]; rfl
  exact ⟨e, by unfold ftbN; rw [e]; rfl⟩
end Go.Proofs.Ytnakkmmmkbjfbaa

/-
  HOW MANY ARE REACHED, THE PROGRAM's WAY: CountReached.
-/
namespace Go.Proofs.Ytnakkmmmkbjfbaa
open Go.RowKit Go.Deep
open Go.Maps (Keyed)
set_option linter.unusedVariables false

theorem neverEnd_any (q : List Int) (X : World) : Calls Try.prog 33 (#[.agg #[.int .i64 (pd q 0), .int .i64 (pd q 1), .int .i64 (pd q 2), .int .i64 (pd q 3)]] ++ #[]) X fun e X' => e = .returned (.bool false) ∧ Below X.heap.size X X' := by
  go_enter Try.func33, Try.ntmps33
  go_wp2_with fail
  go_ret
  exact ⟨rfl, (Below.refl _ _).alloc (Nat.le_refl _) _⟩
theorem enters (f : FuncId) {fn : Func} (hf : Try.prog.funcs[f]? = some fn) (hn : (fn.name == "runtime.NumGoroutine") = false) (hb : fn.body.isNone = false) (args : Array Value) (X : World) : (callFunc f args).run Try.prog X = .ok (.enter f args) X := by
  have h1 : ¬ fn.name = "runtime.NumGoroutine" := fun e => by rw [e] at hn; exact absurd hn (by decide)
  have h2 : ¬ fn.body = none := fun e => by rw [e] at hb; exact absurd hb (by decide)
  simp [callFunc, go_sem, hf, h1, h2]

set_option maxRecDepth 100000 in
set_option maxHeartbeats 8000000 in
theorem CountReached_any (A : Option Addr) (n c : Nat) (zs : List Int) (w : World) (hr : Ints w w.heap.size A n zs) (hn : n ≤ 17592186044416) :
    Calls Try.prog 18 #[.slice A n c] w fun e w' => e = .returned (.tuple #[.int .i64 (crN zs), .bool (few zs)]) ∧ Below w.heap.size w w' := by
  obtain rfl := hr.len
  have HG := hide (AreFewHeaps_any A zs.length c w.heap.size zs w hr hn)
  cases hg : few zs
  · rw [show crN zs = 0 from by unfold crN; rw [hg]; rfl]
    rw [hg] at HG
    go_enter Try.func18, Try.ntmps18
    go_wp2_with fail
    refine HG.out.mono ?_; rintro e w' ⟨rfl, rfl⟩
    go_wp2_with fail
    go_ret2
    exact ⟨rfl, Below.refl _ _⟩
  · rw [show crN zs = ((Qf zs).length : Int) from by unfold crN; rw [hg]; rfl]
    rw [hg] at HG
    obtain ⟨hs, h2, h4, _⟩ := few_small hg
    have HRO := hide (rowOf_any A zs.length c w.heap.size zs w hr (Nat.le_refl _) (by omega) (by omega))
    have HSF := hide (fun W => searchFrom_any zs 33 #[] (fun _ => false) W hs h2 h4 (enters _ Try.func33 rfl rfl) fun q X _ _ _ => neverEnd_any q X)
    have HS := hide hs
    clear hr hs hg
    go_enter Try.func18, Try.ntmps18
    go_wp2_with fail
    refine HG.out.mono ?_; rintro e w' ⟨rfl, rfl⟩
    go_wp2_with fail
    refine HRO.out.mono ?_; rintro e w1 ⟨rfl, hb1⟩
    go_wp2_with fail
    refine (HSF.out w1).mono ?_; rintro e w2 ⟨k, x, fd, rfl, hm, hno, hfd, hb2⟩
    have hk : (Qn zs k)[k]? = none := by
      rcases hfd with ⟨_, p, _, h, _⟩ | ⟨_, h⟩
      · cases h
      · exact h
    have hQ := Qf_at HS.out (by omega) h4 hk
    have ok := Qn_ok HS.out k
    have hsz := size_mapD h4 (Qn zs k) ok.state ok.nodup
    have HM := hide hm
    have HB := hide (hb1.trans (hb2.mono hb1.size))
    have HQ := hide hQ
    clear hm hno hfd hb1 hb2 ok hk hQ
    go_wp2_with (refine wpList_len_own _ rfl _ 50 rfl 42 38 Try.underlying50 dElem (w1.heap.size + 2) _ _ rfl (MapQ.below HM.out ((Below.refl w2.heap.size w2).alloc (Nat.le_refl _) _)) ?_; rw [hsz])
    go_ret2
    exact ⟨by rw [HQ.out]; rfl, HB.out.alloc (by have := HB.out.size; omega) _⟩
end Go.Proofs.Ytnakkmmmkbjfbaa
