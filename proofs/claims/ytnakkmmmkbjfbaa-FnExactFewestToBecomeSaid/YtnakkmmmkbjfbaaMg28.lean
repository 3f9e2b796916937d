import Derived.Test.YtnakkmmmkbjfbaaMg26
import Derived.Test.YtnakkmmmkbjfbaaMg27
import Derived.ChangeKeysEq
import Derived.Deep.Cut
import Derived.Test.YtnakkmmmkbjfbaaMg16

/-
  THE FIRST WAY, THE PROGRAM's WAY: firstWay.
-/
namespace Go.Proofs.Ytnakkmmmkbjfbaa
open Go.RowKit Go.Deep
open Go.Maps (Keyed)
set_option linter.unusedVariables false

theorem arr4 : Try.prog.underlying 42 = some (.array 4 3) := by kernel_rfl
theorem cellsInt4 : Try.prog.cellsOf 3 = 1 := by kernel_rfl
theorem eq_ints4 (d : Nat) (xs ys : List Int) (w : World) : ∀ is : List Nat, (∀ i ∈ is, i < xs.length ∧ i < ys.length) →
    (Op.eqItems (d + 1) 3 1 (xs.map (Value.int .i64)).toArray (ys.map (Value.int .i64)).toArray is).run Try.prog w = .ok (is.all fun i => xs.getD i 0 == ys.getD i 0) w
  | [], _ => rfl
  | i :: is, h => by
    obtain ⟨hx, hy⟩ := h i List.mem_cons_self
    have ih := eq_ints4 d xs ys w is (fun j hj => h j (List.mem_cons_of_mem _ hj))
    have part_at : ∀ (zs : List Int), i < zs.length → (part 3 (zs.map (Value.int .i64)).toArray (i * 1)).run Try.prog w = .ok (.int .i64 (zs.getD i 0)) w := fun zs hz => by
      have e : ((zs.map (Value.int .i64)).toArray)[i]? = some (.int .i64 (zs.getD i 0)) := by
        rw [List.getElem?_toArray, List.getElem?_map, List.getElem?_eq_getElem hz, getD_get hz]; rfl
      simp [part, isAgg, Sem.run_bind, run_underlying Try.underlying3, List.getElem?_eq_getElem hz, List.getD]
    rw [Op.eqItems, Sem.run_bind, part_at xs hx, Result.andThen_ok, Sem.run_bind, part_at ys hy, Result.andThen_ok, Sem.run_bind, run_equalIn_int w d 3 .i64 .i64 _ _ Try.underlying3, Result.andThen_ok, List.all_cons]
    cases hb : (xs.getD i 0 == ys.getD i 0)
    · rfl
    · exact ih
theorem equal_rows4 (a b c d a' b' c' d' : Int) (w : World) : (Op.equalIn 10000 42 (.agg #[.int .i64 a, .int .i64 b, .int .i64 c, .int .i64 d]) (.agg #[.int .i64 a', .int .i64 b', .int .i64 c', .int .i64 d'])).run Try.prog w = .ok ([a, b, c, d] == [a', b', c', d']) w := by
  cases hi : Try.prog.info? 3 with
  | none => have := infoInt; rw [hi] at this; simp at this
  | some i =>
    have e := eq_ints4 9998 [a, b, c, d] [a', b', c', d'] w (List.range 4) (fun i hi => by have := List.mem_range.1 hi; simp; omega)
    have e2 : ((List.range 4).all fun i => [a, b, c, d].getD i 0 == [a', b', c', d'].getD i 0) = ([a, b, c, d] == [a', b', c', d']) := by
      simp [List.range, List.range.loop, List.getD, Bool.and_assoc]
    rw [e2] at e
    rw [run_equalIn_array w 9999 _ _ arr4 hi, cellsInt4]
    exact e
theorem equal_rows {x y : List Int} (hl : x.length = y.length) (h4 : y.length ≤ 4) (w : World) : (Op.equalIn 10000 42 (.agg #[.int .i64 (pd x 0), .int .i64 (pd x 1), .int .i64 (pd x 2), .int .i64 (pd x 3)]) (.agg #[.int .i64 (pd y 0), .int .i64 (pd y 1), .int .i64 (pd y 2), .int .i64 (pd y 3)])).run Try.prog w = .ok (decide (x = y)) w := by
  rw [equal_rows4]
  by_cases h : x = y
  · subst h; rw [decide_eq_true rfl]; simp
  · rw [decide_eq_false h]
    have : ¬ ([pd x 0, pd x 1, pd x 2, pd x 3] = [pd y 0, pd y 1, pd y 2, pd y 3]) := fun e => h (pd_inj hl h4 fun k hk => by
      injection e with e0 e; injection e with e1 e; injection e with e2 e; injection e with e3 _
      match k, hk with
      | 0, _ => exact e0
      | 1, _ => exact e1
      | 2, _ => exact e2
      | 3, _ => exact e3)
    congr 1
    exact Bool.eq_false_iff.2 (fun e => this (by simpa using e))
/-- 'm[row]' of a row that has come. -/
theorem look_at {zs : List Int} {W : World} {b : Nat} {Q : List StP} (h : MapQ W b Q) (ok : QOk zs Q) (h4 : zs.length ≤ 4) {q : StP} (hq : q ∈ Q) :
    (Instr.lookup 50 (.map (some b)) (.agg #[.int .i64 (pd q.1 0), .int .i64 (pd q.1 1), .int .i64 (pd q.1 2), .int .i64 (pd q.1 3)]) false).run Try.prog W = .ok (.agg #[.int .i64 (lastD q.2).x0, .int .i64 (lastD q.2).x1]) W := by
  have hs := (ok.state q hq).1
  obtain ⟨v, ps, hrun, hv⟩ := World.ownsMap.lookup h lawR Try.underlying50 (zeroDb W) (dElem_mk d00) (keyOf_R hs)
  rw [at_mapD h4 (dE d00) Q ok.state ok.nodup q hq] at hv
  rw [dElem_inv hv] at hrun
  exact hrun
theorem half4_back {zs : List Int} {i j : Nat} (hi : i < zs.length) (hj : j < zs.length) (hij : i ≠ j) (h4 : zs.length ≤ 4) (k : Nat) (hk : k < 4) : pd (half4 (dmade i j zs) i j) k = pd zs k := by
  have hl : (dmade i j zs).length = zs.length := dmade_length i j zs
  have hh : halfOf (dmade i j zs) j = pd zs j := by
    unfold halfOf
    rw [if_pos (by omega)]
    have := pd_dmade hi hj hij j
    rw [if_pos rfl, pd_lt (by omega)] at this
    rw [getD_get (by omega), this, pd_lt hj]
    omega
  rw [half4_pd _ _ _ _ hk, hh]
  by_cases h1 : k = j
  · rw [if_pos h1, h1]
  · rw [if_neg h1]
    by_cases h2 : k = i
    · rw [if_pos h2, h2, pd_dmade hi hj hij, if_neg hij, if_pos rfl, pd_lt hi, pd_lt hj]; omega
    · rw [if_neg h2, pd_dmade hi hj hij, if_neg h1, if_neg h2]
/-- One step back. -/
theorem QOk.back {zs : List Int} {Q : List StP} (ok : QOk zs Q) (h4 : zs.length ≤ 4) {q : StP} (hq : q ∈ Q) (hne : q.1 ≠ zs) :
    ∃ (q' : StP) (i j : Nat), q' ∈ Q ∧ q.2 = q'.2 ++ [⟨(i : Int), (j : Int)⟩] ∧ i < 4 ∧ j < 4 ∧ i ≠ j ∧ ∀ k, k < 4 → pd (half4 q.1 i j) k = pd q'.1 k := by
  rcases ok.from_ q hq with rfl | ⟨q', hq', d, hd, rfl⟩
  · exact absurd rfl hne
  · obtain ⟨i, j, rfl, hi, hj, hij, _, _, e⟩ := allD_ix hd
    have hl := (ok.state q' hq').2.1
    exact ⟨q', i, j, hq', rfl, by omega, by omega, hij, fun k hk => by rw [e]; exact half4_back hi hj hij (by omega) k hk⟩
theorem QOk.top {zs : List Int} {Q : List StP} (ok : QOk zs Q) (h0 : (zs, []) ∈ Q) {q : StP} (hq : q ∈ Q) (he : q.1 = zs) : q.2 = [] := by
  have inj : ∀ a ∈ Q, ∀ b ∈ Q, a.1 = b.1 → a = b := fun a ha b hb e => by
    obtain ⟨i, hi, rfl⟩ := List.getElem_of_mem ha
    obtain ⟨j, hj, rfl⟩ := List.getElem_of_mem hb
    have : i = j := (List.getElem_inj (xs := Q.map Prod.fst) (i := i) (j := j) (h₀ := by simpa using hi) (h₁ := by simpa using hj) ok.nodup).1 (by simpa using e)
    subst this; rfl
  rw [inj q hq _ h0 he]
theorem Qn_has (zs : List Int) (k : Nat) : (zs, ([] : List Db)) ∈ Qn zs k := by
  have h := Qn_pre zs 0 k
  rw [Nat.zero_add] at h
  exact h.subset (by simp [Qn])

/-- What stands in memory while the way is gone back. -/
structure FwI (w : World) (g6 mb : Nat) (zs : List Int) (Q : List StP) (x : List Int) (ds : List Db) (v : Value) (W : World) : Prop where
  own : OwnIDb W (g6 + 1) v ds.length (numsDb ds)
  map : MapQ W mb Q
  r2 : W.rowIs w.heap.size 42 4 (fun j => .int .i64 (pd zs j))
  r6 : W.rowIs g6 42 4 (fun j => .int .i64 (pd x j))
  below : Below w.heap.size w W
  size : g6 + 1 ≤ W.heap.size
  lt : mb < g6
  lt2 : w.heap.size < g6
section
variable {w W W' : World} {g6 mb : Nat} {zs x : List Int} {Q : List StP} {ds : List Db} {v : Value}
theorem FwI.next (h : FwI w g6 mb zs Q x ds v W) (hb : Below W.heap.size W W') : FwI w g6 mb zs Q x ds v W' := by
  have h1 := h.size; have h2 := h.lt; have h3 := h.lt2
  exact ⟨h.own.below hb, h.map.below hb, h.r2.of_block (hb.block _ (by omega)), h.r6.of_block (hb.block _ (by omega)), h.below.trans (hb.mono (by omega)), Nat.le_trans h1 hb.size, h2, h3⟩
theorem FwI.app (h : FwI w g6 mb zs Q x ds v W) {d : Db} {v' : Value} (ho : OwnIDb W' (g6 + 1) v' (ds ++ [d]).length (numsDb (ds ++ [d]))) (hb : Below (g6 + 1) W W') : FwI w g6 mb zs Q x (ds ++ [d]) v' W' := by
  have h1 := h.size; have h2 := h.lt; have h3 := h.lt2
  exact ⟨ho, h.map.same (hb.block _ (by omega)), h.r2.of_block (hb.block _ (by omega)), h.r6.of_block (hb.block _ (by omega)), h.below.trans (hb.mono (by omega)), Nat.le_trans h1 hb.size, h2, h3⟩
theorem FwI.set (h : FwI w g6 mb zs Q x ds v W) (y : List Int) : FwI w g6 mb zs Q y ds v (set4 W g6 y) := by
  have h1 := h.size; have h2 := h.lt; have h3 := h.lt2
  exact ⟨h.own.keepA fun g hg _ => set4_block _ _ _ _ (by have := (h.own.blk hg).1; omega), h.map.same (set4_block _ _ _ _ (by omega)), h.r2.of_block (set4_block _ _ _ _ (by omega)), four_store h.r6 (fun j => .int .i64 (pd y j)), set4_below h.below _ _ (by omega), by rw [set4_size]; exact h1, h2, h3⟩
theorem FwI.congr (h : FwI w g6 mb zs Q x ds v W) {y : List Int} (e : ∀ k, k < 4 → pd x k = pd y k) : FwI w g6 mb zs Q y ds v W :=
  { h with r6 := h.r6.congr fun i hi => by rw [e i hi] }
end
/-- Between two steps back. -/
def FwRel (w : World) (g6 mb : Nat) (zs : List Int) (Q : List StP) (ps : List Db) (gh : Nat) (v : Value) (W : World) : Prop :=
  ∃ (q : StP) (ds : List Db), gh = q.2.length ∧ q ∈ Q ∧ ps = q.2 ++ ds.reverse ∧ FwI w g6 mb zs Q q.1 ds v W
end Go.Proofs.Ytnakkmmmkbjfbaa

/-
  THE FIRST LIST OF THE FEWEST DOUBLINGS, THE MODEL's WAY: FirstToEmpty.
-/
namespace Go.Proofs.Ytnakkmmmkbjfbaa
open Go.RowKit Go.Deep
set_option linter.unusedVariables false

theorem fewQ_le {zs : List Int} (hs : small zs) (h1 : 1 ≤ zs.length) (h4 : zs.length ≤ 4) (pr : List Int → Bool) : fewQ zs pr ≤ 68921 := by
  cases hf : (Qf zs).find? (isP pr) with
  | none => rw [(fewQ_none hf).1]; omega
  | some q =>
    rw [(fewQ_some hf).1]
    obtain ⟨i, hi, e⟩ := List.getElem_of_mem (List.mem_of_find?_eq_some hf)
    have h := Qn_plen zs BIGN i q (by rw [show Qn zs BIGN = Qf zs from rfl, List.getElem?_eq_getElem hi, e])
    have := Qf_len hs h1 h4
    omega
theorem wayQ_len {zs : List Int} {pr : List Int → Bool} (h : 0 ≤ fewQ zs pr) : ((wayQ zs pr).length : Int) = fewQ zs pr := by
  cases hf : (Qf zs).find? (isP pr) with
  | none => rw [(fewQ_none hf).1] at h; omega
  | some q => rw [(fewQ_some hf).1, (fewQ_some hf).2]
/-- One more step of the model's list. -/
theorem ft_step {x : List Int} (hs : small x) (h1 : 1 ≤ x.length) (h4 : x.length ≤ 4) {n : Nat} (h : fewQ x pr0 = (n : Int) + 1) :
    ∃ (i : Nat) (d : Db), (allD x)[i]? = some d ∧ fewQ (nx x d) pr0 = (n : Int) ∧ wayQ x pr0 = d :: wayQ (nx x d) pr0 ∧ ∀ (j : Nat) (e : Db), j < i → (allD x)[j]? = some e → fewQ (nx x e) pr0 ≠ (n : Int) :=
  fewQ_step (fun d hd m => Fn_Qf (nx_small hs hd).1 (by rw [(nx_small hs hd).2.1]; exact h1) (by rw [(nx_small hs hd).2.1]; exact h4) m) (by rw [h]; simp)
/-- Where the model's FirstToEmpty stands. -/
structure FtI (w : World) (h : Nat) (T : List Db) (m : Nat) (x : List Int) (L : List Db) (gn cn : Nat) (v : Value) (W : World) : Prop where
  now : Own W w.heap.size 3 (.slice (some ⟨gn, 0, none⟩) h cn) x
  sm : small x
  len : x.length = h
  few : fewQ x pr0 = (m : Int)
  out : OwnIDb W w.heap.size v L.length (numsDb L)
  all : L ++ wayQ x pr0 = T
  sep : v.ownBlock ≠ some gn
  below : Below w.heap.size w W
theorem FtI.next {w : World} {h : Nat} {T : List Db} {m : Nat} {x : List Int} {L : List Db} {gn cn : Nat} {v : Value} {W W' : World} (f : FtI w h T m x L gn cn v W) (hb : Below W.heap.size W W') : FtI w h T m x L gn cn v W' :=
  ⟨f.now.below hb, f.sm, f.len, f.few, f.out.below hb, f.all, f.sep, f.below.trans (hb.mono f.below.size)⟩
theorem FtI.done {w : World} {h : Nat} {T : List Db} {m : Nat} {x : List Int} {L : List Db} {gn cn : Nat} {v : Value} {W W6 W7 : World} {d : Db} {g6 c6 : Nat} {v7 : Value} (f : FtI w h T (m + 1) x L gn cn v W) (hb6 : Below W.heap.size W W6)
    (hd : d ∈ allD x) (hu : Own W6 W.heap.size 3 (.slice (some ⟨g6, 0, none⟩) h c6) (nx x d)) (hn : fewQ (nx x d) pr0 = (m : Int)) (hw : wayQ x pr0 = d :: wayQ (nx x d) pr0)
    (ho7 : OwnIDb W7 w.heap.size v7 (L ++ [d]).length (numsDb (L ++ [d]))) (hb7 : Below w.heap.size W6 W7) (hoth : ∀ k, k < W6.heap.size → some k ≠ v.ownBlock → W7.heap[k]? = W6.heap[k]?) (hblk : ∀ b, v7.ownBlock = some b → v.ownBlock = some b ∨ W6.heap.size ≤ b) :
    FtI w h T m (nx x d) (L ++ [d]) g6 c6 v7 W7 := by
  have hvb : ∀ b, v.ownBlock = some b → b < W.heap.size := fun b hb => (f.out.blk hb).2
  have hg6 := hu.blk (show (Value.slice (some ⟨g6, 0, none⟩) h c6).ownBlock = some g6 from rfl)
  obtain ⟨a1, a2, a3⟩ := nx_small f.sm hd
  refine ⟨?_, a1, by rw [a2]; exact f.len, hn, ho7, ?_, fun e => ?_, (f.below.trans (hb6.mono f.below.size)).trans hb7⟩
  · exact (own_keepAt hu (hoth g6 hg6.2 (fun e => by have := hvb g6 e.symm; omega))).less f.below.size
  · rw [List.append_assoc, ← f.all, hw]; rfl
  · rcases hblk g6 e with h1 | h1
    · have := hvb g6 h1; omega
    · omega

noncomputable def ftL (zs : List Int) : List Db := if fteOk zs then wayQ zs pr0 else []
theorem ftL_no {zs : List Int} (h : fteOk zs = false) : ftL zs = [] := by unfold ftL; rw [h]; rfl
theorem ftL_yes {zs : List Int} (h : fteOk zs = true) : ftL zs = wayQ zs pr0 := by unfold ftL; rw [h]; rfl
theorem ftL_len (zs : List Int) : (ftL zs).length ≤ 100000 := by
  cases h : fteOk zs
  · rw [ftL_no h]; simp
  · rw [ftL_yes h]
    have h' := h
    unfold fteOk at h'
    rw [Bool.and_eq_true] at h'
    obtain ⟨hs, h2, h4, _⟩ := few_small h'.1
    have e := wayQ_len (of_decide_eq_true h'.2)
    have := fewQ_le hs (by omega) h4 pr0
    omega

set_option maxRecDepth 100000 in
set_option maxHeartbeats 8000000 in
/-- The model's FirstToEmpty. -/
theorem specFirstToEmpty_any (A : Option Addr) (n c : Nat) (zs : List Int) (w : World) (hr : Ints w w.heap.size A n zs) (hn : n ≤ 17592186044416) :
    Calls Try.prog 11 #[.slice A n c] w fun e w' => ∃ A' c', e = .returned (.tuple #[.slice A' (ftL zs).length c', .bool (fteOk zs)]) ∧ OwnIDb w' w.heap.size (.slice A' (ftL zs).length c') (ftL zs).length (numsDb (ftL zs)) ∧ Below w.heap.size w w' := by
  obtain rfl := hr.len
  have HG := hide (dbGood_any A zs.length c w.heap.size zs w hr hn)
  cases hg : few zs
  · rw [(fte_no1 hg).1, ftL_no (fte_no1 hg).1]
    rw [hg] at HG
    go_enter Try.func11, Try.ntmps11
    go_wp2_with fail
    refine HG.out.mono ?_; rintro e w' ⟨rfl, rfl⟩
    go_wp2_with fail
    go_ret2
    exact ⟨none, 0, rfl, OwnIDb.nil _ _, Below.refl _ _⟩
  · obtain ⟨hs, h2, h4, _⟩ := few_small hg
    have HD := hide (dbFew_any A zs.length c w.heap.size zs w hr (Nat.le_refl _) hs (by omega) h4)
    rw [hg] at HG
    by_cases hneg : fewQ zs pr0 < 0
    · rw [(fte_no2 hneg).1, ftL_no (fte_no2 hneg).1]
      generalize fewQ zs pr0 = fw at *
      clear hr hs hg
      go_enter Try.func11, Try.ntmps11
      go_wp2_with fail
      refine HG.out.mono ?_; rintro e w' ⟨rfl, rfl⟩
      go_wp2_with fail
      refine HD.out.mono ?_; rintro e w1 ⟨rfl, hb⟩
      go_wp2_with fail
      go_ret2
      exact ⟨none, 0, rfl, OwnIDb.nil _ _, hb⟩
    · rw [(fte_yes hg hneg).1, ftL_yes (fte_yes hg hneg).1]
      obtain ⟨m0, hm0⟩ := Int.eq_ofNat_of_zero_le (show 0 ≤ fewQ zs pr0 by omega)
      have HM0 := hide hm0
      have hm9 := fewQ_le hs (by omega) h4 pr0
      have hT9 : ((wayQ zs pr0).length : Int) ≤ 68921 := by rw [wayQ_len (by omega)]; exact hm9
      rw [hm0] at HD hm9 hneg
      have HS := hide hs
      have HR := hide hr
      generalize hT : wayQ zs pr0 = T at *
      have HT := hide hT
      clear hr hs hg hm0 hT
      go_enter Try.func11, Try.ntmps11
      go_wp2_with fail
      refine HG.out.mono ?_; rintro e w' ⟨rfl, rfl⟩
      go_wp2_with fail
      refine HD.out.mono ?_; rintro e w1 ⟨rfl, hb1⟩
      have HB1 := hide hb1
      have HL := hide (l1Own_any A zs.length c w.heap.size zs w1 (HR.out.below hb1 (Nat.le_refl _)) hb1.size (by omega) (by omega))
      clear hb1
      go_wp2_with fail
      refine HL.out.mono ?_; rintro e w2 ⟨g2, c2, rfl, _, _, _, _, hown2, hb2⟩
      have HF := hide (show FtI w zs.length T m0 zs [] g2 c2 (.slice none 0 0) w2 from ⟨hown2.less HB1.out.size, HS.out, rfl, HM0.out, OwnIDb.nil _ _, by rw [HT.out]; rfl, (fun e => by cases e), HB1.out.trans (hb2.mono HB1.out.size)⟩)
      clear hown2 hb2 HL HB1 HD HG
      generalize hh : zs.length = h at *
      clear hh
      go_wp2_with fail
      go_loopw [4, 5, 6] (fun f v nw W => ∃ m x L gn cn v', f = .int .i64 ((m : Nat) : Int) ∧ v' = v ∧ nw = .slice (some ⟨gn, 0, none⟩) h cn ∧ m ≤ m0 ∧ Hid (FtI w h T m x L gn cn v' W))
        (fun f _ _ _ => (intOf f).toNat)
      case atStart => exact ⟨m0, zs, [], g2, c2, _, rfl, rfl, rfl, Nat.le_refl _, HF⟩
      case round =>
        clear HF
        obtain ⟨m, x, L, gn, cn, v, rfl, hv, rfl, hm, HF⟩ := hrel
        subst hv
        obtain ⟨W4, hW4⟩ : ∃ W4, W4 = wr := ⟨_, rfl⟩
        subst hW4
        cases m with
        | zero =>
          have hwl := wayQ_len (zs := x) (pr := pr0) (by rw [HF.out.few]; exact Int.le_refl _)
          rw [HF.out.few] at hwl
          have hw0 : wayQ x pr0 = [] := List.eq_nil_of_length_eq_zero (by omega)
          have hLT : L = T := by have := HF.out.all; rw [hw0, List.append_nil] at this; exact this
          subst hLT
          obtain ⟨A5, c5, rfl⟩ := HF.out.out.shape
          have HO := hide HF.out.out
          have HB := hide HF.out.below
          clear HF hwl hw0
          rw [show ((0 : Nat) : Int) = 0 from rfl]
          go_wp2_with fail
          go_ret2
          exact ⟨A5, c5, rfl, HO.out, HB.out⟩
        | succ m =>
          obtain ⟨i0, d, hd, hfd, hwd, hno⟩ := ft_step HF.out.sm (by rw [HF.out.len]; omega) (by rw [HF.out.len]; exact h4) (n := m) (by rw [HF.out.few]; simp)
          have hnow := HF.out.now.ints
          rw [HF.out.len] at hnow
          have HDA := hide (dbAll_any (some ⟨gn, 0, none⟩) h cn W4.heap.size x W4 hnow (Nat.le_refl _) (by omega) h4)
          have hi0 := (List.getElem?_eq_some_iff.1 hd).1
          have hL16 : (allD x).length ≤ 16 := Nat.le_trans (outD_len x x.length) (Nat.mul_le_mul (show x.length ≤ 4 by rw [HF.out.len]; exact h4) (show x.length ≤ 4 by rw [HF.out.len]; exact h4))
          have hLl : L.length < 1000000 := by
            have h1 := HF.out.all
            have h2 : L.length ≤ T.length := by rw [← h1, List.length_append]; omega
            omega
          rw [show ((m + 1 : Nat) : Int) = (m : Int) + 1 from by simp]
          have hposm : 0 < (m : Int) + 1 := by omega
          clear hnow
          go_wp2_with fail
          refine HDA.out.mono ?_; rintro e w5 ⟨A', c', rfl, hds, hb5⟩
          have HDS := hide hds
          have HF5 := hide (HF.out.next hb5)
          have HB45 := hide hb5
          clear hds hb5 HDA
          go_wp2_with fail
          go_loopw [5, 6, 26] (fun vo nw i X => ∃ j : Nat, j ≤ i0 ∧ i = .int .i64 (j : Int) ∧ vo = v ∧ nw = .slice (some ⟨gn, 0, none⟩) h cn ∧ Hid (Below w5.heap.size w5 X))
            (fun _ _ i _ => i0 + 1 - (intOf i).toNat)
          case atStart => exact ⟨0, Nat.zero_le _, rfl, rfl, rfl, hide (Below.refl _ _)⟩
          case round =>
            obtain ⟨j, hj, rfl, rfl, rfl, HBX⟩ := hrel
            obtain ⟨X, hX⟩ : ∃ X, X = wr := ⟨_, rfl⟩
            subst hX
            have hjl : j < (allD x).length := by omega
            obtain ⟨e, he⟩ : ∃ e, (allD x)[j]? = some e := ⟨_, List.getElem?_eq_getElem hjl⟩
            have hem : e ∈ allD x := List.mem_of_getElem? he
            obtain ⟨i1, j1, hee, hi1, hj1, hne, hpos, hle, hnx⟩ := allD_ix hem
            have hny := nx_small HF.out.sm hem
            have HFX := hide (HF5.out.next HBX.out)
            have hat := (HDS.out.below HBX.out).list.at_ hjl hjl
            obtain ⟨gb, off, rfl, _, hc0, hc1⟩ := hat
            rw [(List.getElem?_eq_some_iff.1 he).2, hee] at hc0 hc1
            have hlen := HF.out.len
            have hnX := HFX.out.now.ints
            rw [hlen] at hnX
            have HYB := hide ((Below.refl X.heap.size X).alloc (Nat.le_refl _) (.cells #[.int .i64 (i1 : Int), .int .i64 (j1 : Int)] 38))
            obtain ⟨k0, k1⟩ := alloc2_cells X (.int .i64 (i1 : Int)) (.int .i64 (j1 : Int)) 38
            have hxs : X.heap.size < (X.alloc (.cells #[.int .i64 (i1 : Int), .int .i64 (j1 : Int)] 38)).heap.size := by simp
            have HMK := hide (dbMake_any (some ⟨gn, 0, none⟩) h cn X.heap.size x i1 j1 (X.alloc (.cells #[.int .i64 (i1 : Int), .int .i64 (j1 : Int)] 38)) (hnX.below HYB.out (Nat.le_refl _)) (by omega) (by omega) HF.out.sm (by omega) (by omega) hne hle)
            rw [← hnx] at HMK
            rw [hlen] at hny
            have HNY := hide hny
            have HHE := hide he
            have HHM := hide hem
            have HEE := hide hee
            have hltj : (j : Int) < ((allD x).length : Int) := by omega
            have HFV := hide (show j < i0 → (fewQ (nx x e) pr0 == (m : Int)) = false from fun hji => by rw [beq_eq_false_iff_ne]; exact hno j e hji he)
            have HFE := hide (show j = i0 → e = d from fun hji => by subst hji; rw [hd] at he; injection he with he; exact he.symm)
            clear hnX hi1 hj1 hne hpos hle hnx hny he hem hee hlen
            generalize hys : nx x e = ys at *
            have HYS := hide hys
            clear hys
            go_wp2_with fail
            generalize X.alloc (.cells #[.int .i64 (i1 : Int), .int .i64 (j1 : Int)] 38) = Y at *
            have HFY := hide (HFX.out.next HYB.out)
            refine HMK.out.mono ?_; rintro e6 w6 ⟨g6, c6, rfl, hg61, hg62, hc61, hc62, hown6, hb6⟩
            have HO6 := hide hown6
            have HB6 := hide hb6
            have q0 := (hb6.cell (p := ⟨X.heap.size, 0, none⟩) hxs).trans k0
            have q1 := (hb6.cell (p := ⟨X.heap.size, 1, none⟩) hxs).trans k1
            have hx6 : X.heap.size < w6.heap.size := Nat.lt_of_lt_of_le hxs hb6.size
            have HFW := hide (dbFew_any (some ⟨g6, 0, none⟩) ys.length c6 w6.heap.size ys w6 hown6.ints (Nat.le_refl _) HNY.out.1 (by rw [HNY.out.2.1]; omega) (by rw [HNY.out.2.1]; exact h4))
            clear hown6 hb6 k0 k1 hg61 hg62 HMK
            go_wp2_with fail
            refine HFW.out.mono ?_; rintro e7 w7 ⟨rfl, hb7⟩
            have HO7 := hide (HO6.out.below hb7)
            have HB7 := hide (below_next HB6.out hb7)
            have p0 := (hb7.cell (p := ⟨X.heap.size, 0, none⟩) hx6).trans q0
            have p1 := (hb7.cell (p := ⟨X.heap.size, 1, none⟩) hx6).trans q1
            clear hb7 q0 q1 HO6 HB6 HFW
            by_cases hji : j < i0
            · have hcmp := HFV.out hji
              generalize fewQ ys pr0 = fy at *
              have HBX2 := hide (HBX.out.trans ((HYB.out.trans (HB7.out.mono HYB.out.size)).mono HBX.out.size))
              go_wp2_with fail
              go_roundw
              case rel => exact ⟨j + 1, by omega, by go_num, rfl, rfl, HBX2⟩
              case measure => simp [intOf]; omega
            · obtain rfl : j = i0 := by omega
              obtain rfl := HFE.out rfl
              have HY2 := HYS.out
              rw [HY2] at hfd hwd
              rw [hfd]
              have HW7 := hide (Nat.le_trans HFY.out.below.size HB7.out.size)
              have HHO := hide HFY.out.out
              have HOW := hide ((HFY.out.out).below HB7.out)
              have HWD := hide hwd
              have HFD := hide hfd
              clear hwd hfd hd hno
              go_wp2_with (at_builtin; refine wpList_app_Db_at rfl _ _ 28 rfl Try.underlying28 w.heap.size _ L rfl HOW.out ⟨(i1 : Int), (j1 : Int)⟩ _ rfl HW7.out hLl ?_; intro v9 w9 hown9 hb9 hoth9 hsz9 hblk9; have O9 := hide hown9; have B9 := hide hb9; have T9 := hide hoth9; have K9 := hide hblk9; clear hown9 hb9 hoth9 hsz9 hblk9)
              have hN := HFY.out.done HB7.out HHM.out (by rw [HYS.out]; have := HO7.out; rw [HNY.out.2.1] at this; exact this) (by rw [HYS.out]; exact HFD.out) (by rw [HYS.out]; exact HWD.out) (by rw [HEE.out]; exact O9.out) B9.out T9.out K9.out
              have HN := hide hN
              clear hN
              go_roundw
              case rel => exact ⟨m, _, _, g6, c6, v9, rfl, rfl, by rw [HNY.out.2.1], by omega, HN⟩
              case measure => simp [intOf]
end Go.Proofs.Ytnakkmmmkbjfbaa
