import Derived.Test.YtnakkmmmkbjfbaaMg15
import Derived.Deep.RegionHeld3
import Derived.Test.YtnakkmmmkbjfbaaMg10
import Derived.Maps.AppendAt

/-
  THE ROWS BEHIND ONE DOUBLING, THE PROGRAM's WAY: newBehind.
-/
namespace Go.Proofs.Ytnakkmmmkbjfbaa
open Go.RowKit Go.Deep
open Go.Maps (Keyed)
set_option linter.unusedVariables false

section
variable {w : World} {ops : Array Oper} {rest : List Oper} {o : Oper} {a : Act} {Q' : Exit → Act → World → Prop} {b : Nat} {Q : List StP} {zs y : List Int}
theorem look_Q (hst : ∀ q ∈ Q, small q.1 ∧ q.1.length = zs.length ∧ q.1.sum = zs.sum) (hnd : (Q.map Prod.fst).Nodup) (h4 : zs.length ≤ 4) (hy : small y ∧ y.length = zs.length) {v : Value} {ps : List MemPlace}
    (hv : dElem v = some ((mapD Q).atKey (kR y) (dE d00), ps)) : ∃ d : Db, v = .agg #[.int .i64 d.x0, .int .i64 d.x1] ∧ ∀ p ∈ Q, p.1 = y → d = lastD p.2 := by
  by_cases hm : y ∈ Q.map Prod.fst
  · obtain ⟨p, hp, rfl⟩ := List.mem_map.1 hm
    have e := at_mapD h4 (dE d00) Q hst hnd p hp
    rw [e] at hv
    refine ⟨lastD p.2, dElem_inv hv, fun q hq hqe => ?_⟩
    have e2 := at_mapD h4 (dE d00) Q hst hnd q hq
    rw [hqe, e] at e2
    unfold dE at e2
    injection e2 with e2
    injection e2 with e3 e4
    injection e3 with e3
    injection e3 with _ e3
    injection e4 with e4 _
    injection e4 with e4
    injection e4 with _ e4
    cases h1 : lastD p.2
    cases h2 : lastD q.2
    rw [h1, h2] at e3 e4
    simp only at e3 e4
    rw [e3, e4]
  · have hn : Maps.has (mapD Q) (kR y) = false := by rw [has_mapD h4 hy Q hst]; exact decide_eq_false hm
    rw [Maps.atKey_of_not_has hn] at hv
    exact ⟨d00, dElem_inv hv, fun p hp e => absurd (List.mem_map.2 ⟨p, hp, e⟩) hm⟩
/-- 'v, ok := m[row]'. -/
theorem wpList_look_Q (hgd : o.guard = none) (m x : Operand) (hop : o.op = Op.lookup 50 m x true) (hm : a.eval m = .map (some b)) (h : MapQ w b Q)
    (hst : ∀ q ∈ Q, small q.1 ∧ q.1.length = zs.length ∧ q.1.sum = zs.sum) (hnd : (Q.map Prod.fst).Nodup) (h4 : zs.length ≤ 4) (hy : small y ∧ y.length = zs.length) (hx : a.eval x = aggR y)
    (hK : ∀ d : Db, wpList Try.prog ops Q' rest (a.put o.dst (.tuple #[.agg #[.int .i64 d.x0, .int .i64 d.x1], .bool (decide (y ∈ Q.map Prod.fst))])) w) : wpList Try.prog ops Q' (o :: rest) a w := by
  refine wpList_lookup_own_ok w hgd m x 50 hop 42 38 lawR Try.underlying50 dElem (zeroDb w) (dE d00) [] (dElem_mk d00) b Q.length (mapD Q) hm h (aggR y) (kR y) hx (keyOf_R hy.1) fun v ps hv => ?_
  obtain ⟨d, rfl, _⟩ := look_Q hst hnd h4 hy hv
  rw [has_mapD h4 hy Q hst]
  exact hK d
/-- 'm[row] = d' at a row that is new. -/
theorem wpList_put_Q (hgd : o.guard = none) (m x v : Operand) (hop : o.op = Op.mapUpdate 50 m x v) (hm : a.eval m = .map (some b)) (h : MapQ w b Q) (hlen : Q.length < 1000000)
    (hy : small y) (hx : a.eval x = aggR y) (d : Db) (path : List Db) (hd : lastD path = d) (hv : a.eval v = .agg #[.int .i64 d.x0, .int .i64 d.x1])
    (hK : ∀ w', MapQ w' b (Q ++ [(y, path)]) → w.grownBy w' (some b) → wpList Try.prog ops Q' rest (a.put o.dst undef) w') : wpList Try.prog ops Q' (o :: rest) a w := by
  refine wpList_mapUpdate_own w hgd m x v 50 hop 42 38 lawR Try.underlying50 dElem b Q.length (mapD Q) hm h (by unfold maxLen; omega) (aggR y) (.agg #[.int .i64 d.x0, .int .i64 d.x1]) (kR y) hx hv (keyOf_R hy) (dE d) [] (dElem_mk d) fun w' h1 h2 => hK w' ?_ h2
  unfold MapQ
  rw [mapD_snoc, List.length_append, List.length_singleton, hd]
  exact h1
end
theorem OwnIDb.keepA {W W' : World} {base n : Nat} {v : Value} {xs : List Int} (h : OwnIDb W base v n xs) (hk : ∀ g, v.ownBlock = some g → g < W.heap.size → W'.heap[g]? = W.heap[g]?) : OwnIDb W' base v n xs := by
  refine ⟨⟨h.1.1, ?_⟩, h.2⟩
  rcases h.1.2 with h2 | ⟨g, cap, cur, hv, hb, hg, r⟩
  · exact .inl h2
  · obtain ⟨hlt, _⟩ := Array.getElem?_eq_some_iff.1 hg
    exact .inr ⟨g, cap, cur, hv, hb, (hk g (by rw [hv]; rfl) hlt).trans hg, r⟩
theorem MapQ.below {W W' : World} {b : Nat} {Q : List StP} (h : MapQ W b Q) (hb : Below W.heap.size W W') : MapQ W' b Q := by
  obtain ⟨es, clock, h1, r⟩ := h
  exact ⟨es, clock, (hb.block b (Array.getElem?_eq_some_iff.1 h1).1).trans h1, r⟩
theorem MapQ.same {W W' : World} {b : Nat} {Q : List StP} (h : MapQ W b Q) (e : W'.heap[b]? = W.heap[b]?) : MapQ W' b Q := by
  obtain ⟨es, clock, h1, r⟩ := h
  exact ⟨es, clock, e.trans h1, r⟩
theorem MapQ.lt {W : World} {b : Nat} {Q : List StP} (h : MapQ W b Q) : b < W.heap.size := World.ownsMap.lt h
def Nj (Q : List StP) (p : StP) (j : Nat) : List StP := ddN (Q.map Prod.fst) ((extD p).take j)
theorem Nj_Qi (zs : List Int) (k : Nat) (p : StP) (j : Nat) : Qn zs k ++ Nj (Qn zs k) p j = Qi zs k p j := rfl
/-- Where newBehind stands. -/
structure NbI (w : World) (mb : Nat) (Q N : List StP) (x : List Int) (A' : Option Addr) (c' : Nat) (ds : List Db) (v : Value) (W : World) : Prop where
  map : MapQ W mb (Q ++ N)
  rows : OwnHR W (w.heap.size + 1) v (N.map Prod.fst)
  row : W.rowIs w.heap.size 42 4 (fun j => .int .i64 (pd x j))
  dso : OwnIDb W (w.heap.size + 1) (.slice A' ds.length c') ds.length (numsDb ds)
  sep : ∀ b, (Value.slice A' ds.length c').ownBlock = some b → v.ownBlock ≠ some b
  mlt : mb < w.heap.size
  below : Below mb w W
  oth : ∀ g, g < w.heap.size → g ≠ mb → W.heap[g]? = w.heap[g]?
  size : w.heap.size + 1 ≤ W.heap.size
section
variable {w : World} {mb : Nat} {Q N : List StP} {x : List Int} {A' : Option Addr} {c' : Nat} {ds : List Db} {v : Value} {W W' : World}
theorem NbI.next (h : NbI w mb Q N x A' c' ds v W) (hb : Below W.heap.size W W') : NbI w mb Q N x A' c' ds v W' :=
  ⟨h.map.below hb, h.rows.below hb, h.row.of_block (hb.block _ (by have := h.size; omega)), h.dso.below hb, h.sep, h.mlt, h.below.trans (hb.mono (by have := h.size; have := h.mlt; omega)), fun g hg hne => (hb.block g (by have := h.size; omega)).trans (h.oth g hg hne), Nat.le_trans h.size hb.size⟩
/-- Behind the store into the map and the append of the row. -/
theorem NbI.done {W3 W4 : World} {y : List Int} {path : List Db} {v4 : Value} (h : NbI w mb Q N x A' c' ds v W) (hm : MapQ W3 mb ((Q ++ N) ++ [(y, path)])) (hg : W.grownBy W3 (some mb))
    (ho : OwnHR W4 (w.heap.size + 1) v4 (N.map Prod.fst ++ [y])) (hb : Below (w.heap.size + 1) W3 W4) (hoth : ∀ k, k < W3.heap.size → some k ≠ v.ownBlock → W4.heap[k]? = W3.heap[k]?) (hblk : v4.ownBlock = v.ownBlock ∨ ∃ g, v4.ownBlock = some g ∧ W3.heap.size ≤ g) :
    NbI w mb Q (N ++ [(y, path)]) x A' c' ds v4 W4 := by
  have hs := h.size
  have hs3 := hg.size
  have hml := h.mlt
  have hdb : ∀ b, (Value.slice A' ds.length c').ownBlock = some b → w.heap.size + 1 ≤ b ∧ b < W.heap.size := fun b hb => by
    rcases h.dso.form with ⟨e, _⟩ | ⟨g, c2, e, hg, hg2⟩
    · rw [e] at hb; cases hb
    · rw [e] at hb
      injection hb with hb
      have hb : g = b := hb
      omega
  refine ⟨?_, by rw [List.map_append]; exact ho, ?_, ?_, fun b hb' => ?_, hml, ?_, fun g hg' hne => ?_, ?_⟩
  · rw [← List.append_assoc]
    exact hm.same (hb.block mb (by omega))
  · refine h.row.of_block ((hb.block _ (by omega)).trans (hg.block _ (by omega) (by intro e; injection e with e; omega)))
  · exact h.dso.keepA fun g hg' hl => (hoth g (by omega) (fun e => h.sep g hg' e.symm)).trans (hg.block g hl (by intro e; injection e with e; have := (hdb g hg').1; omega))
  · rcases hblk with e | ⟨g, e, hg'⟩
    · rw [e]; exact h.sep b hb'
    · rw [e]; intro h2; injection h2 with h2; have := (hdb b hb').2; omega
  · refine (h.below.grown hg (by omega) fun k hk => ?_).trans (hb.mono (by omega))
    injection hk with hk; omega
  · exact ((hb.block g (by omega)).trans (hg.block g (by omega) (by intro e; injection e with e; exact hne e))).trans (h.oth g hg' hne)
  · have := hb.size; omega
end
end Go.Proofs.Ytnakkmmmkbjfbaa

/-
  AN APPEND OF A DOUBLING, AND WHICH BLOCK TURNED.
-/
namespace Go.Proofs.Ytnakkmmmkbjfbaa
open Go.RowKit Go.Deep
set_option linter.unusedVariables false

theorem OwnIDb.blk {w : World} {base n : Nat} {v : Value} {xs : List Int} (h : OwnIDb w base v n xs) {b : Nat} (hb : v.ownBlock = some b) : base ≤ b ∧ b < w.heap.size := by
  rcases h.form with ⟨rfl, _⟩ | ⟨g, c, rfl, h1, h2⟩
  · cases hb
  · injection hb with hb; subst hb; exact ⟨h1, h2⟩
theorem own_blk {w : World} {base : Nat} {e : TypeId} {u : Value} {zs : List Int} (h : Own w base e u zs) {b : Nat} (hb : u.ownBlock = some b) : base ≤ b ∧ b < w.heap.size := by
  rcases h.form with ⟨rfl, _⟩ | ⟨g, c, rfl, h1, h2, _⟩
  · cases hb
  · injection hb with hb; subst hb; exact ⟨h1, h2⟩
theorem own_keepAt {w w' : World} {base g n c : Nat} {e : TypeId} {zs : List Int} (h : Own w base e (.slice (some ⟨g, 0, none⟩) n c) zs) (hk : w'.heap[g]? = w.heap[g]?) : Own w' base e (.slice (some ⟨g, 0, none⟩) n c) zs := by
  refine ⟨h.1, ?_⟩
  rcases h.2 with ⟨h1, _⟩ | ⟨g', cap, cur, h1, hb, hg, r⟩
  · cases h1
  · cases h1
    exact .inr ⟨_, _, cur, rfl, hb, hk.trans hg, r⟩
theorem cell_blk {w w' : World} {g i : Nat} (h : w'.heap[g]? = w.heap[g]?) : w'.cell? ⟨g, i, none⟩ = w.cell? ⟨g, i, none⟩ := by
  unfold World.cell?; simp only [h]
/-- 'out = append(out, d)', and which block turned. -/
theorem wpList_app_Db_at {wr : World} {ops : Array Oper} {rest : List Oper} {o : Oper} {a : Act} {Q : Exit → Act → World → Prop} (hgd : o.guard = none) (s x : Operand) (t : TypeId)
    (ho : o.op = .call { callee := .builtin .append, args := #[s, x], argTypes := #[t, t] }) (ht : Try.prog.underlying t = some (.slice 38))
    (base : Nat) (v : Value) (ms : List Db) (hs : a.eval s = v) (hown : OwnIDb wr base v ms.length (numsDb ms)) (d : Db) (c : Nat) (hx : a.eval x = .slice (some ⟨wr.heap.size, 0, none⟩) 1 c)
    (hbase : base ≤ wr.heap.size) (hlen : ms.length < 1000000)
    (h : ∀ v' w', OwnIDb w' base v' (ms ++ [d]).length (numsDb (ms ++ [d])) → Below base wr w' → (∀ k, k < wr.heap.size → some k ≠ v.ownBlock → w'.heap[k]? = wr.heap[k]?) → wr.heap.size ≤ w'.heap.size →
      (∀ b, v'.ownBlock = some b → v.ownBlock = some b ∨ wr.heap.size ≤ b) → wpList Try.prog ops Q rest (a.put o.dst v') w') :
    wpList Try.prog ops Q (o :: rest) a (wr.alloc (.cells #[.int .i64 d.x0, .int .i64 d.x1] 38)) := by
  obtain ⟨i0, hi, hz0, hz1, hz2⟩ := info_parts infoDb
  refine wpList_append_own_at _ hgd s x t ho base 38 i0 (.agg #[.int .i64 0, .int .i64 0]) 2 16 ht hi hz0 hz1 hz2 rfl (by decide) v ms.length ((numsDb ms).map (Value.int .i64)) hs ((hown.keep fun _ _ hg => Below.heap_alloc _ _ _ hg).1)
    ⟨wr.heap.size, 0, none⟩ 1 c [.int .i64 d.x0, .int .i64 d.x1] hx rfl ?_ ?_ (by unfold maxLen; omega) (by omega) (by simp; omega) ?_
  · intro j u hj
    match j, hj with
    | 0, hj => simp at hj; subst hj; rw [add_head]; simp
    | 1, hj => simp at hj; subst hj; rw [add_head]; simp
  · intro u hu; simp at hu; rcases hu with rfl | rfl <;> rfl
  · intro v' w' h1 h2 _ h4
    have hB : Below base wr w' := by
      refine (((Below.refl base wr).alloc hbase _).grown h2 (by simp; omega) ?_)
      intro k hk
      exact (World.ownsRow.lt hown.1 k hk).1
    refine h v' w' ⟨?_, ?_⟩ hB ?_ hB.size ?_
    · rw [numsDb_append, List.length_append, List.map_append, show numsDb [d] = [d.x0, d.x1] from by rw [numsDb_cons]; rfl]
      exact h1
    · rw [numsDb_length]
    · intro k hk hne
      rw [h2.block k (by simp; omega) hne]
      exact Below.heap_alloc _ _ _ hk
    · intro b hb
      rcases h4 with h4 | h4
      · exact .inl (h4 ▸ hb)
      · rw [h4] at hb; injection hb with hb; exact .inr (by simp at hb; omega)

end Go.Proofs.Ytnakkmmmkbjfbaa
