import Derived.Test.YtnakkmmmkbjfbaaMg06
import Derived.Test.YtnakkmmmkbjfbaaMg11
import Derived.Test.YtnakkmmmkbjfbaaMg18
import Derived.Test.YtnakkmmmkbjfbaaMg19
import Derived.Maps.AppendAt

/-
  THE NUMBER OF HEAPS; an append that tells what lies elsewhere.
-/
namespace Go.Proofs.Ytnakkmmmkbjfbaa
open Go.RowKit Go.Deep
set_option linter.unusedVariables false

/-- 'x = append(x, n)', with what lies elsewhere. -/
theorem wpList_app_intB {wr : World} {ops : Array Oper} {rest : List Oper} {o : Oper} {a : Act} {Q : Exit → Act → World → Prop} (hgd : o.guard = none) (s x : Operand)
    (ho : o.op = .call { callee := .builtin .append, args := #[s, x], argTypes := #[22, 22] })
    (base : Nat) (v : Value) (zs : List Int) (hs : a.eval s = v) (hown : Own wr base 3 v zs) (n : Int) (c : Nat) (hx : a.eval x = .slice (some ⟨wr.heap.size, 0, none⟩) 1 c)
    (hbase : base ≤ wr.heap.size) (hlen : zs.length < 100000000)
    (h : ∀ v' w', Own w' base 3 v' (zs ++ [n]) → Below base wr w' → (∀ k, k < wr.heap.size → some k ≠ v.ownBlock → w'.heap[k]? = wr.heap[k]?) → (v'.ownBlock = v.ownBlock ∨ ∃ g, v'.ownBlock = some g ∧ wr.heap.size ≤ g) → wpList Try.prog ops Q rest (a.put o.dst v') w') :
    wpList Try.prog ops Q (o :: rest) a (wr.alloc (.cells #[.int .i64 n] 3)) := by
  obtain ⟨i0, hi, hz0, hz1, hz2⟩ := info_parts infoInt
  refine wpList_append_own_at _ hgd s x 22 ho base 3 i0 (.int .i64 0) 1 8 Try.underlying22 hi hz0 hz1 hz2 rfl (by decide) v zs.length (zs.map (Value.int .i64)) hs (World.ownsRow.alloc hown _)
    ⟨wr.heap.size, 0, none⟩ 1 c [.int .i64 n] hx rfl ?_ ?_ (by unfold maxLen; omega) (by omega) (by simp; omega) ?_
  · intro j u hj
    match j, hj with
    | 0, hj => simp at hj; subst hj; simp [Addr.add]
  · intro u hu; simp at hu; subst hu; rfl
  · intro v' w' h1 h2 _ h4
    have hoth : ∀ k, k < wr.heap.size → some k ≠ v.ownBlock → w'.heap[k]? = wr.heap[k]? := fun k hk hne => by
      rw [h2.block k (by simp; omega) hne]
      exact Below.heap_alloc _ _ _ hk
    refine h v' w' (by simpa [Own] using h1) ?_ hoth ?_
    · refine (((Below.refl base wr).alloc hbase _).grown h2 (by simp; omega) ?_)
      intro k hk
      exact (World.ownsRow.lt hown k hk).1
    · rcases h4 with h4 | h4
      · exact .inl h4
      · exact .inr ⟨_, h4, by simp⟩

theorem numD_take (zs : List Int) (k : Nat) (hk : k < zs.length) : numD (zs.take (k + 1)) = numD (zs.take k) * 41 + (zs.getD k 0).toNat := by
  unfold numD
  rw [List.take_succ_eq_append_getElem hk, List.foldl_append]
  simp [List.getD, hk]

set_option maxRecDepth 100000 in
set_option maxHeartbeats 2000000 in
/-- The model's dbNumber. -/
theorem dbNumber_any (A : Option Addr) (n c B : Nat) (zs : List Int) (w : World) (hr : Ints w B A n zs) (hn : n ≤ 4) (hs : ∀ x ∈ zs, 0 ≤ x ∧ x ≤ 40) :
    Calls Try.prog 45 #[.slice A n c] w fun e w' => e = .returned (.int .i64 (numD zs : Int)) ∧ w = w' := by
  obtain rfl := hr.len
  have HT := hide (fun k hk => numD_take zs k hk)
  have HB := hide (fun k => show numD (zs.take k) ≤ 2825761 by
    have h1 := numD_lt (zs := zs.take k) (fun x hx => hs x (List.mem_of_mem_take hx))
    have h2 : (zs.take k).length ≤ 4 := by rw [List.length_take]; omega
    have h3 : 41 ^ (zs.take k).length ≤ 41 ^ 4 := Nat.pow_le_pow_right (by omega) h2
    have h4 : 41 ^ 4 = 2825761 := by decide
    omega)
  have HX := hide (fun k (hk : k < zs.length) => hs (zs.getD k 0) (by rw [getD_get hk]; exact List.getElem_mem _))
  have HE := hide (show numD (zs.take zs.length) = numD zs by rw [List.take_length])
  have hR := hr
  clear hr hs
  go_enter Try.func45, Try.ntmps45
  go_wp2
  go_loop [3, 8] (fun v i => ∃ k : Nat, k ≤ zs.length ∧ i = .int .i64 (k : Int) ∧ v = .int .i64 (numD (zs.take k) : Int))
    (fun _ i => zs.length - (intOf i).toNat)
  case atStart => exact ⟨0, Nat.zero_le _, rfl, by simp [numD]⟩
  case round =>
    obtain ⟨k, hk, rfl, rfl⟩ := hrel
    by_cases hlt : k < zs.length
    · obtain ⟨ad, rfl, hab, hcell⟩ := hR.at_ hlt
      have hx := HX.out k hlt
      have hb := HB.out k
      have hb1 := HB.out (k + 1)
      have HTk := hide (HT.out k hlt)
      rw [HTk.out] at hb1
      obtain ⟨y, hy⟩ := Int.eq_ofNat_of_zero_le hx.1
      rw [hy] at hcell hx HTk hb1
      rw [Int.toNat_natCast] at HTk hb1
      clear hy
      generalize numD (zs.take k) = m at *
      have hlt2 : (k : Int) < (zs.length : Int) := by omega
      have hy40 : (y : Int) ≤ 40 := hx.2
      clear hx
      go_wp2
      go_round
      case rel => exact ⟨k + 1, by omega, by go_num, by rw [HTk.out]; go_num⟩
      case measure => simp [intOf]; omega
    · obtain rfl : k = zs.length := by omega
      have HEE := HE
      generalize numD (zs.take zs.length) = m at *
      go_wp2
      go_ret
      exact ⟨by rw [← HEE.out]; rfl, rfl⟩
end Go.Proofs.Ytnakkmmmkbjfbaa

/-
  ALL THAT DOUBLINGS LEAD TO, THE MODEL's WAY: dbFar.
-/
namespace Go.Proofs.Ytnakkmmmkbjfbaa
open Go.RowKit Go.Deep
set_option linter.unusedVariables false

theorem infoBool : (Try.prog.info? 4).map (fun i => (i.zero, i.size, i.bytes)) = some (some (.bool false), 1, 1) := by kernel_rfl
theorem OwnVs.keepO {W W' : World} {base : Nat} {v : Value} {vs : List Value} {zss : List (List Int)} (h : OwnVs W base v vs zss) (fb : Option Nat) (hk : ∀ g, g < W.heap.size → some g ≠ fb → W'.heap[g]? = W.heap[g]?)
    (h1 : ∀ b, v.ownBlock = some b → fb ≠ some b) (h2 : ∀ i, i < zss.length → ∀ b, (vs.getD i undef).ownBlock = some b → fb ≠ some b) : OwnVs W' base v vs zss := by
  obtain ⟨g1, g2, g3, g4, g5⟩ := h
  refine ⟨g1, ⟨g2.1, ?_⟩, fun k hk' => (g3 k hk').keepB fun g hg hlt => hk g hlt (fun e => h2 k hk' g hg e.symm), g4, g5⟩
  rcases g2.2 with k2 | ⟨g, cap, cur, hv, hb', hg, r⟩
  · exact .inl k2
  · obtain ⟨hlt, _⟩ := Array.getElem?_eq_some_iff.1 hg
    exact .inr ⟨g, cap, cur, hv, hb', (hk g hlt (fun e => h1 g (by rw [hv]; rfl) e.symm)).trans hg, r⟩
def lensOf (Q : List StP) : List Int := Q.map fun p => (p.2.length : Int)
/-- Where the search stands in memory: the queue, how far each is, what has been seen. -/
structure FarI (w : World) (size : Nat) (Q : List StP) (W : World) (qv fv : Value) (vs : List Value) : Prop where
  q : OwnVs W (w.heap.size + 1) qv vs (Q.map Prod.fst)
  f : Own W (w.heap.size + 1) 3 fv (lensOf Q)
  s : W.rowIs w.heap.size 4 size (fun i => .bool (decide (i ∈ numsOf Q)))
  sep : ∀ b, fv.ownBlock = some b → qv.ownBlock ≠ some b
  rows : ∀ i, i < Q.length → ∀ b, (vs.getD i undef).ownBlock = some b → fv.ownBlock ≠ some b
  below : Below w.heap.size w W
  size : w.heap.size + 1 ≤ W.heap.size
section
variable {w : World} {size : Nat} {Q : List StP} {W W' : World} {qv fv : Value} {vs : List Value}
theorem FarI.next (h : FarI w size Q W qv fv vs) (hb : Below W.heap.size W W') : FarI w size Q W' qv fv vs :=
  ⟨h.q.below hb, h.f.below hb, h.s.of_block (hb.block _ h.s.lt), h.sep, h.rows, h.below.trans (hb.mono (by have := h.size; omega)), Nat.le_trans h.size hb.size⟩
/-- A new list made and its number marked. -/
theorem FarI.marked {w3 : World} {u : Value} {ys : List Int} (h : FarI w size Q W qv fv vs) (hb : Below W.heap.size W w3) (hu : Own w3 W.heap.size 3 u ys) (k : Nat) :
    OwnVs (w3.setCell ⟨w.heap.size, k, none⟩ (.bool true)) (w.heap.size + 1) qv vs (Q.map Prod.fst) ∧ Own (w3.setCell ⟨w.heap.size, k, none⟩ (.bool true)) W.heap.size 3 u ys ∧
    Own (w3.setCell ⟨w.heap.size, k, none⟩ (.bool true)) (w.heap.size + 1) 3 fv (lensOf Q) ∧ (w3.setCell ⟨w.heap.size, k, none⟩ (.bool true)).rowIs w.heap.size 4 size (fun i => if i = k then .bool true else .bool (decide (i ∈ numsOf Q))) ∧
    W.heap.size ≤ (w3.setCell ⟨w.heap.size, k, none⟩ (.bool true)).heap.size ∧ Below w.heap.size w (w3.setCell ⟨w.heap.size, k, none⟩ (.bool true)) := by
  have hn := h.next hb
  have hs := h.size
  refine ⟨hn.q.keep fun g hg _ => Below.heap_setCell _ _ _ _ (by simp; omega), hu.keep fun g hg _ => Below.heap_setCell _ _ _ _ (by simp; omega), hn.f.keep fun g hg _ => Below.heap_setCell _ _ _ _ (by simp; omega), World.rowIs.set hn.s k _, by simpa using hb.size, ?_⟩
  exact hn.below.setCell (p := ⟨w.heap.size, k, none⟩) (Nat.le_refl _) _
/-- Behind the append onto the queue. -/
theorem FarI.queued {W3 w4 : World} {v4 : Value} (h : FarI w size Q W qv fv vs) (hf : Own W3 (w.heap.size + 1) 3 fv (lensOf Q)) (ho : ∀ k, k < W3.heap.size → some k ≠ qv.ownBlock → w4.heap[k]? = W3.heap[k]?) :
    Own w4 (w.heap.size + 1) 3 fv (lensOf Q) := hf.keepB fun g hg hlt => ho g hlt (fun e => h.sep g hg e.symm)
/-- Behind the append onto the list of how far. -/
theorem FarI.done {W3 w4 w5 : World} {v4 f5 u : Value} {ys : List Int} {path : List Db} {k : Nat} (h : FarI w size Q W qv fv vs)
    (hu : Own W3 W.heap.size 3 u ys) (hf : Own W3 (w.heap.size + 1) 3 fv (lensOf Q)) (hs3 : W3.rowIs w.heap.size 4 size (fun i => if i = k then .bool true else .bool (decide (i ∈ numsOf Q)))) (hsz3 : W.heap.size ≤ W3.heap.size) (hb3 : Below w.heap.size w W3)
    (hq4 : OwnVs w4 (w.heap.size + 1) v4 (vs ++ [u]) (Q.map Prod.fst ++ [ys])) (hb4 : Below (w.heap.size + 1) W3 w4) (hk4 : v4.ownBlock = qv.ownBlock ∨ ∃ g, v4.ownBlock = some g ∧ W3.heap.size ≤ g)
    (hf5 : Own w5 (w.heap.size + 1) 3 f5 (lensOf Q ++ [(path.length : Int)])) (hb5 : Below (w.heap.size + 1) w4 w5) (ho5 : ∀ k, k < w4.heap.size → some k ≠ fv.ownBlock → w5.heap[k]? = w4.heap[k]?) (hk5 : f5.ownBlock = fv.ownBlock ∨ ∃ g, f5.ownBlock = some g ∧ w4.heap.size ≤ g)
    (hnum : k = numD ys) : FarI w size (Q ++ [(ys, path)]) w5 v4 f5 (vs ++ [u]) := by
  have hvl : vs.length = (Q.map Prod.fst).length := h.q.1
  have hfb : ∀ b, fv.ownBlock = some b → b < W.heap.size := fun b hb => (h.f.blk hb).2
  have hv4 : ∀ b, v4.ownBlock = some b → fv.ownBlock ≠ some b := fun b hb e => by
    rcases hk4 with h1 | ⟨g, h1, hg⟩
    · rw [h1] at hb; exact h.sep b e hb
    · rw [h1] at hb; injection hb with hb; have := hfb b e; omega
  have hrw : ∀ i, i < (Q.map Prod.fst ++ [ys]).length → ∀ b, ((vs ++ [u]).getD i undef).ownBlock = some b → fv.ownBlock ≠ some b ∧ b < w4.heap.size := fun i hi b hb => by
    have hb4s := (hq4.2.2.1 i hi).blk hb
    refine ⟨fun e => ?_, hb4s.2⟩
    rw [List.length_append, List.length_singleton] at hi
    by_cases hlt : i < Q.length
    · rw [snoc_lt _ _ _ _ (by rw [hvl]; simpa using hlt)] at hb
      exact h.rows i hlt b hb e
    · have : i = vs.length := by rw [hvl, List.length_map]; rw [List.length_map] at hi; omega
      subst this
      rw [snoc_at] at hb
      have := (hu.blk hb).1
      have := hfb b e
      omega
  refine ⟨?_, ?_, ?_, ?_, ?_, ?_, ?_⟩
  · rw [List.map_append]
    exact hq4.keepO fv.ownBlock ho5 hv4 (fun i hi b hb => (hrw i hi b hb).1)
  · unfold lensOf at hf5 ⊢
    rw [List.map_append]
    exact hf5
  · refine (hs3.of_block ((hb5.block _ (by omega)).trans (hb4.block _ (by omega)))).congr fun i _ => ?_
    unfold numsOf
    rw [List.map_append, List.map_singleton]
    by_cases e : i = k
    · rw [if_pos e]; simp [e, hnum]
    · rw [if_neg e]
      have : i ≠ numD ys := by rw [← hnum]; exact e
      simp [this, List.mem_append]
  · intro b hb hv
    rcases hk5 with h1 | ⟨g, h1, hg⟩
    · rw [h1] at hb; exact hv4 b hv hb
    · rw [h1] at hb; injection hb with hb; have := (hq4.blk hv).2; omega
  · intro i hi b hb hf
    rw [List.length_append, List.length_singleton] at hi
    obtain ⟨a1, a2⟩ := hrw i (by rw [List.length_append, List.length_map, List.length_singleton]; exact hi) b hb
    rcases hk5 with h1 | ⟨g, h1, hg⟩
    · rw [h1] at hf; exact a1 hf
    · rw [h1] at hf; injection hf with hf; omega
  · exact hb3.trans ((hb4.trans hb5).mono (by omega))
  · have := hb4.size
    have := hb5.size
    have := h.size
    omega
end
end Go.Proofs.Ytnakkmmmkbjfbaa
