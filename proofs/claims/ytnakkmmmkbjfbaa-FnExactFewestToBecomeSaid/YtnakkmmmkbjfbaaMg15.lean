import Derived.Test.YtnakkmmmkbjfbaaMg11
import Derived.Test.YtnakkmmmkbjfbaaMg14
import Derived.Deep.RegionHeld3
import Derived.Test.YtnakkmmmkbjfbaaMg07
import Derived.Test.YtnakkmmmkbjfbaaMg13
import Derived.Maps.AppendAt
import Derived.Laws.AppendOwnNone

/-
  ALL DOUBLINGS THAT CAN BE MADE, BOTH WAYS: DoublingsOf.
-/
namespace Go.Proofs.Ytnakkmmmkbjfbaa
open Go.RowKit Go.Deep
set_option linter.unusedVariables false

def ofL (zs : List Int) : List Db := if few zs then allD zs else []
theorem ofL_short (zs : List Int) : (ofL zs).length ≤ 100000 := by
  unfold ofL
  cases h : few zs
  · simp
  · have hs := few_small h
    have h1 := outD_len zs zs.length
    have h2 : zs.length * zs.length ≤ 4 * 4 := Nat.mul_le_mul (by omega) (by omega)
    rw [if_pos rfl]
    unfold allD
    omega
theorem OwnIDb.form2 {w : World} {base n : Nat} {v : Value} {xs : List Int} (h : OwnIDb w base v n xs) (h0 : 0 < n) : ∃ g c, v = .slice (some ⟨g, 0, none⟩) n c ∧ base ≤ g ∧ g < w.heap.size ∧ n ≤ c ∧ c ≤ maxLen := by
  rcases h.1.2 with ⟨_, h1⟩ | ⟨g, cap, cur, rfl, hb, hg, hn, hm, _⟩
  · omega
  · exact ⟨g, cap, rfl, hb, (Array.getElem?_eq_some_iff.1 hg).1, hn, hm⟩

set_option maxRecDepth 1000000 in
theorem doublings_any (zs : List Int) (w : World) (hs : small zs) (h2 : 2 ≤ zs.length) (hn : zs.length ≤ 4) :
    Calls Try.prog 51 #[.agg #[.int .i64 (pd zs 0), .int .i64 (pd zs 1), .int .i64 (pd zs 2), .int .i64 (pd zs 3)]] w
      fun e w' => ∃ A' c', e = .returned (.slice A' (allD zs).length c') ∧ OwnIDb w' w.heap.size (.slice A' (allD zs).length c') (allD zs).length (numsDb (allD zs)) ∧ Below w.heap.size w w' := by
  have HA := hide (fun W => allDoublings_any W)
  have HD := hide (fun (base g c br : Nat) W (hown : OwnIDb W base (.slice (some ⟨g, 0, none⟩) all12.length c) all12.length (numsDb all12)) (hc : all12.length ≤ c) (hc2 : c ≤ maxLen) (hg : base ≤ g) (hgw : g < W.heap.size) (hbr : br < base) (hrow : W.rowIs br 42 4 (fun j => .int .i64 (pd zs j))) =>
    DeleteFunc_any base g c br all12 zs W hs hn hown (by decide) hc hc2 hg hgw hbr hrow)
  rw [all_eq zs h2 hn] at HD
  have H12 := hide (show 0 < all12.length from by decide)
  have hrow := row4_alloc w zs 42
  have Hrow := hide hrow
  clear hrow hs
  generalize allD zs = L at *
  generalize all12 = M at *
  go_enter Try.func51, Try.ntmps51
  go_wp2_with fail
  have hA0 : Below w.heap.size w (w.alloc (.cells #[.int .i64 (pd zs 0), .int .i64 (pd zs 1), .int .i64 (pd zs 2), .int .i64 (pd zs 3)] 42)) := (Below.refl _ _).alloc (Nat.le_refl _) _
  have z0 : w.heap.size < (w.alloc (.cells #[.int .i64 (pd zs 0), .int .i64 (pd zs 1), .int .i64 (pd zs 2), .int .i64 (pd zs 3)] 42)).heap.size := by simp
  generalize (w.alloc (.cells #[.int .i64 (pd zs 0), .int .i64 (pd zs 1), .int .i64 (pd zs 2), .int .i64 (pd zs 3)] 42)) = W0 at *
  refine (HA.out _).mono ?_; rintro e w2 ⟨A', c', rfl, hown, hb2⟩
  obtain ⟨g, c, hv, hg, hgw, hc, hc2⟩ := hown.form2 H12.out
  injection hv with hA hn' hc'
  subst hA hc'
  have hrow2 := Hrow.out.of_block (hb2.block _ z0)
  have HDx := hide (HD.out _ g c' w.heap.size w2 hown hc hc2 hg hgw z0 hrow2)
  clear hown hrow2 hc2
  go_wp2_with fail
  refine HDx.out.mono ?_; rintro e w3 ⟨rfl, hown3, hb3⟩
  go_wp2_with fail
  go_ret
  exact ⟨_, _, rfl, hown3.less (by omega), hA0.trans ((hb2.trans hb3).mono hA0.size)⟩

end Go.Proofs.Ytnakkmmmkbjfbaa

/-
  LISTS OF ROWS: what they read as, appends of one and of many; a look-up and a store in the map of the search.
-/
namespace Go.Proofs.Ytnakkmmmkbjfbaa
open Go.RowKit Go.Deep
open Go.Maps (Keyed)
set_option linter.unusedVariables false

theorem infoHR : (Try.prog.info? 42).map (fun i => (i.zero, i.size, i.bytes)) = some (some (.agg #[.int .i64 0, .int .i64 0, .int .i64 0, .int .i64 0]), 4, 32) := by kernel_rfl
theorem info_partsHR : ∃ i, Try.prog.info? 42 = some i ∧ i.zero = some (.agg #[.int .i64 0, .int .i64 0, .int .i64 0, .int .i64 0]) ∧ i.size = 4 ∧ i.bytes = 32 := by
  obtain ⟨i, hi, e⟩ := Option.map_eq_some_iff.1 infoHR
  simp only [Prod.mk.injEq] at e
  exact ⟨i, hi, e.1, e.2.1, e.2.2⟩
def cells4 (zs : List Int) : List Value := [.int .i64 (pd zs 0), .int .i64 (pd zs 1), .int .i64 (pd zs 2), .int .i64 (pd zs 3)]
def cellsHR (zss : List (List Int)) : List Value := zss.flatMap cells4
theorem cellsHR_len : ∀ zss : List (List Int), (cellsHR zss).length = zss.length * 4
  | [] => rfl
  | z :: zss => by
    have := cellsHR_len zss
    unfold cellsHR at this ⊢
    rw [List.flatMap_cons, List.length_append, this, List.length_cons]
    show 4 + _ = _
    omega
theorem cellsHR_append (a b : List (List Int)) : cellsHR (a ++ b) = cellsHR a ++ cellsHR b := by unfold cellsHR; rw [List.flatMap_append]
theorem cellsHR_at : ∀ (zss : List (List Int)) (k : Nat) (zs : List Int), zss[k]? = some zs → ∀ j, j < 4 → (cellsHR zss)[k * 4 + j]? = some (.int .i64 (pd zs j))
  | [], _, _, h, _, _ => by simp at h
  | z :: zss, k, zs, h, j, hj => by
    have e : cellsHR (z :: zss) = cells4 z ++ cellsHR zss := by unfold cellsHR; rw [List.flatMap_cons]
    rw [e]
    cases k with
    | zero =>
      simp at h
      subst h
      rw [List.getElem?_append_left (by show _ < 4; omega)]
      match j, hj with
      | 0, _ => rfl
      | 1, _ => rfl
      | 2, _ => rfl
      | 3, _ => rfl
    | succ k =>
      rw [List.getElem?_append_right (by show 4 ≤ _; omega)]
      have := cellsHR_at zss k zs (by simpa using h) j hj
      rw [show (k + 1) * 4 + j - (cells4 z).length = k * 4 + j from by show (k + 1) * 4 + j - 4 = _; omega]
      exact this
theorem cellsHR_one (zss : List (List Int)) : ∀ u ∈ cellsHR zss, u.oneCell' = true := fun u hu => by
  obtain ⟨z, _, h⟩ := List.mem_flatMap.1 hu
  simp [cells4] at h
  rcases h with rfl | rfl | rfl | rfl <;> rfl
/-- A list of rows of the call's own. -/
def OwnHR (W : World) (base : Nat) (v : Value) (zss : List (List Int)) : Prop := W.ownsRow base 42 4 v zss.length (cellsHR zss)
section
variable {W W' : World} {base : Nat} {v : Value} {zss : List (List Int)}
theorem OwnHR.nil (W : World) (base : Nat) : OwnHR W base (.slice none 0 0) [] := World.ownsRow_nil _ _ _ _
theorem OwnHR.form (h : OwnHR W base v zss) : (v = .slice none 0 0 ∧ zss = []) ∨ ∃ g c, v = .slice (some ⟨g, 0, none⟩) zss.length c ∧ base ≤ g ∧ g < W.heap.size := by
  rcases h.2 with ⟨rfl, h0⟩ | ⟨g, cap, cur, rfl, hb, hg, hn, hm, _⟩
  · exact .inl ⟨rfl, List.eq_nil_of_length_eq_zero h0⟩
  · obtain ⟨hlt, _⟩ := Array.getElem?_eq_some_iff.1 hg
    exact .inr ⟨g, cap, rfl, hb, hlt⟩
theorem OwnHR.shape (h : OwnHR W base v zss) : ∃ A c, v = .slice A zss.length c := by
  rcases h.form with ⟨rfl, rfl⟩ | ⟨g, c, rfl, _⟩
  · exact ⟨none, 0, rfl⟩
  · exact ⟨_, c, rfl⟩
theorem OwnHR.blk (h : OwnHR W base v zss) {b : Nat} (hb : v.ownBlock = some b) : base ≤ b ∧ b < W.heap.size := by
  rcases h.form with ⟨rfl, _⟩ | ⟨g, c, rfl, h1, h2⟩
  · cases hb
  · injection hb with hb; subst hb; exact ⟨h1, h2⟩
theorem OwnHR.keepA (h : OwnHR W base v zss) (hk : ∀ g, v.ownBlock = some g → g < W.heap.size → W'.heap[g]? = W.heap[g]?) : OwnHR W' base v zss := by
  refine ⟨h.1, ?_⟩
  rcases h.2 with h2 | ⟨g, cap, cur, hv, hb, hg, r⟩
  · exact .inl h2
  · obtain ⟨hlt, _⟩ := Array.getElem?_eq_some_iff.1 hg
    exact .inr ⟨g, cap, cur, hv, hb, (hk g (by rw [hv]; rfl) hlt).trans hg, r⟩
theorem OwnHR.below (h : OwnHR W base v zss) (hb : Below W.heap.size W W') : OwnHR W' base v zss := h.keepA fun g _ hg => hb.block g hg
theorem OwnHR.less {base' : Nat} (h : OwnHR W base v zss) (hb : base' ≤ base) : OwnHR W base' v zss := by
  refine ⟨h.1, ?_⟩
  rcases h.2 with h2 | ⟨g, cap, cur, hv, hb', r⟩
  · exact .inl h2
  · exact .inr ⟨g, cap, cur, hv, by omega, r⟩
theorem OwnHR.cellAt {g c i : Nat} (h : OwnHR W base (.slice (some ⟨g, 0, none⟩) zss.length c) zss) {u : Value} (hi : (cellsHR zss)[i]? = some u) : W.cell? ⟨g, i, none⟩ = some u := by
  obtain ⟨hl, e⟩ := List.getElem?_eq_some_iff.1 hi
  rw [World.ownsRow.cellAt h i (by rw [cellsHR_len] at hl; exact hl), hi]
/-- A row of the list. -/
theorem OwnHR.at_ {A : Option Addr} {n c k : Nat} {zs : List Int} (h : OwnHR W base (.slice A n c) zss) (hk : zss[k]? = some zs) : ∃ b off, A = some ⟨b, off, none⟩ ∧ b < W.heap.size ∧ W.cell? ⟨b, off + k * 4, none⟩ = some (.int .i64 (pd zs 0)) ∧
    W.cell? ⟨b, off + k * 4 + 1, none⟩ = some (.int .i64 (pd zs 1)) ∧ W.cell? ⟨b, off + k * 4 + 2, none⟩ = some (.int .i64 (pd zs 2)) ∧ W.cell? ⟨b, off + k * 4 + 3, none⟩ = some (.int .i64 (pd zs 3)) := by
  have hkl := (List.getElem?_eq_some_iff.1 hk).1
  rcases h.form with ⟨_, rfl⟩ | ⟨g, c', e, _, hg⟩
  · simp at hkl
  · injection e with e1 e2 e3
    subst e1; subst e2
    have hc := fun j hj => cellsHR_at zss k zs hk j hj
    refine ⟨g, 0, rfl, hg, ?_, ?_, ?_, ?_⟩
    · rw [Nat.zero_add]; exact OwnHR.cellAt h (hc 0 (by omega))
    · rw [Nat.zero_add]; exact OwnHR.cellAt h (hc 1 (by omega))
    · rw [Nat.zero_add]; exact OwnHR.cellAt h (hc 2 (by omega))
    · rw [Nat.zero_add]; exact OwnHR.cellAt h (hc 3 (by omega))
end
/-- 'x = append(x, row)'. -/
theorem wpList_app_HR {wr : World} {ops : Array Oper} {rest : List Oper} {o : Oper} {a : Act} {Q : Exit → Act → World → Prop} (hgd : o.guard = none) (s x : Operand)
    (ho : o.op = .call { callee := .builtin .append, args := #[s, x], argTypes := #[59, 59] })
    (base : Nat) (v : Value) (zss : List (List Int)) (hs : a.eval s = v) (hown : OwnHR wr base v zss) (zs : List Int) (c : Nat) (hx : a.eval x = .slice (some ⟨wr.heap.size, 0, none⟩) 1 c)
    (hbase : base ≤ wr.heap.size) (hlen : zss.length < 1000000)
    (h : ∀ v' w', OwnHR w' base v' (zss ++ [zs]) → Below base wr w' → (∀ k, k < wr.heap.size → some k ≠ v.ownBlock → w'.heap[k]? = wr.heap[k]?) → (v'.ownBlock = v.ownBlock ∨ ∃ g, v'.ownBlock = some g ∧ wr.heap.size ≤ g) → wpList Try.prog ops Q rest (a.put o.dst v') w') :
    wpList Try.prog ops Q (o :: rest) a (wr.alloc (.cells #[.int .i64 (pd zs 0), .int .i64 (pd zs 1), .int .i64 (pd zs 2), .int .i64 (pd zs 3)] 42)) := by
  obtain ⟨i0, hi, hz0, hz1, hz2⟩ := info_partsHR
  refine wpList_append_own_at _ hgd s x 59 ho base 42 i0 _ 4 32 Try.underlying59 hi hz0 hz1 hz2 rfl (by decide) v zss.length (cellsHR zss) hs (World.ownsRow.alloc hown _)
    ⟨wr.heap.size, 0, none⟩ 1 c (cells4 zs) hx rfl ?_ ?_ (by unfold maxLen; omega) (by omega) (by simp; omega) ?_
  · intro j u hj
    have e : (wr.alloc (.cells #[.int .i64 (pd zs 0), .int .i64 (pd zs 1), .int .i64 (pd zs 2), .int .i64 (pd zs 3)] 42)).heap[wr.heap.size]? = some (.cells #[.int .i64 (pd zs 0), .int .i64 (pd zs 1), .int .i64 (pd zs 2), .int .i64 (pd zs 3)] 42 (0, 0)) := by
      show (wr.heap.push _)[wr.heap.size]? = _
      simp
    rw [add_head]
    unfold World.cell?
    rw [show (⟨wr.heap.size, j, none⟩ : Addr).block = wr.heap.size from rfl, e]
    match j, hj with
    | 0, hj => exact hj
    | 1, hj => exact hj
    | 2, hj => exact hj
    | 3, hj => exact hj
  · intro u hu
    simp [cells4] at hu
    rcases hu with rfl | rfl | rfl | rfl <;> rfl
  · intro v' w' h1 h2 _ h4
    have hoth : ∀ k, k < wr.heap.size → some k ≠ v.ownBlock → w'.heap[k]? = wr.heap[k]? := fun k hk hne => by
      rw [h2.block k (by simp; omega) hne]
      exact Below.heap_alloc _ _ _ hk
    refine h v' w' ?_ ?_ hoth ?_
    · unfold OwnHR
      rw [cellsHR_append, List.length_append, show cellsHR [zs] = cells4 zs from by simp [cellsHR]]
      exact h1
    · refine (((Below.refl base wr).alloc hbase _).grown h2 (by simp; omega) ?_)
      intro k hk
      exact (World.ownsRow.lt hown k hk).1
    · rcases h4 with h4 | h4
      · exact .inl h4
      · exact .inr ⟨_, h4, by simp⟩
/-- 'x = append(x, rows...)'. -/
theorem wpList_app_HRs {wr : World} {ops : Array Oper} {rest : List Oper} {o : Oper} {a : Act} {Q : Exit → Act → World → Prop} (hgd : o.guard = none) (s x : Operand)
    (ho : o.op = .call { callee := .builtin .append, args := #[s, x], argTypes := #[59, 59] })
    (base K : Nat) (v u : Value) (zss yss : List (List Int)) (hs : a.eval s = v) (hown : OwnHR wr base v zss) (hx : a.eval x = u) (hu : OwnHR wr K u yss)
    (hbase : base ≤ wr.heap.size) (hlen : zss.length + yss.length < 1000000)
    (h : ∀ v' w', OwnHR w' base v' (zss ++ yss) → Below base wr w' → (∀ k, k < wr.heap.size → some k ≠ v.ownBlock → w'.heap[k]? = wr.heap[k]?) → (v'.ownBlock = v.ownBlock ∨ ∃ g, v'.ownBlock = some g ∧ wr.heap.size ≤ g) → wpList Try.prog ops Q rest (a.put o.dst v') w') :
    wpList Try.prog ops Q (o :: rest) a wr := by
  obtain ⟨i0, hi, hz0, hz1, hz2⟩ := info_partsHR
  rcases hu.form with ⟨rfl, rfl⟩ | ⟨g, c, rfl, _, _⟩
  · refine wpList_append_own_none hgd s x 59 ho base 42 i0 4 Try.underlying59 hi v zss.length (cellsHR zss) hs hown hx ?_
    exact h v wr (by rw [List.append_nil]; exact hown) (Below.refl _ _) (fun _ _ _ => rfl) (.inl rfl)
  · refine wpList_append_own_at _ hgd s x 59 ho base 42 i0 _ 4 32 Try.underlying59 hi hz0 hz1 hz2 rfl (by decide) v zss.length (cellsHR zss) hs hown
      ⟨g, 0, none⟩ yss.length c (cellsHR yss) hx (by rw [cellsHR_len]) ?_ (cellsHR_one yss) (by unfold maxLen; omega) (by omega) hbase ?_
    · intro j u hj
      rw [add_head]
      exact hu.cellAt hj
    · intro v' w' h1 h2 _ h4
      have hoth : ∀ k, k < wr.heap.size → some k ≠ v.ownBlock → w'.heap[k]? = wr.heap[k]? := fun k hk hne => h2.block k hk hne
      refine h v' w' ?_ ?_ hoth ?_
      · unfold OwnHR
        rw [cellsHR_append, List.length_append]
        exact h1
      · refine (Below.refl base wr).grown h2 hbase ?_
        intro k hk
        exact (World.ownsRow.lt hown k hk).1
      · rcases h4 with h4 | h4
        · exact .inl h4
        · exact .inr ⟨_, h4, Nat.le_refl _⟩
end Go.Proofs.Ytnakkmmmkbjfbaa
