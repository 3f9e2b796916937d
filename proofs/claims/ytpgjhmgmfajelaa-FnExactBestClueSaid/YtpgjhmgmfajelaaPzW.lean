
/-
  CLUES CUT AND JOINED: parts of a list of clues, appends of lists of clues.
-/
import Derived.Test.YtpgjhmgmfajelaaClM
import Derived.Test.YtpgjhmgmfajelaaPzP
import Derived.Deep.RegionLaw
import Derived.Laws.AppendOwnNone
namespace Go.Proofs.Ytpgjhmgmfajelaa
open Go.RowKit Go.Deep
set_option linter.unusedVariables false

theorem elemCl : Try.prog.elem 38 = 27 := by kernel_rfl
theorem sizeCl (w : World) : (sizeOf (Try.prog.elem 38)).run Try.prog w = .ok 4 w := by kernel_rfl
theorem undCl : Try.prog.underlying 38 = some (.slice (Try.prog.elem 38)) := by rw [elemCl]; exact Try.underlying38

theorem cellCl_cut (cs : List Cl) (l k i : Nat) (hi : i < k * 4) (hk : l + k ≤ cs.length) : cellCl cs (l * 4 + i) = cellCl ((cs.drop l).take k) i := by
  unfold cellCl numCl
  have e1 : (l * 4 + i) % 4 = i % 4 := by omega
  have e2 : (l * 4 + i) / 4 = l + i / 4 := by omega
  have e3 : ((cs.drop l).take k).getD (i / 4) ⟨0, 0, 0, 0⟩ = cs.getD (l + i / 4) ⟨0, 0, 0, 0⟩ := by
    simp only [List.getD]
    rw [List.getElem?_take, if_pos (by omega), List.getElem?_drop]
  rw [e1, e2, e3]

/-- A part of a list of clues. -/
theorem Cls.cutAt {w : World} {B n : Nat} {A : Option Addr} {cs : List Cl} (h : Cls w B A n cs) (l hi m : Nat) (h1 : l ≤ hi) (h2 : hi ≤ n) (h3 : hi ≤ m) :
    ∃ A', sliced A l hi m 4 = .slice A' (hi - l) (m - l) ∧ Cls w B A' (hi - l) ((cs.drop l).take (hi - l)) ∧ (A ≠ none → A' ≠ none) := by
  have hlen := h.len
  refine ⟨if m = l then A else A.map (·.add (l * 4)), rfl, ⟨by rw [List.length_take, List.length_drop]; omega, fun hn => ?_⟩, fun e => by split <;> simpa using e⟩
  obtain ⟨b, off, e, hb, hc⟩ := h.2 (by omega)
  subst e
  rw [if_neg (by omega)]
  refine ⟨b, off + l * 4, by simp [Addr.add], hb, fun i hi' => ?_⟩
  have := hc (l * 4 + i) (by omega)
  rw [show off + l * 4 + i = off + (l * 4 + i) from by omega, this, cellCl_cut cs l (hi - l) i hi' (by omega)]

section
variable (A : Option Addr) (n c : Nat) (w : World)
theorem run_cut_h (k : Nat) (hk : k ≤ c) : (Instr.sliceAt 38 (.slice A n c) none (some (.int .i64 (k : Int))) none).run Try.prog w = .ok (sliced A 0 k c 4) w := by
  rw [run_sliceAt_slice _ _ _ _ _ _ undCl, run_slice_h w _ A n c undCl .i64 k (by omega) (by omega), sizeCl]
  simp [Result.andThen]
theorem run_cut_l (k : Nat) (hk : k ≤ n) : (Instr.sliceAt 38 (.slice A n c) (some (.int .i64 (k : Int))) none none).run Try.prog w = .ok (sliced A k n c 4) w := by
  rw [run_sliceAt_slice _ _ _ _ _ _ undCl, run_slice_l w _ A n c undCl .i64 k (by omega) (by omega), sizeCl]
  simp [Result.andThen]
theorem run_cut_lhm (l k : Nat) (hl : l ≤ k) (hk : k ≤ c) : (Instr.sliceAt 38 (.slice A n c) (some (.int .i64 (l : Int))) (some (.int .i64 (k : Int))) (some (.int .i64 (k : Int)))).run Try.prog w = .ok (sliced A l k k 4) w := by
  rw [run_sliceAt_slice _ _ _ _ _ _ undCl, run_slice_lhm w _ A n c undCl .i64 .i64 .i64 l k k (by omega) (by omega) (by omega) (by omega), sizeCl]
  simp [Result.andThen]
end

theorem wrap_ok {n : Int} (h0 : -1000000000000 ≤ n) (h1 : n ≤ 1000000000000) : IntKind.i64.wrap n = n := by
  rw [IntKind.wrap_i64]
  omega
theorem OwnICl.full {w : World} {base n : Nat} {v : Value} {xs : List Int} (h : OwnICl w base v n xs) : (v = .slice none 0 0 ∧ n = 0) ∨ ∃ g c, v = .slice (some ⟨g, 0, none⟩) n c ∧ base ≤ g ∧ g < w.heap.size ∧ n ≤ c ∧ c ≤ maxLen := by
  rcases h.1.2 with ⟨rfl, h0⟩ | ⟨g, cap, cur, rfl, hb, hg, hn, hm, _⟩
  · exact .inl ⟨rfl, h0⟩
  · refine .inr ⟨g, cap, rfl, hb, ?_, hn, hm⟩
    obtain ⟨hlt, _⟩ := Array.getElem?_eq_some_iff.1 hg
    exact hlt
/-- A LIST OF CLUES THAT THE CALL MADE. -/
def MadeCl (ds : List Cl) (w : World) (e : Ending) (w' : World) : Prop :=
  ∃ A c, e = .returned (.slice A ds.length c) ∧ ds.length ≤ c ∧ c ≤ maxLen ∧ OwnICl w' w.heap.size (.slice A ds.length c) ds.length (numsCl ds) ∧ Below w.heap.size w w'
theorem madeCl_of {ds : List Cl} {w w' : World} {v : Value} (h : OwnICl w' w.heap.size v ds.length (numsCl ds)) (hb : Below w.heap.size w w') : MadeCl ds w (.returned v) w' := by
  rcases h.full with ⟨rfl, h0⟩ | ⟨g, c, rfl, _, _, h1, h2⟩
  · rw [h0] at h
    exact ⟨none, 0, by rw [h0], by omega, by unfold maxLen; omega, by rw [h0]; exact h, hb⟩
  · exact ⟨_, _, rfl, h1, h2, h, hb⟩
def withoutL (cs : List Cl) (k : Nat) : List Cl := cs.take k ++ cs.drop (k + 1)
theorem withoutL_length {cs : List Cl} {k : Nat} (h : k < cs.length) : (withoutL cs k).length = cs.length - 1 := by
  unfold withoutL
  rw [List.length_append, List.length_take, List.length_drop]
  omega

/-- 'append(v, ds...)' onto a list of the call's own, ds whatever list (perhaps of no clue). -/
theorem wp_app_Cls {wr : World} {o : Oper} {a : Act} {K : Act → World → Prop} {Q : Exit → Act → World → Prop} (s x : Operand) (t : TypeId)
    (ho : o.op = .call { callee := .builtin .append, args := #[s, x], argTypes := #[t, t] }) (ht : Try.prog.underlying t = some (.slice 27))
    (base : Nat) (v : Value) (ms : List Cl) (hs : a.eval s = v) (hown : OwnICl wr base v ms.length (numsCl ms)) (A : Option Addr) (m c B : Nat) (ds : List Cl) (hx : a.eval x = .slice A m c) (hA : A ≠ none) (hr : Cls wr B A m ds)
    (hbase : base ≤ wr.heap.size) (hlen : ms.length + m < 1000000)
    (h : ∀ v' w', OwnICl w' base v' (ms ++ ds).length (numsCl (ms ++ ds)) → Below base wr w' → K (a.put o.dst v') w') :
    o.wp Try.prog a wr K Q := by
  obtain rfl := hr.len
  obtain ⟨i0, hi, hz0, hz1, hz2⟩ := info_parts infoCl
  obtain ⟨ad, rfl⟩ : ∃ ad, A = some ad := by cases A with | none => exact absurd rfl hA | some ad => exact ⟨ad, rfl⟩
  refine wp_append_own _ s x t ho base 27 i0 _ 4 32 ht hi hz0 hz1 hz2 rfl (by decide) v ms.length ((numsCl ms).map (Value.int .i64)) hs hown.1
    ad ds.length c ((numsCl ds).map (Value.int .i64)) hx (by rw [List.length_map, numsCl_length]) ?_ ?_ (by unfold maxLen; omega) (by omega) hbase ?_
  · intro j u hj
    rw [List.getElem?_map, numsCl_get] at hj
    by_cases hlt : j < ds.length * 4
    · rw [if_pos hlt] at hj
      simp at hj
      subst hj
      obtain ⟨b, off, had, _, hc⟩ := hr.2 (by omega)
      injection had with had
      subst had
      have := hc j hlt
      unfold Addr.add
      split
      · rename_i h0
        subst h0
        simpa [cellCl] using this
      · simpa [cellCl] using this
    · rw [if_neg hlt] at hj
      cases hj
  · intro u hu
    rw [List.mem_map] at hu
    obtain ⟨z, _, rfl⟩ := hu
    rfl
  · intro v' w' h1 h2 _
    refine h v' w' ⟨?_, by rw [numsCl_length]⟩ ?_
    · rw [numsCl_append, List.length_append, List.map_append]
      exact h1
    · refine ((Below.refl base wr).grown h2 hbase ?_)
      intro k hk
      exact (World.ownsRow.lt hown.1 k hk).1
theorem step_app_Cls {wr : World} {ops : Array Oper} {o : Oper} {a : Act} {K : Act → World → Prop} {Q : Exit → Act → World → Prop} {E : Prop} (hgd : o.guard = none) (s x : Operand) (t : TypeId)
    (ho : o.op = .call { callee := .builtin .append, args := #[s, x], argTypes := #[t, t] }) (ht : Try.prog.underlying t = some (.slice 27))
    (base : Nat) (v : Value) (ms : List Cl) (hs : a.eval s = v) (hown : OwnICl wr base v ms.length (numsCl ms)) (A : Option Addr) (m c B : Nat) (ds : List Cl) (hx : a.eval x = .slice A m c) (hA : A ≠ none) (hr : Cls wr B A m ds)
    (hbase : base ≤ wr.heap.size) (hlen : ms.length + m < 1000000)
    (h : ∀ v' w', OwnICl w' base v' (ms ++ ds).length (numsCl (ms ++ ds)) → Below base wr w' → K (a.put o.dst v') w') :
    if Region.wanted o (yielded ops a.tmps) = true then Oper.wp Try.prog o a wr K Q else E := by
  rw [if_pos (by simp [Region.wanted, hgd])]
  exact wp_app_Cls s x t ho ht base v ms hs hown A m c B ds hx hA hr hbase hlen h
theorem wpList_app_Cls {wr : World} {ops : Array Oper} {rest : List Oper} {o : Oper} {a : Act} {Q : Exit → Act → World → Prop} (hgd : o.guard = none) (s x : Operand) (t : TypeId)
    (ho : o.op = .call { callee := .builtin .append, args := #[s, x], argTypes := #[t, t] }) (ht : Try.prog.underlying t = some (.slice 27))
    (base : Nat) (v : Value) (ms : List Cl) (hs : a.eval s = v) (hown : OwnICl wr base v ms.length (numsCl ms)) (A : Option Addr) (m c B : Nat) (ds : List Cl) (hx : a.eval x = .slice A m c) (hA : A ≠ none) (hr : Cls wr B A m ds)
    (hbase : base ≤ wr.heap.size) (hlen : ms.length + m < 1000000)
    (h : ∀ v' w', OwnICl w' base v' (ms ++ ds).length (numsCl (ms ++ ds)) → Below base wr w' → wpList Try.prog ops Q rest (a.put o.dst v') w') : wpList Try.prog ops Q (o :: rest) a wr :=
  wpList_plain hgd fun _ hK => wp_app_Cls s x t ho ht base v ms hs hown A m c B ds hx hA hr hbase hlen fun v' w' h1 h2 => hK _ _ (h v' w' h1 h2)
theorem OwnICl.empty (w : World) : OwnICl (w.alloc (.cells #[] 27)) w.heap.size (.slice (some ⟨w.heap.size, 0, none⟩) 0 0) 0 (numsCl []) :=
  ⟨World.ownsRow_lit w #[] 0 (Nat.le_refl _) (Nat.zero_le _) (by simp [numsCl]), rfl⟩

set_option maxHeartbeats 4000000 in
set_option maxRecDepth 100000 in
/-- The model's pzWithout. -/
theorem pzWithout_any (A : Option Addr) (n c B : Nat) (cs : List Cl) (k : Nat) (w : World) (hr : Cls w B A n cs) (hB : B ≤ w.heap.size) (hn : n ≤ 100000) (hc : n ≤ c) (hc2 : c ≤ maxLen) (hk : k < n) :
    Calls Try.prog 48 #[.slice A n c, .int .i64 (k : Int)] w (MadeCl (withoutL cs k) w) := by
  obtain rfl := hr.len
  have hA : A ≠ none := by obtain ⟨b, off, e, _⟩ := hr.2 (by omega); rw [e]; simp
  obtain ⟨A1, e1, h1, g1⟩ := hr.cutAt 0 k c (Nat.zero_le _) (by omega) (by omega)
  obtain ⟨A2, e2, h2, g2⟩ := hr.cutAt (k + 1) cs.length c (by omega) (Nat.le_refl _) hc
  simp only [Nat.sub_zero, List.drop_zero] at e1 h1
  rw [List.take_of_length_le (by rw [List.length_drop]; omega)] at h2
  have hs1 : ∀ W, (Instr.sliceAt 38 (.slice A cs.length c) none (some (.int .i64 (k : Int))) none).run Try.prog W = .ok (.slice A1 k c) W := fun W => by rw [run_cut_h A cs.length c W k (by omega), e1]
  have hs2 : ∀ W, (Instr.sliceAt 38 (.slice A cs.length c) (some (.int .i64 ((k : Int) + 1))) none none).run Try.prog W = .ok (.slice A2 (cs.length - (k + 1)) (c - (k + 1))) W := fun W => by rw [show (k : Int) + 1 = ((k + 1 : Nat) : Int) from by omega, run_cut_l A cs.length c W (k + 1) (by omega), e2]
  have hwr : IntKind.i64.wrap ((k : Int) + 1) = (k : Int) + 1 := wrap_ok (by omega) (by omega)
  have H1 := hide h1
  have H2 := hide h2
  have HA1 := hide (g1 hA)
  have HA2 := hide (g2 hA)
  unfold maxLen at hc2
  clear e1 e2 h1 h2 g1 g2
  go_enter Try.func48, Try.ntmps48
  go_wp2_with fail
  refine wp_region_any (by kernel_rfl) ?_
  change wpAny _ _ _ _ _ _ _ (World.drew _)
  refine wpAny_take (i := 1) (v := ?_) rfl (by kernel_rfl) (by kernel_rfl) (by kernel_rfl) (fun _ _ _ h => h) (Or.inl ⟨rfl, ?_⟩) ?_
  rotate_left
  · intro w; go_simp; first | done | (with_reducible rfl)
  try go_simp
  refine wpAny_take (i := 2) (v := ?_) rfl (by kernel_rfl) (by kernel_rfl) (by kernel_rfl) (fun _ _ _ h => h) (Or.inl ⟨rfl, ?_⟩) ?_
  rotate_left
  · intro w; go_simp; first | done | (with_reducible rfl)
  try go_simp
  refine wpAny_take (i := 3) (v := ?_) rfl (by kernel_rfl) (by kernel_rfl) (by kernel_rfl) (fun _ _ _ h => h) (Or.inl ⟨rfl, ?_⟩) ?_
  rotate_left
  · intro w; go_simp; first | done | (with_reducible rfl)
  try go_simp
  refine wpAny_take (i := 5) (v := ?_) rfl (by kernel_rfl) (by kernel_rfl) (by kernel_rfl) (fun _ _ _ h => h) (Or.inl ⟨rfl, ?_⟩) ?_
  rotate_left
  · intro w; go_simp; first | done | (with_reducible rfl)
  try go_simp
  refine wpAny_take (i := 6) (v := ?_) rfl (by kernel_rfl) (by kernel_rfl) (by kernel_rfl) (fun _ _ _ h => h) (Or.inl ⟨rfl, ?_⟩) ?_
  rotate_left
  · intro w; go_simp; first | done | (with_reducible rfl)
  try go_simp
  refine wpAny_take (i := 7) (v := ?_) rfl (by kernel_rfl) (by kernel_rfl) (by kernel_rfl) (fun _ _ _ h => h) (Or.inl ⟨rfl, ?_⟩) ?_
  rotate_left
  · intro w; go_simp; first | done | (with_reducible rfl)
  try go_simp
  refine wpAny_take (i := 8) (v := ?_) rfl (by kernel_rfl) (by kernel_rfl) (by kernel_rfl) (fun _ _ _ h => h) (Or.inl ⟨rfl, ?_⟩) ?_
  rotate_left
  · intro w; go_simp; first | done | (with_reducible rfl)
  try go_simp
  refine wpAny_ready (rs := [0]) (by kernel_rfl) (by simp) ?_
  refine AllReady.cons rfl (fun K hK => ?_) AllReady.nil
  go_simp
  refine hK _ _ ?_
  clear hK K
  refine wpAny_ready (rs := [4]) (by kernel_rfl) (by simp) ?_
  refine AllReady.cons rfl (fun K hK => ?_) AllReady.nil
  have hb0 : Below w.heap.size w (w.alloc (.cells #[] 27)).drew := ((Below.refl _ _).alloc (Nat.le_refl _) _).drew
  refine step_app_Cls rfl _ _ 38 rfl Try.underlying38 w.heap.size _ [] rfl (OwnICl.empty w) A1 k c B (cs.take k) rfl HA1.out ((H1.out).below hb0 hB) hb0.size (by simp; omega) ?_
  intro v1 w1 hown1 hb1
  rw [List.nil_append] at hown1
  have hb2 := hb0.trans hb1
  refine hK _ _ ?_
  clear hK K
  refine wpAny_ready (rs := [9]) (by kernel_rfl) (by simp) ?_
  refine AllReady.cons rfl (fun K hK => ?_) AllReady.nil
  refine step_app_Cls rfl _ _ 38 rfl Try.underlying38 w.heap.size _ (cs.take k) rfl hown1 A2 (cs.length - (k + 1)) (c - (k + 1)) B (cs.drop (k + 1)) rfl HA2.out ((H2.out).below hb2 hB) hb2.size (by rw [List.length_take]; omega) ?_
  intro v2 w2 hown2 hb3
  refine hK _ _ ?_
  clear hK K
  generalize hLn : (List.take k cs ++ List.drop (k + 1) cs).length = L at hown2
  obtain ⟨A', c', rfl⟩ := hown2.shape
  have HM := hide (show MadeCl (withoutL cs k) w (.returned (.slice A' L c')) w2 from by subst hLn; exact madeCl_of (ds := withoutL cs k) hown2 (hb2.trans hb3))
  clear hown2 hb3 hb2 hown1 hb1 hLn
  refine wpAny_ready (rs := [10]) (by kernel_rfl) (by simp) ?_
  refine AllReady.cons rfl (fun K hK => ?_) AllReady.nil
  go_simp
  refine hK _ _ ?_
  clear hK K
  refine wpAny_done (by kernel_rfl) ?_ _
  go_wp2_with fail
  go_ret
  exact HM.out
end Go.Proofs.Ytpgjhmgmfajelaa
