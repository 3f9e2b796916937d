
/-
  CLUES CUT AND JOINED: parts of a list of clues, appends of lists of clues.
-/
import Derived.Test.YtmjlfmlbmegheaaDoorClM
import Derived.Test.YtmjlfmlbmegheaaDoorPzP
import Derived.Deep.RegionLaw
import Derived.Laws.AppendOwnNone
namespace Go.Proofs.YtmjlfmlbmegheaaDoor
open Go.RowKit Go.Deep
set_option linter.unusedVariables false

theorem elemCl : Tryd.prog.elem 28 = 44 := by kernel_rfl
theorem sizeCl (w : World) : (sizeOf (Tryd.prog.elem 28)).run Tryd.prog w = .ok 4 w := by kernel_rfl
theorem undCl : Tryd.prog.underlying 28 = some (.slice (Tryd.prog.elem 28)) := by rw [elemCl]; exact Tryd.underlying28

theorem cellCl_cut (cs : List Cl) (l k i : Nat) (hi : i < k * 4) (hk : l + k ≤ cs.length) : cellCl cs (l * 4 + i) = cellCl ((cs.drop l).take k) i := by
  unfold cellCl numCl
  have e1 : (l * 4 + i) % 4 = i % 4 := by omega
  have e2 : (l * 4 + i) / 4 = l + i / 4 := by omega
  have e3 : ((cs.drop l).take k).getD (i / 4) ⟨0, 0, 0, 0⟩ = cs.getD (l + i / 4) ⟨0, 0, 0, 0⟩ := by
    simp only [List.getD]
    rw [List.getElem?_take, if_pos (by omega), List.getElem?_drop]
  rw [e1, e2, e3]

/-- A part of a list of clues. -/
theorem Cls.cutAt {w : World} {B n : Nat} {A : Option Addr} {cs : List Cl} (h : Cls w B A n cs) (l hi m : Nat) (h1 : l ≤ hi) (h2 : hi ≤ n) (h3 : hi ≤ m) :
    ∃ A', sliced A l hi m 4 = .slice A' (hi - l) (m - l) ∧ Cls w B A' (hi - l) ((cs.drop l).take (hi - l)) ∧ (A ≠ none → A' ≠ none) := by
  have hlen := h.len
  refine ⟨if m = l then A else A.map (·.add (l * 4)), rfl, ⟨by rw [List.length_take, List.length_drop]; omega, fun hn => ?_⟩, fun e => by split <;> simpa using e⟩
  obtain ⟨b, off, e, hb, hc⟩ := h.2 (by omega)
  subst e
  rw [if_neg (by omega)]
  refine ⟨b, off + l * 4, by simp [Addr.add], hb, fun i hi' => ?_⟩
  have := hc (l * 4 + i) (by omega)
  rw [show off + l * 4 + i = off + (l * 4 + i) from by omega, this, cellCl_cut cs l (hi - l) i hi' (by omega)]

section
variable (A : Option Addr) (n c : Nat) (w : World)
theorem run_cut_h (k : Nat) (hk : k ≤ c) : (Instr.sliceAt 28 (.slice A n c) none (some (.int .i64 (k : Int))) none).run Tryd.prog w = .ok (sliced A 0 k c 4) w := by
  rw [run_sliceAt_slice _ _ _ _ _ _ undCl, run_slice_h w _ A n c undCl .i64 k (by omega) (by omega), sizeCl]
  simp [Result.andThen]
theorem run_cut_l (k : Nat) (hk : k ≤ n) : (Instr.sliceAt 28 (.slice A n c) (some (.int .i64 (k : Int))) none none).run Tryd.prog w = .ok (sliced A k n c 4) w := by
  rw [run_sliceAt_slice _ _ _ _ _ _ undCl, run_slice_l w _ A n c undCl .i64 k (by omega) (by omega), sizeCl]
  simp [Result.andThen]
theorem run_cut_lhm (l k : Nat) (hl : l ≤ k) (hk : k ≤ c) : (Instr.sliceAt 28 (.slice A n c) (some (.int .i64 (l : Int))) (some (.int .i64 (k : Int))) (some (.int .i64 (k : Int)))).run Tryd.prog w = .ok (sliced A l k k 4) w := by
  rw [run_sliceAt_slice _ _ _ _ _ _ undCl, run_slice_lhm w _ A n c undCl .i64 .i64 .i64 l k k (by omega) (by omega) (by omega) (by omega), sizeCl]
  simp [Result.andThen]
end

theorem wrap_ok {n : Int} (h0 : -1000000000000 ≤ n) (h1 : n ≤ 1000000000000) : IntKind.i64.wrap n = n := by
  rw [IntKind.wrap_i64]
  omega
theorem OwnICl.full {w : World} {base n : Nat} {v : Value} {xs : List Int} (h : OwnICl w base v n xs) : (v = .slice none 0 0 ∧ n = 0) ∨ ∃ g c, v = .slice (some ⟨g, 0, none⟩) n c ∧ base ≤ g ∧ g < w.heap.size ∧ n ≤ c ∧ c ≤ maxLen := by
  rcases h.1.2 with ⟨rfl, h0⟩ | ⟨g, cap, cur, rfl, hb, hg, hn, hm, _⟩
  · exact .inl ⟨rfl, h0⟩
  · refine .inr ⟨g, cap, rfl, hb, ?_, hn, hm⟩
    obtain ⟨hlt, _⟩ := Array.getElem?_eq_some_iff.1 hg
    exact hlt
/-- A LIST OF CLUES THAT THE CALL MADE. -/
def MadeCl (ds : List Cl) (w : World) (e : Ending) (w' : World) : Prop :=
  ∃ A c, e = .returned (.slice A ds.length c) ∧ ds.length ≤ c ∧ c ≤ maxLen ∧ OwnICl w' w.heap.size (.slice A ds.length c) ds.length (numsCl ds) ∧ Below w.heap.size w w'
theorem madeCl_of {ds : List Cl} {w w' : World} {v : Value} (h : OwnICl w' w.heap.size v ds.length (numsCl ds)) (hb : Below w.heap.size w w') : MadeCl ds w (.returned v) w' := by
  rcases h.full with ⟨rfl, h0⟩ | ⟨g, c, rfl, _, _, h1, h2⟩
  · rw [h0] at h
    exact ⟨none, 0, by rw [h0], by omega, by unfold maxLen; omega, by rw [h0]; exact h, hb⟩
  · exact ⟨_, _, rfl, h1, h2, h, hb⟩
def withoutL (cs : List Cl) (k : Nat) : List Cl := cs.take k ++ cs.drop (k + 1)
theorem withoutL_length {cs : List Cl} {k : Nat} (h : k < cs.length) : (withoutL cs k).length = cs.length - 1 := by
  unfold withoutL
  rw [List.length_append, List.length_take, List.length_drop]
  omega

set_option maxRecDepth 100000 in
/-- 'append(v, ds...)' onto a list of the call's own, ds whatever list (perhaps of no clue). -/
theorem wp_app_Cls {wr : World} {o : Oper} {a : Act} {K : Act → World → Prop} {Q : Exit → Act → World → Prop} (s x : Operand) (t : TypeId)
    (ho : o.op = .call { callee := .builtin .append, args := #[s, x], argTypes := #[t, t] }) (ht : Tryd.prog.underlying t = some (.slice 44))
    (base : Nat) (v : Value) (ms : List Cl) (hs : a.eval s = v) (hown : OwnICl wr base v ms.length (numsCl ms)) (A : Option Addr) (m c B : Nat) (ds : List Cl) (hx : a.eval x = .slice A m c) (hA : A ≠ none) (hr : Cls wr B A m ds)
    (hbase : base ≤ wr.heap.size) (hlen : ms.length + m < 1000000)
    (h : ∀ v' w', OwnICl w' base v' (ms ++ ds).length (numsCl (ms ++ ds)) → Below base wr w' → K (a.put o.dst v') w') :
    o.wp Tryd.prog a wr K Q := by
  obtain rfl := hr.len
  obtain ⟨i0, hi, hz0, hz1, hz2⟩ := info_parts infoCl
  obtain ⟨ad, rfl⟩ : ∃ ad, A = some ad := by cases A with | none => exact absurd rfl hA | some ad => exact ⟨ad, rfl⟩
  refine wp_append_own _ s x t ho base 44 i0 _ 4 32 ht hi hz0 hz1 hz2 rfl (by decide) v ms.length ((numsCl ms).map (Value.int .i64)) hs hown.1
    ad ds.length c ((numsCl ds).map (Value.int .i64)) hx (by rw [List.length_map, numsCl_length]) ?_ ?_ (by unfold maxLen; omega) (by omega) hbase ?_
  · intro j u hj
    rw [List.getElem?_map, numsCl_get] at hj
    by_cases hlt : j < ds.length * 4
    · rw [if_pos hlt] at hj
      simp at hj
      subst hj
      obtain ⟨b, off, had, _, hc⟩ := hr.2 (by omega)
      injection had with had
      subst had
      have := hc j hlt
      unfold Addr.add
      split
      · rename_i h0
        subst h0
        simpa [cellCl] using this
      · simpa [cellCl] using this
    · rw [if_neg hlt] at hj
      cases hj
  · intro u hu
    rw [List.mem_map] at hu
    obtain ⟨z, _, rfl⟩ := hu
    rfl
  · intro v' w' h1 h2 _
    refine h v' w' ⟨?_, by rw [numsCl_length]⟩ ?_
    · rw [numsCl_append, List.length_append, List.map_append]
      exact h1
    · refine ((Below.refl base wr).grown h2 hbase ?_)
      intro k hk
      exact (World.ownsRow.lt hown.1 k hk).1
theorem step_app_Cls {wr : World} {ops : Array Oper} {o : Oper} {a : Act} {K : Act → World → Prop} {Q : Exit → Act → World → Prop} {E : Prop} (hgd : o.guard = none) (s x : Operand) (t : TypeId)
    (ho : o.op = .call { callee := .builtin .append, args := #[s, x], argTypes := #[t, t] }) (ht : Tryd.prog.underlying t = some (.slice 44))
    (base : Nat) (v : Value) (ms : List Cl) (hs : a.eval s = v) (hown : OwnICl wr base v ms.length (numsCl ms)) (A : Option Addr) (m c B : Nat) (ds : List Cl) (hx : a.eval x = .slice A m c) (hA : A ≠ none) (hr : Cls wr B A m ds)
    (hbase : base ≤ wr.heap.size) (hlen : ms.length + m < 1000000)
    (h : ∀ v' w', OwnICl w' base v' (ms ++ ds).length (numsCl (ms ++ ds)) → Below base wr w' → K (a.put o.dst v') w') :
    if Region.wanted o (yielded ops a.tmps) = true then Oper.wp Tryd.prog o a wr K Q else E := by
  rw [if_pos (by simp [Region.wanted, hgd])]
  exact wp_app_Cls s x t ho ht base v ms hs hown A m c B ds hx hA hr hbase hlen h
theorem wpList_app_Cls {wr : World} {ops : Array Oper} {rest : List Oper} {o : Oper} {a : Act} {Q : Exit → Act → World → Prop} (hgd : o.guard = none) (s x : Operand) (t : TypeId)
    (ho : o.op = .call { callee := .builtin .append, args := #[s, x], argTypes := #[t, t] }) (ht : Tryd.prog.underlying t = some (.slice 44))
    (base : Nat) (v : Value) (ms : List Cl) (hs : a.eval s = v) (hown : OwnICl wr base v ms.length (numsCl ms)) (A : Option Addr) (m c B : Nat) (ds : List Cl) (hx : a.eval x = .slice A m c) (hA : A ≠ none) (hr : Cls wr B A m ds)
    (hbase : base ≤ wr.heap.size) (hlen : ms.length + m < 1000000)
    (h : ∀ v' w', OwnICl w' base v' (ms ++ ds).length (numsCl (ms ++ ds)) → Below base wr w' → wpList Tryd.prog ops Q rest (a.put o.dst v') w') : wpList Tryd.prog ops Q (o :: rest) a wr :=
  wpList_plain hgd fun _ hK => wp_app_Cls s x t ho ht base v ms hs hown A m c B ds hx hA hr hbase hlen fun v' w' h1 h2 => hK _ _ (h v' w' h1 h2)
theorem OwnICl.empty (w : World) : OwnICl (w.alloc (.cells #[] 44)) w.heap.size (.slice (some ⟨w.heap.size, 0, none⟩) 0 0) 0 (numsCl []) :=
  ⟨World.ownsRow_lit w #[] 0 (Nat.le_refl _) (Nat.zero_le _) (by simp [numsCl]), rfl⟩

end Go.Proofs.YtmjlfmlbmegheaaDoor
