
/-
  COPIES OF A LIST BY append([]int{}, l...): the model's l1Own, slices.Clone. And 'append(l, 0)' onto a list of the call's own, a constant laid.
-/
import Derived.Test.YtnakkmmmkbjfbaaBase
import Derived.Test.YtnakkmmmkbjfbaaOwn
import Derived.WalkSpells
namespace Go.Proofs.Ytnakkmmmkbjfbaa
open Go.RowKit Go.Deep

section
variable {P : Program}
/-- 'append([]int{}, l...)', l not empty. -/
theorem wpList_app_list {wr : World} {ops : Array Oper} {rest : List Oper} {o : Oper} {a : Act} {Q : Exit → Act → World → Prop} (hgd : o.guard = none) (s x : Operand) (t e : TypeId)
    (ho : o.op = .call { callee := .builtin .append, args := #[s, x], argTypes := #[t, t] }) (ht : P.underlying t = some (.slice e))
    (hinfo : (P.info? e).map (fun i => (i.zero, i.size, i.bytes)) = some (some (.int .i64 0), 1, 8))
    (hs : a.eval s = .slice (some ⟨wr.heap.size, 0, none⟩) 0 0) (ad : Addr) (m c B : Nat) (zs : List Int) (hx : a.eval x = .slice (some ad) m c) (hr : Ints wr B (some ad) m zs) (hB : B ≤ wr.heap.size)
    (hlen : m < 10000000)
    (h : ∀ v' w', Own w' wr.heap.size e v' zs → Below wr.heap.size wr w' → wpList P ops Q rest (a.put o.dst v') w') :
    wpList P ops Q (o :: rest) a (wr.alloc (.cells #[] e)) := by
  obtain rfl := hr.len
  obtain ⟨i0, hi, hz0, hz1, hz2⟩ := info_parts hinfo
  have hown : (wr.alloc (.cells #[] e)).ownsRow wr.heap.size e 1 (.slice (some ⟨wr.heap.size, 0, none⟩) 0 0) 0 [] :=
    World.ownsRow_lit wr #[] 0 (Nat.le_refl _) (Nat.zero_le _) (by simp)
  refine wpList_append_own _ hgd s x t ho wr.heap.size e i0 (.int .i64 0) 1 8 ht hi hz0 hz1 hz2 rfl (by decide) _ 0 [] hs hown
    ad zs.length c (zs.map (Value.int .i64)) hx (by simp) ?_ ?_ (by unfold maxLen; omega) (by omega) (by simp) ?_
  · intro j u hj
    rw [List.getElem?_map] at hj
    have hlt : j < zs.length := by
      rcases Nat.lt_or_ge j zs.length with h1 | h1
      · exact h1
      · rw [List.getElem?_eq_none h1] at hj; cases hj
    rw [List.getElem?_eq_getElem hlt] at hj
    simp at hj
    subst hj
    obtain ⟨ad', had, _, hc⟩ := (hr.alloc hB (.cells #[] e)).at_ hlt
    obtain rfl : ad' = ad := by injection had with h; exact h.symm
    rw [hc]
    simp [List.getD, List.getElem?_eq_getElem hlt]
  · intro u hu
    rw [List.mem_map] at hu
    obtain ⟨z, _, rfl⟩ := hu
    rfl
  · intro v' w' h1 h2 _
    refine h v' w' (by simpa [Own] using h1) ?_
    refine (((Below.refl wr.heap.size wr).alloc (Nat.le_refl _) _).grown h2 (by simp) ?_)
    intro k hk
    exact (World.ownsRow.lt hown k hk).1
end

/-- WHAT A COPY LEAVES. -/
def Made1 (zs : List Int) (w : World) (e : Ending) (w' : World) : Prop :=
  ∃ g c, e = .returned (.slice (some ⟨g, 0, none⟩) zs.length c) ∧ w.heap.size ≤ g ∧ g < w'.heap.size ∧ zs.length ≤ c ∧ c ≤ maxLen ∧ Own w' w.heap.size 3 (.slice (some ⟨g, 0, none⟩) zs.length c) zs ∧ Below w.heap.size w w'

theorem made1_of {zs : List Int} {w w' : World} {v : Value} (h0 : 0 < zs.length) (hown : Own w' w.heap.size 3 v zs) (hb : Below w.heap.size w w') : Made1 zs w (.returned v) w' := by
  rcases hown.form with ⟨_, rfl⟩ | ⟨g, c, rfl, h1, h2, h3, h4⟩
  · simp at h0
  · exact ⟨g, c, rfl, h1, h2, h3, h4, hown, hb⟩

/-- The model's l1Own. -/
theorem l1Own_any (A : Option Addr) (n c B : Nat) (zs : List Int) (w : World) (hr : Ints w B A n zs) (hB : B ≤ w.heap.size) (h0 : 0 < n) (hn : n < 1000000) :
    Calls Try.prog 23 #[.slice A n c] w (Made1 zs w) := by
  obtain rfl := hr.len
  obtain ⟨ad, rfl, hab, _⟩ := hr.at_ h0
  go_enter Try.func23, Try.ntmps23
  go_wp2_with (at_builtin; refine wpList_app_list rfl _ _ 22 3 rfl Try.underlying22 infoInt rfl ad _ _ B zs rfl hr hB (by omega) ?_; intro v' w' hown' hb')
  go_ret
  exact made1_of h0 hown' hb'

end Go.Proofs.Ytnakkmmmkbjfbaa
