
/-
  'append(v, l...)' onto a list of the call's own, l whatever list (perhaps of no number). No program is named here.
-/
import Derived.Test.YtkhcabgpbmhimaaOwn
import Derived.Deep.RegionLaw
namespace Go.Proofs.Ytkhcabgpbmhimaa
open Go.RowKit Go.Deep

section
variable {P : Program}
theorem wpList_app_ints {wr : World} {ops : Array Oper} {rest : List Oper} {o : Oper} {a : Act} {Q : Exit → Act → World → Prop} (hgd : o.guard = none) (s x : Operand) (t e : TypeId)
    (ho : o.op = .call { callee := .builtin .append, args := #[s, x], argTypes := #[t, t] }) (ht : P.underlying t = some (.slice e))
    (hinfo : (P.info? e).map (fun i => (i.zero, i.size, i.bytes)) = some (some (.int .i64 0), 1, 8))
    (base : Nat) (v : Value) (zs : List Int) (hs : a.eval s = v) (hown : Own wr base e v zs) (ad : Addr) (m c B : Nat) (ys : List Int) (hx : a.eval x = .slice (some ad) m c) (hr : Ints wr B (some ad) m ys)
    (hbase : base ≤ wr.heap.size) (hlen : zs.length + m < 1000000)
    (h : ∀ v' w', Own w' base e v' (zs ++ ys) → Below base wr w' → wpList P ops Q rest (a.put o.dst v') w') :
    wpList P ops Q (o :: rest) a wr := by
  obtain rfl := hr.len
  obtain ⟨i0, hi, hz0, hz1, hz2⟩ := info_parts hinfo
  refine wpList_append_own _ hgd s x t ho base e i0 (.int .i64 0) 1 8 ht hi hz0 hz1 hz2 rfl (by decide) v zs.length (zs.map (Value.int .i64)) hs hown
    ad ys.length c (ys.map (Value.int .i64)) hx (by simp) ?_ ?_ (by unfold maxLen; omega) (by omega) hbase ?_
  · intro j u hj
    rw [List.getElem?_map] at hj
    have hlt : j < ys.length := by
      rcases Nat.lt_or_ge j ys.length with h1 | h1
      · exact h1
      · rw [List.getElem?_eq_none h1] at hj; cases hj
    rw [List.getElem?_eq_getElem hlt] at hj
    simp at hj
    subst hj
    obtain ⟨ad', had, _, hc⟩ := hr.at_ hlt
    obtain rfl : ad' = ad := by injection had with h; exact h.symm
    rw [hc]
    simp [List.getD, List.getElem?_eq_getElem hlt]
  · intro u hu
    rw [List.mem_map] at hu
    obtain ⟨z, _, rfl⟩ := hu
    rfl
  · intro v' w' h1 h2 _
    refine h v' w' (by simpa [Own] using h1) ?_
    refine ((Below.refl base wr).grown h2 hbase ?_)
    intro k hk
    exact (World.ownsRow.lt hown k hk).1
theorem step_app_ints {wr : World} {ops : Array Oper} {o : Oper} {a : Act} {K : Act → World → Prop} {Q : Exit → Act → World → Prop} {E : Prop} (hgd : o.guard = none) (s x : Operand) (t e : TypeId)
    (ho : o.op = .call { callee := .builtin .append, args := #[s, x], argTypes := #[t, t] }) (ht : P.underlying t = some (.slice e))
    (hinfo : (P.info? e).map (fun i => (i.zero, i.size, i.bytes)) = some (some (.int .i64 0), 1, 8))
    (base : Nat) (v : Value) (zs : List Int) (hs : a.eval s = v) (hown : Own wr base e v zs) (ad : Addr) (m c B : Nat) (ys : List Int) (hx : a.eval x = .slice (some ad) m c) (hr : Ints wr B (some ad) m ys)
    (hbase : base ≤ wr.heap.size) (hlen : zs.length + m < 1000000)
    (h : ∀ v' w', Own w' base e v' (zs ++ ys) → Below base wr w' → K (a.put o.dst v') w') :
    if Region.wanted o (yielded ops a.tmps) = true then Oper.wp P o a wr K Q else E := by
  rw [if_pos (by simp [Region.wanted, hgd])]
  obtain rfl := hr.len
  obtain ⟨i0, hi, hz0, hz1, hz2⟩ := info_parts hinfo
  refine wp_append_own _ s x t ho base e i0 (.int .i64 0) 1 8 ht hi hz0 hz1 hz2 rfl (by decide) v zs.length (zs.map (Value.int .i64)) hs hown
    ad ys.length c (ys.map (Value.int .i64)) hx (by simp) ?_ ?_ (by unfold maxLen; omega) (by omega) hbase ?_
  · intro j u hj
    rw [List.getElem?_map] at hj
    have hlt : j < ys.length := by
      rcases Nat.lt_or_ge j ys.length with h1 | h1
      · exact h1
      · rw [List.getElem?_eq_none h1] at hj; cases hj
    rw [List.getElem?_eq_getElem hlt] at hj
    simp at hj
    subst hj
    obtain ⟨ad', had, _, hc⟩ := hr.at_ hlt
    obtain rfl : ad' = ad := by injection had with h; exact h.symm
    rw [hc]
    simp [List.getD, List.getElem?_eq_getElem hlt]
  · intro u hu
    rw [List.mem_map] at hu
    obtain ⟨z, _, rfl⟩ := hu
    rfl
  · intro v' w' h1 h2 _
    refine h v' w' (by simpa [Own] using h1) ?_
    refine ((Below.refl base wr).grown h2 hbase ?_)
    intro k hk
    exact (World.ownsRow.lt hown k hk).1
end
theorem addr_add_add (a : Addr) (i k : Nat) : (a.add i).add k = a.add (i + k) := by
  unfold Addr.add
  by_cases hi : i = 0
  · subst hi; simp
  · by_cases hk : k = 0
    · subst hk; simp
    · simp [hi, hk, Nat.add_assoc]
/-- A part of a list that is read: the numbers from i on. -/
theorem Ints.dropAt {w : World} {B n i : Nat} {ad : Addr} {zs : List Int} (h : Ints w B (some ad) n zs) (hi : i ≤ n) : Ints w B (some (ad.add i)) (n - i) (zs.drop i) := by
  refine ⟨by rw [List.length_drop, h.len], fun hn => ?_⟩
  obtain ⟨ad', e, hb, hc⟩ := h.2 (by omega)
  obtain rfl : ad' = ad := by injection e with e; exact e.symm
  refine ⟨_, rfl, by rw [block_of_add]; exact hb, fun k hk => ?_⟩
  have := hc (i + k) (by omega)
  rw [addr_add_add, this]
  simp [List.getD]
theorem Ints.takeAt {w : World} {B n i : Nat} {A : Option Addr} {zs : List Int} (h : Ints w B A n zs) (hi : i ≤ n) : Ints w B A i (zs.take i) := by
  refine ⟨by rw [List.length_take, h.len]; omega, fun hn => ?_⟩
  obtain ⟨ad', e, hb, hc⟩ := h.2 (by omega)
  refine ⟨_, e, hb, fun k hk => ?_⟩
  rw [hc k (by omega)]
  simp [List.getD, hk]
end Go.Proofs.Ytkhcabgpbmhimaa
