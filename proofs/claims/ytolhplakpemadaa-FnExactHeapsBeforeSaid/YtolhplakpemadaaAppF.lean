
/-
  'append(l, x)', l a list that is as long as its room: it is copied. No program is named here.
-/
import Derived.Test.YtolhplakpemadaaOwn
import Derived.Deep.RegionLaw
namespace Go.Proofs.Ytolhplakpemadaa
open Go.RowKit Go.Deep

section
variable {P : Program}
/-- 'append(l, x)', l a list that is as long as its room: it is copied. -/
theorem wpList_app_fullF {wr : World} {ops : Array Oper} {rest : List Oper} {o : Oper} {a : Act} {Q : Exit → Act → World → Prop} (hgd : o.guard = none) (s x : Operand) (t e : TypeId)
    (ho : o.op = .call { callee := .builtin .append, args := #[s, x], argTypes := #[t, t] }) (ht : P.underlying t = some (.slice e))
    (hinfo : (P.info? e).map (fun i => (i.zero, i.size, i.bytes)) = some (some (.int .i64 0), 1, 8))
    (A : Option Addr) (m B : Nat) (zs : List Int) (hs : a.eval s = .slice A m m) (hr : Ints wr B A m zs) (hB : B ≤ wr.heap.size) (h0 : 0 < m) (n : Int) (c : Nat) (hx : a.eval x = .slice (some ⟨wr.heap.size, 0, none⟩) 1 c)
    (hlen : m < 1000000)
    (h : ∀ v' w', Own w' wr.heap.size e v' (zs ++ [n]) → Below wr.heap.size wr w' → wpList P ops Q rest (a.put o.dst v') w') :
    wpList P ops Q (o :: rest) a (wr.alloc (.cells #[.int .i64 n] e)) := by
  obtain ⟨i0, hi, hz0, hz1, hz2⟩ := info_parts hinfo
  obtain rfl := hr.len
  obtain ⟨ad, rfl, hab, _⟩ := hr.at_ h0
  have hra := hr.alloc hB (.cells #[.int .i64 n] e)
  refine wpList_append_grows _ hgd s x t ho e i0 (.int .i64 0) 1 8 ht hi hz0 hz1 hz2 rfl (by decide) (some ad) zs.length zs.length (zs.map (Value.int .i64)) hs (by simp) (by simp) ?_
    ⟨wr.heap.size, 0, none⟩ 1 c [.int .i64 n] hx rfl ?_ ?_ (by omega) (by unfold maxLen; omega) (by omega) ?_
  · intro b hb j u hj
    injection hb with hb
    subst hb
    rw [List.getElem?_map] at hj
    obtain ⟨z, hz, rfl⟩ := Option.map_eq_some_iff.1 hj
    obtain ⟨hlt, rfl⟩ := List.getElem?_eq_some_iff.1 hz
    obtain ⟨ad', had, _, hc⟩ := hra.at_ hlt
    obtain rfl : ad' = ad := by injection had with h; exact h.symm
    rw [hc]
    simp [List.getD, List.getElem?_eq_getElem hlt]
  · intro j u hj
    match j, hj with
    | 0, hj => simp at hj; subst hj; simp [Addr.add]
  · intro u hu; simp at hu; subst hu; rfl
  · intro v' w' h1 h2
    have h3 : Own w' (wr.alloc (.cells #[.int .i64 n] e)).heap.size e v' (zs ++ [n]) := by simpa [Own] using h1
    refine h v' w' (h3.less (by simp)) ?_
    exact (((Below.refl wr.heap.size wr).alloc (Nat.le_refl _) _).grown h2 (by simp) (by simp))
end
end Go.Proofs.Ytolhplakpemadaa
