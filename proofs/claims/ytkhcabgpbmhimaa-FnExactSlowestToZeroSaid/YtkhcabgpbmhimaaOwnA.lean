
/-
  THE MODEL's l1Own OF WHATEVER LIST.
-/
import Derived.Test.YtkhcabgpbmhimaaSums
import Derived.Test.YtkhcabgpbmhimaaCopy
import Derived.Test.YtkhcabgpbmhimaaApp
import Derived.Laws.AppendOwnNone
namespace Go.Proofs.Ytkhcabgpbmhimaa
open Go.RowKit Go.Deep
set_option linter.unusedVariables false

section
variable {P : Program}
theorem wpList_app_none {wr : World} {ops : Array Oper} {rest : List Oper} {o : Oper} {a : Act} {Q : Exit → Act → World → Prop} (hgd : o.guard = none) (s x : Operand) (t e : TypeId)
    (ho : o.op = .call { callee := .builtin .append, args := #[s, x], argTypes := #[t, t] }) (ht : P.underlying t = some (.slice e))
    (hinfo : (P.info? e).map (fun i => (i.zero, i.size, i.bytes)) = some (some (.int .i64 0), 1, 8))
    (base : Nat) (v : Value) (zs : List Int) (hs : a.eval s = v) (hown : Own wr base e v zs) (hx : a.eval x = .slice none 0 0)
    (h : wpList P ops Q rest (a.put o.dst v) wr) : wpList P ops Q (o :: rest) a wr := by
  obtain ⟨i0, hi, hz0, hz1, hz2⟩ := info_parts hinfo
  exact wpList_append_own_none hgd s x t ho base e i0 1 ht hi v zs.length (zs.map (Value.int .i64)) hs hown hx h
end

/-- What a call gives: a list of its own. -/
def OwnR (zs : List Int) (w : World) (e : Ending) (w' : World) : Prop := ∃ v, e = .returned v ∧ Own w' w.heap.size 3 v zs ∧ Below w.heap.size w w'
theorem own_empty (w : World) (t : TypeId) : Own (w.alloc (.cells #[] t)) w.heap.size t (.slice (some ⟨w.heap.size, 0, none⟩) 0 0) [] := by
  have := World.ownsRow_lit (e := t) (size := 1) w #[] 0 (Nat.le_refl _) (Nat.zero_le _) (by simp)
  unfold Own
  exact this

/-- The model's l1Own, of whatever list. -/
theorem l1Own_all (A : Option Addr) (n c B : Nat) (zs : List Int) (w : World) (hr : Ints w B A n zs) (hB : B ≤ w.heap.size) (hn : n < 1000000) (hA : A = none → n = 0 ∧ c = 0) :
    Calls Try.prog 14 #[.slice A n c] w (OwnR zs w) := by
  have ho := own_empty w 3
  have hb : Below w.heap.size w (w.alloc (.cells #[] 3)) := (Below.refl _ _).alloc (Nat.le_refl _) _
  cases A with
  | none =>
    obtain ⟨rfl, rfl⟩ := hA rfl
    obtain rfl : zs = [] := List.eq_nil_of_length_eq_zero hr.len
    go_enter Try.func14, Try.ntmps14
    go_wp2_with (at_builtin; refine wpList_app_none rfl _ _ 22 3 rfl Try.underlying22 infoInt w.heap.size _ [] rfl ho rfl ?_)
    go_ret
    exact ⟨_, rfl, ho, hb⟩
  | some ad =>
    go_enter Try.func14, Try.ntmps14
    go_wp2_with (at_builtin; refine wpList_app_ints rfl _ _ 22 3 rfl Try.underlying22 infoInt w.heap.size _ [] rfl ho ad n c B zs rfl (hr.alloc hB _) (by simp) (by simp; omega) ?_; intro v' w' hown' hb')
    go_ret
    exact ⟨_, rfl, hown', hb.trans hb'⟩

end Go.Proofs.Ytkhcabgpbmhimaa
