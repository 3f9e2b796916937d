
/-
  A STRUCT OF TWO NUMBERS (what is told of both parts) PUT BEHIND A LIST OF THE CALL's OWN, as one step of a region that draws.
-/
import Derived.Test.YtkipalcmeemjbaaBpM
import Derived.Deep.RegionLaw
namespace Go.Proofs.Ytkipalcmeemjbaa
open Go.RowKit Go.Deep
set_option linter.unusedVariables false

/-- 'out = append(out, d)' onto a list of the call's own: d lies in a new block. -/
theorem step_app_Bp {wr : World} {ops : Array Oper} {o : Oper} {a : Act} {K : Act → World → Prop} {Q : Exit → Act → World → Prop} {E : Prop} (hgd : o.guard = none) (s x : Operand) (t : TypeId)
    (ho : o.op = .call { callee := .builtin .append, args := #[s, x], argTypes := #[t, t] }) (ht : Try.prog.underlying t = some (.slice 39))
    (base : Nat) (v : Value) (ms : List Bp) (hs : a.eval s = v) (hown : OwnIBp wr base v ms.length (numsBp ms)) (d : Bp) (c : Nat) (hx : a.eval x = .slice (some ⟨wr.heap.size, 0, none⟩) 1 c)
    (hbase : base ≤ wr.heap.size) (hlen : ms.length < 1000000)
    (h : ∀ v' w', OwnIBp w' base v' (ms ++ [d]).length (numsBp (ms ++ [d])) → Below base wr w' → K (a.put o.dst v') w') :
    if Region.wanted o (yielded ops a.tmps) = true then Oper.wp Try.prog o a (wr.alloc (.cells #[.int .i64 d.x0, .int .i64 d.x1] 39)) K Q else E := by
  rw [if_pos (by simp [Region.wanted, hgd])]
  obtain ⟨i0, hi, hz0, hz1, hz2⟩ := info_parts infoBp
  refine wp_append_own _ s x t ho base 39 i0 (.agg #[.int .i64 0, .int .i64 0]) 2 16 ht hi hz0 hz1 hz2 rfl (by decide) v ms.length ((numsBp ms).map (Value.int .i64)) hs ((hown.keep fun _ _ hg => Below.heap_alloc _ _ _ hg).1)
    ⟨wr.heap.size, 0, none⟩ 1 c [.int .i64 d.x0, .int .i64 d.x1] hx rfl ?_ ?_ (by unfold maxLen; omega) (by omega) (by simp; omega) ?_
  · intro j u hj
    match j, hj with
    | 0, hj => simp at hj; subst hj; rw [add_head]; simp
    | 1, hj => simp at hj; subst hj; rw [add_head]; simp
  · intro u hu; simp at hu; rcases hu with rfl | rfl <;> rfl
  · intro v' w' h1 h2 _
    refine h v' w' ⟨?_, ?_⟩ ?_
    · rw [numsBp_append, List.length_append, List.map_append, show numsBp [d] = [d.x0, d.x1] from by rw [numsBp_cons]; rfl]
      exact h1
    · rw [numsBp_length]
    · refine (((Below.refl base wr).alloc hbase _).grown h2 (by simp; omega) ?_)
      intro k hk
      exact (World.ownsRow.lt hown.1 k hk).1

end Go.Proofs.Ytkipalcmeemjbaa
