
/-
  THE WAYS AROUND, THE PROGRAM's: waysAround, withLeastZero.
-/
import Derived.Test.YtolhplakpemadaaRbQ
import Derived.Test.YtolhplakpemadaaOwnPs
import Derived.Test.YtolhplakpemadaaAppF
import Derived.Test.YtolhplakpemadaaBase
import Derived.StillTailTactics
namespace Go.Proofs.Ytolhplakpemadaa
open Go.RowKit Go.Deep
set_option linter.unusedVariables false

/-- What the doubling of one way adds. -/
def farther (k : Nat) (d : Int) (way : List Int) : List (List Int) := (way ++ [way.getD k 0 + d]) :: if d > 0 then [way ++ [way.getD k 0 - d]] else []
theorem waysL_step (zs : List Int) (k : Nat) : waysL zs (k + 1) = (waysL zs k).flatMap (farther k (zs.getD k 0)) := rfl
theorem flatMap_take {α β : Type} (f : α → List β) (l : List α) (i : Nat) (h : i < l.length) : (l.take (i + 1)).flatMap f = (l.take i).flatMap f ++ f l[i] := by
  rw [List.take_succ_eq_append_getElem h, List.flatMap_append]; simp
theorem first_way (w : World) (t u : TypeId) (hu : u = 22) (ht : t = 3) :
    OwnPs ((w.alloc (.cells #[.int .i64 0] t)).alloc (.cells #[.slice (some ⟨w.heap.size, 0, none⟩) 1 1] u)) w.heap.size (.slice (some ⟨w.heap.size + 1, 0, none⟩) 1 1) [(.slice (some ⟨w.heap.size, 0, none⟩) 1 1, [0])] := by
  subst hu; subst ht
  have h0 : ((w.alloc (.cells #[.int .i64 0] 3)).alloc (.cells #[.slice (some ⟨w.heap.size, 0, none⟩) 1 1] 22)).heap[w.heap.size]? = some (.cells #[.int .i64 0] 3 (0, 0)) := by
    show ((w.heap.push _).push _)[w.heap.size]? = _
    rw [Array.getElem?_push, if_neg (by rw [Array.size_push]; omega), Array.getElem?_push, if_pos rfl]
  have h1 : ((w.alloc (.cells #[.int .i64 0] 3)).alloc (.cells #[.slice (some ⟨w.heap.size, 0, none⟩) 1 1] 22)).heap[w.heap.size + 1]? = some (.cells #[.slice (some ⟨w.heap.size, 0, none⟩) 1 1] 22 (0, 0)) := by
    show ((w.heap.push _).push _)[w.heap.size + 1]? = _
    rw [Array.getElem?_push, if_pos (by rw [Array.size_push])]
  refine ⟨⟨by simp, .inr ⟨_, 1, _, rfl, by omega, h1, by simp, by unfold maxLen; omega, by simp, by simp⟩⟩, fun x hx => ?_, List.pairwise_singleton _ _⟩
  rw [List.mem_singleton] at hx
  subst hx
  refine ⟨⟨by simp, .inr ⟨_, 1, _, rfl, Nat.le_refl _, h0, by simp, by unfold maxLen; omega, by simp, by simp⟩⟩, fun b hb hv => ?_⟩
  simp [Value.ownBlock] at hb hv
  omega
theorem OwnPs.at_ {w : World} {base : Nat} {A : Option Addr} {n c : Nat} {L : List (Value × List Int)} (h : OwnPs w base (.slice A n c) L) {i : Nat} (hi : i < L.length) :
    ∃ ad, A = some ad ∧ w.cell? (ad.add i) = some L[i].1 ∧ ∃ g c', L[i].1 = .slice g L[i].2.length c' ∧ L[i].2.length ≤ c' ∧ Ints w w.heap.size g L[i].2.length L[i].2 := by
  have hv := h.toVs
  obtain ⟨ad, e, _, hc⟩ := hv.vals.at_ (k := i) (by simpa using hi)
  rw [getD_map _ _ _ _ hi] at hc
  have ho := (h.2.1 _ (List.getElem_mem hi)).1
  obtain ⟨g, c', e', h1, _⟩ := ho.shape
  refine ⟨ad, e, hc, g, c', e', h1, ?_⟩
  rw [e'] at ho
  exact ho.ints
theorem OwnPs.shape {w : World} {base : Nat} {v : Value} {L : List (Value × List Int)} (h : OwnPs w base v L) : ∃ A c, v = .slice A L.length c ∧ L.length ≤ c ∧ c ≤ maxLen := by
  have := h.toVs.shape
  simpa using this
theorem OwnPs.vblk {w : World} {base : Nat} {v : Value} {L : List (Value × List Int)} (h : OwnPs w base v L) : ∀ b, v.ownBlock = some b → base ≤ b ∧ b < w.heap.size := fun b hb => by
  rcases h.1.2 with ⟨h2, _⟩ | ⟨g, cap, cur, hv, hb', hg, r⟩
  · rw [h2] at hb; cases hb
  · obtain ⟨hlt, _⟩ := Array.getElem?_eq_some_iff.1 hg
    rw [hv] at hb
    have : g = b := by simpa [Value.ownBlock] using hb
    subst this
    exact ⟨hb', hlt⟩
theorem OwnPs.less {w : World} {base base' : Nat} {v : Value} {L : List (Value × List Int)} (h : OwnPs w base v L) (hb : base' ≤ base) : OwnPs w base' v L := by
  refine ⟨⟨h.1.1, ?_⟩, fun x hx => ⟨(h.2.1 x hx).1.less hb, (h.2.1 x hx).2⟩, h.2.2⟩
  rcases h.1.2 with h2 | ⟨g, cap, cur, hv, hb', r⟩
  · exact .inl h2
  · exact .inr ⟨g, cap, cur, hv, by omega, r⟩

theorem Ints.cellAt {w : World} {B n k : Nat} {ad : Addr} {zs : List Int} (h : Ints w B (some ad) n zs) (hk : k < n) : w.cell? (ad.add k) = some (.int .i64 (zs.getD k 0)) := by
  have hl := h.len
  obtain ⟨ad', e, _, hc⟩ := h.at_ (k := k) (by omega)
  injection e with e
  subst e
  exact hc
theorem apart_old {w w' : World} {base : Nat} {t u : TypeId} {y p : Value × List Int} (hy : Own w base t y.1 y.2) (hp : Own w' w.heap.size u p.1 p.2) : apart y p := fun b hb hb' => by
  have := (hy.blk hb).2
  have := (hp.blk hb').1
  omega
theorem block_old {w w' : World} {base : Nat} {u : TypeId} {v : Value} {L : List (Value × List Int)} {p : Value × List Int} (h : OwnPs w base v L) (hp : Own w' w.heap.size u p.1 p.2) : ∀ b, p.1.ownBlock = some b → v.ownBlock ≠ some b := fun b hb hb' => by
  have := (h.vblk b hb').2
  have := (hp.blk hb).1
  omega

end Go.Proofs.Ytolhplakpemadaa
