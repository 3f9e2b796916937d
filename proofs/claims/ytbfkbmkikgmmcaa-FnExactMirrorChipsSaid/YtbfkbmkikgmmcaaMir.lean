
/-
  A CIRCLE TOLD FROM THE LAST ONE ON, BOTH WAYS: slices.Reverse, the model's cyMirror, MirrorCircle.
-/
import Derived.Test.YtbfkbmkikgmmcaaCyB
import Derived.Test.YtbfkbmkikgmmcaaShelf
import Derived.Sort.OwnSortedInts
namespace Go.Proofs.Ytbfkbmkikgmmcaa
open Go.RowKit Go.Deep Go.Sort

theorem Own.rowOf {w : World} {base g n c : Nat} {e : TypeId} {zs : List Int} (h : Own w base e (.slice (some ⟨g, 0, none⟩) n c) zs) :
    n = zs.length ∧ ∃ cur, base ≤ g ∧ w.heap[g]? = some (.cells cur e (0, 0)) ∧ zs.length ≤ c ∧ c ≤ maxLen ∧ cur.size = c * 1 ∧ cur.toList.take zs.length = zs.map (Value.int .i64) := by
  rcases h.2 with ⟨h1, _⟩ | ⟨g', c', cur, h1, hb, hg, hn, hm, hs, ht⟩
  · cases h1
  · cases h1
    exact ⟨rfl, cur, hb, hg, hn, hm, hs, by simpa using ht⟩

/-- WHAT slices.Reverse LEAVES of a list of the call's own. -/
def Reversed (base g n c : Nat) (zs : List Int) (w : World) (e : Ending) (w' : World) : Prop :=
  e = .returned (.tuple #[]) ∧ Own w' base 3 (.slice (some ⟨g, 0, none⟩) n c) zs.reverse ∧ Below base w w' ∧ g < w'.heap.size ∧ ∀ h, h < w.heap.size → h ≠ g → w'.heap[h]? = w.heap[h]?

theorem Reverse_any (base g n c : Nat) (zs : List Int) (w : World) (hown : Own w base 3 (.slice (some ⟨g, 0, none⟩) n c) zs) (hn : n ≤ 1000000) :
    Calls Try.prog 40 #[.slice (some ⟨g, 0, none⟩) n c] w (Reversed base g n c zs w) := by
  obtain ⟨rfl, cur, hb, hg, hnc, hm, hs, ht⟩ := hown.rowOf
  have hlt : g < w.heap.size := (Array.getElem?_eq_some_iff.1 hg).1
  refine (Try.slices_Reverse_int g 0 c zs w (holds_of_blockI hg ht) (by omega)).mono ?_
  rintro e w' ⟨rfl, k, rfl⟩
  have h1 := ownsRow_sortedI (n := k) (os := #[]) (ss := zs) (ts := zs.reverse) (by simp) hb hg hnc hm hs
  have h2 := grownBy_sortedI (w := w) (g := g) (n := k) (os := #[]) zs.reverse.toArray
  rw [grow_empty] at h1 h2
  refine ⟨rfl, ?_, ⟨h2.os, h2.tape, h2.output, h2.size, fun i hi => h2.block i (by omega) (fun e => by injection e with e; omega)⟩, Nat.lt_of_lt_of_le hlt h2.size, fun h hh hne => h2.block h hh (fun e => hne (by injection e))⟩
  unfold Own
  rw [List.length_reverse]
  exact h1

/-- What MirrorCircle tells. -/
def mirR (zs : List Int) : List Int := if cgood zs then zs.reverse else []
theorem mirR_short (zs : List Int) (h : zs.length ≤ 1048576) : (mirR zs).length ≤ 1048576 := by
  unfold mirR; split
  · rw [List.length_reverse]; exact h
  · simp
theorem rev_take (zs : List Int) (j : Nat) (h : j < zs.length) : zs.reverse.take (zs.length - j) = zs.reverse.take (zs.length - (j + 1)) ++ [zs[j]] := by
  have e : zs.length - j = zs.length - (j + 1) + 1 := by omega
  rw [e, List.take_succ_eq_append_getElem (by rw [List.length_reverse]; omega)]
  congr 2
  rw [List.getElem_reverse]
  congr 1
  omega

end Go.Proofs.Ytbfkbmkikgmmcaa
