
/-
  THE LAWS' OWN HELPERS THAT WRITE MARKS INTO A LIST AND LOOK FOR THEM: markIntS, heldIntS.
-/
import Derived.Test.YtaplnbjljgeakaaLaws0
import Derived.Test.YtaplnbjljgeakaaOwn
namespace Go.Proofs.Ytaplnbjljgeakaa
open Go.RowKit Go.Deep

/-- k0, k0 + 1, .. -/
def marks (k0 : Int) (n : Nat) : List Int := (List.range n).map fun (i : Nat) => k0 + (i : Int)
theorem marks_length (k0 : Int) (n : Nat) : (marks k0 n).length = n := by simp [marks]
theorem marks_succ (k0 : Int) (n : Nat) : marks k0 (n + 1) = marks k0 n ++ [k0 + (n : Int)] := by simp [marks, List.range_succ]
theorem marks_get (k0 : Int) (n k : Nat) (hk : k < n) : (marks k0 n)[k]'(by rw [marks_length]; exact hk) = k0 + (k : Int) := by simp [marks]
/-- The first j are marked. -/
def mixed (k0 : Int) (j : Nat) (zs : List Int) : List Int := marks k0 j ++ zs.drop j
theorem mixed_zero (k0 : Int) (zs : List Int) : mixed k0 0 zs = zs := by simp [mixed, marks]
theorem mixed_all (k0 : Int) (zs : List Int) : mixed k0 zs.length zs = marks k0 zs.length := by simp [mixed]
theorem mixed_length (k0 : Int) (j : Nat) (zs : List Int) (h : j ≤ zs.length) : (mixed k0 j zs).length = zs.length := by
  simp [mixed, marks_length]; omega
theorem mixed_set (k0 : Int) (j : Nat) (zs : List Int) (h : j < zs.length) : (mixed k0 j zs).set j (k0 + (j : Int)) = mixed k0 (j + 1) zs := by
  unfold mixed
  rw [List.set_append_right _ _ (by rw [marks_length]; exact Nat.le_refl _), marks_length, Nat.sub_self, List.drop_eq_getElem_cons h, List.set_cons_zero, marks_succ]
  simp

/-- WHAT markIntS LEAVES: the marks in the list, whose block alone has turned. -/
def Marked (base : Nat) (A : Option Addr) (n c : Nat) (k0 : Int) (w : World) (e : Ending) (w' : World) : Prop :=
  e = .returned (.int .i64 (k0 + (n : Int))) ∧ Own w' base 3 (.slice A n c) (marks k0 n) ∧ Below base w w' ∧ ∀ h, h < w.heap.size → (∀ ad, A = some ad → h ≠ ad.block) → w'.heap[h]? = w.heap[h]?

theorem Own.stored {w : World} {base g n c : Nat} {e : TypeId} {zs : List Int} (h : Own w base e (.slice (some ⟨g, 0, none⟩) n c) zs) (hn : zs.length = n) (j : Nat) (u : Int) :
    Own (w.setCell ⟨g, j, none⟩ (.int .i64 u)) base e (.slice (some ⟨g, 0, none⟩) n c) (zs.set j u) := by
  subst hn
  have := (World.ownsRow.stored h j (.int .i64 u)).1
  unfold Own
  rw [List.length_set, List.map_set]
  exact this

end Go.Proofs.Ytaplnbjljgeakaa
