import Derived.Test.YtcbcgapnoompbaaMg06
import Derived.Test.YtcbcgapnoompbaaMg05
import Derived.Test.YtcbcgapnoompbaaMg04
import Derived.Test.YtcbcgapnoompbaaMg03

/-
  THE LAWS' OWN HELPERS THAT WRITE MARKS INTO A LIST AND LOOK FOR THEM: markIntS, heldIntS.
-/
namespace Go.Proofs.Ytcbcgapnoompbaa
open Go.RowKit Go.Deep

/-- k0, k0 + 1, .. -/
def marks (k0 : Int) (n : Nat) : List Int := (List.range n).map fun (i : Nat) => k0 + (i : Int)
theorem marks_length (k0 : Int) (n : Nat) : (marks k0 n).length = n := by simp [marks]
theorem marks_succ (k0 : Int) (n : Nat) : marks k0 (n + 1) = marks k0 n ++ [k0 + (n : Int)] := by simp [marks, List.range_succ]
theorem marks_get (k0 : Int) (n k : Nat) (hk : k < n) : (marks k0 n)[k]'(by rw [marks_length]; exact hk) = k0 + (k : Int) := by simp [marks]
/-- The first j are marked. -/
def mixed (k0 : Int) (j : Nat) (zs : List Int) : List Int := marks k0 j ++ zs.drop j
theorem mixed_zero (k0 : Int) (zs : List Int) : mixed k0 0 zs = zs := by simp [mixed, marks]
theorem mixed_all (k0 : Int) (zs : List Int) : mixed k0 zs.length zs = marks k0 zs.length := by simp [mixed]
theorem mixed_length (k0 : Int) (j : Nat) (zs : List Int) (h : j ≤ zs.length) : (mixed k0 j zs).length = zs.length := by
  simp [mixed, marks_length]; omega
theorem mixed_set (k0 : Int) (j : Nat) (zs : List Int) (h : j < zs.length) : (mixed k0 j zs).set j (k0 + (j : Int)) = mixed k0 (j + 1) zs := by
  unfold mixed
  rw [List.set_append_right _ _ (by rw [marks_length]; exact Nat.le_refl _), marks_length, Nat.sub_self, List.drop_eq_getElem_cons h, List.set_cons_zero, marks_succ]
  simp

/-- WHAT markIntS LEAVES: the marks in the list, whose block alone has turned. -/
def Marked (base : Nat) (A : Option Addr) (n c : Nat) (k0 : Int) (w : World) (e : Ending) (w' : World) : Prop :=
  e = .returned (.int .i64 (k0 + (n : Int))) ∧ Own w' base 3 (.slice A n c) (marks k0 n) ∧ Below base w w' ∧ ∀ h, h < w.heap.size → (∀ ad, A = some ad → h ≠ ad.block) → w'.heap[h]? = w.heap[h]?

theorem Own.stored {w : World} {base g n c : Nat} {e : TypeId} {zs : List Int} (h : Own w base e (.slice (some ⟨g, 0, none⟩) n c) zs) (hn : zs.length = n) (j : Nat) (u : Int) :
    Own (w.setCell ⟨g, j, none⟩ (.int .i64 u)) base e (.slice (some ⟨g, 0, none⟩) n c) (zs.set j u) := by
  subst hn
  have := (World.ownsRow.stored h j (.int .i64 u)).1
  unfold Own
  rw [List.length_set, List.map_set]
  exact this

end Go.Proofs.Ytcbcgapnoompbaa

/-
  CANDIES, BOTH WAYS: AreCandies and cyGood; evened and cyEven; the model's cyPass, cyStep, l1Same, cyRest; slices.Min, slices.Max, isLevel, isAtRest.
-/
namespace Go.Proofs.Ytcbcgapnoompbaa
open Go.RowKit Go.Deep

/-- The first k made even. -/
def emix (k : Nat) (zs : List Int) : List Int := (evens zs).take k ++ zs.drop k
theorem emix_zero (zs : List Int) : emix 0 zs = zs := by simp [emix]
theorem emix_all (zs : List Int) : emix zs.length zs = evens zs := by
  unfold emix
  rw [List.take_of_length_le (by rw [evens_length]; exact Nat.le_refl _)]; simp
theorem emix_length (k : Nat) (zs : List Int) (h : k ≤ zs.length) : (emix k zs).length = zs.length := by
  simp [emix, evens_length]; omega
theorem emix_at (k : Nat) (zs : List Int) (h : k < zs.length) : (emix k zs)[k]? = some zs[k] := by
  unfold emix
  rw [List.getElem?_append_right (by simp [evens_length]; omega), List.length_take, evens_length, Nat.min_eq_left (by omega), Nat.sub_self, List.getElem?_drop]
  simp [List.getElem?_eq_getElem h]
theorem emix_set (k : Nat) (zs : List Int) (h : k < zs.length) : (emix k zs).set k (zs[k] + zs[k] % 2) = emix (k + 1) zs := by
  have hl : ((evens zs).take k).length = k := by rw [List.length_take, evens_length]; omega
  unfold emix
  rw [List.set_append_right _ _ (by rw [hl]; exact Nat.le_refl _), hl, Nat.sub_self, List.drop_eq_getElem_cons h, List.set_cons_zero, evens_take_succ zs k h]
  simp

theorem leftOf_int (k n : Nat) (h : k < n) : ((k : Int) + (n : Int) - 1) % (n : Int) = ((leftOf k n : Nat) : Int) := by
  unfold leftOf
  rw [Int.natCast_emod]
  congr 1
  omega

end Go.Proofs.Ytcbcgapnoompbaa
