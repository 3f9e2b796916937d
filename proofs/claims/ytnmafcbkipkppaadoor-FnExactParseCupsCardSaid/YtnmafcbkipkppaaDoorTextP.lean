
/-
  TEXTS OF LISTS OF NUMBERS, plainly. No program is named here.
-/
import Derived.Test.YtnmafcbkipkppaaDoorText
import Derived.Lib.Join
import Derived.Lib.LaidTab
namespace Go.Proofs.YtnmafcbkipkppaaDoor
open Go.RowKit

theorem var_below {P : Program} {w w' : World} {n : String} {g B : Nat} {cs : Array Value} (h : w.var? P n = some cs) (hg : P.globalNamed n = some g) (hb : Below B w w') (hlt : g < B) : w'.var? P n = some cs := by
  unfold World.var? at h ⊢
  rw [hg] at h ⊢
  simp only [Option.bind_some] at h ⊢
  rw [hb.block g hlt]
  exact h
theorem var_lt {P : Program} {w : World} {n : String} {g : Nat} {cs : Array Value} (h : w.var? P n = some cs) (hg : P.globalNamed n = some g) : g < w.heap.size := by
  unfold World.var? at h
  rw [hg] at h
  simp only [Option.bind_some] at h
  rcases Nat.lt_or_ge g w.heap.size with h1 | h1
  · exact h1
  · rw [Array.getElem?_eq_none h1] at h; cases h

def dtxt (x : Int) : List UInt8 := Lib.decDigits x.toNat
def txt (zs : List Int) : List UInt8 := Lib.join (zs.map dtxt) [45]
theorem join_snoc (sep y : List UInt8) : ∀ (xs : List (List UInt8)), xs ≠ [] → Lib.join (xs ++ [y]) sep = Lib.join xs sep ++ sep ++ y
  | [], h => absurd rfl h
  | x :: r, _ => by
    rw [List.cons_append, Lib.join_cons, Lib.join_cons]
    simp [Lib.joinTail]
theorem txt_zero (zs : List Int) (h : 0 < zs.length) : txt (zs.take 1) = dtxt zs[0] := by
  unfold txt
  rw [List.take_one, List.head?_eq_getElem?, List.getElem?_eq_getElem h]
  simp [Lib.join_one]
theorem txt_succ (zs : List Int) (k : Nat) (h0 : 0 < k) (h : k < zs.length) : txt (zs.take (k + 1)) = txt (zs.take k) ++ [45] ++ dtxt zs[k] := by
  unfold txt
  rw [List.take_succ_eq_append_getElem h, List.map_append]
  exact join_snoc _ _ _ (by simp; exact ⟨by omega, by intro e; rw [e] at h; simp at h⟩)
theorem dtxt_len {x : Int} (h0 : 0 ≤ x) (h : x < 1000000) : (dtxt x).length ≤ 6 := decDigits_len 5 x.toNat (by omega)
theorem txt_len (zs : List Int) (h : ∀ (k : Nat) (_ : k < zs.length), 0 ≤ zs[k] ∧ zs[k] < 1000000) : ∀ k, k ≤ zs.length → (txt (zs.take k)).length ≤ 7 * k
  | 0, _ => by simp [txt, Lib.join_nil]
  | k + 1, hk => by
    have hd := dtxt_len (h k (by omega)).1 (h k (by omega)).2
    rcases Nat.eq_zero_or_pos k with rfl | hp
    · rw [txt_zero zs (by omega)]; omega
    · have := txt_len zs h k (by omega)
      rw [txt_succ zs k hp (by omega)]
      simp; omega
theorem txt_all (zs : List Int) : txt (zs.take zs.length) = txt zs := by rw [List.take_length]
end Go.Proofs.YtnmafcbkipkppaaDoor
