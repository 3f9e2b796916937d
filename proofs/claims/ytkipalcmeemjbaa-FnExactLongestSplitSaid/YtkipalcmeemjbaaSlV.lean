
/-
  VALUES OF HEAPS, the model's way: slValues.
-/
import Derived.Test.YtkipalcmeemjbaaSlVP
import Derived.Test.YtkipalcmeemjbaaSl
import Derived.Test.YtkipalcmeemjbaaHas
import Derived.Test.YtkipalcmeemjbaaOneI
import Derived.Test.YtkipalcmeemjbaaFlows
import Derived.Deep.RegionHeld3
namespace Go.Proofs.Ytkipalcmeemjbaa
open Go.RowKit Go.Deep
set_option linter.unusedVariables false

theorem seen_yes {t : List Int} {r : Int} {n p : Nat} (h : scan r n p = true) (ht : ∀ k, 0 ≤ t.getD k 0 ∧ t.getD k 0 ≤ 62) :
    seenL (told t 0 r n (p + 1)) = seenL (told t 0 r n p) ++ [xr (t.getD p 0) (t.getD (n - p) 0)] := by
  have a := ht p
  have b := ht (n - p)
  unfold seenL told
  rw [pB_yes h, List.map_append, List.map_append]
  simp only [List.map_cons, List.map_nil]
  rw [(xr_bd (a := t.getD (n - p) 0) (b := t.getD p 0) (by omega) (by omega) (by omega) (by omega)).2.2]
theorem seen_no {t : List Int} {r : Int} {n p : Nat} (h : scan r n p = false) : seenL (told t 0 r n (p + 1)) = seenL (told t 0 r n p) := by
  unfold seenL told; rw [pB_no h]
theorem seen_one (t : List Int) (r : Int) (n : Nat) : seenL (told t 0 r n 1) = [] := by unfold seenL told; rw [pB_one]; rfl
theorem seen_end {t : List Int} {r : Int} {n p : Nat} (h : n < 2 * p) (hp : p ≤ n + 1) : seenL (told t 0 r n p) = seenL (told t 0 r n (n + 1)) := by
  unfold seenL told; rw [parts_at h hp]; rfl
theorem seen_len (t : List Int) (r : Int) (n p : Nat) : (seenL (told t 0 r n p)).length ≤ p := by
  unfold seenL told; rw [List.length_map, List.length_map]; exact pB_len _ _ _
theorem vals_length (r : Int) (n : Nat) : (vals r n).length = n + 1 := tbl_length n
theorem vals_succ (r : Int) (n k : Nat) (h : isMex (seenL (told (vals r n) 0 r (n + 1) (n + 2))) k) : vals r (n + 1) = vals r n ++ [(k : Int)] := by
  show vals r n ++ [valF (n + 1) (told (vals r n) 0 r (n + 1) (n + 2))] = _
  unfold valF
  rw [mex_is h]

theorem vals_next (r : Int) (N k : Nat) (hN : 1 ≤ N) (h : isMex (seenL (told (vals r (N - 1)) 0 r N (N + 1))) k) : vals r N = vals r (N - 1) ++ [(k : Int)] := by
  obtain ⟨n, rfl⟩ : ∃ n, N = n + 1 := ⟨N - 1, by omega⟩
  exact vals_succ r n k h

end Go.Proofs.Ytkipalcmeemjbaa
