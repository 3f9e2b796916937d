
/-
  LEADS, PERIODS, RINGS BEHIND MANY STEPS, GREATEST NUMBERS AT LAST, THE MODEL's WAY.
-/
import Derived.Test.YtkhcabgpbmhimaaRiC
import Derived.Test.YtkhcabgpbmhimaaRiS
import Derived.Test.YtkhcabgpbmhimaaLaws0
namespace Go.Proofs.Ytkhcabgpbmhimaa
open Go.RowKit Go.Deep
set_option linter.unusedVariables false

/-- The model's riMost. -/
theorem mx0_take (zs : List Int) (h0 : 0 < zs.length) (h : within 0 1000 zs = true) (k : Nat) (hk : k < zs.length) : max ((zs.take k).foldl max 0) zs[k] = (zs.take (k + 1)).foldl max 0 := by
  rw [List.take_succ_eq_append_getElem hk, List.foldl_append]; rfl
theorem mx0 (zs : List Int) (h0 : 0 < zs.length) (h : within 0 1000 zs = true) : zs.foldl max 0 = mx zs := by
  have h1 := foldl_max_le zs 0
  have h2 := mx_bd h0 h
  rcases h1.2.2 with e | e
  · have := h1.2.1 _ (mx_mem h0); omega
  · have := le_mx e
    have := h1.2.1 _ (mx_mem h0)
    omega
theorem fold_take_bd (zs : List Int) (h : within 0 1000 zs = true) (k : Nat) : 0 ≤ (zs.take k).foldl max 0 := (foldl_max_le _ 0).1
/-- Where the model's riLast stands. -/
def LastRel (zs : List Int) (w : World) (p v m : Value) (wr : World) : Prop :=
  ∃ t : Nat, t ≤ perF zs ∧ p = .int .i64 ((perF zs - t : Nat) : Int) ∧ m = .int .i64 (if t = 0 then 0 else mx (lastF zs)) ∧ Own wr w.heap.size 3 v (rit zs (leadF zs + t)) ∧ Below w.heap.size w wr

end Go.Proofs.Ytkhcabgpbmhimaa
