
/-
  ALL HIDDEN HEAPS IN ORDER, PLAINLY: the model's search, and the program's way from one to the next.
-/
import Derived.Test.YtmhnihdgggblmaaPzTP
namespace Go.Proofs.Ytmhnihdgggblmaa
open Go.RowKit Go.Deep

/-- The model's search. -/
def lookL (fit : List Int → Bool) : Nat → List Int → List (List Int)
  | 0, b => if fit b then [b] else []
  | m + 1, b => (List.range 6).flatMap fun (i : Nat) => lookL fit m (b ++ [(i : Int)])
def partL (fit : List Int → Bool) (m : Nat) (b : List Int) (d : Nat) : List (List Int) := (List.range d).flatMap fun (i : Nat) => lookL fit m (b ++ [(i : Int)])
theorem partL_succ (fit : List Int → Bool) (m : Nat) (b : List Int) (d : Nat) : partL fit m b (d + 1) = partL fit m b d ++ lookL fit m (b ++ [(d : Int)]) := by
  unfold partL
  rw [List.range_succ, List.flatMap_append]
  simp
theorem partL_zero (fit : List Int → Bool) (m : Nat) (b : List Int) : partL fit m b 0 = [] := rfl
theorem lookL_succ (fit : List Int → Bool) (m : Nat) (b : List Int) : lookL fit (m + 1) b = partL fit m b 6 := rfl
theorem lookL_filter (fit : List Int → Bool) (m : Nat) : ∀ (b : List Int), lookL fit m b = (lookL (fun _ => true) m b).filter fit := by
  induction m with
  | zero =>
    intro b
    unfold lookL
    cases h : fit b <;> simp [h]
  | succ m ih =>
    intro b
    simp only [lookL, List.filter_flatMap]
    congr 1
    funext i
    exact ih _
/-- The digits of v. -/
def digL : Nat → Nat → List Int
  | 0, _ => []
  | m + 1, v => ((v / 6 ^ m : Nat) : Int) :: digL m (v % 6 ^ m)
theorem digL_length : ∀ (m v : Nat), (digL m v).length = m
  | 0, _ => rfl
  | m + 1, v => by rw [digL, List.length_cons, digL_length]
theorem digL_within : ∀ (m v : Nat), v < 6 ^ m → within 0 5 (digL m v) = true
  | 0, _, _ => rfl
  | m + 1, v, h => by
    have h1 : v / 6 ^ m < 6 := Nat.div_lt_of_lt_mul (by rw [Nat.pow_succ, Nat.mul_comm] at h; rw [Nat.mul_comm]; omega)
    have h2 := digL_within m (v % 6 ^ m) (Nat.mod_lt _ (Nat.pow_pos (by omega)))
    unfold within at h2 ⊢
    rw [digL, List.all_cons, h2]
    generalize v / 6 ^ m = x at *
    simp
    omega
/-- All that fit. -/
def solsL (fit : List Int → Bool) (n : Nat) : List (List Int) := lookL fit n []
theorem all_dig : ∀ n : Fin 5, lookL (fun _ => true) n.val [] = (List.range (6 ^ n.val)).map (digL n.val) := by decide +kernel
theorem solsL_eq (fit : List Int → Bool) {n : Nat} (h : n < 5) : solsL fit n = ((List.range (6 ^ n)).map (digL n)).filter fit := by
  unfold solsL
  rw [lookL_filter, all_dig ⟨n, h⟩]
/-- What has come when v of them are over. -/
def upTo (fit : List Int → Bool) (n v : Nat) : List (List Int) := ((List.range v).map (digL n)).filter fit
theorem upTo_zero (fit : List Int → Bool) (n : Nat) : upTo fit n 0 = [] := rfl
theorem upTo_succ (fit : List Int → Bool) (n v : Nat) : upTo fit n (v + 1) = upTo fit n v ++ (if fit (digL n v) then [digL n v] else []) := by
  unfold upTo
  rw [List.range_succ, List.map_append, List.filter_append]
  congr 1
  cases h : fit (digL n v) <;> simp [h]
theorem solsL_upTo (fit : List Int → Bool) {n : Nat} (h : n < 5) : solsL fit n = upTo fit n (6 ^ n) := solsL_eq fit h
theorem upTo_prefix (fit : List Int → Bool) (n : Nat) {v u : Nat} (h : v ≤ u) : upTo fit n v <+: upTo fit n u := by
  obtain ⟨d, rfl⟩ : ∃ d, u = v + d := ⟨u - v, by omega⟩
  clear h
  induction d with
  | zero => exact List.prefix_refl _
  | succ d ih =>
    rw [← Nat.add_assoc, upTo_succ]
    exact ih.trans (List.prefix_append _ _)
/-- One step on, with k places to look at. -/
def advL : List Int → Nat → List Int × Bool
  | zs, 0 => (zs, false)
  | zs, k + 1 => if zs.getD k 0 < 5 then (zs.set k (zs.getD k 0 + 1), true) else advL (zs.set k 0) k
theorem adv_dig2 : ∀ v : Fin 36, advL (digL 2 v.val) 2 = (digL 2 ((v.val + 1) % 36), decide (v.val + 1 < 36)) := by decide +kernel
theorem adv_dig3 : ∀ v : Fin 216, advL (digL 3 v.val) 3 = (digL 3 ((v.val + 1) % 216), decide (v.val + 1 < 216)) := by decide +kernel
theorem adv_dig4 : ∀ v : Fin 1296, advL (digL 4 v.val) 4 = (digL 4 ((v.val + 1) % 1296), decide (v.val + 1 < 1296)) := by decide +kernel
theorem adv_dig {n v : Nat} (hn : 2 ≤ n ∧ n ≤ 4) (hv : v < 6 ^ n) : advL (digL n v) n = (digL n ((v + 1) % 6 ^ n), decide (v + 1 < 6 ^ n)) := by
  obtain rfl | rfl | rfl : n = 2 ∨ n = 3 ∨ n = 4 := by omega
  · exact adv_dig2 ⟨v, hv⟩
  · exact adv_dig3 ⟨v, hv⟩
  · exact adv_dig4 ⟨v, hv⟩
theorem digL_hid {n v : Nat} (hn : 2 ≤ n ∧ n ≤ 4) (hv : v < 6 ^ n) : hidOk (digL n v) = true := by
  unfold hidOk
  rw [digL_length, digL_within n v hv, decide_eq_true hn]
  rfl
end Go.Proofs.Ytmhnihdgggblmaa
