import Derived.Test.YtcbcgapnoompbaaMg11
import Derived.Test.YtcbcgapnoompbaaMg10
import Derived.Deep.LoopGhost
import Derived.Test.YtcbcgapnoompbaaMg03
import Derived.Test.YtcbcgapnoompbaaMg06

/-
  LEAD AND PERIOD, THE MODEL's WAY: the hare and the tortoise.
-/
namespace Go.Proofs.Ytcbcgapnoompbaa
open Go.RowKit Go.Deep
set_option linter.unusedVariables false

/-- Where the hare and the tortoise stand. -/
def MeetRel (zs : List Int) (m p : Nat) (w : World) (g : Nat) (v f : Value) (wr : World) : Prop :=
  ∃ t : Nat, 1 ≤ t ∧ t ≤ m + p ∧ g = m + p - t ∧ (∀ u, 1 ≤ u → u < t → rit zs u ≠ rit zs (2 * u)) ∧ Own wr w.heap.size 3 v (rit zs t) ∧ Own wr w.heap.size 3 f (rit zs (2 * t)) ∧ Below w.heap.size w wr
def AheadRel (zs : List Int) (m T : Nat) (w : World) (g : Nat) (v f l : Value) (wr : World) : Prop :=
  ∃ k : Nat, k ≤ m ∧ g = m - k ∧ l = .int .i64 (k : Int) ∧ Own wr w.heap.size 3 v (rit zs k) ∧ Own wr w.heap.size 3 f (rit zs (k + T)) ∧ Below w.heap.size w wr
def RoundRel (zs : List Int) (m p : Nat) (w : World) (v : Value) (g : Nat) (f q : Value) (wr : World) : Prop :=
  ∃ k : Nat, 1 ≤ k ∧ k ≤ p ∧ g = p - k ∧ q = .int .i64 (k : Int) ∧ Own wr w.heap.size 3 v (rit zs m) ∧ Own wr w.heap.size 3 f (rit zs (m + k)) ∧ Below w.heap.size w wr

theorem beq_of_eq {xs ys : List Int} (h : xs = ys) : (xs == ys) = true := by rw [h]; simp
theorem beq_of_ne {xs ys : List Int} (h : xs ≠ ys) : (xs == ys) = false := by rw [beq_eq_false_iff_ne]; exact h
theorem own_next {w wr w2 : World} {e : TypeId} {v : Value} {zs : List Int} (h : Own wr w.heap.size e v zs) (hb : Below wr.heap.size wr w2) : Own w2 w.heap.size e v zs := h.below hb

end Go.Proofs.Ytcbcgapnoompbaa

/-
  LEADS, PERIODS, RINGS BEHIND MANY STEPS, GREATEST NUMBERS AT LAST, THE MODEL's WAY.
-/
namespace Go.Proofs.Ytcbcgapnoompbaa
open Go.RowKit Go.Deep
set_option linter.unusedVariables false

/-- The model's riMost. -/
theorem mx0_take (zs : List Int) (h0 : 0 < zs.length) (h : within 0 1000 zs = true) (k : Nat) (hk : k < zs.length) : max ((zs.take k).foldl max 0) zs[k] = (zs.take (k + 1)).foldl max 0 := by
  rw [List.take_succ_eq_append_getElem hk, List.foldl_append]; rfl
theorem mx0 (zs : List Int) (h0 : 0 < zs.length) (h : within 0 1000 zs = true) : zs.foldl max 0 = mx zs := by
  have h1 := foldl_max_le zs 0
  have h2 := mx_bd h0 h
  rcases h1.2.2 with e | e
  · have := h1.2.1 _ (mx_mem h0); omega
  · have := le_mx e
    have := h1.2.1 _ (mx_mem h0)
    omega
theorem fold_take_bd (zs : List Int) (h : within 0 1000 zs = true) (k : Nat) : 0 ≤ (zs.take k).foldl max 0 := (foldl_max_le _ 0).1
theorem riMost_any (A : Option Addr) (n c B : Nat) (zs : List Int) (w : World) (hr : Ints w B A n zs) (hB : B ≤ w.heap.size) (h0 : 0 < n) (hn : n < 1000000) (hc : within 0 1000 zs = true) :
    Calls Try.prog 66 #[.slice A n c] w fun e w' => e = .returned (.int .i64 (mx zs)) ∧ w = w' := by
  obtain rfl := hr.len
  have HM := hide (mx0 zs h0 hc)
  have HT := hide (fun k hk => mx0_take zs h0 hc k hk)
  clear hc
  go_enter Try.func66, Try.ntmps66
  go_wp2_with fail
  go_loop [3, 8] (fun m i => ∃ k : Nat, k ≤ zs.length ∧ i = .int .i64 k ∧ m = .int .i64 ((zs.take k).foldl max 0))
    (fun _ i => zs.length - (intOf i).toNat)
  case atStart => exact ⟨0, Nat.zero_le _, rfl, rfl⟩
  case round =>
    obtain ⟨k, hk, rfl, rfl⟩ := hrel
    by_cases hlt : k < zs.length
    · have HS := hide (HT.out k hlt)
      obtain ⟨ad, rfl, hab, hcell⟩ := hr.at_ hlt
      rw [rget hlt] at hcell
      generalize zs[k] = z at *
      generalize (zs.take k).foldl max 0 = m at *
      go_wp2_with fail
      refine (l1Most_any _ _ _).mono ?_; rintro e w' ⟨rfl, rfl⟩; rw [HS.out]
      go_wp2_with fail
      go_round
      case rel => exact ⟨k + 1, by omega, by go_num, rfl⟩
      case measure => simp [intOf]; omega
    · go_wp2_with fail
      go_ret
      exact ⟨ret_int (by rw [List.take_of_length_le (by omega)]; exact HM.out), rfl⟩

/-- Where the model's riLast stands. -/
def LastRel (zs : List Int) (w : World) (p v m : Value) (wr : World) : Prop :=
  ∃ t : Nat, t ≤ perF zs ∧ p = .int .i64 ((perF zs - t : Nat) : Int) ∧ m = .int .i64 (if t = 0 then 0 else mx (lastF zs)) ∧ Own wr w.heap.size 3 v (rit zs (leadF zs + t)) ∧ Below w.heap.size w wr

end Go.Proofs.Ytcbcgapnoompbaa
