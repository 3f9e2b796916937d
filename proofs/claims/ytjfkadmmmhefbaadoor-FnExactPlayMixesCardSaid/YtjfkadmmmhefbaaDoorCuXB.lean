
/-
  A MIX OF TWO CUPS, THE PROGRAM's WAY: MixTwo.
-/
import Derived.Test.YtjfkadmmmhefbaaDoorCuZ
namespace Go.Proofs.YtjfkadmmmhefbaaDoor
open Go.RowKit Go.Deep
set_option linter.unusedVariables false

theorem mix_two_ints (w : World) (x y : Int) (t : TypeId) : Ints (w.alloc (.cells #[.int .i64 x, .int .i64 y] t)) (w.heap.size + 1) (some ⟨w.heap.size, 0, none⟩) 2 [x, y] :=
  ⟨rfl, fun _ => ⟨_, rfl, Nat.lt_succ_self _, fun k hk => by
    match k, hk with
    | 0, _ => simp [Addr.add]
    | 1, _ => simp [Addr.add]⟩⟩
theorem mix_one_val (w : World) (v : Value) (t : TypeId) : Vals (w.alloc (.cells #[v] t)) (w.heap.size + 1) (some ⟨w.heap.size, 0, none⟩) 1 [v] :=
  ⟨rfl, fun _ => ⟨_, rfl, Nat.lt_succ_self _, fun k hk => by
    obtain rfl : k = 0 := by omega
    simp [Addr.add]⟩⟩

theorem pmL_len (zs : List Int) (u : Int) (ms : List (List Int)) : (pmL zs u ms).length ≤ 1048576 := by
  cases h : pmOk zs u ms
  · rw [(pm_no h).1]; exact Nat.zero_le _
  · unfold pmOk at h
    rw [Bool.and_eq_true] at h
    have ha := h.1
    unfold pmAsk at h
    obtain ⟨h1, h2⟩ := h
    rw [Bool.and_eq_true] at h1
    have hu := isU_bd (cuOk_of h1.1).2.2.1
    have h6 := (cuOk_of h1.1).2.1
    obtain ⟨x, rfl⟩ := Int.eq_ofNat_of_zero_le (show 0 ≤ u by omega)
    rw [Int.toNat_natCast] at h2
    obtain ⟨⟨ys, v⟩, hp⟩ := Option.isSome_iff_exists.1 h2
    rw [(pm_yes ha hp).2.1, (pmix_ok h1.1 hp).2]
    omega

end Go.Proofs.YtjfkadmmmhefbaaDoor
