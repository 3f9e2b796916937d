
/-
  FEW HEAPS AS AN ARRAY OF FOUR: list.
-/
import Derived.Test.YtolhplakpemadaaRow
import Derived.Test.YtolhplakpemadaaFlows
namespace Go.Proofs.Ytolhplakpemadaa
open Go.RowKit Go.Deep
set_option linter.unusedVariables false

theorem idx4_0 (a b c d : Value) (w : World) : (Instr.index 33 (.agg #[a, b, c, d]) (.int .i64 0)).run Try.prog w = .ok a w := by kernel_rfl
theorem idx4_1 (a b c d : Value) (w : World) : (Instr.index 33 (.agg #[a, b, c, d]) (.int .i64 1)).run Try.prog w = .ok b w := by kernel_rfl
theorem idx4_2 (a b c d : Value) (w : World) : (Instr.index 33 (.agg #[a, b, c, d]) (.int .i64 2)).run Try.prog w = .ok c w := by kernel_rfl
theorem idx4_3 (a b c d : Value) (w : World) : (Instr.index 33 (.agg #[a, b, c, d]) (.int .i64 3)).run Try.prog w = .ok d w := by kernel_rfl

theorem rowList_any (zs : List Int) (w : World) (hs : small zs) (hn : zs.length ≤ 4) :
    Calls Try.prog 22 #[.agg #[.int .i64 (pd zs 0), .int .i64 (pd zs 1), .int .i64 (pd zs 2), .int .i64 (pd zs 3)]] w (Made zs w) := by
  have HP : Hid (∀ k, (k < zs.length ∧ (pd zs k != -1) = true ∧ zs.take (k + 1) = zs.take k ++ [pd zs k]) ∨ (¬ k < zs.length ∧ (pd zs k != -1) = false ∧ zs.take (k + 1) = zs.take k)) := hide fun k => by
    by_cases h : k < zs.length
    · have := small_get hs k h
      refine .inl ⟨h, ?_, ?_⟩
      · rw [pd_lt h]; simp; omega
      · rw [List.take_succ_eq_append_getElem h, pd_lt h]
    · refine .inr ⟨h, ?_, ?_⟩
      · rw [pd_ge (by omega)]; rfl
      · rw [List.take_of_length_le (by omega), List.take_of_length_le (by omega)]
  go_enter Try.func22, Try.ntmps22
  go_wp2_with fail
  go_loopw [3, 7] (fun v i wr => ∃ k : Nat, k ≤ 4 ∧ i = .int .i64 k ∧ Own wr w.heap.size 3 v (zs.take k) ∧ Below w.heap.size w wr)
    (fun _ i _ => 4 - (intOf i).toNat)
  case atStart => exact ⟨0, Nat.zero_le _, rfl, Own.nil _ _ _, (Below.refl _ _).alloc (Nat.le_refl _) _⟩
  case round =>
    obtain ⟨k, hk, rfl, hown, hb⟩ := hrel
    have hsz := hb.size
    have hll : (zs.take k).length < 1000000 := by rw [List.length_take]; omega
    by_cases h4 : k < 4
    · have h4' : k = 0 ∨ k = 1 ∨ k = 2 ∨ k = 3 := by omega
      rcases h4' with rfl | rfl | rfl | rfl
      · have i0 := fun W => idx4_0 (.int .i64 (pd zs 0)) (.int .i64 (pd zs 1)) (.int .i64 (pd zs 2)) (.int .i64 (pd zs 3)) W
        rcases HP.out 0 with ⟨hlt, hd, ht⟩ | ⟨hlt, hd, ht⟩
        · have Ht := hide ht
          clear ht
          go_wp2_with (at_builtin; refine wpList_app_int rfl _ _ 22 3 rfl Try.underlying22 infoInt w.heap.size _ _ rfl hown _ _ rfl hsz hll ?_; intro v' w' hown' hb')
          go_roundw
          case rel => exact ⟨0 + 1, by omega, by first | rfl | kernel_rfl, by rw [Ht.out]; exact hown', hb.trans hb'⟩
          case measure => first | (simp [intOf]; done) | decide | kernel_rfl
        · have Ht := hide ht
          clear ht
          go_wp2_with fail
          go_roundw
          case rel => exact ⟨0 + 1, by omega, by first | rfl | kernel_rfl, by rw [Ht.out]; exact hown, hb⟩
          case measure => first | (simp [intOf]; done) | decide | kernel_rfl
      · have i0 := fun W => idx4_1 (.int .i64 (pd zs 0)) (.int .i64 (pd zs 1)) (.int .i64 (pd zs 2)) (.int .i64 (pd zs 3)) W
        rcases HP.out 1 with ⟨hlt, hd, ht⟩ | ⟨hlt, hd, ht⟩
        · have Ht := hide ht
          clear ht
          go_wp2_with (at_builtin; refine wpList_app_int rfl _ _ 22 3 rfl Try.underlying22 infoInt w.heap.size _ _ rfl hown _ _ rfl hsz hll ?_; intro v' w' hown' hb')
          go_roundw
          case rel => exact ⟨1 + 1, by omega, by first | rfl | kernel_rfl, by rw [Ht.out]; exact hown', hb.trans hb'⟩
          case measure => first | (simp [intOf]; done) | decide | kernel_rfl
        · have Ht := hide ht
          clear ht
          go_wp2_with fail
          go_roundw
          case rel => exact ⟨1 + 1, by omega, by first | rfl | kernel_rfl, by rw [Ht.out]; exact hown, hb⟩
          case measure => first | (simp [intOf]; done) | decide | kernel_rfl
      · have i0 := fun W => idx4_2 (.int .i64 (pd zs 0)) (.int .i64 (pd zs 1)) (.int .i64 (pd zs 2)) (.int .i64 (pd zs 3)) W
        rcases HP.out 2 with ⟨hlt, hd, ht⟩ | ⟨hlt, hd, ht⟩
        · have Ht := hide ht
          clear ht
          go_wp2_with (at_builtin; refine wpList_app_int rfl _ _ 22 3 rfl Try.underlying22 infoInt w.heap.size _ _ rfl hown _ _ rfl hsz hll ?_; intro v' w' hown' hb')
          go_roundw
          case rel => exact ⟨2 + 1, by omega, by first | rfl | kernel_rfl, by rw [Ht.out]; exact hown', hb.trans hb'⟩
          case measure => first | (simp [intOf]; done) | decide | kernel_rfl
        · have Ht := hide ht
          clear ht
          go_wp2_with fail
          go_roundw
          case rel => exact ⟨2 + 1, by omega, by first | rfl | kernel_rfl, by rw [Ht.out]; exact hown, hb⟩
          case measure => first | (simp [intOf]; done) | decide | kernel_rfl
      · have i0 := fun W => idx4_3 (.int .i64 (pd zs 0)) (.int .i64 (pd zs 1)) (.int .i64 (pd zs 2)) (.int .i64 (pd zs 3)) W
        rcases HP.out 3 with ⟨hlt, hd, ht⟩ | ⟨hlt, hd, ht⟩
        · have Ht := hide ht
          clear ht
          go_wp2_with (at_builtin; refine wpList_app_int rfl _ _ 22 3 rfl Try.underlying22 infoInt w.heap.size _ _ rfl hown _ _ rfl hsz hll ?_; intro v' w' hown' hb')
          go_roundw
          case rel => exact ⟨3 + 1, by omega, by first | rfl | kernel_rfl, by rw [Ht.out]; exact hown', hb.trans hb'⟩
          case measure => first | (simp [intOf]; done) | decide | kernel_rfl
        · have Ht := hide ht
          clear ht
          go_wp2_with fail
          go_roundw
          case rel => exact ⟨3 + 1, by omega, by first | rfl | kernel_rfl, by rw [Ht.out]; exact hown, hb⟩
          case measure => first | (simp [intOf]; done) | decide | kernel_rfl
    · rw [List.take_of_length_le (by omega)] at hown
      go_wp2_with fail
      go_ret
      obtain ⟨A', c', rfl, h1, h2⟩ := hown.shape
      exact ⟨A', c', rfl, h1, h2, hown, hb⟩
end Go.Proofs.Ytolhplakpemadaa
