
/-
  MOVES THAT HELP, THE PROGRAM's WAY: allJobMoves.
-/
import Derived.Test.YtloiaininfhfiaaBmQ
import Derived.Test.YtloiaininfhfiaaJmM
namespace Go.Proofs.Ytloiaininfhfiaa
open Go.RowKit Go.Deep
set_option linter.unusedVariables false

/-- The first k moves. -/
def jms (M k : Nat) : List Jm := (List.range k).map fun q => ⟨((q / M : Nat) : Int), ((q % M : Nat) : Int)⟩
theorem jms_length (M k : Nat) : (jms M k).length = k := by simp [jms]
theorem jms_succ {M i j : Nat} (h : j < M) : jms M (i * M + j + 1) = jms M (i * M + j) ++ [⟨(i : Int), (j : Int)⟩] := by
  unfold jms
  rw [List.range_succ, List.map_append, List.map_singleton, Nat.mul_comm i M, Nat.mul_add_div (by omega), Nat.div_eq_of_lt h, Nat.mul_add_mod, Nat.mod_eq_of_lt h]
  simp
theorem jms_at {M k q : Nat} (h : q < k) : (jms M k)[q]'(by rw [jms_length]; exact h) = ⟨((q / M : Nat) : Int), ((q % M : Nat) : Int)⟩ := by simp [jms]

set_option maxRecDepth 100000 in
/-- The program's allJobMoves. -/
theorem allJobMoves_any (n M : Nat) (w : World) (hn : n ≤ 9) (hM : M ≤ 4) :
    Calls Try.prog 24 #[.int .i64 (n : Int), .int .i64 (M : Int)] w fun e w' => ∃ v, e = .returned v ∧ OwnIJm w' w.heap.size v (n * M) (numsJm (jms M (n * M))) ∧ Below w.heap.size w w' := by
  have HSU := hide (fun (i j : Nat) (h : j < M) => jms_succ (i := i) h)
  have HL := hide (jms_length M)
  go_enter Try.func24, Try.ntmps24
  go_wp2_with fail
  go_loopw [5, 9] (fun v i wr => ∃ q : Nat, q ≤ n ∧ i = .int .i64 q ∧ OwnIJm wr w.heap.size v (jms M (q * M)).length (numsJm (jms M (q * M))) ∧ Below w.heap.size w wr)
    (fun _ i _ => n - (intOf i).toNat)
  case atStart => exact ⟨0, Nat.zero_le _, rfl, by rw [Nat.zero_mul]; exact OwnIJm.nil _ _, Below.refl _ _⟩
  case round =>
    obtain ⟨q, hq, rfl, hown, hb⟩ := hrel
    by_cases hlt : q < n
    · have HO := hide hown
      have HB := hide hb
      clear hown hb
      go_wp2_with fail
      go_loopw [5, 13] (fun v jx wr => ∃ j : Nat, j ≤ M ∧ jx = .int .i64 j ∧ OwnIJm wr w.heap.size v (jms M (q * M + j)).length (numsJm (jms M (q * M + j))) ∧ Below w.heap.size w wr)
        (fun _ jx _ => M - (intOf jx).toNat)
      case atStart => exact ⟨0, Nat.zero_le _, rfl, HO.out, HB.out⟩
      case round =>
        obtain ⟨j, hj, rfl, hown, hb⟩ := hrel
        have hsz := hb.size
        by_cases hjl : j < M
        · have HX := hide (HSU.out q j hjl)
          have hll : (jms M (q * M + j)).length < 1000000 := by
            rw [HL.out]
            have := Nat.mul_le_mul (show q ≤ 9 by omega) hM
            omega
          go_wp2_with (at_builtin; refine wpList_app_Jm rfl _ _ 43 rfl Try.underlying43 w.heap.size _ _ rfl hown ⟨(q : Int), (j : Int)⟩ _ rfl hsz hll ?_; intro v' w' hown' hb')
          go_roundw
          case rel => exact ⟨j + 1, by omega, by go_num, by rw [show q * M + (j + 1) = q * M + j + 1 from rfl, HX.out]; exact hown', hb.trans hb'⟩
          case measure => simp [intOf]; omega
        · obtain rfl : j = M := by omega
          go_wp2_with fail
          go_roundw
          case rel => exact ⟨q + 1, by omega, by go_num, by rw [Nat.add_mul, Nat.one_mul]; exact hown, hb⟩
          case measure => simp [intOf]; omega
    · obtain rfl : q = n := by omega
      rw [HL.out] at hown
      go_wp2_with fail
      go_ret
      exact ⟨_, rfl, hown, hb⟩
end Go.Proofs.Ytloiaininfhfiaa
