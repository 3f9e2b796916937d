
/-
  ALL DOUBLINGS OF FOUR HEAPS, THE PROGRAM's WAY: allDoublings; the closure of 'doublings'.
-/
import Derived.Test.YtnakkmmmkbjfbaaRow
import Derived.Test.YtnakkmmmkbjfbaaDbAllP
import Derived.Test.YtnakkmmmkbjfbaaDbM
namespace Go.Proofs.Ytnakkmmmkbjfbaa
open Go.RowKit Go.Deep
set_option linter.unusedVariables false

def innA (f : Nat) : Nat → List Db
  | 0 => []
  | j + 1 => innA f j ++ (if f ≠ j then [⟨(f : Int), (j : Int)⟩] else [])
def outA : Nat → List Db
  | 0 => []
  | k + 1 => outA k ++ innA k 4
/-- All of them. -/
def all12 : List Db := outA 4
theorem innA_len (f : Nat) : ∀ j, (innA f j).length ≤ j
  | 0 => by simp [innA]
  | j + 1 => by
    have := innA_len f j
    unfold innA
    split <;> simp <;> omega
theorem outA_len : ∀ k, (outA k).length ≤ k * 4
  | 0 => by simp [outA]
  | k + 1 => by
    have h1 := outA_len k
    have h2 := innA_len k 4
    unfold outA
    rw [List.length_append]
    omega

set_option maxRecDepth 1000000 in
theorem allDoublings_any (w : World) :
    Calls Try.prog 55 #[] w fun e w' => ∃ A' c', e = .returned (.slice A' all12.length c') ∧ OwnIDb w' w.heap.size (.slice A' all12.length c') all12.length (numsDb all12) ∧ Below w.heap.size w w' := by
  have HO := hide (fun k => outA_len k)
  have HI := hide (fun f j => innA_len f j)
  go_enter Try.func55, Try.ntmps55
  go_wp2_with fail
  go_loopw [1, 4] (fun v i wr => ∃ k : Nat, k ≤ 4 ∧ i = .int .i64 k ∧ OwnIDb wr w.heap.size v (outA k).length (numsDb (outA k)) ∧ Below w.heap.size w wr)
    (fun _ i _ => 4 - (intOf i).toNat)
  case atStart => exact ⟨0, Nat.zero_le _, rfl, OwnIDb.nil _ _, Below.refl _ _⟩
  case round =>
    obtain ⟨k, hk, rfl, hown, hb⟩ := hrel
    have hok := HO.out k
    by_cases hlt : k < 4
    · have Hown := hide hown
      have Hb := hide hb
      have hk4 : decide ((k : Int) < 4) = true := by simp; omega
      clear hown hb
      go_wp2_with fail
      go_loopw [1, 7] (fun v i wr => ∃ j : Nat, j ≤ 4 ∧ i = .int .i64 j ∧ OwnIDb wr w.heap.size v (outA k ++ innA k j).length (numsDb (outA k ++ innA k j)) ∧ Below w.heap.size w wr)
        (fun _ i _ => 4 - (intOf i).toNat)
      case atStart => exact ⟨0, Nat.zero_le _, rfl, by simpa [innA] using Hown.out, Hb.out⟩
      case round =>
        obtain ⟨j, hj, rfl, hown, hb⟩ := hrel
        have hb0 := hb.size
        have hij := HI.out k j
        by_cases hjl : j < 4
        · by_cases hkj : k = j
          · have HN := hide (show outA k ++ innA k (j + 1) = outA k ++ innA k j from by rw [innA, if_neg (by omega)]; simp)
            have hd : ((k : Int) != (j : Int)) = false := by simp; omega
            have Hown2 := hide hown
            clear hkj hown
            go_wp2_with fail
            go_roundw
            case rel => exact ⟨j + 1, by omega, by go_num, by rw [HN.out]; exact Hown2.out, hb⟩
            case measure => simp [intOf]; omega
          · have HN := hide (show outA k ++ innA k (j + 1) = (outA k ++ innA k j) ++ [⟨(k : Int), (j : Int)⟩] from by rw [innA, if_pos hkj]; simp)
            have hd : ((k : Int) != (j : Int)) = true := by simp; omega
            have hlen : (outA k ++ innA k j).length < 1000000 := by rw [List.length_append]; omega
            generalize hL : outA k ++ innA k j = L at *
            have HL := hide hL
            clear hkj hL
            go_wp2_with (at_builtin; refine wpList_app_Db rfl _ _ 28 rfl Try.underlying28 w.heap.size _ L rfl hown ⟨(k : Int), (j : Int)⟩ _ rfl hb0 hlen ?_; intro v' w' hown' hb')
            go_roundw
            case rel => exact ⟨j + 1, by omega, by go_num, by rw [HN.out]; exact hown', hb.trans hb'⟩
            case measure => simp [intOf]; omega
        · have e : j = 4 := by omega
          have HE := hide (show outA k ++ innA k j = outA (k + 1) from by rw [e]; rfl)
          have Hown2 := hide hown
          clear e hown
          go_wp2_with fail
          go_roundw
          case rel => exact ⟨k + 1, by omega, by go_num, by rw [← HE.out]; exact Hown2.out, hb⟩
          case measure => simp [intOf]; omega
    · have e : k = 4 := by omega
      have HE := hide (show outA k = all12 from by rw [e]; rfl)
      clear e
      obtain ⟨A', c', hv⟩ := hown.shape
      subst hv
      go_wp2_with fail
      go_ret
      exact ⟨A', c', by rw [← HE.out]; rfl, by rw [← HE.out]; exact hown, hb⟩

/-- The closure: is it one that cannot be made? The row lies in its block. -/
theorem dblFn_any (zs : List Int) (d : Db) (g : Nat) (w : World) (hs : small zs) (hn : zs.length ≤ 4) (hrow : w.rowIs g 42 4 (fun j => .int .i64 (pd zs j))) :
    Calls Try.prog 56 #[.agg #[.int .i64 d.x0, .int .i64 d.x1], .pointer (some ⟨g, 0, none⟩)] w fun e w' => e = .returned (.bool (!canD zs d.x0 d.x1)) ∧ Below w.heap.size w w' := by
  have HC := hide (fun W => canDouble_any zs d.x0 d.x1 W hs hn)
  have hlt : g < w.heap.size := by obtain ⟨cur, h1, _⟩ := hrow; exact (Array.getElem?_eq_some_iff.1 h1).1
  have hrow0 := hrow.of_block (w' := w.alloc (.cells #[.int .i64 d.x0, .int .i64 d.x1] 38)) (Below.heap_alloc _ _ _ hlt)
  obtain ⟨r0, r1, r2, r3⟩ := four_cells hrow0
  clear hrow hrow0 hs
  generalize canD zs d.x0 d.x1 = b at *
  go_enter Try.func56, Try.ntmps56
  go_wp2_with fail
  refine (HC.out _).mono ?_; rintro e w2 ⟨rfl, hb2⟩
  go_wp2_with fail
  go_ret
  exact ⟨rfl, below_next ((Below.refl _ _).alloc (Nat.le_refl _) _) hb2⟩
end Go.Proofs.Ytnakkmmmkbjfbaa
