
/-
  THE WALKS OF THE EXACT LAWS OF PAIRS: for all numbers the law returns true and writes nothing that was there.
-/
import Derived.Test.YtnggejmpmdhlcaaDoorPairC
import Derived.Test.YtnggejmpmdhlcaaDoorPairD
namespace Go.Proofs.YtnggejmpmdhlcaaDoor
open Go.RowKit Go.Deep
set_option linter.unusedVariables false

theorem lawPairLead (a b : Int) (w : World) (ha : -9223372036854775808 ≤ a ∧ a ≤ 9223372036854775807) (hb : -9223372036854775808 ≤ b ∧ b ≤ 9223372036854775807) (hT : Tab w) :
    Calls Tryd.prog 3 #[.int .i64 a, .int .i64 b] w fun e w' => e = .returned (.bool true) ∧ Below w.heap.size w w' := by
  have HS := hide (fun W => specPairLead_any a b W ha hb)
  have HI := hide (fun W (h : Tab W) => PairLead_any a b W h)
  have HT := hide hT
  clear hT ha hb
  generalize leadV a b = v at *
  generalize pairOk a b = o at *
  have e1 : (v == v) = true := by simp
  have e2 : (v != v) = false := by simp
  have e3 : (o == o) = true := by simp
  have e4 : (o != o) = false := by simp
  go_enter Tryd.func3, Tryd.ntmps3
  go_wp2_with fail
  refine (HS.out _).mono ?_; rintro e w1 ⟨rfl, hb1⟩
  go_wp2_with fail
  refine (HI.out _ (HT.out.next hb1)).mono ?_; rintro e w2 ⟨rfl, hb2⟩
  go_wp2_with fail
  go_ret
  exact ⟨rfl, below_next hb1 hb2⟩

theorem lawPairPeriod (a b : Int) (w : World) (ha : -9223372036854775808 ≤ a ∧ a ≤ 9223372036854775807) (hb : -9223372036854775808 ≤ b ∧ b ≤ 9223372036854775807) (hT : Tab w) :
    Calls Tryd.prog 4 #[.int .i64 a, .int .i64 b] w fun e w' => e = .returned (.bool true) ∧ Below w.heap.size w w' := by
  have HS := hide (fun W => specPairPeriod_any a b W ha hb)
  have HI := hide (fun W (h : Tab W) => PairPeriod_any a b W h)
  have HT := hide hT
  clear hT ha hb
  generalize perV a b = v at *
  generalize pairOk a b = o at *
  have e1 : (v == v) = true := by simp
  have e2 : (v != v) = false := by simp
  have e3 : (o == o) = true := by simp
  have e4 : (o != o) = false := by simp
  go_enter Tryd.func4, Tryd.ntmps4
  go_wp2_with fail
  refine (HS.out _).mono ?_; rintro e w1 ⟨rfl, hb1⟩
  go_wp2_with fail
  refine (HI.out _ (HT.out.next hb1)).mono ?_; rintro e w2 ⟨rfl, hb2⟩
  go_wp2_with fail
  go_ret
  exact ⟨rfl, below_next hb1 hb2⟩

theorem lawDoesPairEmpty (a b : Int) (w : World) (ha : -9223372036854775808 ≤ a ∧ a ≤ 9223372036854775807) (hb : -9223372036854775808 ≤ b ∧ b ≤ 9223372036854775807) (hT : Tab w) :
    Calls Tryd.prog 5 #[.int .i64 a, .int .i64 b] w fun e w' => e = .returned (.bool true) ∧ Below w.heap.size w w' := by
  have HS := hide (fun W => specDoesPairEmpty_any a b W ha hb)
  have HI := hide (fun W (h : Tab W) => DoesPairEmpty_any a b W h)
  have HT := hide hT
  clear hT ha hb
  generalize emptiesV a b = v at *
  generalize pairOk a b = o at *
  have e1 : (v == v) = true := by simp
  have e2 : (v != v) = false := by simp
  have e3 : (o == o) = true := by simp
  have e4 : (o != o) = false := by simp
  go_enter Tryd.func5, Tryd.ntmps5
  go_wp2_with fail
  refine (HS.out _).mono ?_; rintro e w1 ⟨rfl, hb1⟩
  go_wp2_with fail
  refine (HI.out _ (HT.out.next hb1)).mono ?_; rintro e w2 ⟨rfl, hb2⟩
  go_wp2_with fail
  go_ret
  exact ⟨rfl, below_next hb1 hb2⟩

theorem lawPairStepsToEmpty (a b : Int) (w : World) (ha : -9223372036854775808 ≤ a ∧ a ≤ 9223372036854775807) (hb : -9223372036854775808 ≤ b ∧ b ≤ 9223372036854775807) (hT : Tab w) :
    Calls Tryd.prog 6 #[.int .i64 a, .int .i64 b] w fun e w' => e = .returned (.bool true) ∧ Below w.heap.size w w' := by
  have HS := hide (fun W => specPairStepsToEmpty_any a b W ha hb)
  have HI := hide (fun W (h : Tab W) => PairStepsToEmpty_any a b W h)
  have HT := hide hT
  clear hT ha hb
  generalize toEmptyV a b = v at *
  generalize emptiesV a b = o at *
  have e1 : (v == v) = true := by simp
  have e2 : (v != v) = false := by simp
  have e3 : (o == o) = true := by simp
  have e4 : (o != o) = false := by simp
  go_enter Tryd.func6, Tryd.ntmps6
  go_wp2_with fail
  refine (HS.out _).mono ?_; rintro e w1 ⟨rfl, hb1⟩
  go_wp2_with fail
  refine (HI.out _ (HT.out.next hb1)).mono ?_; rintro e w2 ⟨rfl, hb2⟩
  go_wp2_with fail
  go_ret
  exact ⟨rfl, below_next hb1 hb2⟩
end Go.Proofs.YtnggejmpmdhlcaaDoor
