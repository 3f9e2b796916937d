
/-
  DISTANCES IN A ROW AND THE MOST THAT IS CARRIED, BOTH WAYS.
-/
import Derived.Test.YtdcfaohpelekbaaFlows
namespace Go.Proofs.Ytdcfaohpelekbaa
open Go.RowKit Go.Deep

/-- The model's LineDistance. -/
theorem specLineDistance_any (A : Option Addr) (n c B : Nat) (zs : List Int) (w : World) (hr : Ints w B A n zs) (hB : B ≤ w.heap.size) (hn : n ≤ 17592186044416) :
    Calls Try.prog 22 #[.slice A n c] w fun e w' => e = .returned (.tuple #[.int .i64 (sizes (flowsR zs)), .bool (eqOk zs)]) ∧ Below w.heap.size w w' := by
  obtain rfl := hr.len
  cases hq : eqOk zs
  · rw [flowsR_no hq]
    have hqb : eqOk zs = false := hq
    go_enter Try.func22, Try.ntmps22
    go_wp2_with fail
    refine (hpEqual_any _ _ _ _ _ _ hr hn).mono ?_; rintro e w' ⟨rfl, rfl⟩; rw [hqb]
    go_wp2_with fail
    go_ret2
    exact ⟨rfl, Below.refl _ _⟩
  · rw [flowsR_yes hq]
    have hqb : eqOk zs = true := hq
    have hle := (good_of (eqOk_good hqb)).2.1
    have HF := hide (flows_length zs)
    have HS := hide (flows_small (eqOk_good hqb))
    go_enter Try.func22, Try.ntmps22
    go_wp2_with fail
    refine (hpEqual_any _ _ _ _ _ _ hr hn).mono ?_; rintro e w' ⟨rfl, rfl⟩; rw [hqb]
    go_wp2_with fail
    refine (hpFlows_any _ _ _ _ _ _ hr hB (eqOk_good hqb)).mono ?_
    rintro e w1 ⟨A', c', rfl, h1, h2, hown, hb⟩
    have hx := hown.ints
    go_wp2_with fail
    refine (hpSize_any _ _ _ _ _ _ hx (by rw [HF.out]; omega) HS.out).mono ?_; rintro e w' ⟨rfl, rfl⟩
    go_wp2_with fail
    go_ret2
    exact ⟨rfl, hb⟩

/-- The program's LineDistance. -/
theorem LineDistance_any (A : Option Addr) (n c B : Nat) (zs : List Int) (w : World) (hr : Ints w B A n zs) (hB : B ≤ w.heap.size) (hn : n ≤ 17592186044416) :
    Calls Try.prog 23 #[.slice A n c] w fun e w' => e = .returned (.tuple #[.int .i64 (sizes (flowsR zs)), .bool (eqOk zs)]) ∧ Below w.heap.size w w' := by
  have HS := hide (flowsR_small zs)
  go_enter Try.func23, Try.ntmps23
  go_wp2_with fail
  refine (LineFlows_any _ _ _ _ _ _ hr hB hn).mono ?_
  rintro e w1 ⟨A', c', rfl, h1, h2, hown, hb⟩
  have hx := hown.ints
  have hl12 := HS.out.2
  go_wp2_with fail
  refine (sumOfSizes_any _ _ _ _ _ _ hx (by omega) HS.out.1).mono ?_; rintro e w' ⟨rfl, rfl⟩
  go_wp2_with fail
  go_ret2
  exact ⟨rfl, hb⟩

/-- The model's MostCarried. -/
theorem specMostCarried_any (A : Option Addr) (n c B : Nat) (zs : List Int) (w : World) (hr : Ints w B A n zs) (hB : B ≤ w.heap.size) (hn : n ≤ 17592186044416) :
    Calls Try.prog 28 #[.slice A n c] w fun e w' => e = .returned (.tuple #[.int .i64 (most (flowsR zs)), .bool (eqOk zs)]) ∧ Below w.heap.size w w' := by
  obtain rfl := hr.len
  cases hq : eqOk zs
  · rw [flowsR_no hq]
    have hqb : eqOk zs = false := hq
    go_enter Try.func28, Try.ntmps28
    go_wp2_with fail
    refine (hpEqual_any _ _ _ _ _ _ hr hn).mono ?_; rintro e w' ⟨rfl, rfl⟩; rw [hqb]
    go_wp2_with fail
    go_ret2
    exact ⟨rfl, Below.refl _ _⟩
  · rw [flowsR_yes hq]
    have hqb : eqOk zs = true := hq
    have hle := (good_of (eqOk_good hqb)).2.1
    have HF := hide (flows_length zs)
    have HS := hide (flows_small (eqOk_good hqb))
    have hfl : (flows zs).length ≤ 12 := by rw [HF.out]; omega
    go_enter Try.func28, Try.ntmps28
    go_wp2_with fail
    refine (hpEqual_any _ _ _ _ _ _ hr hn).mono ?_; rintro e w' ⟨rfl, rfl⟩; rw [hqb]
    go_wp2_with fail
    refine (hpFlows_any _ _ _ _ _ _ hr hB (eqOk_good hqb)).mono ?_
    rintro e w1 ⟨A', c', rfl, h1, h2, hown, hb⟩
    have hx := hown.ints
    go_wp2_with fail
    go_loop [4, 13] (fun s i => ∃ k : Nat, k ≤ (flows zs).length ∧ i = .int .i64 k ∧ s = .int .i64 (most ((flows zs).take k)))
      (fun _ i => (flows zs).length - (intOf i).toNat)
    case atStart => exact ⟨0, Nat.zero_le _, rfl, rfl⟩
    case round =>
      obtain ⟨k, hk, rfl, rfl⟩ := hrel
      by_cases hlt : k < (flows zs).length
      · have Hs := hide (most_take_succ (flows zs) k hlt)
        have hk2 := within_get HS.out k hlt
        obtain ⟨ad, rfl, hab, hcell⟩ := hx.at_ hlt
        rw [show (flows zs).getD k 0 = (flows zs)[k] from by simp [List.getD, List.getElem?_eq_getElem hlt]] at hcell
        go_wp2_with fail
        refine (l1Abs_any _ (by omega) (by omega) _).mono ?_; rintro e w' ⟨rfl, rfl⟩
        go_wp2_with fail
        refine (l1Most_any _ _ _).mono ?_; rintro e w' ⟨rfl, rfl⟩
        go_wp2_with fail
        go_round
        case rel => exact ⟨k + 1, by omega, by go_num, by rw [Hs.out]⟩
        case measure => simp [intOf]; omega
      · go_wp2
        go_ret2
        exact ⟨by rw [List.take_of_length_le (by omega)]; rfl, hb⟩

/-- The program's MostCarried. -/
theorem MostCarried_any (A : Option Addr) (n c B : Nat) (zs : List Int) (w : World) (hr : Ints w B A n zs) (hB : B ≤ w.heap.size) (hn : n ≤ 17592186044416) :
    Calls Try.prog 29 #[.slice A n c] w fun e w' => e = .returned (.tuple #[.int .i64 (most (flowsR zs)), .bool (eqOk zs)]) ∧ Below w.heap.size w w' := by
  have HS := hide (flowsR_small zs)
  go_enter Try.func29, Try.ntmps29
  go_wp2_with fail
  refine (LineFlows_any _ _ _ _ _ _ hr hB hn).mono ?_
  rintro e w1 ⟨A', c', rfl, h1, h2, hown, hb⟩
  have hx := hown.ints
  have hl12 := HS.out.2
  go_wp2_with fail
  go_loop [6, 16] (fun s i => ∃ k : Nat, k ≤ (flowsR zs).length ∧ i = .int .i64 k ∧ s = .int .i64 (most ((flowsR zs).take k)))
    (fun _ i => (flowsR zs).length - (intOf i).toNat)
  case atStart => exact ⟨0, Nat.zero_le _, rfl, rfl⟩
  case round =>
    obtain ⟨k, hk, rfl, rfl⟩ := hrel
    by_cases hlt : k < (flowsR zs).length
    · have Hs := hide (most_take_succ (flowsR zs) k hlt)
      have hk2 := within_get HS.out.1 k hlt
      obtain ⟨ad, rfl, hab, hcell⟩ := hx.at_ hlt
      rw [show (flowsR zs).getD k 0 = (flowsR zs)[k] from by simp [List.getD, List.getElem?_eq_getElem hlt]] at hcell
      go_wp2_with fail
      refine (sizeOf_any _ (by omega) (by omega) _).mono ?_; rintro e w' ⟨rfl, rfl⟩
      generalize most ((flowsR zs).take k) = m1 at *
      generalize size1 (flowsR zs)[k] = m2 at *
      go_wp2_with fail
      all_goals
        go_round
        case rel => exact ⟨k + 1, by omega, by go_num, by rw [Hs.out]; exact congrArg (Value.int .i64) (by omega)⟩
        case measure => simp [intOf]; omega
    · go_wp2
      go_ret2
      exact ⟨by rw [List.take_of_length_le (by omega)]; rfl, hb⟩
end Go.Proofs.Ytdcfaohpelekbaa
