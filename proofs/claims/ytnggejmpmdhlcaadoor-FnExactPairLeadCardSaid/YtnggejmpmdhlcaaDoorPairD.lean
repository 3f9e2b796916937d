
/-
  PAIRS, THE MODEL's WAY: dbCycle, dbEmpty, PairLead, PairPeriod, DoesPairEmpty, PairStepsToEmpty.
-/
import Derived.Test.YtnggejmpmdhlcaaDoorPairV
namespace Go.Proofs.YtnggejmpmdhlcaaDoor
open Go.RowKit Go.Deep
set_option linter.unusedVariables false

/-- Which of the first k numbers of the orbit is j, or -1. -/
def idxF (s x : Nat) : Nat → Nat → Int
  | 0, _ => -1
  | k + 1, j => if orb s x k = j then (k : Int) else idxF s x k j
theorem idxF_neg (s x : Nat) : ∀ (k j : Nat), (∀ i, i < k → orb s x i ≠ j) → idxF s x k j = -1
  | 0, _, _ => rfl
  | k + 1, j, h => by
    unfold idxF
    rw [if_neg (h k (by omega)), idxF_neg s x k j (fun i hi => h i (by omega))]
theorem idxF_cases (s x : Nat) : ∀ (k j : Nat), (∃ i, i < k ∧ orb s x i = j ∧ idxF s x k j = (i : Int)) ∨ ((∀ i, i < k → orb s x i ≠ j) ∧ idxF s x k j = -1)
  | 0, _ => .inr ⟨fun _ h => by omega, rfl⟩
  | k + 1, j => by
    by_cases e : orb s x k = j
    · exact .inl ⟨k, by omega, e, by unfold idxF; rw [if_pos e]⟩
    · rcases idxF_cases s x k j with ⟨i, h1, h2, h3⟩ | ⟨h1, h2⟩
      · exact .inl ⟨i, by omega, h2, by unfold idxF; rw [if_neg e, h3]⟩
      · refine .inr ⟨fun i hi he => ?_, by unfold idxF; rw [if_neg e, h2]⟩
        rcases Nat.lt_or_ge i k with h | h
        · exact h1 i h he
        · rw [show i = k from by omega] at he; exact e he

theorem dbCycle_any (a b : Nat) (h1 : 1 ≤ a + b) (h : a + b ≤ 100000) (w : World) :
    Calls Tryd.prog 16 #[.int .i64 (a : Int), .int .i64 (b : Int)] w fun e w' => e = .returned (.tuple #[.int .i64 ((leadN (a + b) a : Nat) : Int), .int .i64 ((perN (a + b) a : Nat) : Int)]) ∧ Below w.heap.size w w' := by
  have hmk := run_make_row' (P := Tryd.prog) 36 3 (.int .i64 0) 8 Tryd.underlying36 infoInt rfl .i64 .i64 (a + b + 1) (by omega) (by omega)
  rw [show ((a + b + 1 : Nat) : Int) = (a : Int) + (b : Int) + 1 from by omega] at hmk
  have HO := hide (fun k => orb_le (s := a + b) (x := a) (by omega) k)
  have HF := hide (fun i N (hf : first (a + b) a i N) => per_of_first (s := a + b) (x := a) h1 (by omega) (by omega) hf)
  have HD := hide (fun n (hd : ∀ i j, i < j → j < n → orb (a + b) a i ≠ orb (a + b) a j) => different_le (s := a + b) (x := a) (by omega) hd)
  generalize leadN (a + b) a = L at *
  generalize perN (a + b) a = P at *
  go_enter Tryd.func16, Tryd.ntmps16
  go_wp2_with fail
  go_loopw [18] (fun i wr => ∃ k : Nat, k ≤ a + b + 1 ∧ i = .int .i64 k ∧ wr.rowIs w.heap.size 3 (a + b + 1) (fun j => if j < k then .int .i64 (-1) else .int .i64 0) ∧ Below w.heap.size w wr ∧ wr.heap.size = w.heap.size + 1)
    (fun i _ => a + b + 1 - (intOf i).toNat)
  case atStart => exact ⟨0, Nat.zero_le _, rfl, (World.rowIs_made w _ _ _).congr (fun i _ => by simp), (Below.refl _ _).alloc (Nat.le_refl _) _, by simp⟩
  case round =>
    obtain ⟨k, hk, rfl, hrow, hb, hs⟩ := hrel
    by_cases hlt : k < a + b + 1
    · have hold := hrow.cell hlt
      have hfz := hrow.frozen k
      go_wp2_with fail
      go_roundw
      case rel =>
        refine ⟨k + 1, by omega, by go_num, (hrow.set k _).congr (fun i hi => ?_), hb.setCell (Nat.le_refl _) _, by simpa using hs⟩
        by_cases e : i = k
        · subst e; simp
        · simp [e, show (i < k + 1) ↔ i < k from by omega]
      case measure => simp [intOf]; omega
    · have hrow0 := hrow.congr (g := fun j => Value.int .i64 (idxF (a + b) a 0 j)) (fun j hj => by rw [if_pos (by omega)]; rfl)
      clear hrow hmk
      go_wp2_with fail
      go_loopw [0, 1, 9] (fun p q n wr => ∃ k : Nat, p = .int .i64 ((orb (a + b) a k : Nat) : Int) ∧ q = .int .i64 ((a + b - orb (a + b) a k : Nat) : Int) ∧ n = .int .i64 k ∧ (∀ i j, i < j → j < k → orb (a + b) a i ≠ orb (a + b) a j) ∧
          wr.rowIs w.heap.size 3 (a + b + 1) (fun j => .int .i64 (idxF (a + b) a k j)) ∧ Below w.heap.size w wr ∧ wr.heap.size = w.heap.size + 1)
        (fun _ _ n _ => a + b + 2 - (intOf n).toNat)
      case atStart => exact ⟨0, rfl, by simp [orb], rfl, fun _ _ _ h => by omega, hrow0, hb, hs⟩
      case round =>
        clear hrow0 hb hs
        obtain ⟨k, rfl, rfl, rfl, hdiff, hrow, hb, hs⟩ := hrel
        have hk1 := HD.out k hdiff
        have hl := HO.out k
        have Hdiff := hide hdiff
        clear hdiff
        have hlt : orb (a + b) a k < a + b + 1 := by omega
        have hold := hrow.cell hlt
        have hfz := hrow.frozen (orb (a + b) a k)
        rcases idxF_cases (a + b) a k (orb (a + b) a k) with ⟨i, hi, he, hv⟩ | ⟨hn, hv⟩
        · -- it comes again
          rw [hv] at hold
          have hf := HF.out i k ⟨hi, he, Hdiff.out⟩
          have e1 : L = i := hf.1.symm
          have e2 : ((P : Nat) : Int) = (k : Int) - (i : Int) := by rw [← hf.2]; omega
          have E2 := hide e2
          subst e1
          clear hf he hv e2
          go_wp2_with fail
          go_quiet (fail)
          go_wp2_with fail
          go_ret2
          exact ⟨by rw [E2.out]; rfl, below_drewN hb _⟩
        · rw [hv] at hold
          have HS := hide (fun W => dbStep_any (orb (a + b) a k) (a + b - orb (a + b) a k) (by omega) (by omega) W)
          have e3 : orb (a + b) a k + (a + b - orb (a + b) a k) = a + b := by omega
          simp only [e3] at HS
          have HN := hide (show orb (a + b) a (k + 1) = pf (a + b) (orb (a + b) a k) from rfl)
          have Hn := hide hn
          clear hn hv e3
          go_wp2_with fail
          refine (HS.out _).mono ?_; rintro e w' ⟨rfl, rfl⟩
          rw [← HN.out]
          go_wp2_with fail
          go_roundw
          case rel =>
            refine ⟨k + 1, rfl, rfl, by go_num, fun i j hij hj => ?_, (hrow.set _ _).congr (fun j hj => ?_), hb.setCell (Nat.le_refl _) _, by simpa using hs⟩
            · rcases Nat.lt_or_ge j k with hjk | hjk
              · exact Hdiff.out i j hij hjk
              · rw [show j = k from by omega]; exact Hn.out i (by omega)
            · by_cases e : j = orb (a + b) a k
              · subst e; simp [idxF]
              · simp [e, idxF, Ne.symm e]
          case measure => simp [intOf]; omega

/-- The first number of the orbit, from k on, up to the lead, that is 0 or s; else -1. -/
theorem dbEmpty_no (a b : Nat) (h1 : 1 ≤ a + b) (h : a + b ≤ 100000) (w : World) (hn : ¬ emp (a + b) (orb (a + b) a (leadN (a + b) a))) :
    Calls Tryd.prog 21 #[.int .i64 (a : Int), .int .i64 (b : Int)] w fun e w' => e = .returned (.int .i64 (-1)) ∧ Below w.heap.size w w' := by
  have HC := hide (fun W => dbCycle_any a b h1 h W)
  have HO := hide (fun k => orb_le (s := a + b) (x := a) (by omega) k)
  have HE := hide (fun k (hk : emp (a + b) (orb (a + b) a k)) => hn (emp_lead (s := a + b) (x := a) h1 (by omega) (by omega) hk).2)
  clear hn
  have hL := leadN_le (a + b) a
  generalize leadN (a + b) a = L at *
  generalize perN (a + b) a = P at *
  go_enter Tryd.func21, Tryd.ntmps21
  go_wp2_with fail
  refine (HC.out _).mono ?_; rintro e w1 ⟨rfl, hb1⟩
  go_wp2_with fail
  go_loopw [0, 1, 7] (fun p q n wr => ∃ k : Nat, k ≤ L + 1 ∧ p = .int .i64 ((orb (a + b) a k : Nat) : Int) ∧ q = .int .i64 ((a + b - orb (a + b) a k : Nat) : Int) ∧ n = .int .i64 k ∧ wr = w1)
    (fun _ _ n _ => L + 2 - (intOf n).toNat)
  case atStart => exact ⟨0, by omega, by simp [orb], by simp [orb], rfl, rfl⟩
  case round =>
    obtain ⟨k, hk, rfl, rfl, rfl, rfl⟩ := hrel
    by_cases hlt : k ≤ L
    · have hl := HO.out k
      have hne : orb (a + b) a k ≠ 0 ∧ orb (a + b) a k ≠ a + b := ⟨fun e => HE.out k (.inl e), fun e => HE.out k (.inr e)⟩
      have d1 : (((orb (a + b) a k : Nat) : Int) == 0) = false := by simp; omega
      have d2 : (((a + b - orb (a + b) a k : Nat) : Int) == 0) = false := by simp; omega
      have HS := hide (fun W => dbStep_any (orb (a + b) a k) (a + b - orb (a + b) a k) (by omega) (by omega) W)
      have e3 : orb (a + b) a k + (a + b - orb (a + b) a k) = a + b := by omega
      simp only [e3] at HS
      have HN := hide (show orb (a + b) a (k + 1) = pf (a + b) (orb (a + b) a k) from rfl)
      clear e3 hne
      go_wp2_with fail
      refine (HS.out _).mono ?_; rintro e w' ⟨rfl, rfl⟩
      rw [← HN.out]
      go_wp2_with fail
      go_roundw
      case rel => exact ⟨k + 1, by omega, rfl, rfl, by go_num, trivial⟩
      case measure => simp [intOf]; omega
    · go_wp2_with fail
      go_ret
      exact ⟨rfl, hb1⟩

theorem dbEmpty_yes (a b : Nat) (h1 : 1 ≤ a + b) (h : a + b ≤ 100000) (w : World) (hy : emp (a + b) (orb (a + b) a (leadN (a + b) a))) :
    Calls Tryd.prog 21 #[.int .i64 (a : Int), .int .i64 (b : Int)] w fun e w' => e = .returned (.int .i64 ((leadN (a + b) a : Nat) : Int)) ∧ Below w.heap.size w w' := by
  have HC := hide (fun W => dbCycle_any a b h1 h W)
  have HO := hide (fun k => orb_le (s := a + b) (x := a) (by omega) k)
  have HE := hide (fun k (hk : emp (a + b) (orb (a + b) a k)) => (emp_lead (s := a + b) (x := a) h1 (by omega) (by omega) hk).1)
  have HY := hide hy
  clear hy
  have hL := leadN_le (a + b) a
  generalize leadN (a + b) a = L at *
  generalize perN (a + b) a = P at *
  go_enter Tryd.func21, Tryd.ntmps21
  go_wp2_with fail
  refine (HC.out _).mono ?_; rintro e w1 ⟨rfl, hb1⟩
  go_wp2_with fail
  go_loopw [0, 1, 7] (fun p q n wr => ∃ k : Nat, k ≤ L ∧ p = .int .i64 ((orb (a + b) a k : Nat) : Int) ∧ q = .int .i64 ((a + b - orb (a + b) a k : Nat) : Int) ∧ n = .int .i64 k ∧ wr = w1)
    (fun _ _ n _ => L + 2 - (intOf n).toNat)
  case atStart => exact ⟨0, by omega, by simp [orb], by simp [orb], rfl, rfl⟩
  case round =>
    obtain ⟨k, hk, rfl, rfl, rfl, rfl⟩ := hrel
    by_cases hlt : k < L
    · have hl := HO.out k
      have hne : orb (a + b) a k ≠ 0 ∧ orb (a + b) a k ≠ a + b := ⟨fun e => by have := HE.out k (.inl e); omega, fun e => by have := HE.out k (.inr e); omega⟩
      have d1 : (((orb (a + b) a k : Nat) : Int) == 0) = false := by simp; omega
      have d2 : (((a + b - orb (a + b) a k : Nat) : Int) == 0) = false := by simp; omega
      have HS := hide (fun W => dbStep_any (orb (a + b) a k) (a + b - orb (a + b) a k) (by omega) (by omega) W)
      have e3 : orb (a + b) a k + (a + b - orb (a + b) a k) = a + b := by omega
      simp only [e3] at HS
      have HN := hide (show orb (a + b) a (k + 1) = pf (a + b) (orb (a + b) a k) from rfl)
      clear e3 hne
      go_wp2_with fail
      refine (HS.out _).mono ?_; rintro e w' ⟨rfl, rfl⟩
      rw [← HN.out]
      go_wp2_with fail
      go_roundw
      case rel => exact ⟨k + 1, by omega, rfl, rfl, by go_num, trivial⟩
      case measure => simp [intOf]; omega
    · obtain rfl : k = L := by omega
      have hl := HO.out k
      rcases HY.out with e0 | e0
      · have d1 : (((orb (a + b) a k : Nat) : Int) == 0) = true := by simp; omega
        clear e0
        go_wp2_with fail
        go_ret
        exact ⟨rfl, hb1⟩
      · by_cases hz : orb (a + b) a k = 0
        · have d1 : (((orb (a + b) a k : Nat) : Int) == 0) = true := by simp; omega
          clear e0 hz
          go_wp2_with fail
          go_ret
          exact ⟨rfl, hb1⟩
        · have d1 : (((orb (a + b) a k : Nat) : Int) == 0) = false := by simp; omega
          have d2 : (((a + b - orb (a + b) a k : Nat) : Int) == 0) = true := by simp; omega
          clear e0 hz
          go_wp2_with fail
          go_ret
          exact ⟨rfl, hb1⟩

theorem empN_true {x y : Nat} (h : empN x y = true) : emp (x + y) (orb (x + y) x (leadN (x + y) x)) := by unfold emp; exact of_decide_eq_true h
theorem empN_false {x y : Nat} (h : empN x y = false) : ¬ emp (x + y) (orb (x + y) x (leadN (x + y) x)) := by unfold emp; exact of_decide_eq_false h

theorem specPairLead_any (a b : Int) (w : World) (ha : -9223372036854775808 ≤ a ∧ a ≤ 9223372036854775807) (hb : -9223372036854775808 ≤ b ∧ b ≤ 9223372036854775807) :
    Calls Tryd.prog 7 #[.int .i64 a, .int .i64 b] w fun e w' => e = .returned (.tuple #[.int .i64 (leadV a b), .bool (pairOk a b)]) ∧ Below w.heap.size w w' := by
  have HP := hide (fun W => dbPair_any a b W ha hb)
  cases hp : pairOk a b
  · have H := hide (show leadV a b = 0 from by unfold leadV; rw [hp]; rfl)
    rw [hp] at HP
    rw [H.out]
    clear hp
    go_enter Tryd.func7, Tryd.ntmps7
    go_wp2_with fail
    refine (HP.out _).mono ?_; rintro e w' ⟨rfl, rfl⟩
    go_wp2_with fail
    go_ret2
    exact ⟨rfl, Below.refl _ _⟩
  · obtain ⟨x, y, rfl, rfl, h1, h2⟩ := pairOk_nat hp
    have H := hide (show leadV (x : Int) (y : Int) = ((leadN (x + y) x : Nat) : Int) from by unfold leadV; rw [hp]; simp)
    have HC := hide (fun W => dbCycle_any x y h1 h2 W)
    rw [hp] at HP
    rw [H.out]
    generalize leadN (x + y) x = L at *
    clear hp ha hb
    go_enter Tryd.func7, Tryd.ntmps7
    go_wp2_with fail
    refine (HP.out _).mono ?_; rintro e w1 ⟨rfl, rfl⟩
    go_wp2_with fail
    refine (HC.out _).mono ?_; rintro e w2 ⟨rfl, hb2⟩
    go_wp2_with fail
    go_ret2
    exact ⟨rfl, hb2⟩

theorem specPairPeriod_any (a b : Int) (w : World) (ha : -9223372036854775808 ≤ a ∧ a ≤ 9223372036854775807) (hb : -9223372036854775808 ≤ b ∧ b ≤ 9223372036854775807) :
    Calls Tryd.prog 9 #[.int .i64 a, .int .i64 b] w fun e w' => e = .returned (.tuple #[.int .i64 (perV a b), .bool (pairOk a b)]) ∧ Below w.heap.size w w' := by
  have HP := hide (fun W => dbPair_any a b W ha hb)
  cases hp : pairOk a b
  · have H := hide (show perV a b = 0 from by unfold perV; rw [hp]; rfl)
    rw [hp] at HP
    rw [H.out]
    clear hp
    go_enter Tryd.func9, Tryd.ntmps9
    go_wp2_with fail
    refine (HP.out _).mono ?_; rintro e w' ⟨rfl, rfl⟩
    go_wp2_with fail
    go_ret2
    exact ⟨rfl, Below.refl _ _⟩
  · obtain ⟨x, y, rfl, rfl, h1, h2⟩ := pairOk_nat hp
    have H := hide (show perV (x : Int) (y : Int) = ((perN (x + y) x : Nat) : Int) from by unfold perV; rw [hp]; simp)
    have HC := hide (fun W => dbCycle_any x y h1 h2 W)
    rw [hp] at HP
    rw [H.out]
    generalize leadN (x + y) x = L at *
    generalize perN (x + y) x = P at *
    clear hp ha hb
    go_enter Tryd.func9, Tryd.ntmps9
    go_wp2_with fail
    refine (HP.out _).mono ?_; rintro e w1 ⟨rfl, rfl⟩
    go_wp2_with fail
    refine (HC.out _).mono ?_; rintro e w2 ⟨rfl, hb2⟩
    go_wp2_with fail
    go_ret2
    exact ⟨rfl, hb2⟩

theorem specDoesPairEmpty_any (a b : Int) (w : World) (ha : -9223372036854775808 ≤ a ∧ a ≤ 9223372036854775807) (hb : -9223372036854775808 ≤ b ∧ b ≤ 9223372036854775807) :
    Calls Tryd.prog 11 #[.int .i64 a, .int .i64 b] w fun e w' => e = .returned (.tuple #[.bool (emptiesV a b), .bool (pairOk a b)]) ∧ Below w.heap.size w w' := by
  have HP := hide (fun W => dbPair_any a b W ha hb)
  cases hp : pairOk a b
  · have H := hide (show emptiesV a b = false from by unfold emptiesV; rw [hp]; rfl)
    rw [hp] at HP
    rw [H.out]
    clear hp
    go_enter Tryd.func11, Tryd.ntmps11
    go_wp2_with fail
    refine (HP.out _).mono ?_; rintro e w' ⟨rfl, rfl⟩
    go_wp2_with fail
    go_ret2
    exact ⟨rfl, Below.refl _ _⟩
  · obtain ⟨x, y, rfl, rfl, h1, h2⟩ := pairOk_nat hp
    rw [hp] at HP
    cases he : empN x y
    · have H := hide (show emptiesV (x : Int) (y : Int) = false from by unfold emptiesV; rw [hp]; simpa using he)
      have HC := hide (fun W => dbEmpty_no x y h1 h2 W (empN_false he))
      rw [H.out]
      clear hp ha hb he
      go_enter Tryd.func11, Tryd.ntmps11
      go_wp2_with fail
      refine (HP.out _).mono ?_; rintro e w1 ⟨rfl, rfl⟩
      go_wp2_with fail
      refine (HC.out _).mono ?_; rintro e w2 ⟨rfl, hb2⟩
      go_wp2_with fail
      go_ret2
      exact ⟨rfl, hb2⟩
    · have H := hide (show emptiesV (x : Int) (y : Int) = true from by unfold emptiesV; rw [hp]; simpa using he)
      have HC := hide (fun W => dbEmpty_yes x y h1 h2 W (empN_true he))
      rw [H.out]
      generalize leadN (x + y) x = L at *
      clear hp ha hb he
      go_enter Tryd.func11, Tryd.ntmps11
      go_wp2_with fail
      refine (HP.out _).mono ?_; rintro e w1 ⟨rfl, rfl⟩
      go_wp2_with fail
      refine (HC.out _).mono ?_; rintro e w2 ⟨rfl, hb2⟩
      go_wp2_with fail
      go_ret2
      exact ⟨rfl, hb2⟩

theorem specPairStepsToEmpty_any (a b : Int) (w : World) (ha : -9223372036854775808 ≤ a ∧ a ≤ 9223372036854775807) (hb : -9223372036854775808 ≤ b ∧ b ≤ 9223372036854775807) :
    Calls Tryd.prog 13 #[.int .i64 a, .int .i64 b] w fun e w' => e = .returned (.tuple #[.int .i64 (toEmptyV a b), .bool (emptiesV a b)]) ∧ Below w.heap.size w w' := by
  have HP := hide (fun W => dbPair_any a b W ha hb)
  cases hp : pairOk a b
  · have H2 := hide (show emptiesV a b = false from by unfold emptiesV; rw [hp]; rfl)
    have H := hide (show toEmptyV a b = 0 from by unfold toEmptyV; rw [H2.out]; rfl)
    rw [hp] at HP
    rw [H.out, H2.out]
    clear hp
    go_enter Tryd.func13, Tryd.ntmps13
    go_wp2_with fail
    refine (HP.out _).mono ?_; rintro e w' ⟨rfl, rfl⟩
    go_wp2_with fail
    go_ret2
    exact ⟨rfl, Below.refl _ _⟩
  · obtain ⟨x, y, rfl, rfl, h1, h2⟩ := pairOk_nat hp
    rw [hp] at HP
    cases he : empN x y
    · have H2 := hide (show emptiesV (x : Int) (y : Int) = false from by unfold emptiesV; rw [hp]; simpa using he)
      have H := hide (show toEmptyV (x : Int) (y : Int) = 0 from by unfold toEmptyV; rw [H2.out]; rfl)
      have HC := hide (fun W => dbEmpty_no x y h1 h2 W (empN_false he))
      rw [H.out, H2.out]
      clear hp ha hb he
      go_enter Tryd.func13, Tryd.ntmps13
      go_wp2_with fail
      refine (HP.out _).mono ?_; rintro e w1 ⟨rfl, rfl⟩
      go_wp2_with fail
      refine (HC.out _).mono ?_; rintro e w2 ⟨rfl, hb2⟩
      go_wp2_with fail
      go_ret2
      exact ⟨rfl, hb2⟩
    · have H2 := hide (show emptiesV (x : Int) (y : Int) = true from by unfold emptiesV; rw [hp]; simpa using he)
      have H := hide (show toEmptyV (x : Int) (y : Int) = ((leadN (x + y) x : Nat) : Int) from by unfold toEmptyV leadV; rw [H2.out, hp]; simp)
      have HC := hide (fun W => dbEmpty_yes x y h1 h2 W (empN_true he))
      rw [H.out, H2.out]
      generalize leadN (x + y) x = L at *
      clear hp ha hb he
      go_enter Tryd.func13, Tryd.ntmps13
      go_wp2_with fail
      refine (HP.out _).mono ?_; rintro e w1 ⟨rfl, rfl⟩
      go_wp2_with fail
      refine (HC.out _).mono ?_; rintro e w2 ⟨rfl, hb2⟩
      go_wp2_with fail
      refine (HC.out _).mono ?_; rintro e w3 ⟨rfl, hb3⟩
      go_wp2_with fail
      go_ret2
      exact ⟨rfl, below_next hb2 hb3⟩
end Go.Proofs.YtnggejmpmdhlcaaDoor
