
/-
  PAIRS, THE PROGRAM's WAY: PairLead, PairPeriod, DoesPairEmpty, PairStepsToEmpty.
-/
import Derived.Test.YtnggejmpmdhlcaaDoorPairB
import Derived.Test.YtnggejmpmdhlcaaDoorPairV
namespace Go.Proofs.YtnggejmpmdhlcaaDoor
open Go.RowKit Go.Deep
set_option linter.unusedVariables false

theorem empB_emp {s p : Nat} (h : p ≤ s) : empB p (s - p) = decide (p = 0 ∨ p = s) := by
  unfold empB
  by_cases h1 : p = 0 ∨ p = s
  · rw [decide_eq_true h1, decide_eq_true]; omega
  · rw [decide_eq_false h1, decide_eq_false]; omega

theorem PairLead_any (a b : Int) (w : World) (hT : Tab w) :
    Calls Tryd.prog 8 #[.int .i64 a, .int .i64 b] w fun e w' => e = .returned (.tuple #[.int .i64 (leadV a b), .bool (pairOk a b)]) ∧ Below w.heap.size w w' := by
  have HP := hide (fun W => isPair_any a b W)
  cases hp : pairOk a b
  · have H := hide (show leadV a b = 0 from by unfold leadV; rw [hp]; rfl)
    rw [hp] at HP
    rw [H.out]
    clear hp
    go_enter Tryd.func8, Tryd.ntmps8
    go_wp2_with fail
    refine (HP.out _).mono ?_; rintro e w' ⟨rfl, hb1⟩
    go_wp2_with fail
    go_ret2
    exact ⟨rfl, hb1⟩
  · obtain ⟨x, y, rfl, rfl, h1, h2⟩ := pairOk_nat hp
    have H := hide (show leadV (x : Int) (y : Int) = ((leadN (x + y) x : Nat) : Int) from by unfold leadV; rw [hp]; simp)
    have HL := hide (fun W (hW : Tab W) => lead_any x y h1 h2 W hW)
    have HT := hide hT
    rw [hp] at HP
    rw [H.out]
    generalize leadN (x + y) x = L at *
    clear hp hT
    go_enter Tryd.func8, Tryd.ntmps8
    go_wp2_with fail
    refine (HP.out _).mono ?_; rintro e w1 ⟨rfl, hb1⟩
    go_wp2_with fail
    refine (HL.out _ (HT.out.next hb1)).mono ?_; rintro e w2 ⟨rfl, hb2⟩
    go_wp2_with fail
    go_ret2
    exact ⟨rfl, below_next hb1 hb2⟩

theorem DoesPairEmpty_any (a b : Int) (w : World) (hT : Tab w) :
    Calls Tryd.prog 12 #[.int .i64 a, .int .i64 b] w fun e w' => e = .returned (.tuple #[.bool (emptiesV a b), .bool (pairOk a b)]) ∧ Below w.heap.size w w' := by
  have HP := hide (fun W => isPair_any a b W)
  cases hp : pairOk a b
  · have H := hide (show emptiesV a b = false from by unfold emptiesV; rw [hp]; rfl)
    rw [hp] at HP
    rw [H.out]
    clear hp
    go_enter Tryd.func12, Tryd.ntmps12
    go_wp2_with fail
    refine (HP.out _).mono ?_; rintro e w' ⟨rfl, hb1⟩
    go_wp2_with fail
    go_ret2
    exact ⟨rfl, hb1⟩
  · obtain ⟨x, y, rfl, rfl, h1, h2⟩ := pairOk_nat hp
    have H := hide (show emptiesV (x : Int) (y : Int) = empB (orb (x + y) x (leadN (x + y) x)) (x + y - orb (x + y) x (leadN (x + y) x)) from by
      unfold emptiesV; rw [hp, empB_emp (orb_le (by omega) _)]; simp [empN])
    have HL := hide (fun W (hW : Tab W) => firstAgain_any x y h1 h2 W hW)
    have HE := hide (fun W => hasEmpty_any (orb (x + y) x (leadN (x + y) x)) (x + y - orb (x + y) x (leadN (x + y) x)) W)
    have HT := hide hT
    rw [hp] at HP
    rw [H.out]
    generalize orb (x + y) x (leadN (x + y) x) = p at *
    clear hp hT
    go_enter Tryd.func12, Tryd.ntmps12
    go_wp2_with fail
    refine (HP.out _).mono ?_; rintro e w1 ⟨rfl, hb1⟩
    go_wp2_with fail
    refine (HL.out _ (HT.out.next hb1)).mono ?_; rintro e w2 ⟨rfl, hb2⟩
    go_wp2_with fail
    refine (HE.out _).mono ?_; rintro e w3 ⟨rfl, hb3⟩
    go_wp2_with fail
    go_ret2
    exact ⟨rfl, below_next (below_next hb1 hb2) hb3⟩

theorem PairStepsToEmpty_any (a b : Int) (w : World) (hT : Tab w) :
    Calls Tryd.prog 14 #[.int .i64 a, .int .i64 b] w fun e w' => e = .returned (.tuple #[.int .i64 (toEmptyV a b), .bool (emptiesV a b)]) ∧ Below w.heap.size w w' := by
  have HE := hide (fun W (hW : Tab W) => DoesPairEmpty_any a b W hW)
  have HL := hide (fun W (hW : Tab W) => PairLead_any a b W hW)
  have HT := hide hT
  clear hT
  cases he : emptiesV a b
  · have H := hide (show toEmptyV a b = 0 from by unfold toEmptyV; rw [he]; rfl)
    rw [he] at HE
    rw [H.out]
    clear he
    go_enter Tryd.func14, Tryd.ntmps14
    go_wp2_with fail
    refine (HE.out _ HT.out).mono ?_; rintro e w1 ⟨rfl, hb1⟩
    go_wp2_with fail
    go_ret2
    exact ⟨rfl, hb1⟩
  · have H := hide (show toEmptyV a b = leadV a b from by unfold toEmptyV; rw [he]; rfl)
    have hp : pairOk a b = true := by unfold emptiesV at he; simp at he; exact he.1
    rw [he] at HE
    rw [hp] at HL
    rw [H.out]
    clear he hp
    generalize leadV a b = L at *
    go_enter Tryd.func14, Tryd.ntmps14
    go_wp2_with fail
    refine (HE.out _ HT.out).mono ?_; rintro e w1 ⟨rfl, hb1⟩
    go_wp2_with fail
    refine (HL.out _ (HT.out.next hb1)).mono ?_; rintro e w2 ⟨rfl, hb2⟩
    go_wp2_with fail
    go_ret2
    exact ⟨rfl, below_next hb1 hb2⟩

theorem PairPeriod_any (a b : Int) (w : World) (hT : Tab w) :
    Calls Tryd.prog 10 #[.int .i64 a, .int .i64 b] w fun e w' => e = .returned (.tuple #[.int .i64 (perV a b), .bool (pairOk a b)]) ∧ Below w.heap.size w w' := by
  have HP := hide (fun W => isPair_any a b W)
  cases hp : pairOk a b
  · have H := hide (show perV a b = 0 from by unfold perV; rw [hp]; rfl)
    rw [hp] at HP
    rw [H.out]
    clear hp
    go_enter Tryd.func10, Tryd.ntmps10
    go_wp2_with fail
    refine (HP.out _).mono ?_; rintro e w' ⟨rfl, hb1⟩
    go_wp2_with fail
    go_ret2
    exact ⟨rfl, hb1⟩
  · obtain ⟨x, y, rfl, rfl, h1, h2⟩ := pairOk_nat hp
    have H := hide (show perV (x : Int) (y : Int) = ((perN (x + y) x : Nat) : Int) from by unfold perV; rw [hp]; simp)
    have HL := hide (fun W (hW : Tab W) => firstAgain_any x y h1 h2 W hW)
    have hper := first_per (s := x + y) (x := x) h1 (by omega) (by omega)
    have hper1 := hper.1
    have hperle := different_le (s := x + y) (x := x) (by omega) hper.2.2.2
    have HPer := hide hper.2
    have HT := hide hT
    have HO := hide (fun k => orb_le (s := x + y) (x := x) (by omega) k)
    rw [hp] at HP
    rw [H.out]
    generalize leadN (x + y) x = L at *
    generalize perN (x + y) x = per at *
    clear hp hT hper
    go_enter Tryd.func10, Tryd.ntmps10
    go_wp2_with fail
    refine (HP.out _).mono ?_; rintro e w1 ⟨rfl, hb1⟩
    go_wp2_with fail
    refine (HL.out _ (HT.out.next hb1)).mono ?_; rintro e w2 ⟨rfl, hb2⟩
    go_wp2_with fail
    have hl0 := HO.out L
    have hstep : ∀ k, orb (x + y) x k + (x + y - orb (x + y) x k) = x + y := fun k => by have := HO.out k; omega
    have HS := hide (fun k W => step_any (orb (x + y) x k) (x + y - orb (x + y) x k) (by rw [hstep]; exact h2) W)
    have HST := hide hstep
    clear hstep
    simp only [HST.out] at HS
    have HN := hide (fun k => show orb (x + y) x (k + 1) = pf (x + y) (orb (x + y) x k) from rfl)
    have hfst := two_last w2 (.int .i64 ((orb (x + y) x L : Nat) : Int)) (.int .i64 ((x + y - orb (x + y) x L : Nat) : Int)) 30
    have hbA : Below w.heap.size w (w2.alloc (.cells #[.int .i64 ((orb (x + y) x L : Nat) : Int), .int .i64 ((x + y - orb (x + y) x L : Nat) : Int)] 30)) := (below_next hb1 hb2).alloc (by have := hb1.size; have := hb2.size; omega) _
    generalize w2.heap.size = bf at *
    generalize (w2.alloc (.cells #[.int .i64 ((orb (x + y) x L : Nat) : Int), .int .i64 ((x + y - orb (x + y) x L : Nat) : Int)] 30)) = w3 at *
    refine (HS.out L _).mono ?_; rintro e w4 ⟨rfl, hb4⟩
    rw [← HN.out L]
    go_wp2_with fail
    have hfst4 := (hb4.block _ (lt_of_block hfst)).trans hfst
    have hbB := (below_next hbA hb4).alloc (by have := hbA.size; have := hb4.size; omega) (.cells #[.int .i64 ((orb (x + y) x (L + 1) : Nat) : Int), .int .i64 ((x + y - orb (x + y) x (L + 1) : Nat) : Int)] 30)
    have hcur := two_last w4 (.int .i64 ((orb (x + y) x (L + 1) : Nat) : Int)) (.int .i64 ((x + y - orb (x + y) x (L + 1) : Nat) : Int)) 30
    have hfst5 : (w4.alloc (.cells #[.int .i64 ((orb (x + y) x (L + 1) : Nat) : Int), .int .i64 ((x + y - orb (x + y) x (L + 1) : Nat) : Int)] 30)).heap[bf]? = some (.cells #[.int .i64 ((orb (x + y) x L : Nat) : Int), .int .i64 ((x + y - orb (x + y) x L : Nat) : Int)] 30 (0, 0)) := by
      rw [Below.heap_alloc _ _ _ (lt_of_block hfst4)]; exact hfst4
    have hsz5 : w4.heap.size < (w4.alloc (.cells #[.int .i64 ((orb (x + y) x (L + 1) : Nat) : Int), .int .i64 ((x + y - orb (x + y) x (L + 1) : Nat) : Int)] 30)).heap.size := by simp
    generalize (w4.alloc (.cells #[.int .i64 ((orb (x + y) x (L + 1) : Nat) : Int), .int .i64 ((x + y - orb (x + y) x (L + 1) : Nat) : Int)] 30)) = w5 at *
    have hlt4 := lt_of_block hfst4
    have hwsz : w.heap.size ≤ w4.heap.size := by have := hbA.size; have := hb4.size; omega
    generalize w4.heap.size = bp at *
    clear hb1 hb2 hb4 hbA hfst hfst4
    have hne0 : bf ≠ bp := by omega
    go_loopw [7, 8] (fun t c wr => ∃ (k g : Nat), 1 ≤ k ∧ k ≤ per ∧ t = .int .i64 k ∧ c = .pointer (some ⟨g, 0, none⟩) ∧ w.heap.size ≤ g ∧ g ≠ bf ∧
        wr.heap[g]? = some (.cells #[.int .i64 ((orb (x + y) x (L + k) : Nat) : Int), .int .i64 ((x + y - orb (x + y) x (L + k) : Nat) : Int)] 30 (0, 0)) ∧
        wr.heap[bf]? = some (.cells #[.int .i64 ((orb (x + y) x L : Nat) : Int), .int .i64 ((x + y - orb (x + y) x L : Nat) : Int)] 30 (0, 0)) ∧ Below w.heap.size w wr)
      (fun t _ _ => per - (intOf t).toNat)
    case atStart => exact ⟨1, bp, Nat.le_refl _, hper1, rfl, rfl, hwsz, Ne.symm hne0, hcur, hfst5, hbB⟩
    case round =>
      obtain ⟨k, g, hk1, hk, rfl, rfl, hg, hgne, hc, hf, hb⟩ := hrel
      have c0 := two_0 hc
      have c1 := two_1 hc
      have f0 := two_0 hf
      have f1 := two_1 hf
      by_cases hlt : k < per
      · have hd : orb (x + y) x (L + k) ≠ orb (x + y) x L := fun e => HPer.out.2.2 L (L + k) (by omega) (by omega) e.symm
        have hd' : (((orb (x + y) x (L + k) : Nat) : Int) == ((orb (x + y) x L : Nat) : Int)) = false := by simp; omega
        have HD := hide hd
        clear hd
        go_wp2_with fail
        have hbX : Below w.heap.size w (wr.alloc (.cells #[.int .i64 ((orb (x + y) x (L + k) : Nat) : Int), .int .i64 ((x + y - orb (x + y) x (L + k) : Nat) : Int)] 30)) := hb.alloc hb.size _
        have hnew := two_last wr (.int .i64 ((orb (x + y) x (L + k) : Nat) : Int)) (.int .i64 ((x + y - orb (x + y) x (L + k) : Nat) : Int)) 30
        have hltf := lt_of_block hf
        have hfX : (wr.alloc (.cells #[.int .i64 ((orb (x + y) x (L + k) : Nat) : Int), .int .i64 ((x + y - orb (x + y) x (L + k) : Nat) : Int)] 30)).heap[bf]? = some (.cells #[.int .i64 ((orb (x + y) x L : Nat) : Int), .int .i64 ((x + y - orb (x + y) x L : Nat) : Int)] 30 (0, 0)) := by
          rw [Below.heap_alloc _ _ _ hltf]; exact hf
        have hwr := hb.size
        generalize (wr.alloc (.cells #[.int .i64 ((orb (x + y) x (L + k) : Nat) : Int), .int .i64 ((x + y - orb (x + y) x (L + k) : Nat) : Int)] 30)) = wx at *
        generalize wr.heap.size = bn at *
        clear c0 c1 f0 f1
        refine (HS.out (L + k) _).mono ?_; rintro e w6 ⟨rfl, hb6⟩
        rw [← HN.out (L + k)]
        have hn6 := (hb6.block _ (lt_of_block hnew)).trans hnew
        have hf6 := (hb6.block _ (lt_of_block hfX)).trans hfX
        have hbY := below_next hbX hb6
        have c0 := two_0 hn6
        have c1 := two_1 hn6
        have f0 := two_free hn6 0
        have f1 := two_free hn6 1
        go_wp2_with fail
        go_roundw
        case rel =>
          refine ⟨k + 1, bn, by omega, by omega, by go_num, rfl, by omega, by omega, ?_, ?_, (hbY.setCell (show w.heap.size ≤ bn by omega) _).setCell (show w.heap.size ≤ bn by omega) _⟩
          · exact two_set1 (two_set0 hn6)
          · rw [Below.heap_setCell _ _ _ _ (show bf ≠ bn by omega), Below.heap_setCell _ _ _ _ (show bf ≠ bn by omega)]; exact hf6
        case measure => simp [intOf]; omega
      · obtain rfl : k = per := by omega
        have he : orb (x + y) x (L + k) = orb (x + y) x L := HPer.out.2.1.symm
        rw [he] at c0 c1
        go_wp2_with fail
        go_ret2
        exact ⟨rfl, hb⟩
end Go.Proofs.YtnggejmpmdhlcaaDoor
