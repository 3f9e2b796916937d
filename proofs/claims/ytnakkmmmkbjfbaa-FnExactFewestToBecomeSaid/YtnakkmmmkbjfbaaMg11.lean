import Derived.Test.YtnakkmmmkbjfbaaMg09
import Derived.Test.YtnakkmmmkbjfbaaMg04
import Derived.Test.YtnakkmmmkbjfbaaMg10
import Derived.Test.YtnakkmmmkbjfbaaMg06

/-
  WHAT FEW HEAPS ARE, BOTH WAYS.
-/
namespace Go.Proofs.Ytnakkmmmkbjfbaa
open Go.RowKit Go.Deep
set_option linter.unusedVariables false

/-- The program's AreFewHeaps. -/
theorem AreFewHeaps_any (A : Option Addr) (n c B : Nat) (zs : List Int) (w : World) (hr : Ints w B A n zs) (hn : n ≤ 17592186044416) :
    Calls Try.prog 26 #[.slice A n c] w fun e w' => e = .returned (.bool (few zs)) ∧ w = w' := by
  obtain rfl := hr.len
  have HS := hide (fun W (h : Ints W B A zs.length zs) => StonesOf_any A zs.length c B zs W h hn)
  cases hg : good zs
  · have H := hide (few_no1 hg)
    rw [hg] at HS
    rw [H.out]
    clear hg
    go_enter Try.func26, Try.ntmps26
    go_wp2_with fail
    refine (HS.out _ hr).mono ?_; rintro e w' ⟨rfl, rfl⟩
    go_wp2_with fail
    go_ret
    exact ⟨rfl, rfl⟩
  · rw [hg, stonesN_yes hg] at HS
    by_cases h2 : 2 ≤ zs.length
    · by_cases h4 : zs.length ≤ 4
      · by_cases h5 : 1 ≤ tot zs
        · by_cases h6 : tot zs ≤ 40
          · have H := hide (few_yes hg ⟨h2, h4⟩ ⟨h5, h6⟩)
            rw [H.out]
            clear hg
            go_enter Try.func26, Try.ntmps26
            go_wp2_with fail
            refine (HS.out _ hr).mono ?_; rintro e w' ⟨rfl, rfl⟩
            go_wp2_with fail
            go_ret
            exact ⟨ret_bool (by simp <;> omega), rfl⟩
          · have H := hide (few_no3 (zs := zs) (by omega))
            rw [H.out]
            clear hg
            go_enter Try.func26, Try.ntmps26
            go_wp2_with fail
            refine (HS.out _ hr).mono ?_; rintro e w' ⟨rfl, rfl⟩
            go_wp2_with fail
            go_ret
            exact ⟨ret_bool (by simp <;> omega), rfl⟩
        · have H := hide (few_no3 (zs := zs) (by omega))
          rw [H.out]
          clear hg
          go_enter Try.func26, Try.ntmps26
          go_wp2_with fail
          refine (HS.out _ hr).mono ?_; rintro e w' ⟨rfl, rfl⟩
          go_wp2_with fail
          go_ret
          exact ⟨rfl, rfl⟩
      · have H := hide (few_no2 (zs := zs) (by omega))
        rw [H.out]
        clear hg
        go_enter Try.func26, Try.ntmps26
        go_wp2_with fail
        refine (HS.out _ hr).mono ?_; rintro e w' ⟨rfl, rfl⟩
        go_wp2_with fail
        go_ret
        exact ⟨rfl, rfl⟩
    · have H := hide (few_no2 (zs := zs) (by omega))
      rw [H.out]
      clear hg
      go_enter Try.func26, Try.ntmps26
      go_wp2_with fail
      refine (HS.out _ hr).mono ?_; rintro e w' ⟨rfl, rfl⟩
      go_wp2_with fail
      go_ret
      exact ⟨rfl, rfl⟩

/-- The model's dbGood. -/
theorem dbGood_any (A : Option Addr) (n c B : Nat) (zs : List Int) (w : World) (hr : Ints w B A n zs) (hn : n ≤ 17592186044416) :
    Calls Try.prog 21 #[.slice A n c] w fun e w' => e = .returned (.bool (few zs)) ∧ w = w' := by
  obtain rfl := hr.len
  have HG := hide (fun W (h : Ints W B A zs.length zs) => hpGood_any A zs.length c B zs W h hn)
  have HL := hide (fun W => l1In_any (zs.length : Int) 2 4 W)
  by_cases h2 : 2 ≤ zs.length ∧ zs.length ≤ 4
  · rw [show decide ((2 : Int) ≤ (zs.length : Int) ∧ (zs.length : Int) ≤ 4) = true from decide_eq_true (by omega)] at HL
    cases hg : good zs
    · have H := hide (few_no1 hg)
      rw [hg] at HG
      rw [H.out]
      clear hg h2
      go_enter Try.func21, Try.ntmps21
      go_wp2_with fail
      refine (HL.out _).mono ?_; rintro e w' ⟨rfl, rfl⟩
      go_wp2_with fail
      refine (HG.out _ hr).mono ?_; rintro e w' ⟨rfl, rfl⟩
      go_wp2_with fail
      go_ret
      exact ⟨rfl, rfl⟩
    · have HT := hide (fun W (h : Ints W B A zs.length zs) => hpSum_any A zs.length c B zs W h (by omega) (good_small hg))
      have HM := hide (fun W => l1In_any (tot zs) 1 40 W)
      rw [hg] at HG
      have H := hide (show few zs = decide (1 ≤ tot zs ∧ tot zs ≤ 40) from by unfold few; rw [hg, decide_eq_true h2]; rfl)
      rw [H.out]
      clear hg h2
      generalize tot zs = T at *
      generalize decide (1 ≤ T ∧ T ≤ 40) = D at *
      go_enter Try.func21, Try.ntmps21
      go_wp2_with fail
      refine (HL.out _).mono ?_; rintro e w' ⟨rfl, rfl⟩
      go_wp2_with fail
      refine (HG.out _ hr).mono ?_; rintro e w' ⟨rfl, rfl⟩
      go_wp2_with fail
      refine (HT.out _ hr).mono ?_; rintro e w' ⟨rfl, rfl⟩
      go_wp2_with fail
      refine (HM.out _).mono ?_; rintro e w' ⟨rfl, rfl⟩
      go_wp2_with fail
      go_ret
      exact ⟨rfl, rfl⟩
  · rw [show decide ((2 : Int) ≤ (zs.length : Int) ∧ (zs.length : Int) ≤ 4) = false from decide_eq_false (by omega)] at HL
    have H := hide (few_no2 (zs := zs) h2)
    rw [H.out]
    clear h2
    go_enter Try.func21, Try.ntmps21
    go_wp2_with fail
    refine (HL.out _).mono ?_; rintro e w' ⟨rfl, rfl⟩
    go_wp2_with fail
    go_ret
    exact ⟨rfl, rfl⟩

end Go.Proofs.Ytnakkmmmkbjfbaa

/-
  ALL DOUBLINGS THAT CAN BE MADE, THE MODEL's WAY: dbAll.
-/
namespace Go.Proofs.Ytnakkmmmkbjfbaa
open Go.RowKit Go.Deep
set_option linter.unusedVariables false

set_option maxRecDepth 1000000 in
theorem dbAll_any (A : Option Addr) (n c B : Nat) (zs : List Int) (w : World) (hr : Ints w B A n zs) (hB : B ≤ w.heap.size) (h1 : 1 ≤ n) (hn : n ≤ 4) :
    Calls Try.prog 24 #[.slice A n c] w fun e w' => ∃ A' c', e = .returned (.slice A' (allD zs).length c') ∧ OwnIDb w' w.heap.size (.slice A' (allD zs).length c') (allD zs).length (numsDb (allD zs)) ∧ Below w.heap.size w w' := by
  obtain rfl := hr.len
  have HC := hide (fun (f t : Int) W (h : Ints W B A zs.length zs) (h' : B ≤ W.heap.size) => dbCan_any A zs.length c B zs f t W h h' h1 (by omega))
  have HO := hide (fun k => outD_len zs k)
  have HI := hide (fun f j => innD_len zs f j)
  go_enter Try.func24, Try.ntmps24
  go_wp2_with fail
  go_loopw [3, 9] (fun v i wr => ∃ k : Nat, k ≤ zs.length ∧ i = .int .i64 k ∧ OwnIDb wr w.heap.size v (outD zs k).length (numsDb (outD zs k)) ∧ Below w.heap.size w wr)
    (fun _ i _ => zs.length - (intOf i).toNat)
  case atStart => exact ⟨0, Nat.zero_le _, rfl, OwnIDb.nil _ _, Below.refl _ _⟩
  case round =>
    obtain ⟨k, hk, rfl, hown, hb⟩ := hrel
    have hok := HO.out k
    by_cases hlt : k < zs.length
    · have hkl : (outD zs k).length ≤ 16 := by
        have : k * zs.length ≤ 3 * 4 := Nat.mul_le_mul (by omega) (by omega)
        omega
      have Hown := hide hown
      have Hb := hide hb
      clear hown hb hok
      go_wp2_with fail
      go_loopw [3, 14] (fun v i wr => ∃ j : Nat, j ≤ zs.length ∧ i = .int .i64 j ∧ OwnIDb wr w.heap.size v (outD zs k ++ innD zs k j).length (numsDb (outD zs k ++ innD zs k j)) ∧ Below w.heap.size w wr)
        (fun _ i _ => zs.length - (intOf i).toNat)
      case atStart => exact ⟨0, Nat.zero_le _, rfl, by simpa [innD] using Hown.out, Hb.out⟩
      case round =>
        obtain ⟨j, hj, rfl, hown, hb⟩ := hrel
        have hb0 := hb.size
        have hij := HI.out k j
        by_cases hjl : j < zs.length
        · have hro := (hr.below hb hB).alloc (by omega) (.cells #[.int .i64 (k : Int), .int .i64 (j : Int)] 38)
          have HCx := hide (HC.out (k : Int) (j : Int) _ hro (by simp; omega))
          clear hro
          cases hcan : canD zs (k : Int) (j : Int)
          · have HN := hide (show outD zs k ++ innD zs k (j + 1) = outD zs k ++ innD zs k j from by rw [innD, hcan]; simp)
            rw [hcan] at HCx
            have Hown2 := hide hown
            clear hcan hown
            go_wp2_with fail
            refine HCx.out.mono ?_; rintro e w4 ⟨rfl, hb4⟩
            go_wp2_with fail
            go_roundw
            case rel => exact ⟨j + 1, by omega, by go_num, by rw [HN.out]; exact (Hown2.out.keep (fun _ _ hg => Below.heap_alloc _ _ _ hg)).below hb4, below_next (hb.alloc hb0 _) hb4⟩
            case measure => simp [intOf]; omega
          · have HN := hide (show outD zs k ++ innD zs k (j + 1) = (outD zs k ++ innD zs k j) ++ [⟨(k : Int), (j : Int)⟩] from by rw [innD, hcan]; simp)
            rw [hcan] at HCx
            have hlen : (outD zs k ++ innD zs k j).length < 1000000 := by rw [List.length_append]; omega
            generalize hL : outD zs k ++ innD zs k j = L at *
            have HL := hide hL
            clear hcan hL
            have k0 : (wr.alloc (.cells #[.int .i64 (k : Int), .int .i64 (j : Int)] 38)).cell? ⟨wr.heap.size, 0, none⟩ = some (.int .i64 (k : Int)) := by simp
            have k1 : (wr.alloc (.cells #[.int .i64 (k : Int), .int .i64 (j : Int)] 38)).cell? ⟨wr.heap.size, 1, none⟩ = some (.int .i64 (j : Int)) := by simp
            have z0 : wr.heap.size < (wr.alloc (.cells #[.int .i64 (k : Int), .int .i64 (j : Int)] 38)).heap.size := by simp
            have hbo := hb.alloc hb0 (.cells #[.int .i64 (k : Int), .int .i64 (j : Int)] 38)
            have hown0 := hown.keep (w' := wr.alloc (.cells #[.int .i64 (k : Int), .int .i64 (j : Int)] 38)) (fun _ _ hg => Below.heap_alloc _ _ _ hg)
            clear hown
            go_wp2_with fail
            generalize (wr.alloc (.cells #[.int .i64 (k : Int), .int .i64 (j : Int)] 38)) = W0 at *
            refine HCx.out.mono ?_; rintro e w4 ⟨rfl, hb4⟩
            have c0 := (hb4.cell (p := ⟨wr.heap.size, 0, none⟩) z0).trans k0
            have c1 := (hb4.cell (p := ⟨wr.heap.size, 1, none⟩) z0).trans k1
            have hown4 := hown0.below hb4
            have hb44 := below_next hbo hb4
            have s4 := hb44.size
            clear k0 k1 hown0
            go_wp2_with (at_builtin; refine wpList_app_Db rfl _ _ 28 rfl Try.underlying28 w.heap.size _ L rfl hown4 ⟨(k : Int), (j : Int)⟩ _ rfl s4 hlen ?_; intro v' w' hown' hb')
            go_roundw
            case rel => exact ⟨j + 1, by omega, by go_num, by rw [HN.out]; exact hown', hb44.trans hb'⟩
            case measure => simp [intOf]; omega
        · have e : j = zs.length := by omega
          have HE := hide (show outD zs k ++ innD zs k j = outD zs (k + 1) from by rw [e]; rfl)
          have Hown2 := hide hown
          clear e hown
          go_wp2_with fail
          go_roundw
          case rel => exact ⟨k + 1, by omega, by go_num, by rw [← HE.out]; exact Hown2.out, hb⟩
          case measure => simp [intOf]; omega
    · have e : k = zs.length := by omega
      have HE := hide (show outD zs k = allD zs from by rw [e]; rfl)
      clear e
      obtain ⟨A', c', hv⟩ := hown.shape
      subst hv
      go_wp2_with fail
      go_ret
      exact ⟨A', c', by rw [← HE.out]; rfl, by rw [← HE.out]; exact hown, hb⟩

end Go.Proofs.Ytnakkmmmkbjfbaa
