
/-
  DOUBLINGS, THE MODEL's WAY: dbCan, dbMake.
-/
import Derived.Test.YtnakkmmmkbjfbaaRowP
import Derived.Test.YtnakkmmmkbjfbaaSums
import Derived.Test.YtnakkmmmkbjfbaaCopy
import Derived.Test.YtnakkmmmkbjfbaaMark
import Derived.Test.YtnakkmmmkbjfbaaLaws0
import Derived.RegionTactic
namespace Go.Proofs.Ytnakkmmmkbjfbaa
open Go.RowKit Go.Deep
set_option linter.unusedVariables false

theorem dbCan_no1 (A : Option Addr) (n cap B : Nat) (zs : List Int) (f t : Int) (w : World) (hr : Ints w B A n zs) (hB : B ≤ w.heap.size) (h1 : 1 ≤ n) (hn : n ≤ 12) (hf : ¬ (0 ≤ f ∧ f < n)) :
    Calls Try.prog 40 #[.slice A n cap, .agg #[.int .i64 f, .int .i64 t]] w fun e w' => e = .returned (.bool false) ∧ Below w.heap.size w w' := by
  obtain rfl := hr.len
  have hn1 : (zs.length : Int) - 1 = ((zs.length - 1 : Nat) : Int) := by omega
  have d1 : decide ((0 : Int) ≤ f ∧ f ≤ ((zs.length - 1 : Nat) : Int)) = false := by simp; omega
  have HA := hide (fun (W : World) => l1In_any f 0 ((zs.length - 1 : Nat) : Int) W)
  rw [d1] at HA
  go_enter Try.func40, Try.ntmps40
  go_wp2_with fail
  go_quiet ((go_at_call 36; with_reducible exact quiet_left (HA.out _)))
  go_wp2_with fail
  go_ret
  exact ⟨rfl, below_drewN ((Below.refl _ _).alloc (Nat.le_refl _) _) _⟩

theorem dbCan_no2 (A : Option Addr) (n cap B : Nat) (zs : List Int) (f t : Int) (w : World) (hr : Ints w B A n zs) (hB : B ≤ w.heap.size) (h1 : 1 ≤ n) (hn : n ≤ 12) (hf : 0 ≤ f ∧ f < n) (ht : ¬ (0 ≤ t ∧ t < n)) :
    Calls Try.prog 40 #[.slice A n cap, .agg #[.int .i64 f, .int .i64 t]] w fun e w' => e = .returned (.bool false) ∧ Below w.heap.size w w' := by
  obtain rfl := hr.len
  have hn1 : (zs.length : Int) - 1 = ((zs.length - 1 : Nat) : Int) := by omega
  have d1 : decide ((0 : Int) ≤ f ∧ f ≤ ((zs.length - 1 : Nat) : Int)) = true := by simp; omega
  have d2 : decide ((0 : Int) ≤ t ∧ t ≤ ((zs.length - 1 : Nat) : Int)) = false := by simp; omega
  have HA := hide (fun (W : World) => l1In_any f 0 ((zs.length - 1 : Nat) : Int) W)
  have HB := hide (fun (W : World) => l1In_any t 0 ((zs.length - 1 : Nat) : Int) W)
  rw [d1] at HA
  rw [d2] at HB
  go_enter Try.func40, Try.ntmps40
  go_wp2_with fail
  go_quiet ((go_at_call 36; first | (with_reducible exact quiet_left (HA.out _)) | (with_reducible exact quiet_left (HB.out _))))
  go_wp2_with fail
  go_ret
  exact ⟨rfl, below_drewN ((Below.refl _ _).alloc (Nat.le_refl _) _) _⟩

theorem dbCan_no3 (A : Option Addr) (n cap B : Nat) (zs : List Int) (f t : Int) (w : World) (hr : Ints w B A n zs) (hB : B ≤ w.heap.size) (h1 : 1 ≤ n) (hn : n ≤ 12) (hf : 0 ≤ f ∧ f < n) (ht : 0 ≤ t ∧ t < n) (he : f = t) :
    Calls Try.prog 40 #[.slice A n cap, .agg #[.int .i64 f, .int .i64 t]] w fun e w' => e = .returned (.bool false) ∧ Below w.heap.size w w' := by
  obtain rfl := hr.len
  have hn1 : (zs.length : Int) - 1 = ((zs.length - 1 : Nat) : Int) := by omega
  have d1 : decide ((0 : Int) ≤ f ∧ f ≤ ((zs.length - 1 : Nat) : Int)) = true := by simp; omega
  have d3 : (f != t) = false := by simpa using he
  have HA := hide (fun (W : World) => l1In_any f 0 ((zs.length - 1 : Nat) : Int) W)
  rw [d1] at HA
  subst he
  go_enter Try.func40, Try.ntmps40
  go_wp2_with fail
  go_quiet ((go_at_call 36; with_reducible exact quiet_left (HA.out _)))
  go_wp2_with fail
  go_ret
  exact ⟨rfl, below_drewN ((Below.refl _ _).alloc (Nat.le_refl _) _) _⟩

theorem dbCan_no4 (A : Option Addr) (n cap B : Nat) (zs : List Int) (f : Int) (j : Nat) (w : World) (hr : Ints w B A n zs) (hB : B ≤ w.heap.size) (hn : n ≤ 12) (hf : 0 ≤ f ∧ f < n) (hj : j < n) (he : f ≠ (j : Int)) (hz : ¬ 0 < zs.getD j 0) :
    Calls Try.prog 40 #[.slice A n cap, .agg #[.int .i64 f, .int .i64 (j : Int)]] w fun e w' => e = .returned (.bool false) ∧ Below w.heap.size w w' := by
  obtain rfl := hr.len
  have ezj : zs.getD j 0 = zs[j] := by simp [List.getD, hj]
  rw [ezj] at hz
  obtain ⟨ad, rfl, hab, hcell⟩ := hr.at_ hj
  rw [ezj] at hcell
  clear ezj
  have hcell' : ∀ o, (w.alloc o).cell? (ad.add j) = some (.int .i64 zs[j]) := fun o => by
    rw [World.cell?_alloc_lt w o (ad.add j) (by rw [block_of_add]; omega)]; exact hcell
  have hn1 : (zs.length : Int) - 1 = ((zs.length - 1 : Nat) : Int) := by omega
  have aj : (j : Int) < (zs.length : Int) := by omega
  have d1 : decide ((0 : Int) ≤ f ∧ f ≤ ((zs.length - 1 : Nat) : Int)) = true := by simp; omega
  have d2 : decide ((0 : Int) ≤ (j : Int) ∧ (j : Int) ≤ ((zs.length - 1 : Nat) : Int)) = true := by simp; omega
  have d3 : (f != (j : Int)) = true := by simpa using he
  have d4 : decide (0 < zs[j]) = false := by simp <;> omega
  have HA := hide (fun (W : World) => l1In_any f 0 ((zs.length - 1 : Nat) : Int) W)
  have HB := hide (fun (W : World) => l1In_any (j : Int) 0 ((zs.length - 1 : Nat) : Int) W)
  rw [d1] at HA
  rw [d2] at HB
  go_enter Try.func40, Try.ntmps40
  go_wp2_with fail
  go_quiet ((go_at_call 36; first | (with_reducible exact quiet_left (HA.out _)) | (with_reducible exact quiet_left (HB.out _))))
  go_wp2_with fail
  go_ret
  exact ⟨rfl, below_drewN ((Below.refl _ _).alloc (Nat.le_refl _) _) _⟩

theorem dbCan_go (A : Option Addr) (n cap B : Nat) (zs : List Int) (i j : Nat) (w : World) (hr : Ints w B A n zs) (hB : B ≤ w.heap.size) (hn : n ≤ 12) (hi : i < n) (hj : j < n) (he : i ≠ j) (hz : 0 < zs.getD j 0) :
    Calls Try.prog 40 #[.slice A n cap, .agg #[.int .i64 (i : Int), .int .i64 (j : Int)]] w fun e w' => e = .returned (.bool (decide (zs.getD j 0 ≤ zs.getD i 0))) ∧ Below w.heap.size w w' := by
  obtain rfl := hr.len
  have ezj : zs.getD j 0 = zs[j] := by simp [List.getD, hj]
  have ezi : zs.getD i 0 = zs[i] := by simp [List.getD, hi]
  rw [ezj] at hz
  obtain ⟨ad, rfl, hab, hcell⟩ := hr.at_ hj
  obtain ⟨ad', had, _, hcelli⟩ := hr.at_ hi
  obtain rfl : ad = ad' := by injection had
  clear had
  rw [ezj] at hcell
  rw [ezi] at hcelli
  rw [ezi, ezj]
  clear ezj ezi
  have hcell' : ∀ o, (w.alloc o).cell? (ad.add j) = some (.int .i64 zs[j]) := fun o => by
    rw [World.cell?_alloc_lt w o (ad.add j) (by rw [block_of_add]; omega)]; exact hcell
  have hcelli' : ∀ o, (w.alloc o).cell? (ad.add i) = some (.int .i64 zs[i]) := fun o => by
    rw [World.cell?_alloc_lt w o (ad.add i) (by rw [block_of_add]; omega)]; exact hcelli
  have hn1 : (zs.length : Int) - 1 = ((zs.length - 1 : Nat) : Int) := by omega
  have aj : (j : Int) < (zs.length : Int) := by omega
  have ai : (i : Int) < (zs.length : Int) := by omega
  have d1 : decide ((0 : Int) ≤ (i : Int) ∧ (i : Int) ≤ ((zs.length - 1 : Nat) : Int)) = true := by simp; omega
  have d2 : decide ((0 : Int) ≤ (j : Int) ∧ (j : Int) ≤ ((zs.length - 1 : Nat) : Int)) = true := by simp; omega
  have d3 : ((i : Int) != (j : Int)) = true := by simp; omega
  have d4 : decide (0 < zs[j]) = true := by simpa using hz
  have HA := hide (fun (W : World) => l1In_any (i : Int) 0 ((zs.length - 1 : Nat) : Int) W)
  have HB := hide (fun (W : World) => l1In_any (j : Int) 0 ((zs.length - 1 : Nat) : Int) W)
  rw [d1] at HA
  rw [d2] at HB
  go_enter Try.func40, Try.ntmps40
  go_wp2_with fail
  go_quiet ((go_at_call 36; first | (with_reducible exact quiet_left (HA.out _)) | (with_reducible exact quiet_left (HB.out _))))
  go_wp2_with fail
  go_ret
  exact ⟨rfl, below_drewN ((Below.refl _ _).alloc (Nat.le_refl _) _) _⟩

theorem dbCan_any (A : Option Addr) (n cap B : Nat) (zs : List Int) (f t : Int) (w : World) (hr : Ints w B A n zs) (hB : B ≤ w.heap.size) (h1 : 1 ≤ n) (hn : n ≤ 12) :
    Calls Try.prog 40 #[.slice A n cap, .agg #[.int .i64 f, .int .i64 t]] w fun e w' => e = .returned (.bool (canD zs f t)) ∧ Below w.heap.size w w' := by
  have hl := hr.len
  by_cases hf : 0 ≤ f ∧ f < n
  · by_cases ht : 0 ≤ t ∧ t < n
    · by_cases he : f = t
      · rw [canD_no (fun h => h.2.2.2.2.1 he)]
        exact dbCan_no3 A n cap B zs f t w hr hB h1 hn hf ht he
      · obtain ⟨i, rfl⟩ := Int.eq_ofNat_of_zero_le hf.1
        obtain ⟨j, rfl⟩ := Int.eq_ofNat_of_zero_le ht.1
        by_cases hz : 0 < zs.getD j 0
        · have e : canD zs (i : Int) (j : Int) = decide (zs.getD j 0 ≤ zs.getD i 0) := by
            unfold canD
            rw [Int.toNat_natCast, Int.toNat_natCast]
            by_cases hc : zs.getD j 0 ≤ zs.getD i 0
            · rw [decide_eq_true hc]; exact decide_eq_true ⟨by omega, by omega, by omega, by omega, he, hz, hc⟩
            · rw [decide_eq_false hc]; exact decide_eq_false (fun h => hc h.2.2.2.2.2.2)
          rw [e]
          exact dbCan_go A n cap B zs i j w hr hB hn (by omega) (by omega) (by omega) hz
        · rw [canD_no (fun h => hz (by have := h.2.2.2.2.2.1; rwa [Int.toNat_natCast] at this))]
          exact dbCan_no4 A n cap B zs (i : Int) j w hr hB hn hf (by omega) he hz
    · rw [canD_no (fun h => ht ⟨h.2.2.1, by omega⟩)]
      exact dbCan_no2 A n cap B zs f t w hr hB h1 hn hf ht
  · rw [canD_no (fun h => hf ⟨h.1, by omega⟩)]
    exact dbCan_no1 A n cap B zs f t w hr hB h1 hn hf

/-- The model's dbMake. -/
theorem dbMake_any (A : Option Addr) (n cap B : Nat) (zs : List Int) (i j : Nat) (w : World) (hr : Ints w B A n zs) (hB : B ≤ w.heap.size) (hn : n ≤ 12) (hs : small zs) (hi : i < n) (hj : j < n) (hij : i ≠ j) (hle : zs.getD j 0 ≤ zs.getD i 0) :
    Calls Try.prog 25 #[.slice A n cap, .agg #[.int .i64 (i : Int), .int .i64 (j : Int)]] w (Made1 (dmade i j zs) w) := by
  obtain rfl := hr.len
  have ezj : zs.getD j 0 = zs[j] := by simp [List.getD, hj]
  have ezi : zs.getD i 0 = zs[i] := by simp [List.getD, hi]
  rw [ezi, ezj] at hle
  have zi := small_get hs i hi
  have zj := small_get hs j hj
  obtain ⟨ad, rfl, hab, hcell⟩ := hr.at_ hj
  rw [ezj] at hcell
  have ai : (i : Int) < (zs.length : Int) := by omega
  have aj : (j : Int) < (zs.length : Int) := by omega
  have HM := hide (show dmade i j zs = (zs.set i (zs[i] - zs[j])).set j (2 * zs[j]) from by unfold dmade; rw [ezi, ezj])
  clear ezi ezj
  go_enter Try.func25, Try.ntmps25
  go_wp2_with fail
  have hb1 : Below w.heap.size w (w.alloc (.cells #[.int .i64 (i : Int), .int .i64 (j : Int)] 38)) := (Below.refl _ _).alloc (Nat.le_refl _) _
  have k0 : (w.alloc (.cells #[.int .i64 (i : Int), .int .i64 (j : Int)] 38)).cell? ⟨w.heap.size, 0, none⟩ = some (.int .i64 (i : Int)) := by simp
  have k1 : (w.alloc (.cells #[.int .i64 (i : Int), .int .i64 (j : Int)] 38)).cell? ⟨w.heap.size, 1, none⟩ = some (.int .i64 (j : Int)) := by simp
  have hs1 : w.heap.size < (w.alloc (.cells #[.int .i64 (i : Int), .int .i64 (j : Int)] 38)).heap.size := by simp
  generalize (w.alloc (.cells #[.int .i64 (i : Int), .int .i64 (j : Int)] 38)) = w1 at *
  have hr1 := hr.below hb1 hB
  refine (l1Own_any _ _ _ _ zs _ hr1 (by omega) (by omega) (by omega)).mono ?_
  rintro e w2 ⟨g, cap2, rfl, hga, hgb, hca, hcb, hown, hb2⟩
  have b0 := (hb2.cell (p := ⟨w.heap.size, 0, none⟩) hs1).trans k0
  have b1 := (hb2.cell (p := ⟨w.heap.size, 1, none⟩) hs1).trans k1
  have hcell2 := ((below_next hb1 hb2).cell (p := ad.add j) (by rw [block_of_add]; omega)).trans hcell
  clear k0 k1 hcell hr1
  have hb02 : Below w.heap.size w w2 := below_next hb1 hb2
  have e1 : w2.cell? ⟨g, i, none⟩ = some (.int .i64 zs[i]) := by
    rw [World.ownsRow.cellAt hown i (by omega)]; simp [hi]
  have f1 : w2.frozen? ⟨g, i, none⟩ = false := World.ownsRow.frozenAt hown i
  have own1 : Own (w2.setCell ⟨g, i, none⟩ (.int .i64 (zs[i] - zs[j]))) w.heap.size 3 (.slice (some ⟨g, 0, none⟩) zs.length cap2) (zs.set i (zs[i] - zs[j])) := Own.stored (hown.less (by omega)) rfl i _
  have e2 : (w2.setCell ⟨g, i, none⟩ (.int .i64 (zs[i] - zs[j]))).cell? ⟨g, j, none⟩ = some (.int .i64 zs[j]) := by
    have h := own1
    unfold Own at h
    rw [List.length_set] at h
    rw [World.ownsRow.cellAt h j (by omega)]; simp [hj, List.getElem_set_ne hij]
  have f2 : (w2.setCell ⟨g, i, none⟩ (.int .i64 (zs[i] - zs[j]))).frozen? ⟨g, j, none⟩ = false := by
    have h := own1
    unfold Own at h
    rw [List.length_set] at h
    exact World.ownsRow.frozenAt h j
  have b1' : (w2.setCell ⟨g, i, none⟩ (.int .i64 (zs[i] - zs[j]))).cell? ⟨w.heap.size, 1, none⟩ = some (.int .i64 (j : Int)) := by
    rw [World.cell?_setCell_other _ _ _ _ (by simp <;> omega)]; exact b1
  have hcell3 : (w2.setCell ⟨g, i, none⟩ (.int .i64 (zs[i] - zs[j]))).cell? (ad.add j) = some (.int .i64 zs[j]) := by
    rw [World.cell?_setCell_other _ _ _ _ (by
      intro e
      have := congrArg Addr.block e
      rw [block_of_add] at this
      simp at this; omega)]; exact hcell2
  go_wp2_with fail
  go_region
  go_wp2_with fail
  go_region
  go_wp2_with fail
  go_ret
  have own2 : Own ((w2.setCell ⟨g, i, none⟩ (.int .i64 (zs[i] - zs[j]))).setCell ⟨g, j, none⟩ (.int .i64 (2 * zs[j]))) w.heap.size 3 (.slice (some ⟨g, 0, none⟩) zs.length cap2) (dmade i j zs) := by
    rw [HM.out]
    exact Own.stored own1 (by rw [List.length_set]) j _
  have hbel : Below w.heap.size w ((w2.setCell ⟨g, i, none⟩ (.int .i64 (zs[i] - zs[j]))).setCell ⟨g, j, none⟩ (.int .i64 (2 * zs[j]))) := (hb02.setCell (show w.heap.size ≤ g by omega) _).setCell (show w.heap.size ≤ g by omega) _
  exact ⟨g, cap2, by rw [dmade_length]; rfl, by omega, by simp; omega, by rw [dmade_length]; exact hca, hcb, by rw [dmade_length]; exact own2.drewN 2, below_drewN hbel 2⟩
end Go.Proofs.Ytnakkmmmkbjfbaa
