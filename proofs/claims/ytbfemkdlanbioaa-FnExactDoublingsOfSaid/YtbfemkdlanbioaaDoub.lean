
/-
  DOUBLINGS, THE MODEL's WAY: dbCan, dbMake.
-/
import Derived.Test.YtbfemkdlanbioaaRowP
import Derived.Test.YtbfemkdlanbioaaSums
import Derived.Test.YtbfemkdlanbioaaCopy
import Derived.Test.YtbfemkdlanbioaaMark
import Derived.Test.YtbfemkdlanbioaaLaws0
import Derived.RegionTactic
namespace Go.Proofs.Ytbfemkdlanbioaa
open Go.RowKit Go.Deep
set_option linter.unusedVariables false

theorem dbCan_no1 (A : Option Addr) (n cap B : Nat) (zs : List Int) (f t : Int) (w : World) (hr : Ints w B A n zs) (hB : B ≤ w.heap.size) (h1 : 1 ≤ n) (hn : n ≤ 12) (hf : ¬ (0 ≤ f ∧ f < n)) :
    Calls Try.prog 21 #[.slice A n cap, .agg #[.int .i64 f, .int .i64 t]] w fun e w' => e = .returned (.bool false) ∧ Below w.heap.size w w' := by
  obtain rfl := hr.len
  have hn1 : (zs.length : Int) - 1 = ((zs.length - 1 : Nat) : Int) := by omega
  have d1 : decide ((0 : Int) ≤ f ∧ f ≤ ((zs.length - 1 : Nat) : Int)) = false := by simp; omega
  have HA := hide (fun (W : World) => l1In_any f 0 ((zs.length - 1 : Nat) : Int) W)
  rw [d1] at HA
  go_enter Try.func21, Try.ntmps21
  go_wp2_with fail
  go_quiet ((go_at_call 18; with_reducible exact quiet_left (HA.out _)))
  go_wp2_with fail
  go_ret
  exact ⟨rfl, below_drewN ((Below.refl _ _).alloc (Nat.le_refl _) _) _⟩

theorem dbCan_no2 (A : Option Addr) (n cap B : Nat) (zs : List Int) (f t : Int) (w : World) (hr : Ints w B A n zs) (hB : B ≤ w.heap.size) (h1 : 1 ≤ n) (hn : n ≤ 12) (hf : 0 ≤ f ∧ f < n) (ht : ¬ (0 ≤ t ∧ t < n)) :
    Calls Try.prog 21 #[.slice A n cap, .agg #[.int .i64 f, .int .i64 t]] w fun e w' => e = .returned (.bool false) ∧ Below w.heap.size w w' := by
  obtain rfl := hr.len
  have hn1 : (zs.length : Int) - 1 = ((zs.length - 1 : Nat) : Int) := by omega
  have d1 : decide ((0 : Int) ≤ f ∧ f ≤ ((zs.length - 1 : Nat) : Int)) = true := by simp; omega
  have d2 : decide ((0 : Int) ≤ t ∧ t ≤ ((zs.length - 1 : Nat) : Int)) = false := by simp; omega
  have HA := hide (fun (W : World) => l1In_any f 0 ((zs.length - 1 : Nat) : Int) W)
  have HB := hide (fun (W : World) => l1In_any t 0 ((zs.length - 1 : Nat) : Int) W)
  rw [d1] at HA
  rw [d2] at HB
  go_enter Try.func21, Try.ntmps21
  go_wp2_with fail
  go_quiet ((go_at_call 18; first | (with_reducible exact quiet_left (HA.out _)) | (with_reducible exact quiet_left (HB.out _))))
  go_wp2_with fail
  go_ret
  exact ⟨rfl, below_drewN ((Below.refl _ _).alloc (Nat.le_refl _) _) _⟩

theorem dbCan_no3 (A : Option Addr) (n cap B : Nat) (zs : List Int) (f t : Int) (w : World) (hr : Ints w B A n zs) (hB : B ≤ w.heap.size) (h1 : 1 ≤ n) (hn : n ≤ 12) (hf : 0 ≤ f ∧ f < n) (ht : 0 ≤ t ∧ t < n) (he : f = t) :
    Calls Try.prog 21 #[.slice A n cap, .agg #[.int .i64 f, .int .i64 t]] w fun e w' => e = .returned (.bool false) ∧ Below w.heap.size w w' := by
  obtain rfl := hr.len
  have hn1 : (zs.length : Int) - 1 = ((zs.length - 1 : Nat) : Int) := by omega
  have d1 : decide ((0 : Int) ≤ f ∧ f ≤ ((zs.length - 1 : Nat) : Int)) = true := by simp; omega
  have d3 : (f != t) = false := by simpa using he
  have HA := hide (fun (W : World) => l1In_any f 0 ((zs.length - 1 : Nat) : Int) W)
  rw [d1] at HA
  subst he
  go_enter Try.func21, Try.ntmps21
  go_wp2_with fail
  go_quiet ((go_at_call 18; with_reducible exact quiet_left (HA.out _)))
  go_wp2_with fail
  go_ret
  exact ⟨rfl, below_drewN ((Below.refl _ _).alloc (Nat.le_refl _) _) _⟩

theorem dbCan_no4 (A : Option Addr) (n cap B : Nat) (zs : List Int) (f : Int) (j : Nat) (w : World) (hr : Ints w B A n zs) (hB : B ≤ w.heap.size) (hn : n ≤ 12) (hf : 0 ≤ f ∧ f < n) (hj : j < n) (he : f ≠ (j : Int)) (hz : ¬ 0 < zs.getD j 0) :
    Calls Try.prog 21 #[.slice A n cap, .agg #[.int .i64 f, .int .i64 (j : Int)]] w fun e w' => e = .returned (.bool false) ∧ Below w.heap.size w w' := by
  obtain rfl := hr.len
  have ezj : zs.getD j 0 = zs[j] := by simp [List.getD, hj]
  rw [ezj] at hz
  obtain ⟨ad, rfl, hab, hcell⟩ := hr.at_ hj
  rw [ezj] at hcell
  clear ezj
  have hcell' : ∀ o, (w.alloc o).cell? (ad.add j) = some (.int .i64 zs[j]) := fun o => by
    rw [World.cell?_alloc_lt w o (ad.add j) (by rw [block_of_add]; omega)]; exact hcell
  have hn1 : (zs.length : Int) - 1 = ((zs.length - 1 : Nat) : Int) := by omega
  have aj : (j : Int) < (zs.length : Int) := by omega
  have d1 : decide ((0 : Int) ≤ f ∧ f ≤ ((zs.length - 1 : Nat) : Int)) = true := by simp; omega
  have d2 : decide ((0 : Int) ≤ (j : Int) ∧ (j : Int) ≤ ((zs.length - 1 : Nat) : Int)) = true := by simp; omega
  have d3 : (f != (j : Int)) = true := by simpa using he
  have d4 : decide (0 < zs[j]) = false := by simp <;> omega
  have HA := hide (fun (W : World) => l1In_any f 0 ((zs.length - 1 : Nat) : Int) W)
  have HB := hide (fun (W : World) => l1In_any (j : Int) 0 ((zs.length - 1 : Nat) : Int) W)
  rw [d1] at HA
  rw [d2] at HB
  go_enter Try.func21, Try.ntmps21
  go_wp2_with fail
  go_quiet ((go_at_call 18; first | (with_reducible exact quiet_left (HA.out _)) | (with_reducible exact quiet_left (HB.out _))))
  go_wp2_with fail
  go_ret
  exact ⟨rfl, below_drewN ((Below.refl _ _).alloc (Nat.le_refl _) _) _⟩

theorem dbCan_go (A : Option Addr) (n cap B : Nat) (zs : List Int) (i j : Nat) (w : World) (hr : Ints w B A n zs) (hB : B ≤ w.heap.size) (hn : n ≤ 12) (hi : i < n) (hj : j < n) (he : i ≠ j) (hz : 0 < zs.getD j 0) :
    Calls Try.prog 21 #[.slice A n cap, .agg #[.int .i64 (i : Int), .int .i64 (j : Int)]] w fun e w' => e = .returned (.bool (decide (zs.getD j 0 ≤ zs.getD i 0))) ∧ Below w.heap.size w w' := by
  obtain rfl := hr.len
  have ezj : zs.getD j 0 = zs[j] := by simp [List.getD, hj]
  have ezi : zs.getD i 0 = zs[i] := by simp [List.getD, hi]
  rw [ezj] at hz
  obtain ⟨ad, rfl, hab, hcell⟩ := hr.at_ hj
  obtain ⟨ad', had, _, hcelli⟩ := hr.at_ hi
  obtain rfl : ad = ad' := by injection had
  clear had
  rw [ezj] at hcell
  rw [ezi] at hcelli
  rw [ezi, ezj]
  clear ezj ezi
  have hcell' : ∀ o, (w.alloc o).cell? (ad.add j) = some (.int .i64 zs[j]) := fun o => by
    rw [World.cell?_alloc_lt w o (ad.add j) (by rw [block_of_add]; omega)]; exact hcell
  have hcelli' : ∀ o, (w.alloc o).cell? (ad.add i) = some (.int .i64 zs[i]) := fun o => by
    rw [World.cell?_alloc_lt w o (ad.add i) (by rw [block_of_add]; omega)]; exact hcelli
  have hn1 : (zs.length : Int) - 1 = ((zs.length - 1 : Nat) : Int) := by omega
  have aj : (j : Int) < (zs.length : Int) := by omega
  have ai : (i : Int) < (zs.length : Int) := by omega
  have d1 : decide ((0 : Int) ≤ (i : Int) ∧ (i : Int) ≤ ((zs.length - 1 : Nat) : Int)) = true := by simp; omega
  have d2 : decide ((0 : Int) ≤ (j : Int) ∧ (j : Int) ≤ ((zs.length - 1 : Nat) : Int)) = true := by simp; omega
  have d3 : ((i : Int) != (j : Int)) = true := by simp; omega
  have d4 : decide (0 < zs[j]) = true := by simpa using hz
  have HA := hide (fun (W : World) => l1In_any (i : Int) 0 ((zs.length - 1 : Nat) : Int) W)
  have HB := hide (fun (W : World) => l1In_any (j : Int) 0 ((zs.length - 1 : Nat) : Int) W)
  rw [d1] at HA
  rw [d2] at HB
  go_enter Try.func21, Try.ntmps21
  go_wp2_with fail
  go_quiet ((go_at_call 18; first | (with_reducible exact quiet_left (HA.out _)) | (with_reducible exact quiet_left (HB.out _))))
  go_wp2_with fail
  go_ret
  exact ⟨rfl, below_drewN ((Below.refl _ _).alloc (Nat.le_refl _) _) _⟩

theorem dbCan_any (A : Option Addr) (n cap B : Nat) (zs : List Int) (f t : Int) (w : World) (hr : Ints w B A n zs) (hB : B ≤ w.heap.size) (h1 : 1 ≤ n) (hn : n ≤ 12) :
    Calls Try.prog 21 #[.slice A n cap, .agg #[.int .i64 f, .int .i64 t]] w fun e w' => e = .returned (.bool (canD zs f t)) ∧ Below w.heap.size w w' := by
  have hl := hr.len
  by_cases hf : 0 ≤ f ∧ f < n
  · by_cases ht : 0 ≤ t ∧ t < n
    · by_cases he : f = t
      · rw [canD_no (fun h => h.2.2.2.2.1 he)]
        exact dbCan_no3 A n cap B zs f t w hr hB h1 hn hf ht he
      · obtain ⟨i, rfl⟩ := Int.eq_ofNat_of_zero_le hf.1
        obtain ⟨j, rfl⟩ := Int.eq_ofNat_of_zero_le ht.1
        by_cases hz : 0 < zs.getD j 0
        · have e : canD zs (i : Int) (j : Int) = decide (zs.getD j 0 ≤ zs.getD i 0) := by
            unfold canD
            rw [Int.toNat_natCast, Int.toNat_natCast]
            by_cases hc : zs.getD j 0 ≤ zs.getD i 0
            · rw [decide_eq_true hc]; exact decide_eq_true ⟨by omega, by omega, by omega, by omega, he, hz, hc⟩
            · rw [decide_eq_false hc]; exact decide_eq_false (fun h => hc h.2.2.2.2.2.2)
          rw [e]
          exact dbCan_go A n cap B zs i j w hr hB hn (by omega) (by omega) (by omega) hz
        · rw [canD_no (fun h => hz (by have := h.2.2.2.2.2.1; rwa [Int.toNat_natCast] at this))]
          exact dbCan_no4 A n cap B zs (i : Int) j w hr hB hn hf (by omega) he hz
    · rw [canD_no (fun h => ht ⟨h.2.2.1, by omega⟩)]
      exact dbCan_no2 A n cap B zs f t w hr hB h1 hn hf ht
  · rw [canD_no (fun h => hf ⟨h.1, by omega⟩)]
    exact dbCan_no1 A n cap B zs f t w hr hB h1 hn hf

end Go.Proofs.Ytbfemkdlanbioaa
