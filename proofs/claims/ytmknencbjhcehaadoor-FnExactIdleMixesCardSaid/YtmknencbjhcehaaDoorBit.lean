
/-
  ONES AND UNITS: math/bits.OnesCount, isUnit, the model's cuUnit.
-/
import Derived.Test.YtmknencbjhcehaaDoorBitP
import Derived.Test.YtmknencbjhcehaaDoorLaws0
import Derived.Test.YtmknencbjhcehaaDoorGood
namespace Go.Proofs.YtmknencbjhcehaaDoor
open Go.RowKit Go.Deep
set_option linter.unusedVariables false

theorem x_w1 (x : Nat) (hx : x < 4294967296) : IntKind.u64.wrap (bits BinOp.and IntKind.u64 ((x : Int) / 2) 6148914691236517205 + bits BinOp.and IntKind.u64 (x : Int) 6148914691236517205) = ((w1 x : Nat) : Int) := by
  have h1 : x / 2 &&& 6148914691236517205 ≤ x / 2 := Nat.and_le_left
  have h2 : x &&& 6148914691236517205 ≤ x := Nat.and_le_left
  have e1 := bits_and_u (x / 2) 6148914691236517205 (by omega) (by decide)
  have e2 := bits_and_u x 6148914691236517205 (by omega) (by decide)
  rw [show (((6148914691236517205 : Nat) : Int)) = 6148914691236517205 from rfl] at e1 e2
  rw [show ((x : Int) / 2) = ((x / 2 : Nat) : Int) from by omega, e1, e2, IntKind.wrap_u64]
  unfold w1; omega
theorem x_w2 (x : Nat) (hx : x < 4294967296) : IntKind.u64.wrap (bits BinOp.and IntKind.u64 ((x : Int) / 4) 3689348814741910323 + bits BinOp.and IntKind.u64 (x : Int) 3689348814741910323) = ((w2 x : Nat) : Int) := by
  have h1 : x / 4 &&& 3689348814741910323 ≤ x / 4 := Nat.and_le_left
  have h2 : x &&& 3689348814741910323 ≤ x := Nat.and_le_left
  have e1 := bits_and_u (x / 4) 3689348814741910323 (by omega) (by decide)
  have e2 := bits_and_u x 3689348814741910323 (by omega) (by decide)
  rw [show (((3689348814741910323 : Nat) : Int)) = 3689348814741910323 from rfl] at e1 e2
  rw [show ((x : Int) / 4) = ((x / 4 : Nat) : Int) from by omega, e1, e2, IntKind.wrap_u64]
  unfold w2; omega
theorem x_w3 (x : Nat) (hx : x < 4294967296) : bits BinOp.and IntKind.u64 (IntKind.u64.wrap ((x : Int) / 16 + (x : Int))) 1085102592571150095 = ((w3 x : Nat) : Int) := by
  have e1 := bits_and_u (x / 16 + x) 1085102592571150095 (by omega) (by decide)
  rw [show (((1085102592571150095 : Nat) : Int)) = 1085102592571150095 from rfl] at e1
  rw [IntKind.wrap_u64, show ((x : Int) / 16 + (x : Int)) % 18446744073709551616 = ((x / 16 + x : Nat) : Int) from by omega, e1]; rfl
theorem x_w4 (x : Nat) (hx : x < 4294967296) : IntKind.u64.wrap ((x : Int) + (x : Int) / 256) = ((w4 x : Nat) : Int) := by rw [IntKind.wrap_u64]; unfold w4; omega
theorem x_w5 (x : Nat) (hx : x < 8589934592) : IntKind.u64.wrap ((x : Int) + (x : Int) / 65536) = ((w5 x : Nat) : Int) := by rw [IntKind.wrap_u64]; unfold w5; omega
theorem x_w6 (x : Nat) (hx : x < 17179869184) : IntKind.u64.wrap ((x : Int) + (x : Int) / 4294967296) = ((w6 x : Nat) : Int) := by rw [IntKind.wrap_u64]; unfold w6; omega
theorem x_w7 (x : Nat) (hx : x < 34359738368) : bits BinOp.and IntKind.i64 (wrap64 (x : Int)) 127 = ((x % 128 : Nat) : Int) := by
  have e1 := bits_and_i x 127 (by omega) (by decide)
  rw [show (((127 : Nat) : Int)) = 127 from rfl, show x &&& 127 = x % 128 from Nat.and_two_pow_sub_one_eq_mod x 7] at e1
  rw [← e1]; congr 1; unfold wrap64; omega
theorem x_all (x : Nat) (hx : x < 16777216) (P : Nat → Prop) (h : P (ones x)) : w1 x < 4294967296 ∧ w2 (w1 x) < 4294967296 ∧ w3 (w2 (w1 x)) < 4294967296 ∧ w4 (w3 (w2 (w1 x))) < 8589934592 ∧ w5 (w4 (w3 (w2 (w1 x)))) < 17179869184 ∧ w6 (w5 (w4 (w3 (w2 (w1 x))))) < 34359738368 ∧ P (w6 (w5 (w4 (w3 (w2 (w1 x))))) % 128) := by
  have a1 := w1_eq x hx
  have t1 := b_s1 ⟨x % 256, by omega⟩
  have t2 := b_s1 ⟨x / 256 % 256, by omega⟩
  have t3 := b_s1 ⟨x / 65536, by omega⟩
  simp only at t1 t2 t3
  have h1 : w1 x < 16777216 := by omega
  have h2 : w2 (w1 x) ≤ w1 x / 4 + w1 x := by
    have := @Nat.and_le_left (w1 x / 4) 3689348814741910323
    have := @Nat.and_le_left (w1 x) 3689348814741910323
    unfold w2; omega
  have h3 : w3 (w2 (w1 x)) ≤ w2 (w1 x) / 16 + w2 (w1 x) := by
    have := @Nat.and_le_left (w2 (w1 x) / 16 + w2 (w1 x)) 1085102592571150095
    unfold w3; exact this
  have h4 : w4 (w3 (w2 (w1 x))) ≤ 2 * w3 (w2 (w1 x)) := by unfold w4; omega
  have h5 : w5 (w4 (w3 (w2 (w1 x)))) ≤ 2 * w4 (w3 (w2 (w1 x))) := by unfold w5; omega
  have h6 : w6 (w5 (w4 (w3 (w2 (w1 x))))) ≤ 2 * w5 (w4 (w3 (w2 (w1 x)))) := by unfold w6; omega
  exact ⟨by omega, by omega, by omega, by omega, by omega, by omega, by rw [w_ones x hx]; exact h⟩

theorem OnesCount64_any (x : Nat) (hx : x < 16777216) (w : World) :
    Calls Tryd.prog 34 #[.int .u64 (x : Int)] w fun e w' => e = .returned (.int .i64 (ones x : Nat)) ∧ w = w' := by
  obtain ⟨h1, h2, h3, h4, h5, h6, h7⟩ := x_all x hx (fun n => n = ones x) rfl
  have E1 := hide (x_w1 x (by omega))
  have E2 := hide (x_w2 _ h1)
  have E3 := hide (x_w3 _ h2)
  have E4 := hide (x_w4 _ h3)
  have E5 := hide (x_w5 _ h4)
  have E6 := hide (x_w6 _ h5)
  have E7 := hide (x_w7 _ h6)
  have H := hide h7
  clear h1 h2 h3 h4 h5 h6 h7 hx
  go_enter Tryd.func34, Tryd.ntmps34
  go_wp2_with fail
  go_ret
  refine ⟨?_, rfl⟩
  simp only [E1.out, E2.out, E3.out, E4.out, E5.out, E6.out, E7.out, H.out]
  rfl
theorem OnesCount_any (x : Nat) (hx : x < 16777216) (w : World) :
    Calls Tryd.prog 31 #[.int .u64 (x : Int)] w fun e w' => e = .returned (.int .i64 (ones x : Nat)) ∧ w = w' := by
  have H := hide (OnesCount64_any x hx w)
  generalize ones x = k at *
  go_enter Tryd.func31, Tryd.ntmps31
  go_wp2_with fail
  refine H.out.mono ?_; rintro e w' ⟨rfl, rfl⟩
  go_wp2_with fail
  go_ret
  exact ⟨rfl, rfl⟩

/-- A unit. -/
def isU (u : Int) : Bool := decide (1 ≤ u ∧ u ≤ 1048576) && pw2 u.toNat
theorem isU_of {u : Int} (h : isU u = true) : ∃ k : Nat, k ≤ 20 ∧ u = ((2 ^ k : Nat) : Int) := by
  unfold isU at h
  simp only [Bool.and_eq_true, decide_eq_true_eq] at h
  obtain ⟨k, hk, e⟩ := pw2_of h.2
  exact ⟨k, hk, by omega⟩
theorem isU_bd {u : Int} (h : isU u = true) : 1 ≤ u ∧ u ≤ 1048576 := by
  unfold isU at h
  simp only [Bool.and_eq_true, decide_eq_true_eq] at h
  exact h.1
theorem isU_mk (k : Nat) (h : k ≤ 20) : isU ((2 ^ k : Nat) : Int) = true := by
  have hp := pw2_mk k h
  have hb := pw2_le hp
  unfold isU
  rw [Int.toNat_natCast, hp, Bool.and_true]
  exact decide_eq_true (by omega)

theorem isUnit_any (u : Int) (w : World) :
    Calls Tryd.prog 27 #[.int .i64 u] w fun e w' => e = .returned (.bool (isU u)) ∧ w = w' := by
  by_cases h1 : 1 ≤ u
  · by_cases h2 : u ≤ 1048576
    · obtain ⟨x, rfl⟩ := Int.eq_ofNat_of_zero_le (show 0 ≤ u from by omega)
      have e : isU (x : Int) = (ones x == 1) := by
        unfold isU; rw [Int.toNat_natCast, ones_pw2 x (by omega) (by omega), decide_eq_true ⟨h1, h2⟩, Bool.true_and]
      have HE := hide e
      have HO := hide (fun W => OnesCount_any x (by omega) W)
      clear e
      have hu : IntKind.u64.wrap (x : Int) = (x : Int) := by rw [IntKind.wrap_u64]; omega
      generalize ones x = k at *
      go_enter Tryd.func27, Tryd.ntmps27
      go_wp2_with fail
      refine (HO.out _).mono ?_; rintro e w' ⟨rfl, rfl⟩
      go_wp2_with fail
      go_ret
      refine ⟨?_, rfl⟩
      rw [HE.out]
      show Ending.returned (Value.bool ((k : Int) == 1)) = _
      congr 2
      by_cases hk : k = 1
      · subst hk; rfl
      · rw [beq_false_of_ne hk, beq_false_of_ne (by omega)]
    · have HE := hide (show isU u = false from by unfold isU; rw [decide_eq_false (by omega)]; rfl)
      go_enter Tryd.func27, Tryd.ntmps27
      go_wp2_with fail
      go_ret
      exact ⟨by rw [HE.out]; rfl, rfl⟩
  · have HE := hide (show isU u = false from by unfold isU; rw [decide_eq_false (by omega)]; rfl)
    go_enter Tryd.func27, Tryd.ntmps27
    go_wp2_with fail
    go_ret
    exact ⟨by rw [HE.out]; rfl, rfl⟩

theorem cuUnit_any (u : Int) (w : World) :
    Calls Tryd.prog 25 #[.int .i64 u] w fun e w' => e = .returned (.bool (isU u)) ∧ w = w' := by
  have HM := hide (fun W => l1In_any u 1 1048576 W)
  by_cases h : 1 ≤ u ∧ u ≤ 1048576
  · obtain ⟨x, rfl⟩ := Int.eq_ofNat_of_zero_le (show 0 ≤ u from by omega)
    have e : isU (x : Int) = ((((x &&& (x - 1) : Nat) : Int)) == 0) := by
      unfold isU; rw [Int.toNat_natCast, ← and_pw2 x (by omega) (by omega), decide_eq_true h, Bool.true_and]
      by_cases hk : x &&& (x - 1) = 0
      · rw [hk]; rfl
      · rw [beq_false_of_ne hk, beq_false_of_ne (by omega)]
    have HE := hide e
    have hb := bits_and_i x (x - 1) (by omega) (by omega)
    rw [show ((x - 1 : Nat) : Int) = (x : Int) - 1 from by omega] at hb
    rw [decide_eq_true h] at HM
    clear e
    generalize ((x &&& (x - 1) : Nat) : Int) = k at *
    go_enter Tryd.func25, Tryd.ntmps25
    go_wp2_with fail
    refine (HM.out _).mono ?_; rintro e w' ⟨rfl, rfl⟩
    go_wp2_with fail
    go_ret
    exact ⟨by rw [HE.out]; rfl, rfl⟩
  · have HE := hide (show isU u = false from by unfold isU; rw [decide_eq_false h]; rfl)
    rw [decide_eq_false h] at HM
    go_enter Tryd.func25, Tryd.ntmps25
    go_wp2_with fail
    refine (HM.out _).mono ?_; rintro e w' ⟨rfl, rfl⟩
    go_wp2_with fail
    go_ret
    exact ⟨by rw [HE.out]; rfl, rfl⟩
end Go.Proofs.YtmknencbjhcehaaDoor
