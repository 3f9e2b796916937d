
/-
  TEXTS OF NUMBERS, BOTH WAYS: the model's l1Num.
-/
import Derived.Test.YtmjlfmlbmegheaaDoorLaws0
import Derived.Lib.ItoaNum
import Derived.Laws.Concat
import Derived.Laws.BytesString
import Derived.Laws.BytesArg
import Derived.IntWalk
import Derived.RegionTactic
import Derived.Deep.RegionWith
namespace Go.Proofs.YtmjlfmlbmegheaaDoor
open Go.RowKit Go.Deep
set_option linter.unusedVariables false

/-- Bytes as a string. -/
def bs (l : List UInt8) : ByteArray := ⟨l.toArray⟩
theorem bs_append (a b : List UInt8) : bs a ++ bs b = bs (a ++ b) := by
  unfold bs
  apply ByteArray.ext
  simp
theorem conv1 (x : Nat) (hx : x < 256) (W : World) (b : Nat) (h : W.cell? ⟨b, 0, none⟩ = some (.int .u8 (x : Int))) :
    (convert 63 9 (.slice (some ⟨b, 0, none⟩) 1 1)).run Tryd.prog W = .ok (.string (bs [UInt8.ofNat x])) W := by
  rw [run_convert_bytes_arg W 63 5 Tryd.underlying63 Tryd.underlying5 b 0 1 1 [(x : Int)] rfl (by
    intro i hi
    match i, hi with
    | 0, _ => simpa using h) _ Tryd.underlying9]
  rfl

set_option maxRecDepth 1000000 in
theorem l1Num_small (n : Nat) (h : n < 10) (w : World) :
    Calls Tryd.prog 31 #[.int .i64 (n : Int)] w fun e w' => e = .returned (.string (bs (Lib.decDigits n))) ∧ Below w.heap.size w w' := by
  have H := hide (Lib.decDigits_one h)
  have hc := conv1 (48 + n) (by omega)
  rw [show ((48 + n : Nat) : Int) = 48 + (n : Int) from by omega] at hc
  rw [H.out]
  generalize bs [UInt8.ofNat (48 + n)] = s at *
  go_enter Tryd.func31, Tryd.ntmps31
  go_wp2_with fail
  go_ret
  exact ⟨rfl, (Below.refl _ _).alloc (Nat.le_refl _) _⟩

theorem decDigits_ge {n : Nat} (h : ¬ n < 10) : Lib.decDigits n = Lib.decDigits (n / 10) ++ [UInt8.ofNat (48 + n % 10)] := by
  rw [Lib.decDigits, dif_neg h]
theorem decDigits_len : ∀ (d n : Nat), n < 10 ^ (d + 1) → (Lib.decDigits n).length ≤ d + 1
  | d, n, h => by
    by_cases h10 : n < 10
    · rw [Lib.decDigits_one h10]; simp
    · match d, h with
      | 0, h => simp at h; omega
      | d + 1, h =>
        have := decDigits_len d (n / 10) (by rw [Nat.pow_succ] at h; omega)
        rw [decDigits_ge h10]
        simp; omega

set_option maxRecDepth 1000000 in
/-- The model's l1Num. -/
theorem l1Num_any (d : Nat) : ∀ (n : Nat) (w : World), n < 10 ^ (d + 1) → d ≤ 17 →
    Calls Tryd.prog 31 #[.int .i64 (n : Int)] w fun e w' => e = .returned (.string (bs (Lib.decDigits n))) ∧ Below w.heap.size w w' := by
  induction d with
  | zero => intro n w h _; exact l1Num_small n (by simpa using h) w
  | succ d ih =>
    intro n w h hd
    by_cases h10 : n < 10
    · exact l1Num_small n h10 w
    · have hp : 10 ^ (d + 1 + 1) ≤ 10 ^ 19 := Nat.pow_le_pow_right (by omega) (by omega)
      have hn : n < 10000000000000000000 := by omega
      have hlt : n / 10 < 10 ^ (d + 1) := by rw [Nat.pow_succ] at h; omega
      have HR := hide (fun W => ih (n / 10) W hlt (by omega))
      have hcv := conv1 (48 + n % 10) (by omega)
      have hl := decDigits_len d (n / 10) hlt
      have hadd : ∀ W, (Op.stringOp .add (bs (Lib.decDigits (n / 10))) (bs [UInt8.ofNat (48 + n % 10)])).run Tryd.prog W = .ok (.string (bs (Lib.decDigits n))) W := fun W => by
        rw [run_string_add_sum W _ _ (by
          show (Lib.decDigits (n / 10)).toArray.size + _ ≤ _
          have : (bs [UInt8.ofNat (48 + n % 10)]).size = 1 := rfl
          rw [this]; simp; omega), bs_append, ← decDigits_ge h10]
      rw [show ((n / 10 : Nat) : Int) = (n : Int) / 10 from by omega] at HR
      rw [show ((48 + n % 10 : Nat) : Int) = 48 + (n : Int) % 10 from by omega] at hcv
      have Hadd := hide hadd
      have hge : ¬ (n : Int) < 10 := by omega
      generalize bs (Lib.decDigits (n / 10)) = s1 at *
      generalize bs [UInt8.ofNat (48 + n % 10)] = s2 at *
      generalize bs (Lib.decDigits n) = s3 at *
      clear hl hlt hp h h10 hadd ih
      have hadd := Hadd.out
      go_enter Tryd.func31, Tryd.ntmps31
      go_wp2_with fail
      have m1 : IntKind.i64.wrap ((n : Int) / 10) = (n : Int) / 10 := IntWalk.i64_in _ (by omega)
      have m2 : ((n : Int)).tmod 10 = (n : Int) % 10 := Int.tmod_eq_emod_of_nonneg (by omega)
      have m3 : IntKind.i64.wrap (48 + (n : Int) % 10) = 48 + (n : Int) % 10 := IntWalk.i64_in _ (by omega)
      have m4 : IntKind.u8.wrap (48 + (n : Int) % 10) = 48 + (n : Int) % 10 := by
        simp [IntKind.wrap, IntKind.signed, IntKind.bits]; omega
      have K0 : Hid (∀ W', Below (w.drew.alloc (.cells #[.int .u8 (48 + (n : Int) % 10)] 5)).heap.size (w.drew.alloc (.cells #[.int .u8 (48 + (n : Int) % 10)] 5)) W' → W'.cell? ⟨w.heap.size, 0, none⟩ = some (.int .u8 (48 + (n : Int) % 10))) :=
        hide fun W' h => (h.cell (p := ⟨w.heap.size, 0, none⟩) (show w.heap.size < (w.alloc (.cells #[.int .u8 (48 + (n : Int) % 10)] 5)).heap.size by simp)).trans (show (w.alloc (.cells #[.int .u8 (48 + (n : Int) % 10)] 5)).cell? ⟨w.heap.size, 0, none⟩ = some (.int .u8 (48 + (n : Int) % 10)) by simp)
      go_region_with (go_at_call 31; (with_reducible refine (HR.out _).mono ?_); rintro e w2 ⟨rfl, hb2⟩; first | (have k0 := K0.out _ hb2) | skip)
      all_goals
        go_wp2_with fail
        go_ret
        exact ⟨rfl, by first | exact (below_next (w1 := w.drew) (Below.refl _ _).drew hb2).alloc (by have := hb2.size; exact this) _ | exact below_next (w1 := w.drew.alloc _) ((Below.refl _ _).drew.alloc (Nat.le_refl _) _) hb2⟩
end Go.Proofs.YtmjlfmlbmegheaaDoor
