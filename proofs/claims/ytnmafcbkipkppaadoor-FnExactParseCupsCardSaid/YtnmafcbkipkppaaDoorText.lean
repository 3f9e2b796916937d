
/-
  TEXTS OF NUMBERS, BOTH WAYS: the model's l1Num.
-/
import Derived.Test.YtnmafcbkipkppaaDoorLaws0
import Derived.Lib.ItoaNum
import Derived.Laws.Concat
import Derived.Laws.BytesString
import Derived.Laws.BytesArg
import Derived.IntWalk
import Derived.RegionTactic
import Derived.Deep.RegionWith
namespace Go.Proofs.YtnmafcbkipkppaaDoor
open Go.RowKit Go.Deep
set_option linter.unusedVariables false

/-- Bytes as a string. -/
def bs (l : List UInt8) : ByteArray := ⟨l.toArray⟩
theorem bs_append (a b : List UInt8) : bs a ++ bs b = bs (a ++ b) := by
  unfold bs
  apply ByteArray.ext
  simp
theorem conv1 (x : Nat) (hx : x < 256) (W : World) (b : Nat) (h : W.cell? ⟨b, 0, none⟩ = some (.int .u8 (x : Int))) :
    (convert 61 9 (.slice (some ⟨b, 0, none⟩) 1 1)).run Tryd.prog W = .ok (.string (bs [UInt8.ofNat x])) W := by
  rw [run_convert_bytes_arg W 61 5 Tryd.underlying61 Tryd.underlying5 b 0 1 1 [(x : Int)] rfl (by
    intro i hi
    match i, hi with
    | 0, _ => simpa using h) _ Tryd.underlying9]
  rfl

theorem decDigits_ge {n : Nat} (h : ¬ n < 10) : Lib.decDigits n = Lib.decDigits (n / 10) ++ [UInt8.ofNat (48 + n % 10)] := by
  rw [Lib.decDigits, dif_neg h]
theorem decDigits_len : ∀ (d n : Nat), n < 10 ^ (d + 1) → (Lib.decDigits n).length ≤ d + 1
  | d, n, h => by
    by_cases h10 : n < 10
    · rw [Lib.decDigits_one h10]; simp
    · match d, h with
      | 0, h => simp at h; omega
      | d + 1, h =>
        have := decDigits_len d (n / 10) (by rw [Nat.pow_succ] at h; omega)
        rw [decDigits_ge h10]
        simp; omega

end Go.Proofs.YtnmafcbkipkppaaDoor
