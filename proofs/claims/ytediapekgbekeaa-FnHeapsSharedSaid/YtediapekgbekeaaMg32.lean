import Derived.Test.YtediapekgbekeaaMg21
import Derived.Test.YtediapekgbekeaaMg27
import Derived.Test.YtediapekgbekeaaMg19
import Derived.Test.YtediapekgbekeaaMg14
import Derived.Test.YtediapekgbekeaaMg12
import Derived.Test.YtediapekgbekeaaMg17
import Derived.RegionTactic

/-
  MOVES THAT MAKE HEAPS EQUAL: both sides, for all numbers.
-/
namespace Go.Proofs.Ytediapekgbekeaa
open Go.RowKit Go.Deep
set_option linter.unusedVariables false

theorem specSharingMoves_any (A : Option Addr) (n c B : Nat) (zs : List Int) (w : World) (hr : Ints w B A n zs) (hB : B ≤ w.heap.size) (hn : n ≤ 17592186044416) :
    Calls Try.prog 7 #[.slice A n c] w (MadeRMo (if eqOk zs then moves (over zs) else []) (eqOk zs) w) := by
  cases hq : eqOk zs
  · obtain rfl := hr.len
    have HE := hide (hpEqual_any A zs.length c B zs w hr hn)
    rw [hq] at HE
    rw [if_neg (by simp)]
    clear hq
    go_enter Try.func7, Try.ntmps7
    go_wp2_with fail
    refine HE.out.mono ?_; rintro e w1 ⟨rfl, rfl⟩
    go_wp2_with fail
    go_ret2
    exact madeRMo_none (Below.refl _ _)
  · exact specSharing_any A n c B zs w hr hB hn hq (over_sum hq) (over_bd1000 hq)

theorem implSharingMoves_any (A : Option Addr) (n c B : Nat) (zs : List Int) (w : World) (hr : Ints w B A n zs) (hB : B ≤ w.heap.size) (hn : n ≤ 17592186044416) :
    Calls Try.prog 6 #[.slice A n c] w (MadeRMo (if eqOk zs then moves (over zs) else []) (eqOk zs) w) := by
  cases hq : eqOk zs
  · rw [if_neg (by simp)]
    exact implSharing_no A n c B zs w hr hB hn hq
  · exact implSharing_yes A n c B zs w hr hB hn hq

/-- The moves, of heaps that can be made equal. -/
def shareL (zs : List Int) : List Mo := if eqOk zs then moves (over zs) else []
theorem shareL_short (zs : List Int) : (shareL zs).length ≤ 100000 := by
  unfold shareL
  split
  · rename_i h
    have h1 := moves_len (over zs)
    rw [over_length] at h1
    have := (good_of (eqOk_good h)).2.1
    omega
  · simp
theorem specSharingMoves_of (A : Option Addr) (n c B : Nat) (zs : List Int) (w : World) (hr : Ints w B A n zs) (hB : B ≤ w.heap.size) (hn : n ≤ 17592186044416) :
    Calls Try.prog 7 #[.slice A n c] w (MadeRMo (shareL zs) (eqOk zs) w) := specSharingMoves_any A n c B zs w hr hB hn
theorem implSharingMoves_of (A : Option Addr) (n c B : Nat) (zs : List Int) (w : World) (hr : Ints w B A n zs) (hB : B ≤ w.heap.size) (hn : n ≤ 17592186044416) :
    Calls Try.prog 6 #[.slice A n c] w (MadeRMo (shareL zs) (eqOk zs) w) := implSharingMoves_any A n c B zs w hr hB hn
end Go.Proofs.Ytediapekgbekeaa

/-
  MOVES AMONG HEAPS: the program's carry, the model's hpMove.
-/
namespace Go.Proofs.Ytediapekgbekeaa
open Go.RowKit Go.Deep
set_option linter.unusedVariables false

end Go.Proofs.Ytediapekgbekeaa
