
/-
  SPLITS, BOTH WAYS, THE SECOND PART: splitGameOf, canMake; the model's slAsked, slMake.
-/
import Derived.Test.YtkipalcmeemjbaaSl
import Derived.Test.YtkipalcmeemjbaaApp
import Derived.Test.YtkipalcmeemjbaaSums
import Derived.Deep.RegionHeld3
import Derived.Deep.RegionWith
namespace Go.Proofs.Ytkipalcmeemjbaa
open Go.RowKit Go.Deep
set_option linter.unusedVariables false

theorem wrap_ok {n : Int} (h0 : -1000000000000 ≤ n) (h1 : n ≤ 1000000000000) : IntKind.i64.wrap n = n := by
  rw [IntKind.wrap_i64]; omega
theorem sask_no1 {r : Int} {zs : List Int} (h : srule r = false) : sask r zs = false := by simp [sask, h]
theorem sask_yes1 {r : Int} {zs : List Int} (h : srule r = true) : sask r zs = sgood zs := by simp [sask, h]

/-- The model's slRule. -/
theorem slRule_any (r : Int) (w : World) :
    Calls Try.prog 24 #[.int .i64 r] w fun e w' => e = .returned (.bool (srule r)) ∧ w = w' := by
  have HA := hide (fun W => l1In_any r 0 2 W)
  have HE := show srule r = decide (0 ≤ r ∧ r ≤ 2) from rfl
  rw [← HE] at HA
  clear HE
  generalize srule r = b at *
  go_enter Try.func24, Try.ntmps24
  go_wp2_with fail
  refine (HA.out _).mono ?_; rintro e w' ⟨rfl, rfl⟩
  go_wp2_with fail
  go_ret
  exact ⟨rfl, rfl⟩

/-- A game as a value: its rule, and the very heaps that came. -/
def gameV (b : Bool) (r : Int) (A : Option Addr) (n c : Nat) : Value := if b then .agg #[.int .i64 r, .slice A n c] else .agg #[.int .i64 0, .slice none 0 0]

/-- WHAT IS LEFT BEHIND A SPLIT: heaps of the call's own, at the head of a new block. -/
def SMade (zs : List Int) (w : World) (e : Ending) (w' : World) : Prop :=
  ∃ g c, e = .returned (.tuple #[.slice (some ⟨g, 0, none⟩) zs.length c, .bool true]) ∧ w.heap.size ≤ g ∧ g < w'.heap.size ∧ zs.length ≤ c ∧ c ≤ maxLen ∧ Own w' w.heap.size 3 (.slice (some ⟨g, 0, none⟩) zs.length c) zs ∧ Below w.heap.size w w'

end Go.Proofs.Ytkipalcmeemjbaa
