
/-
  SIZES, WHAT IS OVER, FLOWS, BOTH WAYS: l1Most, l1Abs, sizeOf, hpSize, sumOfSizes, hpOver, hpFlows, LineFlows.
-/
import Derived.Test.YtnakkmmmkbjfbaaSums
import Derived.Test.YtnakkmmmkbjfbaaPlainC
import Derived.Test.YtnakkmmmkbjfbaaOwn
import Derived.Test.YtnakkmmmkbjfbaaLaws0
import Derived.WalkLawsBesides
namespace Go.Proofs.Ytnakkmmmkbjfbaa
open Go.RowKit Go.Deep

/-- WHAT A CALL LEAVES THAT MAKES A LIST OF ITS OWN: the value of a slice whose numbers are zs, in new memory; nothing that was there has turned. -/
def Made (zs : List Int) (w : World) (e : Ending) (w' : World) : Prop :=
  ∃ A c, e = .returned (.slice A zs.length c) ∧ zs.length ≤ c ∧ c ≤ maxLen ∧ Own w' w.heap.size 3 (.slice A zs.length c) zs ∧ Below w.heap.size w w'

/-- THE SAME BESIDE A BOOL. -/
def MadeR (zs : List Int) (b : Bool) (w : World) (e : Ending) (w' : World) : Prop :=
  ∃ A c, e = .returned (.tuple #[.slice A zs.length c, .bool b]) ∧ zs.length ≤ c ∧ c ≤ maxLen ∧ Own w' w.heap.size 3 (.slice A zs.length c) zs ∧ Below w.heap.size w w'
theorem madeR_none {w w' : World} (h : Below w.heap.size w w') : MadeR [] false w (.returned (.tuple #[.slice none 0 0, .bool false])) w' :=
  ⟨none, 0, rfl, Nat.le_refl _, Nat.zero_le _, Own.nil _ _ _, h⟩
theorem madeR_below {zs : List Int} {b : Bool} {w w1 w2 : World} {e : Ending} (h : Below w.heap.size w w1) (h2 : MadeR zs b w1 e w2) : MadeR zs b w e w2 := by
  obtain ⟨A, c, he, h3, h4, hown, hb⟩ := h2
  exact ⟨A, c, he, h3, h4, hown.less h.size, below_next h hb⟩

end Go.Proofs.Ytnakkmmmkbjfbaa
