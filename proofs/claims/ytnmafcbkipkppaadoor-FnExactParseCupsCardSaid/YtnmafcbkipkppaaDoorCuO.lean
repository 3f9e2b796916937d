
/-
  CUPS OF DROPS, BOTH WAYS: CupsOf.
-/
import Derived.Test.YtnmafcbkipkppaaDoorCuL
import Derived.Test.YtnmafcbkipkppaaDoorCuS
import Derived.Test.YtnmafcbkipkppaaDoorCopy
namespace Go.Proofs.YtnmafcbkipkppaaDoor
open Go.RowKit Go.Deep
set_option linter.unusedVariables false

/-- WHAT A CALL THAT MAKES CUPS, PERHAPS, LEAVES. -/
def MadeCB (fs : List Int) (fu : Int) (b : Bool) (w : World) (e : Ending) (w' : World) : Prop :=
  ∃ A c, e = .returned (.tuple #[.agg #[.slice A fs.length c, .int .i64 fu], .bool b]) ∧ fs.length ≤ c ∧ c ≤ maxLen ∧ Own w' w.heap.size 3 (.slice A fs.length c) fs ∧ Below w.heap.size w w'
theorem madeCB_no (w w' : World) (h : Below w.heap.size w w') : MadeCB [] 0 false w (.returned (.tuple #[.agg #[.slice none 0 0, .int .i64 0], .bool false])) w' :=
  ⟨none, 0, rfl, Nat.le_refl _, by unfold maxLen; omega, Own.nil _ _ _, h⟩

def ofL (zs : List Int) : List Int := if cuOk zs 1 then zs else []
def ofU (zs : List Int) : Int := if cuOk zs 1 then 1 else 0
theorem ofL_no {zs : List Int} (h : cuOk zs 1 = false) : ofL zs = [] := by unfold ofL; rw [h]; rfl
theorem ofU_no {zs : List Int} (h : cuOk zs 1 = false) : ofU zs = 0 := by unfold ofU; rw [h]; rfl
theorem ofL_yes {zs : List Int} (h : cuOk zs 1 = true) : ofL zs = zs := by unfold ofL; rw [h]; rfl
theorem ofU_yes {zs : List Int} (h : cuOk zs 1 = true) : ofU zs = 1 := by unfold ofU; rw [h]; rfl
theorem isU_one : isU 1 = true := by simpa using isU_mk 0 (by omega)
theorem cuOk_one (zs : List Int) : cuOk zs 1 = (decide (2 ≤ (zs.length : Int) ∧ (zs.length : Int) ≤ 6) && within 0 1000 zs) := by
  unfold cuOk
  rw [isU_one, show (1000 : Int) * 1 = 1000 from rfl, show ((1 : Int) == 1 || anyOdd zs) = true from rfl, Bool.and_true, Bool.and_true]
  congr 1
  apply decide_eq_decide.2; omega

end Go.Proofs.YtnmafcbkipkppaaDoor
