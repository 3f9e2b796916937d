import Derived.Test.YtediapekgbekeaaProg
import Derived.Test.YtediapekgbekeaaMg00
import Derived.WalkKit
import Derived.Deep.QuietTactic
import Derived.BigQuiet

/-
  THE LAWS' OWN HELPERS ON LISTS OF NUMBERS: toIntS (a copy), eqIntS (the same numbers).
-/
namespace Go.Proofs.Ytediapekgbekeaa
open Go.RowKit Go.Deep

theorem infoInt : (Try.prog.info? 3).map (fun i => (i.zero, i.size, i.bytes)) = some (some (.int .i64 0), 1, 8) := by kernel_rfl

/-- WHAT toIntS LEAVES: a new row at the heap's end that reads as the argument did; nothing that was there has turned. -/
def Copied (zs : List Int) (w : World) (e : Ending) (w' : World) : Prop :=
  ∃ g, w.heap.size ≤ g ∧ g < w'.heap.size ∧ e = .returned (.slice (some ⟨g, 0, none⟩) zs.length zs.length) ∧ Row w' g 3 zs ∧ Below w.heap.size w w'

end Go.Proofs.Ytediapekgbekeaa
