/-
  No cell of these rows narrows 'for every input' (looked for: loops, veiled, ifaces, maps, wideKeys, modest, calm, conditions, laid).
  DERIVED. THE GIVEN ROWS OF THIS SEAT. 3 by the template 'for every input the law returns true; each argument reads behind the call as it read before'; 0 by the template 'total and deterministic' (their statements: YtfikkgnpednjfaaTotals.lean).
  GIVEN WITH THE SEED: the statements are not yours to turn. If you find one false, say at which input.
  Laid BY PROGRAM, IN A SANDBOX (cutbox-rows.mjs): the forced cells as the released guide's own fill.sh prints them over the translation d683b859c19cebc1… (all of the seat's roots in one cut). By AI agents, Wed Nov 11 2026. No macro, syntax, notation, axiom, sorry.
-/
import Derived.Test.YtfikkgnpednjfaaChecked
import GoSem.Claim
import GoSem.ClaimJoined
import GoSem.ClaimMapViews
import Derived.JoinedTies
import Derived.KernelRfl
namespace Go.Proofs.Ytfikkgnpednjfaa
/- THE CELL 'sum', in the pinned program and in every row, IS THE sha256 OF THE DUMP (.gsa) THAT YtfikkgnpednjfaaProg.lean LOADS. Nothing in Lean hashes anything: it is a label: what it is worth is what the hold of that sum in a sandbox is worth. -/
noncomputable def Try.pinned : Pinned := { name := "ytfikkgnpednjfaa", sum := "d683b859c19cebc1750d525b3b1e3a456e6d8219d7294d789ad155f322a08209", checked := Try.checked }
namespace Rows
def none {H : Type} : Left H := { results := [], args := [] }

/-- 'laws.FnExactLeastEnd': WHATEVER THE INPUT: true; the input reads as it did. -/
def fnExactLeastEndSpec : ChangeSpec := { name := "fnExactLeastEnd", fn := fun _ => fun
  | [d1, d2] => { results := [.lit (.bool true)], args := [d1, d2] }
  | _ => none }
def fnExactLeastEndRow : OpenClaim := { program := "ytfikkgnpednjfaa", sum := "d683b859c19cebc1750d525b3b1e3a456e6d8219d7294d789ad155f322a08209", func := "loop.example/g01333/laws.FnExactLeastEnd", spec := "fnExactLeastEnd", unfollowed := true, recurses := true, apart := false }
def FnExactLeastEndSaid : Prop := fnExactLeastEndRow.holds Try.pinned (OpenSpec.ofChange fnExactLeastEndSpec)

/-- ITS FALSE NEIGHBOUR: 'it returns false'. Refute it at one input. -/
def fnExactLeastEndWrong : ChangeSpec := { name := "fnExactLeastEnd", fn := fun _ => fun
  | [d1, d2] => { results := [.lit (.bool false)], args := [d1, d2] }
  | _ => none }
def FnExactLeastEndWrongFalsely : Prop := fnExactLeastEndRow.holds Try.pinned (OpenSpec.ofChange fnExactLeastEndWrong)

/-- 'laws.FnExactFirstBestPlan': WHATEVER THE INPUT: true; the input reads as it did. -/
def fnExactFirstBestPlanSpec : ChangeSpec := { name := "fnExactFirstBestPlan", fn := fun _ => fun
  | [d1, d2] => { results := [.lit (.bool true)], args := [d1, d2] }
  | _ => none }
def fnExactFirstBestPlanRow : OpenClaim := { program := "ytfikkgnpednjfaa", sum := "d683b859c19cebc1750d525b3b1e3a456e6d8219d7294d789ad155f322a08209", func := "loop.example/g01333/laws.FnExactFirstBestPlan", spec := "fnExactFirstBestPlan", unfollowed := true, recurses := true, apart := false }
def FnExactFirstBestPlanSaid : Prop := fnExactFirstBestPlanRow.holds Try.pinned (OpenSpec.ofChange fnExactFirstBestPlanSpec)

/-- ITS FALSE NEIGHBOUR: 'it returns false'. Refute it at one input. -/
def fnExactFirstBestPlanWrong : ChangeSpec := { name := "fnExactFirstBestPlan", fn := fun _ => fun
  | [d1, d2] => { results := [.lit (.bool false)], args := [d1, d2] }
  | _ => none }
def FnExactFirstBestPlanWrongFalsely : Prop := fnExactFirstBestPlanRow.holds Try.pinned (OpenSpec.ofChange fnExactFirstBestPlanWrong)

/-- 'laws.FnExactCountBestPlans': WHATEVER THE INPUT: true; the input reads as it did. -/
def fnExactCountBestPlansSpec : ChangeSpec := { name := "fnExactCountBestPlans", fn := fun _ => fun
  | [d1, d2] => { results := [.lit (.bool true)], args := [d1, d2] }
  | _ => none }
def fnExactCountBestPlansRow : OpenClaim := { program := "ytfikkgnpednjfaa", sum := "d683b859c19cebc1750d525b3b1e3a456e6d8219d7294d789ad155f322a08209", func := "loop.example/g01333/laws.FnExactCountBestPlans", spec := "fnExactCountBestPlans", unfollowed := true, recurses := true, apart := false }
def FnExactCountBestPlansSaid : Prop := fnExactCountBestPlansRow.holds Try.pinned (OpenSpec.ofChange fnExactCountBestPlansSpec)

/-- ITS FALSE NEIGHBOUR: 'it returns false'. Refute it at one input. -/
def fnExactCountBestPlansWrong : ChangeSpec := { name := "fnExactCountBestPlans", fn := fun _ => fun
  | [d1, d2] => { results := [.lit (.bool false)], args := [d1, d2] }
  | _ => none }
def FnExactCountBestPlansWrongFalsely : Prop := fnExactCountBestPlansRow.holds Try.pinned (OpenSpec.ofChange fnExactCountBestPlansWrong)

/- THE SECOND FORM. 'bulk': how many values and letters a reading holds, each counted each time it is reached (what is shared counts as often as it is met; a slice's spare places count too). A statement '..UptoSaid' is the law's where the arguments, and the package variables that the reading takes, are together of bulk at most 1048576: NARROWER than '..Said'. Prove '..Said' where nothing that the law and all that it calls make is longer than what came in: it says more and counts as full. Else prove '..UptoSaid'. A law counts once. -/
mutual
def uptoBulk {H : Type} : DataW H → Nat
  | .lit (.string bytes) => bytes.length + 1
  | .lit _ => 1
  | .nil => 1
  | .ptr d => uptoBulk d + 1
  | .slice elems spare => uptoBulkAll elems + uptoBulkAll spare + 1
  | .agg parts => uptoBulkAll parts + 1
  | .iface _ d => uptoBulk d + 1
  | .map entries => uptoBulkEntries entries + 1
  | .held _ => 1
def uptoBulkAll {H : Type} : List (DataW H) → Nat
  | [] => 0
  | d :: r => uptoBulk d + uptoBulkAll r
def uptoBulkEntries {H : Type} : List (Lit × DataW H) → Nat
  | [] => 0
  | x :: r => uptoBulkEntry x + uptoBulkEntries r
def uptoBulkEntry {H : Type} : Lit × DataW H → Nat
  | (.string bytes, d) => bytes.length + uptoBulk d + 1
  | (_, d) => uptoBulk d + 1
 end
def uptoSmall : (H : Type) → List (DataW H) → Bool := fun _ ds => decide (uptoBulkAll ds ≤ 1048576)
def OpenSpec.upto (s : _root_.Go.ChangeSpec) : _root_.Go.OpenSpec := { _root_.Go.OpenSpec.ofChange s with cond := some uptoSmall }

/-- 'laws.FnExactLeastEnd', WHERE WHAT IT READS IS OF BULK AT MOST 1048576: true; the input reads as it did. -/
def fnExactLeastEndUptoRow : OpenClaim := { program := "ytfikkgnpednjfaa", sum := "d683b859c19cebc1750d525b3b1e3a456e6d8219d7294d789ad155f322a08209", func := "loop.example/g01333/laws.FnExactLeastEnd", spec := "fnExactLeastEnd", unfollowed := true, recurses := true, apart := false, narrowed := true }
def FnExactLeastEndUptoSaid : Prop := fnExactLeastEndUptoRow.holds Try.pinned (OpenSpec.upto fnExactLeastEndSpec)

/-- 'laws.FnExactFirstBestPlan', WHERE WHAT IT READS IS OF BULK AT MOST 1048576: true; the input reads as it did. -/
def fnExactFirstBestPlanUptoRow : OpenClaim := { program := "ytfikkgnpednjfaa", sum := "d683b859c19cebc1750d525b3b1e3a456e6d8219d7294d789ad155f322a08209", func := "loop.example/g01333/laws.FnExactFirstBestPlan", spec := "fnExactFirstBestPlan", unfollowed := true, recurses := true, apart := false, narrowed := true }
def FnExactFirstBestPlanUptoSaid : Prop := fnExactFirstBestPlanUptoRow.holds Try.pinned (OpenSpec.upto fnExactFirstBestPlanSpec)

/-- 'laws.FnExactCountBestPlans', WHERE WHAT IT READS IS OF BULK AT MOST 1048576: true; the input reads as it did. -/
def fnExactCountBestPlansUptoRow : OpenClaim := { program := "ytfikkgnpednjfaa", sum := "d683b859c19cebc1750d525b3b1e3a456e6d8219d7294d789ad155f322a08209", func := "loop.example/g01333/laws.FnExactCountBestPlans", spec := "fnExactCountBestPlans", unfollowed := true, recurses := true, apart := false, narrowed := true }
def FnExactCountBestPlansUptoSaid : Prop := fnExactCountBestPlansUptoRow.holds Try.pinned (OpenSpec.upto fnExactCountBestPlansSpec)

end Rows
end Go.Proofs.Ytfikkgnpednjfaa
