/-
  No cell of these rows narrows 'for every input' (looked for: loops, veiled, ifaces, maps, wideKeys, modest, calm, conditions, laid).
  DERIVED. THE GIVEN ROWS OF THIS SEAT. 6 by the template 'for every input the law returns true; each argument reads behind the call as it read before'; 0 by the template 'total and deterministic' (their statements: YthoglkemifamoaaTotals.lean).
  GIVEN WITH THE SEED: the statements are not yours to turn. If you find one false, say at which input.
  Laid BY PROGRAM, IN A SANDBOX (cutbox-rows.mjs): the forced cells as the released guide's own fill.sh prints them over the translation 0273d32afe7da092… (all of the seat's roots in one cut). By AI agents, Wed Nov 11 2026. No macro, syntax, notation, axiom, sorry.
-/
import Derived.Test.YthoglkemifamoaaChecked
import GoSem.Claim
import GoSem.ClaimJoined
import GoSem.ClaimMapViews
import Derived.JoinedTies
import Derived.KernelRfl
namespace Go.Proofs.Ythoglkemifamoaa
/- THE CELL 'sum', in the pinned program and in every row, IS THE sha256 OF THE DUMP (.gsa) THAT YthoglkemifamoaaProg.lean LOADS. Nothing in Lean hashes anything: it is a label: what it is worth is what the hold of that sum in a sandbox is worth. -/
noncomputable def Try.pinned : Pinned := { name := "ythoglkemifamoaa", sum := "0273d32afe7da0924869a3aee5cb80757c3578a21d04953d42830c58c84b832f", checked := Try.checked }
namespace Rows
def none {H : Type} : Left H := { results := [], args := [] }

/-- 'laws.FnExactAreJobs': WHATEVER THE INPUT: true; the input reads as it did. -/
def fnExactAreJobsSpec : ChangeSpec := { name := "fnExactAreJobs", fn := fun _ => fun
  | [d] => { results := [.lit (.bool true)], args := [d] }
  | _ => none }
def fnExactAreJobsRow : OpenClaim := { program := "ythoglkemifamoaa", sum := "0273d32afe7da0924869a3aee5cb80757c3578a21d04953d42830c58c84b832f", func := "loop.example/g01333/laws.FnExactAreJobs", spec := "fnExactAreJobs", apart := false }
def FnExactAreJobsSaid : Prop := fnExactAreJobsRow.holds Try.pinned (OpenSpec.ofChange fnExactAreJobsSpec)

/-- ITS FALSE NEIGHBOUR: 'it returns false'. Refute it at one input. -/
def fnExactAreJobsWrong : ChangeSpec := { name := "fnExactAreJobs", fn := fun _ => fun
  | [d] => { results := [.lit (.bool false)], args := [d] }
  | _ => none }
def FnExactAreJobsWrongFalsely : Prop := fnExactAreJobsRow.holds Try.pinned (OpenSpec.ofChange fnExactAreJobsWrong)

/-- 'laws.FnExactIsLoadPlan': WHATEVER THE INPUT: true; the input reads as it did. -/
def fnExactIsLoadPlanSpec : ChangeSpec := { name := "fnExactIsLoadPlan", fn := fun _ => fun
  | [d1, d2, d3] => { results := [.lit (.bool true)], args := [d1, d2, d3] }
  | _ => none }
def fnExactIsLoadPlanRow : OpenClaim := { program := "ythoglkemifamoaa", sum := "0273d32afe7da0924869a3aee5cb80757c3578a21d04953d42830c58c84b832f", func := "loop.example/g01333/laws.FnExactIsLoadPlan", spec := "fnExactIsLoadPlan", apart := false }
def FnExactIsLoadPlanSaid : Prop := fnExactIsLoadPlanRow.holds Try.pinned (OpenSpec.ofChange fnExactIsLoadPlanSpec)

/-- ITS FALSE NEIGHBOUR: 'it returns false'. Refute it at one input. -/
def fnExactIsLoadPlanWrong : ChangeSpec := { name := "fnExactIsLoadPlan", fn := fun _ => fun
  | [d1, d2, d3] => { results := [.lit (.bool false)], args := [d1, d2, d3] }
  | _ => none }
def FnExactIsLoadPlanWrongFalsely : Prop := fnExactIsLoadPlanRow.holds Try.pinned (OpenSpec.ofChange fnExactIsLoadPlanWrong)

/-- 'laws.FnExactLoadsOf': WHATEVER THE INPUT: true; the input reads as it did. -/
def fnExactLoadsOfSpec : ChangeSpec := { name := "fnExactLoadsOf", fn := fun _ => fun
  | [d1, d2, d3] => { results := [.lit (.bool true)], args := [d1, d2, d3] }
  | _ => none }
def fnExactLoadsOfRow : OpenClaim := { program := "ythoglkemifamoaa", sum := "0273d32afe7da0924869a3aee5cb80757c3578a21d04953d42830c58c84b832f", func := "loop.example/g01333/laws.FnExactLoadsOf", spec := "fnExactLoadsOf", apart := false }
def FnExactLoadsOfSaid : Prop := fnExactLoadsOfRow.holds Try.pinned (OpenSpec.ofChange fnExactLoadsOfSpec)

/-- ITS FALSE NEIGHBOUR: 'it returns false'. Refute it at one input. -/
def fnExactLoadsOfWrong : ChangeSpec := { name := "fnExactLoadsOf", fn := fun _ => fun
  | [d1, d2, d3] => { results := [.lit (.bool false)], args := [d1, d2, d3] }
  | _ => none }
def FnExactLoadsOfWrongFalsely : Prop := fnExactLoadsOfRow.holds Try.pinned (OpenSpec.ofChange fnExactLoadsOfWrong)

/-- 'laws.FnExactEndOfPlan': WHATEVER THE INPUT: true; the input reads as it did. -/
def fnExactEndOfPlanSpec : ChangeSpec := { name := "fnExactEndOfPlan", fn := fun _ => fun
  | [d1, d2, d3] => { results := [.lit (.bool true)], args := [d1, d2, d3] }
  | _ => none }
def fnExactEndOfPlanRow : OpenClaim := { program := "ythoglkemifamoaa", sum := "0273d32afe7da0924869a3aee5cb80757c3578a21d04953d42830c58c84b832f", func := "loop.example/g01333/laws.FnExactEndOfPlan", spec := "fnExactEndOfPlan", apart := false }
def FnExactEndOfPlanSaid : Prop := fnExactEndOfPlanRow.holds Try.pinned (OpenSpec.ofChange fnExactEndOfPlanSpec)

/-- ITS FALSE NEIGHBOUR: 'it returns false'. Refute it at one input. -/
def fnExactEndOfPlanWrong : ChangeSpec := { name := "fnExactEndOfPlan", fn := fun _ => fun
  | [d1, d2, d3] => { results := [.lit (.bool false)], args := [d1, d2, d3] }
  | _ => none }
def FnExactEndOfPlanWrongFalsely : Prop := fnExactEndOfPlanRow.holds Try.pinned (OpenSpec.ofChange fnExactEndOfPlanWrong)

/-- 'laws.FnExactIdleOfPlan': WHATEVER THE INPUT: true; the input reads as it did. -/
def fnExactIdleOfPlanSpec : ChangeSpec := { name := "fnExactIdleOfPlan", fn := fun _ => fun
  | [d1, d2, d3] => { results := [.lit (.bool true)], args := [d1, d2, d3] }
  | _ => none }
def fnExactIdleOfPlanRow : OpenClaim := { program := "ythoglkemifamoaa", sum := "0273d32afe7da0924869a3aee5cb80757c3578a21d04953d42830c58c84b832f", func := "loop.example/g01333/laws.FnExactIdleOfPlan", spec := "fnExactIdleOfPlan", apart := false }
def FnExactIdleOfPlanSaid : Prop := fnExactIdleOfPlanRow.holds Try.pinned (OpenSpec.ofChange fnExactIdleOfPlanSpec)

/-- ITS FALSE NEIGHBOUR: 'it returns false'. Refute it at one input. -/
def fnExactIdleOfPlanWrong : ChangeSpec := { name := "fnExactIdleOfPlan", fn := fun _ => fun
  | [d1, d2, d3] => { results := [.lit (.bool false)], args := [d1, d2, d3] }
  | _ => none }
def FnExactIdleOfPlanWrongFalsely : Prop := fnExactIdleOfPlanRow.holds Try.pinned (OpenSpec.ofChange fnExactIdleOfPlanWrong)

/-- 'laws.FnExactEndBound': WHATEVER THE INPUT: true; the input reads as it did. -/
def fnExactEndBoundSpec : ChangeSpec := { name := "fnExactEndBound", fn := fun _ => fun
  | [d1, d2] => { results := [.lit (.bool true)], args := [d1, d2] }
  | _ => none }
def fnExactEndBoundRow : OpenClaim := { program := "ythoglkemifamoaa", sum := "0273d32afe7da0924869a3aee5cb80757c3578a21d04953d42830c58c84b832f", func := "loop.example/g01333/laws.FnExactEndBound", spec := "fnExactEndBound", apart := false }
def FnExactEndBoundSaid : Prop := fnExactEndBoundRow.holds Try.pinned (OpenSpec.ofChange fnExactEndBoundSpec)

/-- ITS FALSE NEIGHBOUR: 'it returns false'. Refute it at one input. -/
def fnExactEndBoundWrong : ChangeSpec := { name := "fnExactEndBound", fn := fun _ => fun
  | [d1, d2] => { results := [.lit (.bool false)], args := [d1, d2] }
  | _ => none }
def FnExactEndBoundWrongFalsely : Prop := fnExactEndBoundRow.holds Try.pinned (OpenSpec.ofChange fnExactEndBoundWrong)

/- THE SECOND FORM. 'bulk': how many values and letters a reading holds, each counted each time it is reached (what is shared counts as often as it is met; a slice's spare places count too). A statement '..UptoSaid' is the law's where the arguments, and the package variables that the reading takes, are together of bulk at most 1048576: NARROWER than '..Said'. Prove '..Said' where nothing that the law and all that it calls make is longer than what came in: it says more and counts as full. Else prove '..UptoSaid'. A law counts once. -/
mutual
def uptoBulk {H : Type} : DataW H → Nat
  | .lit (.string bytes) => bytes.length + 1
  | .lit _ => 1
  | .nil => 1
  | .ptr d => uptoBulk d + 1
  | .slice elems spare => uptoBulkAll elems + uptoBulkAll spare + 1
  | .agg parts => uptoBulkAll parts + 1
  | .iface _ d => uptoBulk d + 1
  | .map entries => uptoBulkEntries entries + 1
  | .held _ => 1
def uptoBulkAll {H : Type} : List (DataW H) → Nat
  | [] => 0
  | d :: r => uptoBulk d + uptoBulkAll r
def uptoBulkEntries {H : Type} : List (Lit × DataW H) → Nat
  | [] => 0
  | x :: r => uptoBulkEntry x + uptoBulkEntries r
def uptoBulkEntry {H : Type} : Lit × DataW H → Nat
  | (.string bytes, d) => bytes.length + uptoBulk d + 1
  | (_, d) => uptoBulk d + 1
 end
def uptoSmall : (H : Type) → List (DataW H) → Bool := fun _ ds => decide (uptoBulkAll ds ≤ 1048576)
def OpenSpec.upto (s : _root_.Go.ChangeSpec) : _root_.Go.OpenSpec := { _root_.Go.OpenSpec.ofChange s with cond := some uptoSmall }

/-- 'laws.FnExactAreJobs', WHERE WHAT IT READS IS OF BULK AT MOST 1048576: true; the input reads as it did. -/
def fnExactAreJobsUptoRow : OpenClaim := { program := "ythoglkemifamoaa", sum := "0273d32afe7da0924869a3aee5cb80757c3578a21d04953d42830c58c84b832f", func := "loop.example/g01333/laws.FnExactAreJobs", spec := "fnExactAreJobs", apart := false, narrowed := true }
def FnExactAreJobsUptoSaid : Prop := fnExactAreJobsUptoRow.holds Try.pinned (OpenSpec.upto fnExactAreJobsSpec)

/-- 'laws.FnExactIsLoadPlan', WHERE WHAT IT READS IS OF BULK AT MOST 1048576: true; the input reads as it did. -/
def fnExactIsLoadPlanUptoRow : OpenClaim := { program := "ythoglkemifamoaa", sum := "0273d32afe7da0924869a3aee5cb80757c3578a21d04953d42830c58c84b832f", func := "loop.example/g01333/laws.FnExactIsLoadPlan", spec := "fnExactIsLoadPlan", apart := false, narrowed := true }
def FnExactIsLoadPlanUptoSaid : Prop := fnExactIsLoadPlanUptoRow.holds Try.pinned (OpenSpec.upto fnExactIsLoadPlanSpec)

/-- 'laws.FnExactLoadsOf', WHERE WHAT IT READS IS OF BULK AT MOST 1048576: true; the input reads as it did. -/
def fnExactLoadsOfUptoRow : OpenClaim := { program := "ythoglkemifamoaa", sum := "0273d32afe7da0924869a3aee5cb80757c3578a21d04953d42830c58c84b832f", func := "loop.example/g01333/laws.FnExactLoadsOf", spec := "fnExactLoadsOf", apart := false, narrowed := true }
def FnExactLoadsOfUptoSaid : Prop := fnExactLoadsOfUptoRow.holds Try.pinned (OpenSpec.upto fnExactLoadsOfSpec)

/-- 'laws.FnExactEndOfPlan', WHERE WHAT IT READS IS OF BULK AT MOST 1048576: true; the input reads as it did. -/
def fnExactEndOfPlanUptoRow : OpenClaim := { program := "ythoglkemifamoaa", sum := "0273d32afe7da0924869a3aee5cb80757c3578a21d04953d42830c58c84b832f", func := "loop.example/g01333/laws.FnExactEndOfPlan", spec := "fnExactEndOfPlan", apart := false, narrowed := true }
def FnExactEndOfPlanUptoSaid : Prop := fnExactEndOfPlanUptoRow.holds Try.pinned (OpenSpec.upto fnExactEndOfPlanSpec)

/-- 'laws.FnExactIdleOfPlan', WHERE WHAT IT READS IS OF BULK AT MOST 1048576: true; the input reads as it did. -/
def fnExactIdleOfPlanUptoRow : OpenClaim := { program := "ythoglkemifamoaa", sum := "0273d32afe7da0924869a3aee5cb80757c3578a21d04953d42830c58c84b832f", func := "loop.example/g01333/laws.FnExactIdleOfPlan", spec := "fnExactIdleOfPlan", apart := false, narrowed := true }
def FnExactIdleOfPlanUptoSaid : Prop := fnExactIdleOfPlanUptoRow.holds Try.pinned (OpenSpec.upto fnExactIdleOfPlanSpec)

/-- 'laws.FnExactEndBound', WHERE WHAT IT READS IS OF BULK AT MOST 1048576: true; the input reads as it did. -/
def fnExactEndBoundUptoRow : OpenClaim := { program := "ythoglkemifamoaa", sum := "0273d32afe7da0924869a3aee5cb80757c3578a21d04953d42830c58c84b832f", func := "loop.example/g01333/laws.FnExactEndBound", spec := "fnExactEndBound", apart := false, narrowed := true }
def FnExactEndBoundUptoSaid : Prop := fnExactEndBoundUptoRow.holds Try.pinned (OpenSpec.upto fnExactEndBoundSpec)

end Rows
end Go.Proofs.Ythoglkemifamoaa
