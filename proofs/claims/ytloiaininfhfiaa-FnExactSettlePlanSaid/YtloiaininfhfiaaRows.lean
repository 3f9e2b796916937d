/-
  No cell of these rows narrows 'for every input' (looked for: loops, veiled, ifaces, maps, wideKeys, modest, calm, conditions, laid).
  DERIVED. THE GIVEN ROWS OF THIS SEAT. 3 by the template 'for every input the law returns true; each argument reads behind the call as it read before'; 0 by the template 'total and deterministic' (their statements: YtloiaininfhfiaaTotals.lean).
  GIVEN WITH THE SEED: the statements are not yours to turn. If you find one false, say at which input.
  Laid BY PROGRAM, IN A SANDBOX (cutbox-rows.mjs): the forced cells as the released guide's own fill.sh prints them over the translation 0d9de2b532500484… (all of the seat's roots in one cut). By AI agents, Wed Nov 11 2026. No macro, syntax, notation, axiom, sorry.
-/
import Derived.Test.YtloiaininfhfiaaChecked
import GoSem.Claim
import GoSem.ClaimJoined
import GoSem.ClaimMapViews
import Derived.JoinedTies
import Derived.KernelRfl
namespace Go.Proofs.Ytloiaininfhfiaa
/- THE CELL 'sum', in the pinned program and in every row, IS THE sha256 OF THE DUMP (.gsa) THAT YtloiaininfhfiaaProg.lean LOADS. Nothing in Lean hashes anything: it is a label: what it is worth is what the hold of that sum in a sandbox is worth. -/
noncomputable def Try.pinned : Pinned := { name := "ytloiaininfhfiaa", sum := "0d9de2b532500484c76fa0f8aba0cdfecf59e489b6bea99acf9ffe4a12d46d38", checked := Try.checked }
namespace Rows
def none {H : Type} : Left H := { results := [], args := [] }

/-- 'laws.FnExactBestMove': WHATEVER THE INPUT: true; the input reads as it did. -/
def fnExactBestMoveSpec : ChangeSpec := { name := "fnExactBestMove", fn := fun _ => fun
  | [d1, d2, d3] => { results := [.lit (.bool true)], args := [d1, d2, d3] }
  | _ => none }
def fnExactBestMoveRow : OpenClaim := { program := "ytloiaininfhfiaa", sum := "0d9de2b532500484c76fa0f8aba0cdfecf59e489b6bea99acf9ffe4a12d46d38", func := "loop.example/g01333/laws.FnExactBestMove", spec := "fnExactBestMove", unfollowed := true, recurses := true, apart := false }
def FnExactBestMoveSaid : Prop := fnExactBestMoveRow.holds Try.pinned (OpenSpec.ofChange fnExactBestMoveSpec)

/-- ITS FALSE NEIGHBOUR: 'it returns false'. Refute it at one input. -/
def fnExactBestMoveWrong : ChangeSpec := { name := "fnExactBestMove", fn := fun _ => fun
  | [d1, d2, d3] => { results := [.lit (.bool false)], args := [d1, d2, d3] }
  | _ => none }
def FnExactBestMoveWrongFalsely : Prop := fnExactBestMoveRow.holds Try.pinned (OpenSpec.ofChange fnExactBestMoveWrong)

/-- 'laws.FnExactIsSettledPlan': WHATEVER THE INPUT: true; the input reads as it did. -/
def fnExactIsSettledPlanSpec : ChangeSpec := { name := "fnExactIsSettledPlan", fn := fun _ => fun
  | [d1, d2, d3] => { results := [.lit (.bool true)], args := [d1, d2, d3] }
  | _ => none }
def fnExactIsSettledPlanRow : OpenClaim := { program := "ytloiaininfhfiaa", sum := "0d9de2b532500484c76fa0f8aba0cdfecf59e489b6bea99acf9ffe4a12d46d38", func := "loop.example/g01333/laws.FnExactIsSettledPlan", spec := "fnExactIsSettledPlan", unfollowed := true, recurses := true, apart := false }
def FnExactIsSettledPlanSaid : Prop := fnExactIsSettledPlanRow.holds Try.pinned (OpenSpec.ofChange fnExactIsSettledPlanSpec)

/-- ITS FALSE NEIGHBOUR: 'it returns false'. Refute it at one input. -/
def fnExactIsSettledPlanWrong : ChangeSpec := { name := "fnExactIsSettledPlan", fn := fun _ => fun
  | [d1, d2, d3] => { results := [.lit (.bool false)], args := [d1, d2, d3] }
  | _ => none }
def FnExactIsSettledPlanWrongFalsely : Prop := fnExactIsSettledPlanRow.holds Try.pinned (OpenSpec.ofChange fnExactIsSettledPlanWrong)

/-- 'laws.FnExactSettlePlan': WHATEVER THE INPUT: true; the input reads as it did. -/
def fnExactSettlePlanSpec : ChangeSpec := { name := "fnExactSettlePlan", fn := fun _ => fun
  | [d1, d2, d3] => { results := [.lit (.bool true)], args := [d1, d2, d3] }
  | _ => none }
def fnExactSettlePlanRow : OpenClaim := { program := "ytloiaininfhfiaa", sum := "0d9de2b532500484c76fa0f8aba0cdfecf59e489b6bea99acf9ffe4a12d46d38", func := "loop.example/g01333/laws.FnExactSettlePlan", spec := "fnExactSettlePlan", unfollowed := true, recurses := true, apart := false }
def FnExactSettlePlanSaid : Prop := fnExactSettlePlanRow.holds Try.pinned (OpenSpec.ofChange fnExactSettlePlanSpec)

/-- ITS FALSE NEIGHBOUR: 'it returns false'. Refute it at one input. -/
def fnExactSettlePlanWrong : ChangeSpec := { name := "fnExactSettlePlan", fn := fun _ => fun
  | [d1, d2, d3] => { results := [.lit (.bool false)], args := [d1, d2, d3] }
  | _ => none }
def FnExactSettlePlanWrongFalsely : Prop := fnExactSettlePlanRow.holds Try.pinned (OpenSpec.ofChange fnExactSettlePlanWrong)

/- THE SECOND FORM. 'bulk': how many values and letters a reading holds, each counted each time it is reached (what is shared counts as often as it is met; a slice's spare places count too). A statement '..UptoSaid' is the law's where the arguments, and the package variables that the reading takes, are together of bulk at most 1048576: NARROWER than '..Said'. Prove '..Said' where nothing that the law and all that it calls make is longer than what came in: it says more and counts as full. Else prove '..UptoSaid'. A law counts once. -/
mutual
def uptoBulk {H : Type} : DataW H → Nat
  | .lit (.string bytes) => bytes.length + 1
  | .lit _ => 1
  | .nil => 1
  | .ptr d => uptoBulk d + 1
  | .slice elems spare => uptoBulkAll elems + uptoBulkAll spare + 1
  | .agg parts => uptoBulkAll parts + 1
  | .iface _ d => uptoBulk d + 1
  | .map entries => uptoBulkEntries entries + 1
  | .held _ => 1
def uptoBulkAll {H : Type} : List (DataW H) → Nat
  | [] => 0
  | d :: r => uptoBulk d + uptoBulkAll r
def uptoBulkEntries {H : Type} : List (Lit × DataW H) → Nat
  | [] => 0
  | x :: r => uptoBulkEntry x + uptoBulkEntries r
def uptoBulkEntry {H : Type} : Lit × DataW H → Nat
  | (.string bytes, d) => bytes.length + uptoBulk d + 1
  | (_, d) => uptoBulk d + 1
 end
def uptoSmall : (H : Type) → List (DataW H) → Bool := fun _ ds => decide (uptoBulkAll ds ≤ 1048576)
def OpenSpec.upto (s : _root_.Go.ChangeSpec) : _root_.Go.OpenSpec := { _root_.Go.OpenSpec.ofChange s with cond := some uptoSmall }

/-- 'laws.FnExactBestMove', WHERE WHAT IT READS IS OF BULK AT MOST 1048576: true; the input reads as it did. -/
def fnExactBestMoveUptoRow : OpenClaim := { program := "ytloiaininfhfiaa", sum := "0d9de2b532500484c76fa0f8aba0cdfecf59e489b6bea99acf9ffe4a12d46d38", func := "loop.example/g01333/laws.FnExactBestMove", spec := "fnExactBestMove", unfollowed := true, recurses := true, apart := false, narrowed := true }
def FnExactBestMoveUptoSaid : Prop := fnExactBestMoveUptoRow.holds Try.pinned (OpenSpec.upto fnExactBestMoveSpec)

/-- 'laws.FnExactIsSettledPlan', WHERE WHAT IT READS IS OF BULK AT MOST 1048576: true; the input reads as it did. -/
def fnExactIsSettledPlanUptoRow : OpenClaim := { program := "ytloiaininfhfiaa", sum := "0d9de2b532500484c76fa0f8aba0cdfecf59e489b6bea99acf9ffe4a12d46d38", func := "loop.example/g01333/laws.FnExactIsSettledPlan", spec := "fnExactIsSettledPlan", unfollowed := true, recurses := true, apart := false, narrowed := true }
def FnExactIsSettledPlanUptoSaid : Prop := fnExactIsSettledPlanUptoRow.holds Try.pinned (OpenSpec.upto fnExactIsSettledPlanSpec)

/-- 'laws.FnExactSettlePlan', WHERE WHAT IT READS IS OF BULK AT MOST 1048576: true; the input reads as it did. -/
def fnExactSettlePlanUptoRow : OpenClaim := { program := "ytloiaininfhfiaa", sum := "0d9de2b532500484c76fa0f8aba0cdfecf59e489b6bea99acf9ffe4a12d46d38", func := "loop.example/g01333/laws.FnExactSettlePlan", spec := "fnExactSettlePlan", unfollowed := true, recurses := true, apart := false, narrowed := true }
def FnExactSettlePlanUptoSaid : Prop := fnExactSettlePlanUptoRow.holds Try.pinned (OpenSpec.upto fnExactSettlePlanSpec)

end Rows
end Go.Proofs.Ytloiaininfhfiaa
