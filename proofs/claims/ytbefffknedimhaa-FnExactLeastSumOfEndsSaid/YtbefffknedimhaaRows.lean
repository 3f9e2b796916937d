/-
  No cell of these rows narrows 'for every input' (looked for: loops, veiled, ifaces, maps, wideKeys, modest, calm, conditions, laid).
  DERIVED. THE GIVEN ROWS OF THIS SEAT. 3 by the template 'for every input the law returns true; each argument reads behind the call as it read before'; 0 by the template 'total and deterministic' (their statements: YtbefffknedimhaaTotals.lean).
  GIVEN WITH THE SEED: the statements are not yours to turn. If you find one false, say at which input.
  Laid BY PROGRAM, IN A SANDBOX (cutbox-rows.mjs): the forced cells as the released guide's own fill.sh prints them over the translation 8cd739e9186a1e30… (all of the seat's roots in one cut). By AI agents, Wed Nov 11 2026. No macro, syntax, notation, axiom, sorry.
-/
import Derived.Test.YtbefffknedimhaaChecked
import GoSem.Claim
import GoSem.ClaimJoined
import GoSem.ClaimMapViews
import Derived.JoinedTies
import Derived.KernelRfl
namespace Go.Proofs.Ytbefffknedimhaa
/- THE CELL 'sum', in the pinned program and in every row, IS THE sha256 OF THE DUMP (.gsa) THAT YtbefffknedimhaaProg.lean LOADS. Nothing in Lean hashes anything: it is a label: what it is worth is what the hold of that sum in a sandbox is worth. -/
noncomputable def Try.pinned : Pinned := { name := "ytbefffknedimhaa", sum := "8cd739e9186a1e30b9b7ae3e5b15e2bd821649bc086b1b1bc6a055ad558e0a54", checked := Try.checked }
namespace Rows
def none {H : Type} : Left H := { results := [], args := [] }

/-- 'laws.FnExactPlanLongestFirst': WHATEVER THE INPUT: true; the input reads as it did. -/
def fnExactPlanLongestFirstSpec : ChangeSpec := { name := "fnExactPlanLongestFirst", fn := fun _ => fun
  | [d1, d2] => { results := [.lit (.bool true)], args := [d1, d2] }
  | _ => none }
def fnExactPlanLongestFirstRow : OpenClaim := { program := "ytbefffknedimhaa", sum := "8cd739e9186a1e30b9b7ae3e5b15e2bd821649bc086b1b1bc6a055ad558e0a54", func := "loop.example/g01333/laws.FnExactPlanLongestFirst", spec := "fnExactPlanLongestFirst", unfollowed := true, recurses := true, apart := false }
def FnExactPlanLongestFirstSaid : Prop := fnExactPlanLongestFirstRow.holds Try.pinned (OpenSpec.ofChange fnExactPlanLongestFirstSpec)

/-- ITS FALSE NEIGHBOUR: 'it returns false'. Refute it at one input. -/
def fnExactPlanLongestFirstWrong : ChangeSpec := { name := "fnExactPlanLongestFirst", fn := fun _ => fun
  | [d1, d2] => { results := [.lit (.bool false)], args := [d1, d2] }
  | _ => none }
def FnExactPlanLongestFirstWrongFalsely : Prop := fnExactPlanLongestFirstRow.holds Try.pinned (OpenSpec.ofChange fnExactPlanLongestFirstWrong)

/-- 'laws.FnExactLeastSumOfEnds': WHATEVER THE INPUT: true; the input reads as it did. -/
def fnExactLeastSumOfEndsSpec : ChangeSpec := { name := "fnExactLeastSumOfEnds", fn := fun _ => fun
  | [d1, d2] => { results := [.lit (.bool true)], args := [d1, d2] }
  | _ => none }
def fnExactLeastSumOfEndsRow : OpenClaim := { program := "ytbefffknedimhaa", sum := "8cd739e9186a1e30b9b7ae3e5b15e2bd821649bc086b1b1bc6a055ad558e0a54", func := "loop.example/g01333/laws.FnExactLeastSumOfEnds", spec := "fnExactLeastSumOfEnds", unfollowed := true, recurses := true, apart := false }
def FnExactLeastSumOfEndsSaid : Prop := fnExactLeastSumOfEndsRow.holds Try.pinned (OpenSpec.ofChange fnExactLeastSumOfEndsSpec)

/-- ITS FALSE NEIGHBOUR: 'it returns false'. Refute it at one input. -/
def fnExactLeastSumOfEndsWrong : ChangeSpec := { name := "fnExactLeastSumOfEnds", fn := fun _ => fun
  | [d1, d2] => { results := [.lit (.bool false)], args := [d1, d2] }
  | _ => none }
def FnExactLeastSumOfEndsWrongFalsely : Prop := fnExactLeastSumOfEndsRow.holds Try.pinned (OpenSpec.ofChange fnExactLeastSumOfEndsWrong)

/-- 'laws.FnExactSumOfEnds': WHATEVER THE INPUT: true; the input reads as it did. -/
def fnExactSumOfEndsSpec : ChangeSpec := { name := "fnExactSumOfEnds", fn := fun _ => fun
  | [d1, d2, d3] => { results := [.lit (.bool true)], args := [d1, d2, d3] }
  | _ => none }
def fnExactSumOfEndsRow : OpenClaim := { program := "ytbefffknedimhaa", sum := "8cd739e9186a1e30b9b7ae3e5b15e2bd821649bc086b1b1bc6a055ad558e0a54", func := "loop.example/g01333/laws.FnExactSumOfEnds", spec := "fnExactSumOfEnds", unfollowed := true, recurses := true, apart := false }
def FnExactSumOfEndsSaid : Prop := fnExactSumOfEndsRow.holds Try.pinned (OpenSpec.ofChange fnExactSumOfEndsSpec)

/-- ITS FALSE NEIGHBOUR: 'it returns false'. Refute it at one input. -/
def fnExactSumOfEndsWrong : ChangeSpec := { name := "fnExactSumOfEnds", fn := fun _ => fun
  | [d1, d2, d3] => { results := [.lit (.bool false)], args := [d1, d2, d3] }
  | _ => none }
def FnExactSumOfEndsWrongFalsely : Prop := fnExactSumOfEndsRow.holds Try.pinned (OpenSpec.ofChange fnExactSumOfEndsWrong)

/- THE SECOND FORM. 'bulk': how many values and letters a reading holds, each counted each time it is reached (what is shared counts as often as it is met; a slice's spare places count too). A statement '..UptoSaid' is the law's where the arguments, and the package variables that the reading takes, are together of bulk at most 1048576: NARROWER than '..Said'. Prove '..Said' where nothing that the law and all that it calls make is longer than what came in: it says more and counts as full. Else prove '..UptoSaid'. A law counts once. -/
mutual
def uptoBulk {H : Type} : DataW H → Nat
  | .lit (.string bytes) => bytes.length + 1
  | .lit _ => 1
  | .nil => 1
  | .ptr d => uptoBulk d + 1
  | .slice elems spare => uptoBulkAll elems + uptoBulkAll spare + 1
  | .agg parts => uptoBulkAll parts + 1
  | .iface _ d => uptoBulk d + 1
  | .map entries => uptoBulkEntries entries + 1
  | .held _ => 1
def uptoBulkAll {H : Type} : List (DataW H) → Nat
  | [] => 0
  | d :: r => uptoBulk d + uptoBulkAll r
def uptoBulkEntries {H : Type} : List (Lit × DataW H) → Nat
  | [] => 0
  | x :: r => uptoBulkEntry x + uptoBulkEntries r
def uptoBulkEntry {H : Type} : Lit × DataW H → Nat
  | (.string bytes, d) => bytes.length + uptoBulk d + 1
  | (_, d) => uptoBulk d + 1
 end
def uptoSmall : (H : Type) → List (DataW H) → Bool := fun _ ds => decide (uptoBulkAll ds ≤ 1048576)
def OpenSpec.upto (s : _root_.Go.ChangeSpec) : _root_.Go.OpenSpec := { _root_.Go.OpenSpec.ofChange s with cond := some uptoSmall }

/-- 'laws.FnExactPlanLongestFirst', WHERE WHAT IT READS IS OF BULK AT MOST 1048576: true; the input reads as it did. -/
def fnExactPlanLongestFirstUptoRow : OpenClaim := { program := "ytbefffknedimhaa", sum := "8cd739e9186a1e30b9b7ae3e5b15e2bd821649bc086b1b1bc6a055ad558e0a54", func := "loop.example/g01333/laws.FnExactPlanLongestFirst", spec := "fnExactPlanLongestFirst", unfollowed := true, recurses := true, apart := false, narrowed := true }
def FnExactPlanLongestFirstUptoSaid : Prop := fnExactPlanLongestFirstUptoRow.holds Try.pinned (OpenSpec.upto fnExactPlanLongestFirstSpec)

/-- 'laws.FnExactLeastSumOfEnds', WHERE WHAT IT READS IS OF BULK AT MOST 1048576: true; the input reads as it did. -/
def fnExactLeastSumOfEndsUptoRow : OpenClaim := { program := "ytbefffknedimhaa", sum := "8cd739e9186a1e30b9b7ae3e5b15e2bd821649bc086b1b1bc6a055ad558e0a54", func := "loop.example/g01333/laws.FnExactLeastSumOfEnds", spec := "fnExactLeastSumOfEnds", unfollowed := true, recurses := true, apart := false, narrowed := true }
def FnExactLeastSumOfEndsUptoSaid : Prop := fnExactLeastSumOfEndsUptoRow.holds Try.pinned (OpenSpec.upto fnExactLeastSumOfEndsSpec)

/-- 'laws.FnExactSumOfEnds', WHERE WHAT IT READS IS OF BULK AT MOST 1048576: true; the input reads as it did. -/
def fnExactSumOfEndsUptoRow : OpenClaim := { program := "ytbefffknedimhaa", sum := "8cd739e9186a1e30b9b7ae3e5b15e2bd821649bc086b1b1bc6a055ad558e0a54", func := "loop.example/g01333/laws.FnExactSumOfEnds", spec := "fnExactSumOfEnds", unfollowed := true, recurses := true, apart := false, narrowed := true }
def FnExactSumOfEndsUptoSaid : Prop := fnExactSumOfEndsUptoRow.holds Try.pinned (OpenSpec.upto fnExactSumOfEndsSpec)

end Rows
end Go.Proofs.Ytbefffknedimhaa
