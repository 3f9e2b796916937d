/-
  No cell of these rows narrows 'for every input' (looked for: loops, veiled, ifaces, maps, wideKeys, modest, calm, conditions, laid).
  DERIVED. THE GIVEN ROWS OF THIS SEAT. 4 by the template 'for every input the law returns true; each argument reads behind the call as it read before'; 0 by the template 'total and deterministic' (their statements: YtnakkmmmkbjfbaaTotals.lean).
  GIVEN WITH THE SEED: the statements are not yours to turn. If you find one false, say at which input.
  Laid BY PROGRAM, IN A SANDBOX (cutbox-rows.mjs): the forced cells as the released guide's own fill.sh prints them over the translation d3c88cb802d5e001… (all of the seat's roots in one cut). By AI agents, Wed Nov 11 2026. No macro, syntax, notation, axiom, sorry.
-/
import Derived.Test.YtnakkmmmkbjfbaaChecked
import GoSem.Claim
import GoSem.ClaimJoined
import GoSem.ClaimMapViews
import Derived.JoinedTies
import Derived.KernelRfl
namespace Go.Proofs.Ytnakkmmmkbjfbaa
/- THE CELL 'sum', in the pinned program and in every row, IS THE sha256 OF THE DUMP (.gsa) THAT YtnakkmmmkbjfbaaProg.lean LOADS. Nothing in Lean hashes anything: it is a label: what it is worth is what the hold of that sum in a sandbox is worth. -/
noncomputable def Try.pinned : Pinned := { name := "ytnakkmmmkbjfbaa", sum := "d3c88cb802d5e001d9b27aa21071470edb0ae9e035a9fe1b68aff0f4c430c518", checked := Try.checked }
namespace Rows
def none {H : Type} : Left H := { results := [], args := [] }

/-- 'laws.FnExactFewestToEmpty': WHATEVER THE INPUT: true; the input reads as it did. -/
def fnExactFewestToEmptySpec : ChangeSpec := { name := "fnExactFewestToEmpty", fn := fun _ => fun
  | [d] => { results := [.lit (.bool true)], args := [d] }
  | _ => none }
def fnExactFewestToEmptyRow : OpenClaim := { program := "ytnakkmmmkbjfbaa", sum := "d3c88cb802d5e001d9b27aa21071470edb0ae9e035a9fe1b68aff0f4c430c518", func := "loop.example/g01333/laws.FnExactFewestToEmpty", spec := "fnExactFewestToEmpty", unfollowed := true, recurses := true, plainKeys := false, apart := false }
def FnExactFewestToEmptySaid : Prop := fnExactFewestToEmptyRow.holds Try.pinned (OpenSpec.ofChange fnExactFewestToEmptySpec)

/-- ITS FALSE NEIGHBOUR: 'it returns false'. Refute it at one input. -/
def fnExactFewestToEmptyWrong : ChangeSpec := { name := "fnExactFewestToEmpty", fn := fun _ => fun
  | [d] => { results := [.lit (.bool false)], args := [d] }
  | _ => none }
def FnExactFewestToEmptyWrongFalsely : Prop := fnExactFewestToEmptyRow.holds Try.pinned (OpenSpec.ofChange fnExactFewestToEmptyWrong)

/-- 'laws.FnExactFirstToEmpty': WHATEVER THE INPUT: true; the input reads as it did. -/
def fnExactFirstToEmptySpec : ChangeSpec := { name := "fnExactFirstToEmpty", fn := fun _ => fun
  | [d] => { results := [.lit (.bool true)], args := [d] }
  | _ => none }
def fnExactFirstToEmptyRow : OpenClaim := { program := "ytnakkmmmkbjfbaa", sum := "d3c88cb802d5e001d9b27aa21071470edb0ae9e035a9fe1b68aff0f4c430c518", func := "loop.example/g01333/laws.FnExactFirstToEmpty", spec := "fnExactFirstToEmpty", unfollowed := true, recurses := true, plainKeys := false, apart := false }
def FnExactFirstToEmptySaid : Prop := fnExactFirstToEmptyRow.holds Try.pinned (OpenSpec.ofChange fnExactFirstToEmptySpec)

/-- ITS FALSE NEIGHBOUR: 'it returns false'. Refute it at one input. -/
def fnExactFirstToEmptyWrong : ChangeSpec := { name := "fnExactFirstToEmpty", fn := fun _ => fun
  | [d] => { results := [.lit (.bool false)], args := [d] }
  | _ => none }
def FnExactFirstToEmptyWrongFalsely : Prop := fnExactFirstToEmptyRow.holds Try.pinned (OpenSpec.ofChange fnExactFirstToEmptyWrong)

/-- 'laws.FnExactCountReached': WHATEVER THE INPUT: true; the input reads as it did. -/
def fnExactCountReachedSpec : ChangeSpec := { name := "fnExactCountReached", fn := fun _ => fun
  | [d] => { results := [.lit (.bool true)], args := [d] }
  | _ => none }
def fnExactCountReachedRow : OpenClaim := { program := "ytnakkmmmkbjfbaa", sum := "d3c88cb802d5e001d9b27aa21071470edb0ae9e035a9fe1b68aff0f4c430c518", func := "loop.example/g01333/laws.FnExactCountReached", spec := "fnExactCountReached", unfollowed := true, recurses := true, plainKeys := false, apart := false }
def FnExactCountReachedSaid : Prop := fnExactCountReachedRow.holds Try.pinned (OpenSpec.ofChange fnExactCountReachedSpec)

/-- ITS FALSE NEIGHBOUR: 'it returns false'. Refute it at one input. -/
def fnExactCountReachedWrong : ChangeSpec := { name := "fnExactCountReached", fn := fun _ => fun
  | [d] => { results := [.lit (.bool false)], args := [d] }
  | _ => none }
def FnExactCountReachedWrongFalsely : Prop := fnExactCountReachedRow.holds Try.pinned (OpenSpec.ofChange fnExactCountReachedWrong)

/-- 'laws.FnExactFewestToBecome': WHATEVER THE INPUT: true; the input reads as it did. -/
def fnExactFewestToBecomeSpec : ChangeSpec := { name := "fnExactFewestToBecome", fn := fun _ => fun
  | [d1, d2] => { results := [.lit (.bool true)], args := [d1, d2] }
  | _ => none }
def fnExactFewestToBecomeRow : OpenClaim := { program := "ytnakkmmmkbjfbaa", sum := "d3c88cb802d5e001d9b27aa21071470edb0ae9e035a9fe1b68aff0f4c430c518", func := "loop.example/g01333/laws.FnExactFewestToBecome", spec := "fnExactFewestToBecome", unfollowed := true, recurses := true, plainKeys := false, apart := false }
def FnExactFewestToBecomeSaid : Prop := fnExactFewestToBecomeRow.holds Try.pinned (OpenSpec.ofChange fnExactFewestToBecomeSpec)

/-- ITS FALSE NEIGHBOUR: 'it returns false'. Refute it at one input. -/
def fnExactFewestToBecomeWrong : ChangeSpec := { name := "fnExactFewestToBecome", fn := fun _ => fun
  | [d1, d2] => { results := [.lit (.bool false)], args := [d1, d2] }
  | _ => none }
def FnExactFewestToBecomeWrongFalsely : Prop := fnExactFewestToBecomeRow.holds Try.pinned (OpenSpec.ofChange fnExactFewestToBecomeWrong)

/- THE SECOND FORM. 'bulk': how many values and letters a reading holds, each counted each time it is reached (what is shared counts as often as it is met; a slice's spare places count too). A statement '..UptoSaid' is the law's where the arguments, and the package variables that the reading takes, are together of bulk at most 1048576: NARROWER than '..Said'. Prove '..Said' where nothing that the law and all that it calls make is longer than what came in: it says more and counts as full. Else prove '..UptoSaid'. A law counts once. -/
mutual
def uptoBulk {H : Type} : DataW H → Nat
  | .lit (.string bytes) => bytes.length + 1
  | .lit _ => 1
  | .nil => 1
  | .ptr d => uptoBulk d + 1
  | .slice elems spare => uptoBulkAll elems + uptoBulkAll spare + 1
  | .agg parts => uptoBulkAll parts + 1
  | .iface _ d => uptoBulk d + 1
  | .map entries => uptoBulkEntries entries + 1
  | .held _ => 1
def uptoBulkAll {H : Type} : List (DataW H) → Nat
  | [] => 0
  | d :: r => uptoBulk d + uptoBulkAll r
def uptoBulkEntries {H : Type} : List (Lit × DataW H) → Nat
  | [] => 0
  | x :: r => uptoBulkEntry x + uptoBulkEntries r
def uptoBulkEntry {H : Type} : Lit × DataW H → Nat
  | (.string bytes, d) => bytes.length + uptoBulk d + 1
  | (_, d) => uptoBulk d + 1
 end
def uptoSmall : (H : Type) → List (DataW H) → Bool := fun _ ds => decide (uptoBulkAll ds ≤ 1048576)
def OpenSpec.upto (s : _root_.Go.ChangeSpec) : _root_.Go.OpenSpec := { _root_.Go.OpenSpec.ofChange s with cond := some uptoSmall }

/-- 'laws.FnExactFewestToEmpty', WHERE WHAT IT READS IS OF BULK AT MOST 1048576: true; the input reads as it did. -/
def fnExactFewestToEmptyUptoRow : OpenClaim := { program := "ytnakkmmmkbjfbaa", sum := "d3c88cb802d5e001d9b27aa21071470edb0ae9e035a9fe1b68aff0f4c430c518", func := "loop.example/g01333/laws.FnExactFewestToEmpty", spec := "fnExactFewestToEmpty", unfollowed := true, recurses := true, plainKeys := false, apart := false, narrowed := true }
def FnExactFewestToEmptyUptoSaid : Prop := fnExactFewestToEmptyUptoRow.holds Try.pinned (OpenSpec.upto fnExactFewestToEmptySpec)

/-- 'laws.FnExactFirstToEmpty', WHERE WHAT IT READS IS OF BULK AT MOST 1048576: true; the input reads as it did. -/
def fnExactFirstToEmptyUptoRow : OpenClaim := { program := "ytnakkmmmkbjfbaa", sum := "d3c88cb802d5e001d9b27aa21071470edb0ae9e035a9fe1b68aff0f4c430c518", func := "loop.example/g01333/laws.FnExactFirstToEmpty", spec := "fnExactFirstToEmpty", unfollowed := true, recurses := true, plainKeys := false, apart := false, narrowed := true }
def FnExactFirstToEmptyUptoSaid : Prop := fnExactFirstToEmptyUptoRow.holds Try.pinned (OpenSpec.upto fnExactFirstToEmptySpec)

/-- 'laws.FnExactCountReached', WHERE WHAT IT READS IS OF BULK AT MOST 1048576: true; the input reads as it did. -/
def fnExactCountReachedUptoRow : OpenClaim := { program := "ytnakkmmmkbjfbaa", sum := "d3c88cb802d5e001d9b27aa21071470edb0ae9e035a9fe1b68aff0f4c430c518", func := "loop.example/g01333/laws.FnExactCountReached", spec := "fnExactCountReached", unfollowed := true, recurses := true, plainKeys := false, apart := false, narrowed := true }
def FnExactCountReachedUptoSaid : Prop := fnExactCountReachedUptoRow.holds Try.pinned (OpenSpec.upto fnExactCountReachedSpec)

/-- 'laws.FnExactFewestToBecome', WHERE WHAT IT READS IS OF BULK AT MOST 1048576: true; the input reads as it did. -/
def fnExactFewestToBecomeUptoRow : OpenClaim := { program := "ytnakkmmmkbjfbaa", sum := "d3c88cb802d5e001d9b27aa21071470edb0ae9e035a9fe1b68aff0f4c430c518", func := "loop.example/g01333/laws.FnExactFewestToBecome", spec := "fnExactFewestToBecome", unfollowed := true, recurses := true, plainKeys := false, apart := false, narrowed := true }
def FnExactFewestToBecomeUptoSaid : Prop := fnExactFewestToBecomeUptoRow.holds Try.pinned (OpenSpec.upto fnExactFewestToBecomeSpec)

end Rows
end Go.Proofs.Ytnakkmmmkbjfbaa
