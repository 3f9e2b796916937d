/-
  No cell of these rows narrows 'for every input' (looked for: loops, veiled, ifaces, maps, wideKeys, modest, calm, conditions, laid).
  DERIVED. THE GIVEN ROWS OF THIS SEAT. 5 by the template 'for every input the law returns true; each argument reads behind the call as it read before'; 0 by the template 'total and deterministic' (their statements: YtakddglhjebgcaaTotals.lean).
  GIVEN WITH THE SEED: the statements are not yours to turn. If you find one false, say at which input.
  Laid BY PROGRAM, IN A SANDBOX (cutbox-rows.mjs): the forced cells as the released guide's own fill.sh prints them over the translation 8ece64013c12a32c… (all of the seat's roots in one cut). By AI agents, Wed Nov 11 2026. No macro, syntax, notation, axiom, sorry.
-/
import Derived.Test.YtakddglhjebgcaaChecked
import GoSem.Claim
import GoSem.ClaimJoined
import GoSem.ClaimMapViews
import Derived.JoinedTies
import Derived.KernelRfl
namespace Go.Proofs.Ytakddglhjebgcaa
/- THE CELL 'sum', in the pinned program and in every row, IS THE sha256 OF THE DUMP (.gsa) THAT YtakddglhjebgcaaProg.lean LOADS. Nothing in Lean hashes anything: it is a label: what it is worth is what the hold of that sum in a sandbox is worth. -/
noncomputable def Try.pinned : Pinned := { name := "ytakddglhjebgcaa", sum := "8ece64013c12a32caba0859e165e516cb47fb1f8e22a0da25514cc05a74dffc0", checked := Try.checked }
namespace Rows
def none {H : Type} : Left H := { results := [], args := [] }

/-- 'laws.FnExactAreCandies': WHATEVER THE INPUT: true; the input reads as it did. -/
def fnExactAreCandiesSpec : ChangeSpec := { name := "fnExactAreCandies", fn := fun _ => fun
  | [d] => { results := [.lit (.bool true)], args := [d] }
  | _ => none }
def fnExactAreCandiesRow : OpenClaim := { program := "ytakddglhjebgcaa", sum := "8ece64013c12a32caba0859e165e516cb47fb1f8e22a0da25514cc05a74dffc0", func := "loop.example/g01333/laws.FnExactAreCandies", spec := "fnExactAreCandies", apart := false }
def FnExactAreCandiesSaid : Prop := fnExactAreCandiesRow.holds Try.pinned (OpenSpec.ofChange fnExactAreCandiesSpec)

/-- ITS FALSE NEIGHBOUR: 'it returns false'. Refute it at one input. -/
def fnExactAreCandiesWrong : ChangeSpec := { name := "fnExactAreCandies", fn := fun _ => fun
  | [d] => { results := [.lit (.bool false)], args := [d] }
  | _ => none }
def FnExactAreCandiesWrongFalsely : Prop := fnExactAreCandiesRow.holds Try.pinned (OpenSpec.ofChange fnExactAreCandiesWrong)

/-- 'laws.FnExactMadeEven': WHATEVER THE INPUT: true; the input reads as it did. -/
def fnExactMadeEvenSpec : ChangeSpec := { name := "fnExactMadeEven", fn := fun _ => fun
  | [d] => { results := [.lit (.bool true)], args := [d] }
  | _ => none }
def fnExactMadeEvenRow : OpenClaim := { program := "ytakddglhjebgcaa", sum := "8ece64013c12a32caba0859e165e516cb47fb1f8e22a0da25514cc05a74dffc0", func := "loop.example/g01333/laws.FnExactMadeEven", spec := "fnExactMadeEven", apart := false }
def FnExactMadeEvenSaid : Prop := fnExactMadeEvenRow.holds Try.pinned (OpenSpec.ofChange fnExactMadeEvenSpec)

/-- ITS FALSE NEIGHBOUR: 'it returns false'. Refute it at one input. -/
def fnExactMadeEvenWrong : ChangeSpec := { name := "fnExactMadeEven", fn := fun _ => fun
  | [d] => { results := [.lit (.bool false)], args := [d] }
  | _ => none }
def FnExactMadeEvenWrongFalsely : Prop := fnExactMadeEvenRow.holds Try.pinned (OpenSpec.ofChange fnExactMadeEvenWrong)

/-- 'laws.FnExactIsResting': WHATEVER THE INPUT: true; the input reads as it did. -/
def fnExactIsRestingSpec : ChangeSpec := { name := "fnExactIsResting", fn := fun _ => fun
  | [d] => { results := [.lit (.bool true)], args := [d] }
  | _ => none }
def fnExactIsRestingRow : OpenClaim := { program := "ytakddglhjebgcaa", sum := "8ece64013c12a32caba0859e165e516cb47fb1f8e22a0da25514cc05a74dffc0", func := "loop.example/g01333/laws.FnExactIsResting", spec := "fnExactIsResting", apart := false }
def FnExactIsRestingSaid : Prop := fnExactIsRestingRow.holds Try.pinned (OpenSpec.ofChange fnExactIsRestingSpec)

/-- ITS FALSE NEIGHBOUR: 'it returns false'. Refute it at one input. -/
def fnExactIsRestingWrong : ChangeSpec := { name := "fnExactIsResting", fn := fun _ => fun
  | [d] => { results := [.lit (.bool false)], args := [d] }
  | _ => none }
def FnExactIsRestingWrongFalsely : Prop := fnExactIsRestingRow.holds Try.pinned (OpenSpec.ofChange fnExactIsRestingWrong)

/-- 'laws.FnExactTurnCircle': WHATEVER THE INPUT: true; the input reads as it did. -/
def fnExactTurnCircleSpec : ChangeSpec := { name := "fnExactTurnCircle", fn := fun _ => fun
  | [d1, d2] => { results := [.lit (.bool true)], args := [d1, d2] }
  | _ => none }
def fnExactTurnCircleRow : OpenClaim := { program := "ytakddglhjebgcaa", sum := "8ece64013c12a32caba0859e165e516cb47fb1f8e22a0da25514cc05a74dffc0", func := "loop.example/g01333/laws.FnExactTurnCircle", spec := "fnExactTurnCircle", apart := false }
def FnExactTurnCircleSaid : Prop := fnExactTurnCircleRow.holds Try.pinned (OpenSpec.ofChange fnExactTurnCircleSpec)

/-- ITS FALSE NEIGHBOUR: 'it returns false'. Refute it at one input. -/
def fnExactTurnCircleWrong : ChangeSpec := { name := "fnExactTurnCircle", fn := fun _ => fun
  | [d1, d2] => { results := [.lit (.bool false)], args := [d1, d2] }
  | _ => none }
def FnExactTurnCircleWrongFalsely : Prop := fnExactTurnCircleRow.holds Try.pinned (OpenSpec.ofChange fnExactTurnCircleWrong)

/-- 'laws.FnExactMirrorCircle': WHATEVER THE INPUT: true; the input reads as it did. -/
def fnExactMirrorCircleSpec : ChangeSpec := { name := "fnExactMirrorCircle", fn := fun _ => fun
  | [d] => { results := [.lit (.bool true)], args := [d] }
  | _ => none }
def fnExactMirrorCircleRow : OpenClaim := { program := "ytakddglhjebgcaa", sum := "8ece64013c12a32caba0859e165e516cb47fb1f8e22a0da25514cc05a74dffc0", func := "loop.example/g01333/laws.FnExactMirrorCircle", spec := "fnExactMirrorCircle", apart := false }
def FnExactMirrorCircleSaid : Prop := fnExactMirrorCircleRow.holds Try.pinned (OpenSpec.ofChange fnExactMirrorCircleSpec)

/-- ITS FALSE NEIGHBOUR: 'it returns false'. Refute it at one input. -/
def fnExactMirrorCircleWrong : ChangeSpec := { name := "fnExactMirrorCircle", fn := fun _ => fun
  | [d] => { results := [.lit (.bool false)], args := [d] }
  | _ => none }
def FnExactMirrorCircleWrongFalsely : Prop := fnExactMirrorCircleRow.holds Try.pinned (OpenSpec.ofChange fnExactMirrorCircleWrong)

/- THE SECOND FORM. 'bulk': how many values and letters a reading holds, each counted each time it is reached (what is shared counts as often as it is met; a slice's spare places count too). A statement '..UptoSaid' is the law's where the arguments, and the package variables that the reading takes, are together of bulk at most 1048576: NARROWER than '..Said'. Prove '..Said' where nothing that the law and all that it calls make is longer than what came in: it says more and counts as full. Else prove '..UptoSaid'. A law counts once. -/
mutual
def uptoBulk {H : Type} : DataW H → Nat
  | .lit (.string bytes) => bytes.length + 1
  | .lit _ => 1
  | .nil => 1
  | .ptr d => uptoBulk d + 1
  | .slice elems spare => uptoBulkAll elems + uptoBulkAll spare + 1
  | .agg parts => uptoBulkAll parts + 1
  | .iface _ d => uptoBulk d + 1
  | .map entries => uptoBulkEntries entries + 1
  | .held _ => 1
def uptoBulkAll {H : Type} : List (DataW H) → Nat
  | [] => 0
  | d :: r => uptoBulk d + uptoBulkAll r
def uptoBulkEntries {H : Type} : List (Lit × DataW H) → Nat
  | [] => 0
  | x :: r => uptoBulkEntry x + uptoBulkEntries r
def uptoBulkEntry {H : Type} : Lit × DataW H → Nat
  | (.string bytes, d) => bytes.length + uptoBulk d + 1
  | (_, d) => uptoBulk d + 1
 end
def uptoSmall : (H : Type) → List (DataW H) → Bool := fun _ ds => decide (uptoBulkAll ds ≤ 1048576)
def OpenSpec.upto (s : _root_.Go.ChangeSpec) : _root_.Go.OpenSpec := { _root_.Go.OpenSpec.ofChange s with cond := some uptoSmall }

/-- 'laws.FnExactAreCandies', WHERE WHAT IT READS IS OF BULK AT MOST 1048576: true; the input reads as it did. -/
def fnExactAreCandiesUptoRow : OpenClaim := { program := "ytakddglhjebgcaa", sum := "8ece64013c12a32caba0859e165e516cb47fb1f8e22a0da25514cc05a74dffc0", func := "loop.example/g01333/laws.FnExactAreCandies", spec := "fnExactAreCandies", apart := false, narrowed := true }
def FnExactAreCandiesUptoSaid : Prop := fnExactAreCandiesUptoRow.holds Try.pinned (OpenSpec.upto fnExactAreCandiesSpec)

/-- 'laws.FnExactMadeEven', WHERE WHAT IT READS IS OF BULK AT MOST 1048576: true; the input reads as it did. -/
def fnExactMadeEvenUptoRow : OpenClaim := { program := "ytakddglhjebgcaa", sum := "8ece64013c12a32caba0859e165e516cb47fb1f8e22a0da25514cc05a74dffc0", func := "loop.example/g01333/laws.FnExactMadeEven", spec := "fnExactMadeEven", apart := false, narrowed := true }
def FnExactMadeEvenUptoSaid : Prop := fnExactMadeEvenUptoRow.holds Try.pinned (OpenSpec.upto fnExactMadeEvenSpec)

/-- 'laws.FnExactIsResting', WHERE WHAT IT READS IS OF BULK AT MOST 1048576: true; the input reads as it did. -/
def fnExactIsRestingUptoRow : OpenClaim := { program := "ytakddglhjebgcaa", sum := "8ece64013c12a32caba0859e165e516cb47fb1f8e22a0da25514cc05a74dffc0", func := "loop.example/g01333/laws.FnExactIsResting", spec := "fnExactIsResting", apart := false, narrowed := true }
def FnExactIsRestingUptoSaid : Prop := fnExactIsRestingUptoRow.holds Try.pinned (OpenSpec.upto fnExactIsRestingSpec)

/-- 'laws.FnExactTurnCircle', WHERE WHAT IT READS IS OF BULK AT MOST 1048576: true; the input reads as it did. -/
def fnExactTurnCircleUptoRow : OpenClaim := { program := "ytakddglhjebgcaa", sum := "8ece64013c12a32caba0859e165e516cb47fb1f8e22a0da25514cc05a74dffc0", func := "loop.example/g01333/laws.FnExactTurnCircle", spec := "fnExactTurnCircle", apart := false, narrowed := true }
def FnExactTurnCircleUptoSaid : Prop := fnExactTurnCircleUptoRow.holds Try.pinned (OpenSpec.upto fnExactTurnCircleSpec)

/-- 'laws.FnExactMirrorCircle', WHERE WHAT IT READS IS OF BULK AT MOST 1048576: true; the input reads as it did. -/
def fnExactMirrorCircleUptoRow : OpenClaim := { program := "ytakddglhjebgcaa", sum := "8ece64013c12a32caba0859e165e516cb47fb1f8e22a0da25514cc05a74dffc0", func := "loop.example/g01333/laws.FnExactMirrorCircle", spec := "fnExactMirrorCircle", apart := false, narrowed := true }
def FnExactMirrorCircleUptoSaid : Prop := fnExactMirrorCircleUptoRow.holds Try.pinned (OpenSpec.upto fnExactMirrorCircleSpec)

end Rows
end Go.Proofs.Ytakddglhjebgcaa
