/-
  No cell of these rows narrows 'for every input' (looked for: loops, veiled, ifaces, maps, wideKeys, modest, calm, conditions, laid).
  DERIVED. THE GIVEN ROWS OF THIS SEAT. 7 by the template 'for every input the law returns true; each argument reads behind the call as it read before'; 0 by the template 'total and deterministic' (their statements: YtleagplokahhhaaTotals.lean).
  GIVEN WITH THE SEED: the statements are not yours to turn. If you find one false, say at which input.
  Laid BY PROGRAM, IN A SANDBOX (cutbox-rows.mjs): the forced cells as the released guide's own fill.sh prints them over the translation 45295029629a3c57… (all of the seat's roots in one cut). By AI agents, Wed Nov 11 2026. No macro, syntax, notation, axiom, sorry.
-/
import Derived.Test.YtleagplokahhhaaChecked
import GoSem.Claim
import GoSem.ClaimJoined
import GoSem.ClaimMapViews
import Derived.JoinedTies
import Derived.KernelRfl
namespace Go.Proofs.Ytleagplokahhhaa
/- THE CELL 'sum', in the pinned program and in every row, IS THE sha256 OF THE DUMP (.gsa) THAT YtleagplokahhhaaProg.lean LOADS. Nothing in Lean hashes anything: it is a label: what it is worth is what the hold of that sum in a sandbox is worth. -/
noncomputable def Try.pinned : Pinned := { name := "ytleagplokahhhaa", sum := "45295029629a3c578a652dde40fe841eabec66a276ba6c9458d669756dcabcc8", checked := Try.checked }
namespace Rows
def none {H : Type} : Left H := { results := [], args := [] }

/-- 'laws.FnExactIsRing': WHATEVER THE INPUT: true; the input reads as it did. -/
def fnExactIsRingSpec : ChangeSpec := { name := "fnExactIsRing", fn := fun _ => fun
  | [d] => { results := [.lit (.bool true)], args := [d] }
  | _ => none }
def fnExactIsRingRow : OpenClaim := { program := "ytleagplokahhhaa", sum := "45295029629a3c578a652dde40fe841eabec66a276ba6c9458d669756dcabcc8", func := "loop.example/g01333/laws.FnExactIsRing", spec := "fnExactIsRing", apart := false }
def FnExactIsRingSaid : Prop := fnExactIsRingRow.holds Try.pinned (OpenSpec.ofChange fnExactIsRingSpec)

/-- ITS FALSE NEIGHBOUR: 'it returns false'. Refute it at one input. -/
def fnExactIsRingWrong : ChangeSpec := { name := "fnExactIsRing", fn := fun _ => fun
  | [d] => { results := [.lit (.bool false)], args := [d] }
  | _ => none }
def FnExactIsRingWrongFalsely : Prop := fnExactIsRingRow.holds Try.pinned (OpenSpec.ofChange fnExactIsRingWrong)

/-- 'laws.FnExactLiftRing': WHATEVER THE INPUT: true; the input reads as it did. -/
def fnExactLiftRingSpec : ChangeSpec := { name := "fnExactLiftRing", fn := fun _ => fun
  | [d1, d2] => { results := [.lit (.bool true)], args := [d1, d2] }
  | _ => none }
def fnExactLiftRingRow : OpenClaim := { program := "ytleagplokahhhaa", sum := "45295029629a3c578a652dde40fe841eabec66a276ba6c9458d669756dcabcc8", func := "loop.example/g01333/laws.FnExactLiftRing", spec := "fnExactLiftRing", unfollowed := true, recurses := true, apart := false }
def FnExactLiftRingSaid : Prop := fnExactLiftRingRow.holds Try.pinned (OpenSpec.ofChange fnExactLiftRingSpec)

/-- ITS FALSE NEIGHBOUR: 'it returns false'. Refute it at one input. -/
def fnExactLiftRingWrong : ChangeSpec := { name := "fnExactLiftRing", fn := fun _ => fun
  | [d1, d2] => { results := [.lit (.bool false)], args := [d1, d2] }
  | _ => none }
def FnExactLiftRingWrongFalsely : Prop := fnExactLiftRingRow.holds Try.pinned (OpenSpec.ofChange fnExactLiftRingWrong)

/-- 'laws.FnExactScaleRing': WHATEVER THE INPUT: true; the input reads as it did. -/
def fnExactScaleRingSpec : ChangeSpec := { name := "fnExactScaleRing", fn := fun _ => fun
  | [d1, d2] => { results := [.lit (.bool true)], args := [d1, d2] }
  | _ => none }
def fnExactScaleRingRow : OpenClaim := { program := "ytleagplokahhhaa", sum := "45295029629a3c578a652dde40fe841eabec66a276ba6c9458d669756dcabcc8", func := "loop.example/g01333/laws.FnExactScaleRing", spec := "fnExactScaleRing", unfollowed := true, recurses := true, apart := false }
def FnExactScaleRingSaid : Prop := fnExactScaleRingRow.holds Try.pinned (OpenSpec.ofChange fnExactScaleRingSpec)

/-- ITS FALSE NEIGHBOUR: 'it returns false'. Refute it at one input. -/
def fnExactScaleRingWrong : ChangeSpec := { name := "fnExactScaleRing", fn := fun _ => fun
  | [d1, d2] => { results := [.lit (.bool false)], args := [d1, d2] }
  | _ => none }
def FnExactScaleRingWrongFalsely : Prop := fnExactScaleRingRow.holds Try.pinned (OpenSpec.ofChange fnExactScaleRingWrong)

/-- 'laws.FnExactMirrorRing': WHATEVER THE INPUT: true; the input reads as it did. -/
def fnExactMirrorRingSpec : ChangeSpec := { name := "fnExactMirrorRing", fn := fun _ => fun
  | [d] => { results := [.lit (.bool true)], args := [d] }
  | _ => none }
def fnExactMirrorRingRow : OpenClaim := { program := "ytleagplokahhhaa", sum := "45295029629a3c578a652dde40fe841eabec66a276ba6c9458d669756dcabcc8", func := "loop.example/g01333/laws.FnExactMirrorRing", spec := "fnExactMirrorRing", apart := false }
def FnExactMirrorRingSaid : Prop := fnExactMirrorRingRow.holds Try.pinned (OpenSpec.ofChange fnExactMirrorRingSpec)

/-- ITS FALSE NEIGHBOUR: 'it returns false'. Refute it at one input. -/
def fnExactMirrorRingWrong : ChangeSpec := { name := "fnExactMirrorRing", fn := fun _ => fun
  | [d] => { results := [.lit (.bool false)], args := [d] }
  | _ => none }
def FnExactMirrorRingWrongFalsely : Prop := fnExactMirrorRingRow.holds Try.pinned (OpenSpec.ofChange fnExactMirrorRingWrong)

/-- 'laws.FnExactTurnRing': WHATEVER THE INPUT: true; the input reads as it did. -/
def fnExactTurnRingSpec : ChangeSpec := { name := "fnExactTurnRing", fn := fun _ => fun
  | [d1, d2] => { results := [.lit (.bool true)], args := [d1, d2] }
  | _ => none }
def fnExactTurnRingRow : OpenClaim := { program := "ytleagplokahhhaa", sum := "45295029629a3c578a652dde40fe841eabec66a276ba6c9458d669756dcabcc8", func := "loop.example/g01333/laws.FnExactTurnRing", spec := "fnExactTurnRing", apart := false }
def FnExactTurnRingSaid : Prop := fnExactTurnRingRow.holds Try.pinned (OpenSpec.ofChange fnExactTurnRingSpec)

/-- ITS FALSE NEIGHBOUR: 'it returns false'. Refute it at one input. -/
def fnExactTurnRingWrong : ChangeSpec := { name := "fnExactTurnRing", fn := fun _ => fun
  | [d1, d2] => { results := [.lit (.bool false)], args := [d1, d2] }
  | _ => none }
def FnExactTurnRingWrongFalsely : Prop := fnExactTurnRingRow.holds Try.pinned (OpenSpec.ofChange fnExactTurnRingWrong)

/-- 'laws.FnExactRingStep': WHATEVER THE INPUT: true; the input reads as it did. -/
def fnExactRingStepSpec : ChangeSpec := { name := "fnExactRingStep", fn := fun _ => fun
  | [d] => { results := [.lit (.bool true)], args := [d] }
  | _ => none }
def fnExactRingStepRow : OpenClaim := { program := "ytleagplokahhhaa", sum := "45295029629a3c578a652dde40fe841eabec66a276ba6c9458d669756dcabcc8", func := "loop.example/g01333/laws.FnExactRingStep", spec := "fnExactRingStep", unfollowed := true, recurses := true, apart := false }
def FnExactRingStepSaid : Prop := fnExactRingStepRow.holds Try.pinned (OpenSpec.ofChange fnExactRingStepSpec)

/-- ITS FALSE NEIGHBOUR: 'it returns false'. Refute it at one input. -/
def fnExactRingStepWrong : ChangeSpec := { name := "fnExactRingStep", fn := fun _ => fun
  | [d] => { results := [.lit (.bool false)], args := [d] }
  | _ => none }
def FnExactRingStepWrongFalsely : Prop := fnExactRingStepRow.holds Try.pinned (OpenSpec.ofChange fnExactRingStepWrong)

/-- 'laws.FnExactCountCycling': WHATEVER THE INPUT: true; the input reads as it did. -/
def fnExactCountCyclingSpec : ChangeSpec := { name := "fnExactCountCycling", fn := fun _ => fun
  | [d] => { results := [.lit (.bool true)], args := [d] }
  | _ => none }
def fnExactCountCyclingRow : OpenClaim := { program := "ytleagplokahhhaa", sum := "45295029629a3c578a652dde40fe841eabec66a276ba6c9458d669756dcabcc8", func := "loop.example/g01333/laws.FnExactCountCycling", spec := "fnExactCountCycling", apart := false }
def FnExactCountCyclingSaid : Prop := fnExactCountCyclingRow.holds Try.pinned (OpenSpec.ofChange fnExactCountCyclingSpec)

/-- ITS FALSE NEIGHBOUR: 'it returns false'. Refute it at one input. -/
def fnExactCountCyclingWrong : ChangeSpec := { name := "fnExactCountCycling", fn := fun _ => fun
  | [d] => { results := [.lit (.bool false)], args := [d] }
  | _ => none }
def FnExactCountCyclingWrongFalsely : Prop := fnExactCountCyclingRow.holds Try.pinned (OpenSpec.ofChange fnExactCountCyclingWrong)

/- THE SECOND FORM. 'bulk': how many values and letters a reading holds, each counted each time it is reached (what is shared counts as often as it is met; a slice's spare places count too). A statement '..UptoSaid' is the law's where the arguments, and the package variables that the reading takes, are together of bulk at most 1048576: NARROWER than '..Said'. Prove '..Said' where nothing that the law and all that it calls make is longer than what came in: it says more and counts as full. Else prove '..UptoSaid'. A law counts once. -/
mutual
def uptoBulk {H : Type} : DataW H → Nat
  | .lit (.string bytes) => bytes.length + 1
  | .lit _ => 1
  | .nil => 1
  | .ptr d => uptoBulk d + 1
  | .slice elems spare => uptoBulkAll elems + uptoBulkAll spare + 1
  | .agg parts => uptoBulkAll parts + 1
  | .iface _ d => uptoBulk d + 1
  | .map entries => uptoBulkEntries entries + 1
  | .held _ => 1
def uptoBulkAll {H : Type} : List (DataW H) → Nat
  | [] => 0
  | d :: r => uptoBulk d + uptoBulkAll r
def uptoBulkEntries {H : Type} : List (Lit × DataW H) → Nat
  | [] => 0
  | x :: r => uptoBulkEntry x + uptoBulkEntries r
def uptoBulkEntry {H : Type} : Lit × DataW H → Nat
  | (.string bytes, d) => bytes.length + uptoBulk d + 1
  | (_, d) => uptoBulk d + 1
 end
def uptoSmall : (H : Type) → List (DataW H) → Bool := fun _ ds => decide (uptoBulkAll ds ≤ 1048576)
def OpenSpec.upto (s : _root_.Go.ChangeSpec) : _root_.Go.OpenSpec := { _root_.Go.OpenSpec.ofChange s with cond := some uptoSmall }

/-- 'laws.FnExactIsRing', WHERE WHAT IT READS IS OF BULK AT MOST 1048576: true; the input reads as it did. -/
def fnExactIsRingUptoRow : OpenClaim := { program := "ytleagplokahhhaa", sum := "45295029629a3c578a652dde40fe841eabec66a276ba6c9458d669756dcabcc8", func := "loop.example/g01333/laws.FnExactIsRing", spec := "fnExactIsRing", apart := false, narrowed := true }
def FnExactIsRingUptoSaid : Prop := fnExactIsRingUptoRow.holds Try.pinned (OpenSpec.upto fnExactIsRingSpec)

/-- 'laws.FnExactLiftRing', WHERE WHAT IT READS IS OF BULK AT MOST 1048576: true; the input reads as it did. -/
def fnExactLiftRingUptoRow : OpenClaim := { program := "ytleagplokahhhaa", sum := "45295029629a3c578a652dde40fe841eabec66a276ba6c9458d669756dcabcc8", func := "loop.example/g01333/laws.FnExactLiftRing", spec := "fnExactLiftRing", unfollowed := true, recurses := true, apart := false, narrowed := true }
def FnExactLiftRingUptoSaid : Prop := fnExactLiftRingUptoRow.holds Try.pinned (OpenSpec.upto fnExactLiftRingSpec)

/-- 'laws.FnExactScaleRing', WHERE WHAT IT READS IS OF BULK AT MOST 1048576: true; the input reads as it did. -/
def fnExactScaleRingUptoRow : OpenClaim := { program := "ytleagplokahhhaa", sum := "45295029629a3c578a652dde40fe841eabec66a276ba6c9458d669756dcabcc8", func := "loop.example/g01333/laws.FnExactScaleRing", spec := "fnExactScaleRing", unfollowed := true, recurses := true, apart := false, narrowed := true }
def FnExactScaleRingUptoSaid : Prop := fnExactScaleRingUptoRow.holds Try.pinned (OpenSpec.upto fnExactScaleRingSpec)

/-- 'laws.FnExactMirrorRing', WHERE WHAT IT READS IS OF BULK AT MOST 1048576: true; the input reads as it did. -/
def fnExactMirrorRingUptoRow : OpenClaim := { program := "ytleagplokahhhaa", sum := "45295029629a3c578a652dde40fe841eabec66a276ba6c9458d669756dcabcc8", func := "loop.example/g01333/laws.FnExactMirrorRing", spec := "fnExactMirrorRing", apart := false, narrowed := true }
def FnExactMirrorRingUptoSaid : Prop := fnExactMirrorRingUptoRow.holds Try.pinned (OpenSpec.upto fnExactMirrorRingSpec)

/-- 'laws.FnExactTurnRing', WHERE WHAT IT READS IS OF BULK AT MOST 1048576: true; the input reads as it did. -/
def fnExactTurnRingUptoRow : OpenClaim := { program := "ytleagplokahhhaa", sum := "45295029629a3c578a652dde40fe841eabec66a276ba6c9458d669756dcabcc8", func := "loop.example/g01333/laws.FnExactTurnRing", spec := "fnExactTurnRing", apart := false, narrowed := true }
def FnExactTurnRingUptoSaid : Prop := fnExactTurnRingUptoRow.holds Try.pinned (OpenSpec.upto fnExactTurnRingSpec)

/-- 'laws.FnExactRingStep', WHERE WHAT IT READS IS OF BULK AT MOST 1048576: true; the input reads as it did. -/
def fnExactRingStepUptoRow : OpenClaim := { program := "ytleagplokahhhaa", sum := "45295029629a3c578a652dde40fe841eabec66a276ba6c9458d669756dcabcc8", func := "loop.example/g01333/laws.FnExactRingStep", spec := "fnExactRingStep", unfollowed := true, recurses := true, apart := false, narrowed := true }
def FnExactRingStepUptoSaid : Prop := fnExactRingStepUptoRow.holds Try.pinned (OpenSpec.upto fnExactRingStepSpec)

/-- 'laws.FnExactCountCycling', WHERE WHAT IT READS IS OF BULK AT MOST 1048576: true; the input reads as it did. -/
def fnExactCountCyclingUptoRow : OpenClaim := { program := "ytleagplokahhhaa", sum := "45295029629a3c578a652dde40fe841eabec66a276ba6c9458d669756dcabcc8", func := "loop.example/g01333/laws.FnExactCountCycling", spec := "fnExactCountCycling", apart := false, narrowed := true }
def FnExactCountCyclingUptoSaid : Prop := fnExactCountCyclingUptoRow.holds Try.pinned (OpenSpec.upto fnExactCountCyclingSpec)

end Rows
end Go.Proofs.Ytleagplokahhhaa
