/-
  No cell of these rows narrows 'for every input' (looked for: loops, veiled, ifaces, maps, wideKeys, modest, calm, conditions, laid).
  DERIVED. THE GIVEN ROWS OF THIS SEAT. 11 by the template 'for every input the law returns true; each argument reads behind the call as it read before'; 0 by the template 'total and deterministic' (their statements: YtdcfaohpelekbaaTotals.lean).
  GIVEN WITH THE SEED: the statements are not yours to turn. If you find one false, say at which input.
  Laid BY PROGRAM, IN A SANDBOX (cutbox-rows.mjs): the forced cells as the released guide's own fill.sh prints them over the translation 9f502f405da8be5f… (all of the seat's roots in one cut). By AI agents, Wed Nov 11 2026. No macro, syntax, notation, axiom, sorry.
-/
import Derived.Test.YtdcfaohpelekbaaChecked
import GoSem.Claim
import GoSem.ClaimJoined
import GoSem.ClaimMapViews
import Derived.JoinedTies
import Derived.KernelRfl
namespace Go.Proofs.Ytdcfaohpelekbaa
/- THE CELL 'sum', in the pinned program and in every row, IS THE sha256 OF THE DUMP (.gsa) THAT YtdcfaohpelekbaaProg.lean LOADS. Nothing in Lean hashes anything: it is a label: what it is worth is what the hold of that sum in a sandbox is worth. -/
noncomputable def Try.pinned : Pinned := { name := "ytdcfaohpelekbaa", sum := "9f502f405da8be5f7f2019461ec3ca3b4f4f9f1be5a496fec6f8e1dc7c36ae1b", checked := Try.checked }
namespace Rows
def none {H : Type} : Left H := { results := [], args := [] }

/-- 'laws.FnExactStonesOf': WHATEVER THE INPUT: true; the input reads as it did. -/
def fnExactStonesOfSpec : ChangeSpec := { name := "fnExactStonesOf", fn := fun _ => fun
  | [d] => { results := [.lit (.bool true)], args := [d] }
  | _ => none }
def fnExactStonesOfRow : OpenClaim := { program := "ytdcfaohpelekbaa", sum := "9f502f405da8be5f7f2019461ec3ca3b4f4f9f1be5a496fec6f8e1dc7c36ae1b", func := "loop.example/g01333/laws.FnExactStonesOf", spec := "fnExactStonesOf", apart := false }
def FnExactStonesOfSaid : Prop := fnExactStonesOfRow.holds Try.pinned (OpenSpec.ofChange fnExactStonesOfSpec)

/-- ITS FALSE NEIGHBOUR: 'it returns false'. Refute it at one input. -/
def fnExactStonesOfWrong : ChangeSpec := { name := "fnExactStonesOf", fn := fun _ => fun
  | [d] => { results := [.lit (.bool false)], args := [d] }
  | _ => none }
def FnExactStonesOfWrongFalsely : Prop := fnExactStonesOfRow.holds Try.pinned (OpenSpec.ofChange fnExactStonesOfWrong)

/-- 'laws.FnExactCanBeEqual': WHATEVER THE INPUT: true; the input reads as it did. -/
def fnExactCanBeEqualSpec : ChangeSpec := { name := "fnExactCanBeEqual", fn := fun _ => fun
  | [d] => { results := [.lit (.bool true)], args := [d] }
  | _ => none }
def fnExactCanBeEqualRow : OpenClaim := { program := "ytdcfaohpelekbaa", sum := "9f502f405da8be5f7f2019461ec3ca3b4f4f9f1be5a496fec6f8e1dc7c36ae1b", func := "loop.example/g01333/laws.FnExactCanBeEqual", spec := "fnExactCanBeEqual", apart := false }
def FnExactCanBeEqualSaid : Prop := fnExactCanBeEqualRow.holds Try.pinned (OpenSpec.ofChange fnExactCanBeEqualSpec)

/-- ITS FALSE NEIGHBOUR: 'it returns false'. Refute it at one input. -/
def fnExactCanBeEqualWrong : ChangeSpec := { name := "fnExactCanBeEqual", fn := fun _ => fun
  | [d] => { results := [.lit (.bool false)], args := [d] }
  | _ => none }
def FnExactCanBeEqualWrongFalsely : Prop := fnExactCanBeEqualRow.holds Try.pinned (OpenSpec.ofChange fnExactCanBeEqualWrong)

/-- 'laws.FnExactEqualShare': WHATEVER THE INPUT: true; the input reads as it did. -/
def fnExactEqualShareSpec : ChangeSpec := { name := "fnExactEqualShare", fn := fun _ => fun
  | [d] => { results := [.lit (.bool true)], args := [d] }
  | _ => none }
def fnExactEqualShareRow : OpenClaim := { program := "ytdcfaohpelekbaa", sum := "9f502f405da8be5f7f2019461ec3ca3b4f4f9f1be5a496fec6f8e1dc7c36ae1b", func := "loop.example/g01333/laws.FnExactEqualShare", spec := "fnExactEqualShare", apart := false }
def FnExactEqualShareSaid : Prop := fnExactEqualShareRow.holds Try.pinned (OpenSpec.ofChange fnExactEqualShareSpec)

/-- ITS FALSE NEIGHBOUR: 'it returns false'. Refute it at one input. -/
def fnExactEqualShareWrong : ChangeSpec := { name := "fnExactEqualShare", fn := fun _ => fun
  | [d] => { results := [.lit (.bool false)], args := [d] }
  | _ => none }
def FnExactEqualShareWrongFalsely : Prop := fnExactEqualShareRow.holds Try.pinned (OpenSpec.ofChange fnExactEqualShareWrong)

/-- 'laws.FnExactLineDistance': WHATEVER THE INPUT: true; the input reads as it did. -/
def fnExactLineDistanceSpec : ChangeSpec := { name := "fnExactLineDistance", fn := fun _ => fun
  | [d] => { results := [.lit (.bool true)], args := [d] }
  | _ => none }
def fnExactLineDistanceRow : OpenClaim := { program := "ytdcfaohpelekbaa", sum := "9f502f405da8be5f7f2019461ec3ca3b4f4f9f1be5a496fec6f8e1dc7c36ae1b", func := "loop.example/g01333/laws.FnExactLineDistance", spec := "fnExactLineDistance", apart := false }
def FnExactLineDistanceSaid : Prop := fnExactLineDistanceRow.holds Try.pinned (OpenSpec.ofChange fnExactLineDistanceSpec)

/-- ITS FALSE NEIGHBOUR: 'it returns false'. Refute it at one input. -/
def fnExactLineDistanceWrong : ChangeSpec := { name := "fnExactLineDistance", fn := fun _ => fun
  | [d] => { results := [.lit (.bool false)], args := [d] }
  | _ => none }
def FnExactLineDistanceWrongFalsely : Prop := fnExactLineDistanceRow.holds Try.pinned (OpenSpec.ofChange fnExactLineDistanceWrong)

/-- 'laws.FnExactLineFlows': WHATEVER THE INPUT: true; the input reads as it did. -/
def fnExactLineFlowsSpec : ChangeSpec := { name := "fnExactLineFlows", fn := fun _ => fun
  | [d] => { results := [.lit (.bool true)], args := [d] }
  | _ => none }
def fnExactLineFlowsRow : OpenClaim := { program := "ytdcfaohpelekbaa", sum := "9f502f405da8be5f7f2019461ec3ca3b4f4f9f1be5a496fec6f8e1dc7c36ae1b", func := "loop.example/g01333/laws.FnExactLineFlows", spec := "fnExactLineFlows", apart := false }
def FnExactLineFlowsSaid : Prop := fnExactLineFlowsRow.holds Try.pinned (OpenSpec.ofChange fnExactLineFlowsSpec)

/-- ITS FALSE NEIGHBOUR: 'it returns false'. Refute it at one input. -/
def fnExactLineFlowsWrong : ChangeSpec := { name := "fnExactLineFlows", fn := fun _ => fun
  | [d] => { results := [.lit (.bool false)], args := [d] }
  | _ => none }
def FnExactLineFlowsWrongFalsely : Prop := fnExactLineFlowsRow.holds Try.pinned (OpenSpec.ofChange fnExactLineFlowsWrong)

/-- 'laws.FnExactMostCarried': WHATEVER THE INPUT: true; the input reads as it did. -/
def fnExactMostCarriedSpec : ChangeSpec := { name := "fnExactMostCarried", fn := fun _ => fun
  | [d] => { results := [.lit (.bool true)], args := [d] }
  | _ => none }
def fnExactMostCarriedRow : OpenClaim := { program := "ytdcfaohpelekbaa", sum := "9f502f405da8be5f7f2019461ec3ca3b4f4f9f1be5a496fec6f8e1dc7c36ae1b", func := "loop.example/g01333/laws.FnExactMostCarried", spec := "fnExactMostCarried", apart := false }
def FnExactMostCarriedSaid : Prop := fnExactMostCarriedRow.holds Try.pinned (OpenSpec.ofChange fnExactMostCarriedSpec)

/-- ITS FALSE NEIGHBOUR: 'it returns false'. Refute it at one input. -/
def fnExactMostCarriedWrong : ChangeSpec := { name := "fnExactMostCarried", fn := fun _ => fun
  | [d] => { results := [.lit (.bool false)], args := [d] }
  | _ => none }
def FnExactMostCarriedWrongFalsely : Prop := fnExactMostCarriedRow.holds Try.pinned (OpenSpec.ofChange fnExactMostCarriedWrong)

/-- 'laws.FnExactLevelHeaps': WHATEVER THE INPUT: true; the input reads as it did. -/
def fnExactLevelHeapsSpec : ChangeSpec := { name := "fnExactLevelHeaps", fn := fun _ => fun
  | [d1, d2] => { results := [.lit (.bool true)], args := [d1, d2] }
  | _ => none }
def fnExactLevelHeapsRow : OpenClaim := { program := "ytdcfaohpelekbaa", sum := "9f502f405da8be5f7f2019461ec3ca3b4f4f9f1be5a496fec6f8e1dc7c36ae1b", func := "loop.example/g01333/laws.FnExactLevelHeaps", spec := "fnExactLevelHeaps", apart := false }
def FnExactLevelHeapsSaid : Prop := fnExactLevelHeapsRow.holds Try.pinned (OpenSpec.ofChange fnExactLevelHeapsSpec)

/-- ITS FALSE NEIGHBOUR: 'it returns false'. Refute it at one input. -/
def fnExactLevelHeapsWrong : ChangeSpec := { name := "fnExactLevelHeaps", fn := fun _ => fun
  | [d1, d2] => { results := [.lit (.bool false)], args := [d1, d2] }
  | _ => none }
def FnExactLevelHeapsWrongFalsely : Prop := fnExactLevelHeapsRow.holds Try.pinned (OpenSpec.ofChange fnExactLevelHeapsWrong)

/-- 'laws.FnExactAreFewHeaps': WHATEVER THE INPUT: true; the input reads as it did. -/
def fnExactAreFewHeapsSpec : ChangeSpec := { name := "fnExactAreFewHeaps", fn := fun _ => fun
  | [d] => { results := [.lit (.bool true)], args := [d] }
  | _ => none }
def fnExactAreFewHeapsRow : OpenClaim := { program := "ytdcfaohpelekbaa", sum := "9f502f405da8be5f7f2019461ec3ca3b4f4f9f1be5a496fec6f8e1dc7c36ae1b", func := "loop.example/g01333/laws.FnExactAreFewHeaps", spec := "fnExactAreFewHeaps", apart := false }
def FnExactAreFewHeapsSaid : Prop := fnExactAreFewHeapsRow.holds Try.pinned (OpenSpec.ofChange fnExactAreFewHeapsSpec)

/-- ITS FALSE NEIGHBOUR: 'it returns false'. Refute it at one input. -/
def fnExactAreFewHeapsWrong : ChangeSpec := { name := "fnExactAreFewHeaps", fn := fun _ => fun
  | [d] => { results := [.lit (.bool false)], args := [d] }
  | _ => none }
def FnExactAreFewHeapsWrongFalsely : Prop := fnExactAreFewHeapsRow.holds Try.pinned (OpenSpec.ofChange fnExactAreFewHeapsWrong)

/-- 'laws.FnExactCanDouble': WHATEVER THE INPUT: true; the input reads as it did. -/
def fnExactCanDoubleSpec : ChangeSpec := { name := "fnExactCanDouble", fn := fun _ => fun
  | [d1, d2] => { results := [.lit (.bool true)], args := [d1, d2] }
  | _ => none }
def fnExactCanDoubleRow : OpenClaim := { program := "ytdcfaohpelekbaa", sum := "9f502f405da8be5f7f2019461ec3ca3b4f4f9f1be5a496fec6f8e1dc7c36ae1b", func := "loop.example/g01333/laws.FnExactCanDouble", spec := "fnExactCanDouble", apart := false }
def FnExactCanDoubleSaid : Prop := fnExactCanDoubleRow.holds Try.pinned (OpenSpec.ofChange fnExactCanDoubleSpec)

/-- ITS FALSE NEIGHBOUR: 'it returns false'. Refute it at one input. -/
def fnExactCanDoubleWrong : ChangeSpec := { name := "fnExactCanDouble", fn := fun _ => fun
  | [d1, d2] => { results := [.lit (.bool false)], args := [d1, d2] }
  | _ => none }
def FnExactCanDoubleWrongFalsely : Prop := fnExactCanDoubleRow.holds Try.pinned (OpenSpec.ofChange fnExactCanDoubleWrong)

/-- 'laws.FnExactDoubleHeap': WHATEVER THE INPUT: true; the input reads as it did. -/
def fnExactDoubleHeapSpec : ChangeSpec := { name := "fnExactDoubleHeap", fn := fun _ => fun
  | [d1, d2] => { results := [.lit (.bool true)], args := [d1, d2] }
  | _ => none }
def fnExactDoubleHeapRow : OpenClaim := { program := "ytdcfaohpelekbaa", sum := "9f502f405da8be5f7f2019461ec3ca3b4f4f9f1be5a496fec6f8e1dc7c36ae1b", func := "loop.example/g01333/laws.FnExactDoubleHeap", spec := "fnExactDoubleHeap", apart := false }
def FnExactDoubleHeapSaid : Prop := fnExactDoubleHeapRow.holds Try.pinned (OpenSpec.ofChange fnExactDoubleHeapSpec)

/-- ITS FALSE NEIGHBOUR: 'it returns false'. Refute it at one input. -/
def fnExactDoubleHeapWrong : ChangeSpec := { name := "fnExactDoubleHeap", fn := fun _ => fun
  | [d1, d2] => { results := [.lit (.bool false)], args := [d1, d2] }
  | _ => none }
def FnExactDoubleHeapWrongFalsely : Prop := fnExactDoubleHeapRow.holds Try.pinned (OpenSpec.ofChange fnExactDoubleHeapWrong)

/-- 'laws.FnExactPlayDoublings': WHATEVER THE INPUT: true; the input reads as it did. -/
def fnExactPlayDoublingsSpec : ChangeSpec := { name := "fnExactPlayDoublings", fn := fun _ => fun
  | [d1, d2] => { results := [.lit (.bool true)], args := [d1, d2] }
  | _ => none }
def fnExactPlayDoublingsRow : OpenClaim := { program := "ytdcfaohpelekbaa", sum := "9f502f405da8be5f7f2019461ec3ca3b4f4f9f1be5a496fec6f8e1dc7c36ae1b", func := "loop.example/g01333/laws.FnExactPlayDoublings", spec := "fnExactPlayDoublings", apart := false }
def FnExactPlayDoublingsSaid : Prop := fnExactPlayDoublingsRow.holds Try.pinned (OpenSpec.ofChange fnExactPlayDoublingsSpec)

/-- ITS FALSE NEIGHBOUR: 'it returns false'. Refute it at one input. -/
def fnExactPlayDoublingsWrong : ChangeSpec := { name := "fnExactPlayDoublings", fn := fun _ => fun
  | [d1, d2] => { results := [.lit (.bool false)], args := [d1, d2] }
  | _ => none }
def FnExactPlayDoublingsWrongFalsely : Prop := fnExactPlayDoublingsRow.holds Try.pinned (OpenSpec.ofChange fnExactPlayDoublingsWrong)

/- THE SECOND FORM. 'bulk': how many values and letters a reading holds, each counted each time it is reached (what is shared counts as often as it is met; a slice's spare places count too). A statement '..UptoSaid' is the law's where the arguments, and the package variables that the reading takes, are together of bulk at most 1048576: NARROWER than '..Said'. Prove '..Said' where nothing that the law and all that it calls make is longer than what came in: it says more and counts as full. Else prove '..UptoSaid'. A law counts once. -/
mutual
def uptoBulk {H : Type} : DataW H → Nat
  | .lit (.string bytes) => bytes.length + 1
  | .lit _ => 1
  | .nil => 1
  | .ptr d => uptoBulk d + 1
  | .slice elems spare => uptoBulkAll elems + uptoBulkAll spare + 1
  | .agg parts => uptoBulkAll parts + 1
  | .iface _ d => uptoBulk d + 1
  | .map entries => uptoBulkEntries entries + 1
  | .held _ => 1
def uptoBulkAll {H : Type} : List (DataW H) → Nat
  | [] => 0
  | d :: r => uptoBulk d + uptoBulkAll r
def uptoBulkEntries {H : Type} : List (Lit × DataW H) → Nat
  | [] => 0
  | x :: r => uptoBulkEntry x + uptoBulkEntries r
def uptoBulkEntry {H : Type} : Lit × DataW H → Nat
  | (.string bytes, d) => bytes.length + uptoBulk d + 1
  | (_, d) => uptoBulk d + 1
 end
def uptoSmall : (H : Type) → List (DataW H) → Bool := fun _ ds => decide (uptoBulkAll ds ≤ 1048576)
def OpenSpec.upto (s : _root_.Go.ChangeSpec) : _root_.Go.OpenSpec := { _root_.Go.OpenSpec.ofChange s with cond := some uptoSmall }

/-- 'laws.FnExactStonesOf', WHERE WHAT IT READS IS OF BULK AT MOST 1048576: true; the input reads as it did. -/
def fnExactStonesOfUptoRow : OpenClaim := { program := "ytdcfaohpelekbaa", sum := "9f502f405da8be5f7f2019461ec3ca3b4f4f9f1be5a496fec6f8e1dc7c36ae1b", func := "loop.example/g01333/laws.FnExactStonesOf", spec := "fnExactStonesOf", apart := false, narrowed := true }
def FnExactStonesOfUptoSaid : Prop := fnExactStonesOfUptoRow.holds Try.pinned (OpenSpec.upto fnExactStonesOfSpec)

/-- 'laws.FnExactCanBeEqual', WHERE WHAT IT READS IS OF BULK AT MOST 1048576: true; the input reads as it did. -/
def fnExactCanBeEqualUptoRow : OpenClaim := { program := "ytdcfaohpelekbaa", sum := "9f502f405da8be5f7f2019461ec3ca3b4f4f9f1be5a496fec6f8e1dc7c36ae1b", func := "loop.example/g01333/laws.FnExactCanBeEqual", spec := "fnExactCanBeEqual", apart := false, narrowed := true }
def FnExactCanBeEqualUptoSaid : Prop := fnExactCanBeEqualUptoRow.holds Try.pinned (OpenSpec.upto fnExactCanBeEqualSpec)

/-- 'laws.FnExactEqualShare', WHERE WHAT IT READS IS OF BULK AT MOST 1048576: true; the input reads as it did. -/
def fnExactEqualShareUptoRow : OpenClaim := { program := "ytdcfaohpelekbaa", sum := "9f502f405da8be5f7f2019461ec3ca3b4f4f9f1be5a496fec6f8e1dc7c36ae1b", func := "loop.example/g01333/laws.FnExactEqualShare", spec := "fnExactEqualShare", apart := false, narrowed := true }
def FnExactEqualShareUptoSaid : Prop := fnExactEqualShareUptoRow.holds Try.pinned (OpenSpec.upto fnExactEqualShareSpec)

/-- 'laws.FnExactLineDistance', WHERE WHAT IT READS IS OF BULK AT MOST 1048576: true; the input reads as it did. -/
def fnExactLineDistanceUptoRow : OpenClaim := { program := "ytdcfaohpelekbaa", sum := "9f502f405da8be5f7f2019461ec3ca3b4f4f9f1be5a496fec6f8e1dc7c36ae1b", func := "loop.example/g01333/laws.FnExactLineDistance", spec := "fnExactLineDistance", apart := false, narrowed := true }
def FnExactLineDistanceUptoSaid : Prop := fnExactLineDistanceUptoRow.holds Try.pinned (OpenSpec.upto fnExactLineDistanceSpec)

/-- 'laws.FnExactLineFlows', WHERE WHAT IT READS IS OF BULK AT MOST 1048576: true; the input reads as it did. -/
def fnExactLineFlowsUptoRow : OpenClaim := { program := "ytdcfaohpelekbaa", sum := "9f502f405da8be5f7f2019461ec3ca3b4f4f9f1be5a496fec6f8e1dc7c36ae1b", func := "loop.example/g01333/laws.FnExactLineFlows", spec := "fnExactLineFlows", apart := false, narrowed := true }
def FnExactLineFlowsUptoSaid : Prop := fnExactLineFlowsUptoRow.holds Try.pinned (OpenSpec.upto fnExactLineFlowsSpec)

/-- 'laws.FnExactMostCarried', WHERE WHAT IT READS IS OF BULK AT MOST 1048576: true; the input reads as it did. -/
def fnExactMostCarriedUptoRow : OpenClaim := { program := "ytdcfaohpelekbaa", sum := "9f502f405da8be5f7f2019461ec3ca3b4f4f9f1be5a496fec6f8e1dc7c36ae1b", func := "loop.example/g01333/laws.FnExactMostCarried", spec := "fnExactMostCarried", apart := false, narrowed := true }
def FnExactMostCarriedUptoSaid : Prop := fnExactMostCarriedUptoRow.holds Try.pinned (OpenSpec.upto fnExactMostCarriedSpec)

/-- 'laws.FnExactLevelHeaps', WHERE WHAT IT READS IS OF BULK AT MOST 1048576: true; the input reads as it did. -/
def fnExactLevelHeapsUptoRow : OpenClaim := { program := "ytdcfaohpelekbaa", sum := "9f502f405da8be5f7f2019461ec3ca3b4f4f9f1be5a496fec6f8e1dc7c36ae1b", func := "loop.example/g01333/laws.FnExactLevelHeaps", spec := "fnExactLevelHeaps", apart := false, narrowed := true }
def FnExactLevelHeapsUptoSaid : Prop := fnExactLevelHeapsUptoRow.holds Try.pinned (OpenSpec.upto fnExactLevelHeapsSpec)

/-- 'laws.FnExactAreFewHeaps', WHERE WHAT IT READS IS OF BULK AT MOST 1048576: true; the input reads as it did. -/
def fnExactAreFewHeapsUptoRow : OpenClaim := { program := "ytdcfaohpelekbaa", sum := "9f502f405da8be5f7f2019461ec3ca3b4f4f9f1be5a496fec6f8e1dc7c36ae1b", func := "loop.example/g01333/laws.FnExactAreFewHeaps", spec := "fnExactAreFewHeaps", apart := false, narrowed := true }
def FnExactAreFewHeapsUptoSaid : Prop := fnExactAreFewHeapsUptoRow.holds Try.pinned (OpenSpec.upto fnExactAreFewHeapsSpec)

/-- 'laws.FnExactCanDouble', WHERE WHAT IT READS IS OF BULK AT MOST 1048576: true; the input reads as it did. -/
def fnExactCanDoubleUptoRow : OpenClaim := { program := "ytdcfaohpelekbaa", sum := "9f502f405da8be5f7f2019461ec3ca3b4f4f9f1be5a496fec6f8e1dc7c36ae1b", func := "loop.example/g01333/laws.FnExactCanDouble", spec := "fnExactCanDouble", apart := false, narrowed := true }
def FnExactCanDoubleUptoSaid : Prop := fnExactCanDoubleUptoRow.holds Try.pinned (OpenSpec.upto fnExactCanDoubleSpec)

/-- 'laws.FnExactDoubleHeap', WHERE WHAT IT READS IS OF BULK AT MOST 1048576: true; the input reads as it did. -/
def fnExactDoubleHeapUptoRow : OpenClaim := { program := "ytdcfaohpelekbaa", sum := "9f502f405da8be5f7f2019461ec3ca3b4f4f9f1be5a496fec6f8e1dc7c36ae1b", func := "loop.example/g01333/laws.FnExactDoubleHeap", spec := "fnExactDoubleHeap", apart := false, narrowed := true }
def FnExactDoubleHeapUptoSaid : Prop := fnExactDoubleHeapUptoRow.holds Try.pinned (OpenSpec.upto fnExactDoubleHeapSpec)

/-- 'laws.FnExactPlayDoublings', WHERE WHAT IT READS IS OF BULK AT MOST 1048576: true; the input reads as it did. -/
def fnExactPlayDoublingsUptoRow : OpenClaim := { program := "ytdcfaohpelekbaa", sum := "9f502f405da8be5f7f2019461ec3ca3b4f4f9f1be5a496fec6f8e1dc7c36ae1b", func := "loop.example/g01333/laws.FnExactPlayDoublings", spec := "fnExactPlayDoublings", apart := false, narrowed := true }
def FnExactPlayDoublingsUptoSaid : Prop := fnExactPlayDoublingsUptoRow.holds Try.pinned (OpenSpec.upto fnExactPlayDoublingsSpec)

end Rows
end Go.Proofs.Ytdcfaohpelekbaa
