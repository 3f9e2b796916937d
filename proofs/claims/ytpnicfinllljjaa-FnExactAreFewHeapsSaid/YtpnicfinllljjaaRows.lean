/-
  No cell of these rows narrows 'for every input' (looked for: loops, veiled, ifaces, maps, wideKeys, modest, calm, conditions, laid).
  DERIVED. THE GIVEN ROWS OF THIS SEAT. 9 by the template 'for every input the law returns true; each argument reads behind the call as it read before'; 0 by the template 'total and deterministic' (their statements: YtpnicfinllljjaaTotals.lean).
  GIVEN WITH THE SEED: the statements are not yours to turn. If you find one false, say at which input.
  Laid BY PROGRAM, IN A SANDBOX (cutbox-rows.mjs): the forced cells as the released guide's own fill.sh prints them over the translation 3ccd50b6667346ed… (all of the seat's roots in one cut). By AI agents, Wed Nov 11 2026. No macro, syntax, notation, axiom, sorry.
-/
import Derived.Test.YtpnicfinllljjaaChecked
import GoSem.Claim
import GoSem.ClaimJoined
import GoSem.ClaimMapViews
import Derived.JoinedTies
import Derived.KernelRfl
namespace Go.Proofs.Ytpnicfinllljjaa
/- THE CELL 'sum', in the pinned program and in every row, IS THE sha256 OF THE DUMP (.gsa) THAT YtpnicfinllljjaaProg.lean LOADS. Nothing in Lean hashes anything: it is a label: what it is worth is what the hold of that sum in a sandbox is worth. -/
noncomputable def Try.pinned : Pinned := { name := "ytpnicfinllljjaa", sum := "3ccd50b6667346edf7f29093fd7a8b35f2803fa3b159182888732bb865cbe407", checked := Try.checked }
namespace Rows
def none {H : Type} : Left H := { results := [], args := [] }

/-- 'laws.FnExactAreFewHeaps': WHATEVER THE INPUT: true; the input reads as it did. -/
def fnExactAreFewHeapsSpec : ChangeSpec := { name := "fnExactAreFewHeaps", fn := fun _ => fun
  | [d] => { results := [.lit (.bool true)], args := [d] }
  | _ => none }
def fnExactAreFewHeapsRow : OpenClaim := { program := "ytpnicfinllljjaa", sum := "3ccd50b6667346edf7f29093fd7a8b35f2803fa3b159182888732bb865cbe407", func := "loop.example/g01333/laws.FnExactAreFewHeaps", spec := "fnExactAreFewHeaps", apart := false }
def FnExactAreFewHeapsSaid : Prop := fnExactAreFewHeapsRow.holds Try.pinned (OpenSpec.ofChange fnExactAreFewHeapsSpec)

/-- ITS FALSE NEIGHBOUR: 'it returns false'. Refute it at one input. -/
def fnExactAreFewHeapsWrong : ChangeSpec := { name := "fnExactAreFewHeaps", fn := fun _ => fun
  | [d] => { results := [.lit (.bool false)], args := [d] }
  | _ => none }
def FnExactAreFewHeapsWrongFalsely : Prop := fnExactAreFewHeapsRow.holds Try.pinned (OpenSpec.ofChange fnExactAreFewHeapsWrong)

/-- 'laws.FnExactCanDouble': WHATEVER THE INPUT: true; the input reads as it did. -/
def fnExactCanDoubleSpec : ChangeSpec := { name := "fnExactCanDouble", fn := fun _ => fun
  | [d1, d2] => { results := [.lit (.bool true)], args := [d1, d2] }
  | _ => none }
def fnExactCanDoubleRow : OpenClaim := { program := "ytpnicfinllljjaa", sum := "3ccd50b6667346edf7f29093fd7a8b35f2803fa3b159182888732bb865cbe407", func := "loop.example/g01333/laws.FnExactCanDouble", spec := "fnExactCanDouble", apart := false }
def FnExactCanDoubleSaid : Prop := fnExactCanDoubleRow.holds Try.pinned (OpenSpec.ofChange fnExactCanDoubleSpec)

/-- ITS FALSE NEIGHBOUR: 'it returns false'. Refute it at one input. -/
def fnExactCanDoubleWrong : ChangeSpec := { name := "fnExactCanDouble", fn := fun _ => fun
  | [d1, d2] => { results := [.lit (.bool false)], args := [d1, d2] }
  | _ => none }
def FnExactCanDoubleWrongFalsely : Prop := fnExactCanDoubleRow.holds Try.pinned (OpenSpec.ofChange fnExactCanDoubleWrong)

/-- 'laws.FnExactDoubleHeap': WHATEVER THE INPUT: true; the input reads as it did. -/
def fnExactDoubleHeapSpec : ChangeSpec := { name := "fnExactDoubleHeap", fn := fun _ => fun
  | [d1, d2] => { results := [.lit (.bool true)], args := [d1, d2] }
  | _ => none }
def fnExactDoubleHeapRow : OpenClaim := { program := "ytpnicfinllljjaa", sum := "3ccd50b6667346edf7f29093fd7a8b35f2803fa3b159182888732bb865cbe407", func := "loop.example/g01333/laws.FnExactDoubleHeap", spec := "fnExactDoubleHeap", apart := false }
def FnExactDoubleHeapSaid : Prop := fnExactDoubleHeapRow.holds Try.pinned (OpenSpec.ofChange fnExactDoubleHeapSpec)

/-- ITS FALSE NEIGHBOUR: 'it returns false'. Refute it at one input. -/
def fnExactDoubleHeapWrong : ChangeSpec := { name := "fnExactDoubleHeap", fn := fun _ => fun
  | [d1, d2] => { results := [.lit (.bool false)], args := [d1, d2] }
  | _ => none }
def FnExactDoubleHeapWrongFalsely : Prop := fnExactDoubleHeapRow.holds Try.pinned (OpenSpec.ofChange fnExactDoubleHeapWrong)

/-- 'laws.FnExactPlayDoublings': WHATEVER THE INPUT: true; the input reads as it did. -/
def fnExactPlayDoublingsSpec : ChangeSpec := { name := "fnExactPlayDoublings", fn := fun _ => fun
  | [d1, d2] => { results := [.lit (.bool true)], args := [d1, d2] }
  | _ => none }
def fnExactPlayDoublingsRow : OpenClaim := { program := "ytpnicfinllljjaa", sum := "3ccd50b6667346edf7f29093fd7a8b35f2803fa3b159182888732bb865cbe407", func := "loop.example/g01333/laws.FnExactPlayDoublings", spec := "fnExactPlayDoublings", apart := false }
def FnExactPlayDoublingsSaid : Prop := fnExactPlayDoublingsRow.holds Try.pinned (OpenSpec.ofChange fnExactPlayDoublingsSpec)

/-- ITS FALSE NEIGHBOUR: 'it returns false'. Refute it at one input. -/
def fnExactPlayDoublingsWrong : ChangeSpec := { name := "fnExactPlayDoublings", fn := fun _ => fun
  | [d1, d2] => { results := [.lit (.bool false)], args := [d1, d2] }
  | _ => none }
def FnExactPlayDoublingsWrongFalsely : Prop := fnExactPlayDoublingsRow.holds Try.pinned (OpenSpec.ofChange fnExactPlayDoublingsWrong)

/-- 'laws.FnExactPairStep': WHATEVER THE INPUT: true; the input reads as it did. -/
def fnExactPairStepSpec : ChangeSpec := { name := "fnExactPairStep", fn := fun _ => fun
  | [d1, d2] => { results := [.lit (.bool true)], args := [d1, d2] }
  | _ => none }
def fnExactPairStepRow : OpenClaim := { program := "ytpnicfinllljjaa", sum := "3ccd50b6667346edf7f29093fd7a8b35f2803fa3b159182888732bb865cbe407", func := "loop.example/g01333/laws.FnExactPairStep", spec := "fnExactPairStep", apart := false }
def FnExactPairStepSaid : Prop := fnExactPairStepRow.holds Try.pinned (OpenSpec.ofChange fnExactPairStepSpec)

/-- ITS FALSE NEIGHBOUR: 'it returns false'. Refute it at one input. -/
def fnExactPairStepWrong : ChangeSpec := { name := "fnExactPairStep", fn := fun _ => fun
  | [d1, d2] => { results := [.lit (.bool false)], args := [d1, d2] }
  | _ => none }
def FnExactPairStepWrongFalsely : Prop := fnExactPairStepRow.holds Try.pinned (OpenSpec.ofChange fnExactPairStepWrong)

/-- 'laws.FnExactPairAfter': WHATEVER THE INPUT: true; the input reads as it did. -/
def fnExactPairAfterSpec : ChangeSpec := { name := "fnExactPairAfter", fn := fun _ => fun
  | [d1, d2, d3] => { results := [.lit (.bool true)], args := [d1, d2, d3] }
  | _ => none }
def fnExactPairAfterRow : OpenClaim := { program := "ytpnicfinllljjaa", sum := "3ccd50b6667346edf7f29093fd7a8b35f2803fa3b159182888732bb865cbe407", func := "loop.example/g01333/laws.FnExactPairAfter", spec := "fnExactPairAfter", apart := false }
def FnExactPairAfterSaid : Prop := fnExactPairAfterRow.holds Try.pinned (OpenSpec.ofChange fnExactPairAfterSpec)

/-- ITS FALSE NEIGHBOUR: 'it returns false'. Refute it at one input. -/
def fnExactPairAfterWrong : ChangeSpec := { name := "fnExactPairAfter", fn := fun _ => fun
  | [d1, d2, d3] => { results := [.lit (.bool false)], args := [d1, d2, d3] }
  | _ => none }
def FnExactPairAfterWrongFalsely : Prop := fnExactPairAfterRow.holds Try.pinned (OpenSpec.ofChange fnExactPairAfterWrong)

/-- 'laws.FnExactCostOfMoves': WHATEVER THE INPUT: true; the input reads as it did. -/
def fnExactCostOfMovesSpec : ChangeSpec := { name := "fnExactCostOfMoves", fn := fun _ => fun
  | [d] => { results := [.lit (.bool true)], args := [d] }
  | _ => none }
def fnExactCostOfMovesRow : OpenClaim := { program := "ytpnicfinllljjaa", sum := "3ccd50b6667346edf7f29093fd7a8b35f2803fa3b159182888732bb865cbe407", func := "loop.example/g01333/laws.FnExactCostOfMoves", spec := "fnExactCostOfMoves", apart := false }
def FnExactCostOfMovesSaid : Prop := fnExactCostOfMovesRow.holds Try.pinned (OpenSpec.ofChange fnExactCostOfMovesSpec)

/-- ITS FALSE NEIGHBOUR: 'it returns false'. Refute it at one input. -/
def fnExactCostOfMovesWrong : ChangeSpec := { name := "fnExactCostOfMoves", fn := fun _ => fun
  | [d] => { results := [.lit (.bool false)], args := [d] }
  | _ => none }
def FnExactCostOfMovesWrongFalsely : Prop := fnExactCostOfMovesRow.holds Try.pinned (OpenSpec.ofChange fnExactCostOfMovesWrong)

/-- 'laws.FnExactMakeMove': WHATEVER THE INPUT: true; the input reads as it did. -/
def fnExactMakeMoveSpec : ChangeSpec := { name := "fnExactMakeMove", fn := fun _ => fun
  | [d1, d2] => { results := [.lit (.bool true)], args := [d1, d2] }
  | _ => none }
def fnExactMakeMoveRow : OpenClaim := { program := "ytpnicfinllljjaa", sum := "3ccd50b6667346edf7f29093fd7a8b35f2803fa3b159182888732bb865cbe407", func := "loop.example/g01333/laws.FnExactMakeMove", spec := "fnExactMakeMove", apart := false }
def FnExactMakeMoveSaid : Prop := fnExactMakeMoveRow.holds Try.pinned (OpenSpec.ofChange fnExactMakeMoveSpec)

/-- ITS FALSE NEIGHBOUR: 'it returns false'. Refute it at one input. -/
def fnExactMakeMoveWrong : ChangeSpec := { name := "fnExactMakeMove", fn := fun _ => fun
  | [d1, d2] => { results := [.lit (.bool false)], args := [d1, d2] }
  | _ => none }
def FnExactMakeMoveWrongFalsely : Prop := fnExactMakeMoveRow.holds Try.pinned (OpenSpec.ofChange fnExactMakeMoveWrong)

/-- 'laws.FnExactPlayMoves': WHATEVER THE INPUT: true; the input reads as it did. -/
def fnExactPlayMovesSpec : ChangeSpec := { name := "fnExactPlayMoves", fn := fun _ => fun
  | [d1, d2] => { results := [.lit (.bool true)], args := [d1, d2] }
  | _ => none }
def fnExactPlayMovesRow : OpenClaim := { program := "ytpnicfinllljjaa", sum := "3ccd50b6667346edf7f29093fd7a8b35f2803fa3b159182888732bb865cbe407", func := "loop.example/g01333/laws.FnExactPlayMoves", spec := "fnExactPlayMoves", apart := false }
def FnExactPlayMovesSaid : Prop := fnExactPlayMovesRow.holds Try.pinned (OpenSpec.ofChange fnExactPlayMovesSpec)

/-- ITS FALSE NEIGHBOUR: 'it returns false'. Refute it at one input. -/
def fnExactPlayMovesWrong : ChangeSpec := { name := "fnExactPlayMoves", fn := fun _ => fun
  | [d1, d2] => { results := [.lit (.bool false)], args := [d1, d2] }
  | _ => none }
def FnExactPlayMovesWrongFalsely : Prop := fnExactPlayMovesRow.holds Try.pinned (OpenSpec.ofChange fnExactPlayMovesWrong)

/- THE SECOND FORM. 'bulk': how many values and letters a reading holds, each counted each time it is reached (what is shared counts as often as it is met; a slice's spare places count too). A statement '..UptoSaid' is the law's where the arguments, and the package variables that the reading takes, are together of bulk at most 1048576: NARROWER than '..Said'. Prove '..Said' where nothing that the law and all that it calls make is longer than what came in: it says more and counts as full. Else prove '..UptoSaid'. A law counts once. -/
mutual
def uptoBulk {H : Type} : DataW H → Nat
  | .lit (.string bytes) => bytes.length + 1
  | .lit _ => 1
  | .nil => 1
  | .ptr d => uptoBulk d + 1
  | .slice elems spare => uptoBulkAll elems + uptoBulkAll spare + 1
  | .agg parts => uptoBulkAll parts + 1
  | .iface _ d => uptoBulk d + 1
  | .map entries => uptoBulkEntries entries + 1
  | .held _ => 1
def uptoBulkAll {H : Type} : List (DataW H) → Nat
  | [] => 0
  | d :: r => uptoBulk d + uptoBulkAll r
def uptoBulkEntries {H : Type} : List (Lit × DataW H) → Nat
  | [] => 0
  | x :: r => uptoBulkEntry x + uptoBulkEntries r
def uptoBulkEntry {H : Type} : Lit × DataW H → Nat
  | (.string bytes, d) => bytes.length + uptoBulk d + 1
  | (_, d) => uptoBulk d + 1
 end
def uptoSmall : (H : Type) → List (DataW H) → Bool := fun _ ds => decide (uptoBulkAll ds ≤ 1048576)
def OpenSpec.upto (s : _root_.Go.ChangeSpec) : _root_.Go.OpenSpec := { _root_.Go.OpenSpec.ofChange s with cond := some uptoSmall }

/-- 'laws.FnExactAreFewHeaps', WHERE WHAT IT READS IS OF BULK AT MOST 1048576: true; the input reads as it did. -/
def fnExactAreFewHeapsUptoRow : OpenClaim := { program := "ytpnicfinllljjaa", sum := "3ccd50b6667346edf7f29093fd7a8b35f2803fa3b159182888732bb865cbe407", func := "loop.example/g01333/laws.FnExactAreFewHeaps", spec := "fnExactAreFewHeaps", apart := false, narrowed := true }
def FnExactAreFewHeapsUptoSaid : Prop := fnExactAreFewHeapsUptoRow.holds Try.pinned (OpenSpec.upto fnExactAreFewHeapsSpec)

/-- 'laws.FnExactCanDouble', WHERE WHAT IT READS IS OF BULK AT MOST 1048576: true; the input reads as it did. -/
def fnExactCanDoubleUptoRow : OpenClaim := { program := "ytpnicfinllljjaa", sum := "3ccd50b6667346edf7f29093fd7a8b35f2803fa3b159182888732bb865cbe407", func := "loop.example/g01333/laws.FnExactCanDouble", spec := "fnExactCanDouble", apart := false, narrowed := true }
def FnExactCanDoubleUptoSaid : Prop := fnExactCanDoubleUptoRow.holds Try.pinned (OpenSpec.upto fnExactCanDoubleSpec)

/-- 'laws.FnExactDoubleHeap', WHERE WHAT IT READS IS OF BULK AT MOST 1048576: true; the input reads as it did. -/
def fnExactDoubleHeapUptoRow : OpenClaim := { program := "ytpnicfinllljjaa", sum := "3ccd50b6667346edf7f29093fd7a8b35f2803fa3b159182888732bb865cbe407", func := "loop.example/g01333/laws.FnExactDoubleHeap", spec := "fnExactDoubleHeap", apart := false, narrowed := true }
def FnExactDoubleHeapUptoSaid : Prop := fnExactDoubleHeapUptoRow.holds Try.pinned (OpenSpec.upto fnExactDoubleHeapSpec)

/-- 'laws.FnExactPlayDoublings', WHERE WHAT IT READS IS OF BULK AT MOST 1048576: true; the input reads as it did. -/
def fnExactPlayDoublingsUptoRow : OpenClaim := { program := "ytpnicfinllljjaa", sum := "3ccd50b6667346edf7f29093fd7a8b35f2803fa3b159182888732bb865cbe407", func := "loop.example/g01333/laws.FnExactPlayDoublings", spec := "fnExactPlayDoublings", apart := false, narrowed := true }
def FnExactPlayDoublingsUptoSaid : Prop := fnExactPlayDoublingsUptoRow.holds Try.pinned (OpenSpec.upto fnExactPlayDoublingsSpec)

/-- 'laws.FnExactPairStep', WHERE WHAT IT READS IS OF BULK AT MOST 1048576: true; the input reads as it did. -/
def fnExactPairStepUptoRow : OpenClaim := { program := "ytpnicfinllljjaa", sum := "3ccd50b6667346edf7f29093fd7a8b35f2803fa3b159182888732bb865cbe407", func := "loop.example/g01333/laws.FnExactPairStep", spec := "fnExactPairStep", apart := false, narrowed := true }
def FnExactPairStepUptoSaid : Prop := fnExactPairStepUptoRow.holds Try.pinned (OpenSpec.upto fnExactPairStepSpec)

/-- 'laws.FnExactPairAfter', WHERE WHAT IT READS IS OF BULK AT MOST 1048576: true; the input reads as it did. -/
def fnExactPairAfterUptoRow : OpenClaim := { program := "ytpnicfinllljjaa", sum := "3ccd50b6667346edf7f29093fd7a8b35f2803fa3b159182888732bb865cbe407", func := "loop.example/g01333/laws.FnExactPairAfter", spec := "fnExactPairAfter", apart := false, narrowed := true }
def FnExactPairAfterUptoSaid : Prop := fnExactPairAfterUptoRow.holds Try.pinned (OpenSpec.upto fnExactPairAfterSpec)

/-- 'laws.FnExactCostOfMoves', WHERE WHAT IT READS IS OF BULK AT MOST 1048576: true; the input reads as it did. -/
def fnExactCostOfMovesUptoRow : OpenClaim := { program := "ytpnicfinllljjaa", sum := "3ccd50b6667346edf7f29093fd7a8b35f2803fa3b159182888732bb865cbe407", func := "loop.example/g01333/laws.FnExactCostOfMoves", spec := "fnExactCostOfMoves", apart := false, narrowed := true }
def FnExactCostOfMovesUptoSaid : Prop := fnExactCostOfMovesUptoRow.holds Try.pinned (OpenSpec.upto fnExactCostOfMovesSpec)

/-- 'laws.FnExactMakeMove', WHERE WHAT IT READS IS OF BULK AT MOST 1048576: true; the input reads as it did. -/
def fnExactMakeMoveUptoRow : OpenClaim := { program := "ytpnicfinllljjaa", sum := "3ccd50b6667346edf7f29093fd7a8b35f2803fa3b159182888732bb865cbe407", func := "loop.example/g01333/laws.FnExactMakeMove", spec := "fnExactMakeMove", apart := false, narrowed := true }
def FnExactMakeMoveUptoSaid : Prop := fnExactMakeMoveUptoRow.holds Try.pinned (OpenSpec.upto fnExactMakeMoveSpec)

/-- 'laws.FnExactPlayMoves', WHERE WHAT IT READS IS OF BULK AT MOST 1048576: true; the input reads as it did. -/
def fnExactPlayMovesUptoRow : OpenClaim := { program := "ytpnicfinllljjaa", sum := "3ccd50b6667346edf7f29093fd7a8b35f2803fa3b159182888732bb865cbe407", func := "loop.example/g01333/laws.FnExactPlayMoves", spec := "fnExactPlayMoves", apart := false, narrowed := true }
def FnExactPlayMovesUptoSaid : Prop := fnExactPlayMovesUptoRow.holds Try.pinned (OpenSpec.upto fnExactPlayMovesSpec)

end Rows
end Go.Proofs.Ytpnicfinllljjaa
