/-
  No cell of these rows narrows 'for every input' (looked for: loops, veiled, ifaces, maps, wideKeys, modest, calm, conditions, laid).
  DERIVED. THE GIVEN ROWS OF THIS SEAT. 4 by the template 'for every input the law returns true; each argument reads behind the call as it read before'; 0 by the template 'total and deterministic' (their statements: YtlaapnfinbancaaTotals.lean).
  GIVEN WITH THE SEED: the statements are not yours to turn. If you find one false, say at which input.
  Laid BY PROGRAM, IN A SANDBOX (cutbox-rows.mjs): the forced cells as the released guide's own fill.sh prints them over the translation 083f5790ef512b17… (all of the seat's roots in one cut). By AI agents, Wed Nov 11 2026. No macro, syntax, notation, axiom, sorry.
-/
import Derived.Test.YtlaapnfinbancaaChecked
import GoSem.Claim
import GoSem.ClaimJoined
import GoSem.ClaimMapViews
import Derived.JoinedTies
import Derived.KernelRfl
namespace Go.Proofs.Ytlaapnfinbancaa
/- THE CELL 'sum', in the pinned program and in every row, IS THE sha256 OF THE DUMP (.gsa) THAT YtlaapnfinbancaaProg.lean LOADS. Nothing in Lean hashes anything: it is a label: what it is worth is what the hold of that sum in a sandbox is worth. -/
noncomputable def Try.pinned : Pinned := { name := "ytlaapnfinbancaa", sum := "083f5790ef512b1799fee57f7b6526fb3de5747d7a61173eff34595070dcb3f8", checked := Try.checked }
namespace Rows
def none {H : Type} : Left H := { results := [], args := [] }

/-- 'laws.FnExactValueOfSplit': WHATEVER THE INPUT: true; the input reads as it did. -/
def fnExactValueOfSplitSpec : ChangeSpec := { name := "fnExactValueOfSplit", fn := fun _ => fun
  | [d1, d2] => { results := [.lit (.bool true)], args := [d1, d2] }
  | _ => none }
def fnExactValueOfSplitRow : OpenClaim := { program := "ytlaapnfinbancaa", sum := "083f5790ef512b1799fee57f7b6526fb3de5747d7a61173eff34595070dcb3f8", func := "loop.example/g01333/laws.FnExactValueOfSplit", spec := "fnExactValueOfSplit", unfollowed := true, recurses := true, apart := false }
def FnExactValueOfSplitSaid : Prop := fnExactValueOfSplitRow.holds Try.pinned (OpenSpec.ofChange fnExactValueOfSplitSpec)

/-- ITS FALSE NEIGHBOUR: 'it returns false'. Refute it at one input. -/
def fnExactValueOfSplitWrong : ChangeSpec := { name := "fnExactValueOfSplit", fn := fun _ => fun
  | [d1, d2] => { results := [.lit (.bool false)], args := [d1, d2] }
  | _ => none }
def FnExactValueOfSplitWrongFalsely : Prop := fnExactValueOfSplitRow.holds Try.pinned (OpenSpec.ofChange fnExactValueOfSplitWrong)

/-- 'laws.FnExactValueOfHeaps': WHATEVER THE INPUT: true; the input reads as it did. -/
def fnExactValueOfHeapsSpec : ChangeSpec := { name := "fnExactValueOfHeaps", fn := fun _ => fun
  | [d1, d2] => { results := [.lit (.bool true)], args := [d1, d2] }
  | _ => none }
def fnExactValueOfHeapsRow : OpenClaim := { program := "ytlaapnfinbancaa", sum := "083f5790ef512b1799fee57f7b6526fb3de5747d7a61173eff34595070dcb3f8", func := "loop.example/g01333/laws.FnExactValueOfHeaps", spec := "fnExactValueOfHeaps", unfollowed := true, recurses := true, apart := false }
def FnExactValueOfHeapsSaid : Prop := fnExactValueOfHeapsRow.holds Try.pinned (OpenSpec.ofChange fnExactValueOfHeapsSpec)

/-- ITS FALSE NEIGHBOUR: 'it returns false'. Refute it at one input. -/
def fnExactValueOfHeapsWrong : ChangeSpec := { name := "fnExactValueOfHeaps", fn := fun _ => fun
  | [d1, d2] => { results := [.lit (.bool false)], args := [d1, d2] }
  | _ => none }
def FnExactValueOfHeapsWrongFalsely : Prop := fnExactValueOfHeapsRow.holds Try.pinned (OpenSpec.ofChange fnExactValueOfHeapsWrong)

/-- 'laws.FnExactDoesFirstWin': WHATEVER THE INPUT: true; the input reads as it did. -/
def fnExactDoesFirstWinSpec : ChangeSpec := { name := "fnExactDoesFirstWin", fn := fun _ => fun
  | [d1, d2] => { results := [.lit (.bool true)], args := [d1, d2] }
  | _ => none }
def fnExactDoesFirstWinRow : OpenClaim := { program := "ytlaapnfinbancaa", sum := "083f5790ef512b1799fee57f7b6526fb3de5747d7a61173eff34595070dcb3f8", func := "loop.example/g01333/laws.FnExactDoesFirstWin", spec := "fnExactDoesFirstWin", unfollowed := true, recurses := true, apart := false }
def FnExactDoesFirstWinSaid : Prop := fnExactDoesFirstWinRow.holds Try.pinned (OpenSpec.ofChange fnExactDoesFirstWinSpec)

/-- ITS FALSE NEIGHBOUR: 'it returns false'. Refute it at one input. -/
def fnExactDoesFirstWinWrong : ChangeSpec := { name := "fnExactDoesFirstWin", fn := fun _ => fun
  | [d1, d2] => { results := [.lit (.bool false)], args := [d1, d2] }
  | _ => none }
def FnExactDoesFirstWinWrongFalsely : Prop := fnExactDoesFirstWinRow.holds Try.pinned (OpenSpec.ofChange fnExactDoesFirstWinWrong)

/-- 'laws.FnExactLosingHeaps': WHATEVER THE INPUT: true; the input reads as it did. -/
def fnExactLosingHeapsSpec : ChangeSpec := { name := "fnExactLosingHeaps", fn := fun _ => fun
  | [d1, d2] => { results := [.lit (.bool true)], args := [d1, d2] }
  | _ => none }
def fnExactLosingHeapsRow : OpenClaim := { program := "ytlaapnfinbancaa", sum := "083f5790ef512b1799fee57f7b6526fb3de5747d7a61173eff34595070dcb3f8", func := "loop.example/g01333/laws.FnExactLosingHeaps", spec := "fnExactLosingHeaps", unfollowed := true, recurses := true, apart := false }
def FnExactLosingHeapsSaid : Prop := fnExactLosingHeapsRow.holds Try.pinned (OpenSpec.ofChange fnExactLosingHeapsSpec)

/-- ITS FALSE NEIGHBOUR: 'it returns false'. Refute it at one input. -/
def fnExactLosingHeapsWrong : ChangeSpec := { name := "fnExactLosingHeaps", fn := fun _ => fun
  | [d1, d2] => { results := [.lit (.bool false)], args := [d1, d2] }
  | _ => none }
def FnExactLosingHeapsWrongFalsely : Prop := fnExactLosingHeapsRow.holds Try.pinned (OpenSpec.ofChange fnExactLosingHeapsWrong)

/- THE SECOND FORM. 'bulk': how many values and letters a reading holds, each counted each time it is reached (what is shared counts as often as it is met; a slice's spare places count too). A statement '..UptoSaid' is the law's where the arguments, and the package variables that the reading takes, are together of bulk at most 1048576: NARROWER than '..Said'. Prove '..Said' where nothing that the law and all that it calls make is longer than what came in: it says more and counts as full. Else prove '..UptoSaid'. A law counts once. -/
mutual
def uptoBulk {H : Type} : DataW H → Nat
  | .lit (.string bytes) => bytes.length + 1
  | .lit _ => 1
  | .nil => 1
  | .ptr d => uptoBulk d + 1
  | .slice elems spare => uptoBulkAll elems + uptoBulkAll spare + 1
  | .agg parts => uptoBulkAll parts + 1
  | .iface _ d => uptoBulk d + 1
  | .map entries => uptoBulkEntries entries + 1
  | .held _ => 1
def uptoBulkAll {H : Type} : List (DataW H) → Nat
  | [] => 0
  | d :: r => uptoBulk d + uptoBulkAll r
def uptoBulkEntries {H : Type} : List (Lit × DataW H) → Nat
  | [] => 0
  | x :: r => uptoBulkEntry x + uptoBulkEntries r
def uptoBulkEntry {H : Type} : Lit × DataW H → Nat
  | (.string bytes, d) => bytes.length + uptoBulk d + 1
  | (_, d) => uptoBulk d + 1
 end
def uptoSmall : (H : Type) → List (DataW H) → Bool := fun _ ds => decide (uptoBulkAll ds ≤ 1048576)
def OpenSpec.upto (s : _root_.Go.ChangeSpec) : _root_.Go.OpenSpec := { _root_.Go.OpenSpec.ofChange s with cond := some uptoSmall }

/-- 'laws.FnExactValueOfSplit', WHERE WHAT IT READS IS OF BULK AT MOST 1048576: true; the input reads as it did. -/
def fnExactValueOfSplitUptoRow : OpenClaim := { program := "ytlaapnfinbancaa", sum := "083f5790ef512b1799fee57f7b6526fb3de5747d7a61173eff34595070dcb3f8", func := "loop.example/g01333/laws.FnExactValueOfSplit", spec := "fnExactValueOfSplit", unfollowed := true, recurses := true, apart := false, narrowed := true }
def FnExactValueOfSplitUptoSaid : Prop := fnExactValueOfSplitUptoRow.holds Try.pinned (OpenSpec.upto fnExactValueOfSplitSpec)

/-- 'laws.FnExactValueOfHeaps', WHERE WHAT IT READS IS OF BULK AT MOST 1048576: true; the input reads as it did. -/
def fnExactValueOfHeapsUptoRow : OpenClaim := { program := "ytlaapnfinbancaa", sum := "083f5790ef512b1799fee57f7b6526fb3de5747d7a61173eff34595070dcb3f8", func := "loop.example/g01333/laws.FnExactValueOfHeaps", spec := "fnExactValueOfHeaps", unfollowed := true, recurses := true, apart := false, narrowed := true }
def FnExactValueOfHeapsUptoSaid : Prop := fnExactValueOfHeapsUptoRow.holds Try.pinned (OpenSpec.upto fnExactValueOfHeapsSpec)

/-- 'laws.FnExactDoesFirstWin', WHERE WHAT IT READS IS OF BULK AT MOST 1048576: true; the input reads as it did. -/
def fnExactDoesFirstWinUptoRow : OpenClaim := { program := "ytlaapnfinbancaa", sum := "083f5790ef512b1799fee57f7b6526fb3de5747d7a61173eff34595070dcb3f8", func := "loop.example/g01333/laws.FnExactDoesFirstWin", spec := "fnExactDoesFirstWin", unfollowed := true, recurses := true, apart := false, narrowed := true }
def FnExactDoesFirstWinUptoSaid : Prop := fnExactDoesFirstWinUptoRow.holds Try.pinned (OpenSpec.upto fnExactDoesFirstWinSpec)

/-- 'laws.FnExactLosingHeaps', WHERE WHAT IT READS IS OF BULK AT MOST 1048576: true; the input reads as it did. -/
def fnExactLosingHeapsUptoRow : OpenClaim := { program := "ytlaapnfinbancaa", sum := "083f5790ef512b1799fee57f7b6526fb3de5747d7a61173eff34595070dcb3f8", func := "loop.example/g01333/laws.FnExactLosingHeaps", spec := "fnExactLosingHeaps", unfollowed := true, recurses := true, apart := false, narrowed := true }
def FnExactLosingHeapsUptoSaid : Prop := fnExactLosingHeapsUptoRow.holds Try.pinned (OpenSpec.upto fnExactLosingHeapsSpec)

end Rows
end Go.Proofs.Ytlaapnfinbancaa
