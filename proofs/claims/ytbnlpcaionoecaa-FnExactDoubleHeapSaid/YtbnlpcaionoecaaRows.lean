/-
  No cell of these rows narrows 'for every input' (looked for: loops, veiled, ifaces, maps, wideKeys, modest, calm, conditions, laid).
  DERIVED. THE GIVEN ROWS OF THIS SEAT. 2 by the template 'for every input the law returns true; each argument reads behind the call as it read before'; 0 by the template 'total and deterministic' (their statements: YtbnlpcaionoecaaTotals.lean).
  GIVEN WITH THE SEED: the statements are not yours to turn. If you find one false, say at which input.
  Laid BY PROGRAM, IN A SANDBOX (cutbox-rows.mjs): the forced cells as the released guide's own fill.sh prints them over the translation 398171ddf8a37936… (all of the seat's roots in one cut). By AI agents, Wed Nov 11 2026. No macro, syntax, notation, axiom, sorry.
-/
import Derived.Test.YtbnlpcaionoecaaChecked
import GoSem.Claim
import GoSem.ClaimJoined
import GoSem.ClaimMapViews
import Derived.JoinedTies
import Derived.KernelRfl
namespace Go.Proofs.Ytbnlpcaionoecaa
/- THE CELL 'sum', in the pinned program and in every row, IS THE sha256 OF THE DUMP (.gsa) THAT YtbnlpcaionoecaaProg.lean LOADS. Nothing in Lean hashes anything: it is a label: what it is worth is what the hold of that sum in a sandbox is worth. -/
noncomputable def Try.pinned : Pinned := { name := "ytbnlpcaionoecaa", sum := "398171ddf8a379366edb08de5cef11125dee70bfeec69410b82c34666d70be24", checked := Try.checked }
namespace Rows
def none {H : Type} : Left H := { results := [], args := [] }

/-- 'laws.FnExactDoubleHeap': WHATEVER THE INPUT: true; the input reads as it did. -/
def fnExactDoubleHeapSpec : ChangeSpec := { name := "fnExactDoubleHeap", fn := fun _ => fun
  | [d1, d2] => { results := [.lit (.bool true)], args := [d1, d2] }
  | _ => none }
def fnExactDoubleHeapRow : OpenClaim := { program := "ytbnlpcaionoecaa", sum := "398171ddf8a379366edb08de5cef11125dee70bfeec69410b82c34666d70be24", func := "loop.example/g01333/laws.FnExactDoubleHeap", spec := "fnExactDoubleHeap", apart := false }
def FnExactDoubleHeapSaid : Prop := fnExactDoubleHeapRow.holds Try.pinned (OpenSpec.ofChange fnExactDoubleHeapSpec)

/-- ITS FALSE NEIGHBOUR: 'it returns false'. Refute it at one input. -/
def fnExactDoubleHeapWrong : ChangeSpec := { name := "fnExactDoubleHeap", fn := fun _ => fun
  | [d1, d2] => { results := [.lit (.bool false)], args := [d1, d2] }
  | _ => none }
def FnExactDoubleHeapWrongFalsely : Prop := fnExactDoubleHeapRow.holds Try.pinned (OpenSpec.ofChange fnExactDoubleHeapWrong)

/-- 'laws.FnExactPlayDoublings': WHATEVER THE INPUT: true; the input reads as it did. -/
def fnExactPlayDoublingsSpec : ChangeSpec := { name := "fnExactPlayDoublings", fn := fun _ => fun
  | [d1, d2] => { results := [.lit (.bool true)], args := [d1, d2] }
  | _ => none }
def fnExactPlayDoublingsRow : OpenClaim := { program := "ytbnlpcaionoecaa", sum := "398171ddf8a379366edb08de5cef11125dee70bfeec69410b82c34666d70be24", func := "loop.example/g01333/laws.FnExactPlayDoublings", spec := "fnExactPlayDoublings", apart := false }
def FnExactPlayDoublingsSaid : Prop := fnExactPlayDoublingsRow.holds Try.pinned (OpenSpec.ofChange fnExactPlayDoublingsSpec)

/-- ITS FALSE NEIGHBOUR: 'it returns false'. Refute it at one input. -/
def fnExactPlayDoublingsWrong : ChangeSpec := { name := "fnExactPlayDoublings", fn := fun _ => fun
  | [d1, d2] => { results := [.lit (.bool false)], args := [d1, d2] }
  | _ => none }
def FnExactPlayDoublingsWrongFalsely : Prop := fnExactPlayDoublingsRow.holds Try.pinned (OpenSpec.ofChange fnExactPlayDoublingsWrong)

/- THE SECOND FORM. 'bulk': how many values and letters a reading holds, each counted each time it is reached (what is shared counts as often as it is met; a slice's spare places count too). A statement '..UptoSaid' is the law's where the arguments, and the package variables that the reading takes, are together of bulk at most 1048576: NARROWER than '..Said'. Prove '..Said' where nothing that the law and all that it calls make is longer than what came in: it says more and counts as full. Else prove '..UptoSaid'. A law counts once. -/
mutual
def uptoBulk {H : Type} : DataW H → Nat
  | .lit (.string bytes) => bytes.length + 1
  | .lit _ => 1
  | .nil => 1
  | .ptr d => uptoBulk d + 1
  | .slice elems spare => uptoBulkAll elems + uptoBulkAll spare + 1
  | .agg parts => uptoBulkAll parts + 1
  | .iface _ d => uptoBulk d + 1
  | .map entries => uptoBulkEntries entries + 1
  | .held _ => 1
def uptoBulkAll {H : Type} : List (DataW H) → Nat
  | [] => 0
  | d :: r => uptoBulk d + uptoBulkAll r
def uptoBulkEntries {H : Type} : List (Lit × DataW H) → Nat
  | [] => 0
  | x :: r => uptoBulkEntry x + uptoBulkEntries r
def uptoBulkEntry {H : Type} : Lit × DataW H → Nat
  | (.string bytes, d) => bytes.length + uptoBulk d + 1
  | (_, d) => uptoBulk d + 1
 end
def uptoSmall : (H : Type) → List (DataW H) → Bool := fun _ ds => decide (uptoBulkAll ds ≤ 1048576)
def OpenSpec.upto (s : _root_.Go.ChangeSpec) : _root_.Go.OpenSpec := { _root_.Go.OpenSpec.ofChange s with cond := some uptoSmall }

/-- 'laws.FnExactDoubleHeap', WHERE WHAT IT READS IS OF BULK AT MOST 1048576: true; the input reads as it did. -/
def fnExactDoubleHeapUptoRow : OpenClaim := { program := "ytbnlpcaionoecaa", sum := "398171ddf8a379366edb08de5cef11125dee70bfeec69410b82c34666d70be24", func := "loop.example/g01333/laws.FnExactDoubleHeap", spec := "fnExactDoubleHeap", apart := false, narrowed := true }
def FnExactDoubleHeapUptoSaid : Prop := fnExactDoubleHeapUptoRow.holds Try.pinned (OpenSpec.upto fnExactDoubleHeapSpec)

/-- 'laws.FnExactPlayDoublings', WHERE WHAT IT READS IS OF BULK AT MOST 1048576: true; the input reads as it did. -/
def fnExactPlayDoublingsUptoRow : OpenClaim := { program := "ytbnlpcaionoecaa", sum := "398171ddf8a379366edb08de5cef11125dee70bfeec69410b82c34666d70be24", func := "loop.example/g01333/laws.FnExactPlayDoublings", spec := "fnExactPlayDoublings", apart := false, narrowed := true }
def FnExactPlayDoublingsUptoSaid : Prop := fnExactPlayDoublingsUptoRow.holds Try.pinned (OpenSpec.upto fnExactPlayDoublingsSpec)

end Rows
end Go.Proofs.Ytbnlpcaionoecaa
