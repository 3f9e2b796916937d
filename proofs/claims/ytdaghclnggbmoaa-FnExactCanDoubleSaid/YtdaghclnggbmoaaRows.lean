/-
  No cell of these rows narrows 'for every input' (looked for: loops, veiled, ifaces, maps, wideKeys, modest, calm, conditions, laid).
  DERIVED. THE GIVEN ROWS OF THIS SEAT. 4 by the template 'for every input the law returns true; each argument reads behind the call as it read before'; 0 by the template 'total and deterministic' (their statements: YtdaghclnggbmoaaTotals.lean).
  GIVEN WITH THE SEED: the statements are not yours to turn. If you find one false, say at which input.
  Laid BY PROGRAM, IN A SANDBOX (cutbox-rows.mjs): the forced cells as the released guide's own fill.sh prints them over the translation 8921da09709307fb… (all of the seat's roots in one cut). By AI agents, Wed Nov 11 2026. No macro, syntax, notation, axiom, sorry.
-/
import Derived.Test.YtdaghclnggbmoaaChecked
import GoSem.Claim
import GoSem.ClaimJoined
import GoSem.ClaimMapViews
import Derived.JoinedTies
import Derived.KernelRfl
namespace Go.Proofs.Ytdaghclnggbmoaa
/- THE CELL 'sum', in the pinned program and in every row, IS THE sha256 OF THE DUMP (.gsa) THAT YtdaghclnggbmoaaProg.lean LOADS. Nothing in Lean hashes anything: it is a label: what it is worth is what the hold of that sum in a sandbox is worth. -/
noncomputable def Try.pinned : Pinned := { name := "ytdaghclnggbmoaa", sum := "8921da09709307fbadd23a03ff07c8f60812cb8b5587f2c6ef3462f1a0e87a93", checked := Try.checked }
namespace Rows
def none {H : Type} : Left H := { results := [], args := [] }

/-- 'laws.FnExactCanDouble': WHATEVER THE INPUT: true; the input reads as it did. -/
def fnExactCanDoubleSpec : ChangeSpec := { name := "fnExactCanDouble", fn := fun _ => fun
  | [d1, d2] => { results := [.lit (.bool true)], args := [d1, d2] }
  | _ => none }
def fnExactCanDoubleRow : OpenClaim := { program := "ytdaghclnggbmoaa", sum := "8921da09709307fbadd23a03ff07c8f60812cb8b5587f2c6ef3462f1a0e87a93", func := "loop.example/g01333/laws.FnExactCanDouble", spec := "fnExactCanDouble", apart := false }
def FnExactCanDoubleSaid : Prop := fnExactCanDoubleRow.holds Try.pinned (OpenSpec.ofChange fnExactCanDoubleSpec)

/-- ITS FALSE NEIGHBOUR: 'it returns false'. Refute it at one input. -/
def fnExactCanDoubleWrong : ChangeSpec := { name := "fnExactCanDouble", fn := fun _ => fun
  | [d1, d2] => { results := [.lit (.bool false)], args := [d1, d2] }
  | _ => none }
def FnExactCanDoubleWrongFalsely : Prop := fnExactCanDoubleRow.holds Try.pinned (OpenSpec.ofChange fnExactCanDoubleWrong)

/-- 'laws.FnExactCostOfMoves': WHATEVER THE INPUT: true; the input reads as it did. -/
def fnExactCostOfMovesSpec : ChangeSpec := { name := "fnExactCostOfMoves", fn := fun _ => fun
  | [d] => { results := [.lit (.bool true)], args := [d] }
  | _ => none }
def fnExactCostOfMovesRow : OpenClaim := { program := "ytdaghclnggbmoaa", sum := "8921da09709307fbadd23a03ff07c8f60812cb8b5587f2c6ef3462f1a0e87a93", func := "loop.example/g01333/laws.FnExactCostOfMoves", spec := "fnExactCostOfMoves", apart := false }
def FnExactCostOfMovesSaid : Prop := fnExactCostOfMovesRow.holds Try.pinned (OpenSpec.ofChange fnExactCostOfMovesSpec)

/-- ITS FALSE NEIGHBOUR: 'it returns false'. Refute it at one input. -/
def fnExactCostOfMovesWrong : ChangeSpec := { name := "fnExactCostOfMoves", fn := fun _ => fun
  | [d] => { results := [.lit (.bool false)], args := [d] }
  | _ => none }
def FnExactCostOfMovesWrongFalsely : Prop := fnExactCostOfMovesRow.holds Try.pinned (OpenSpec.ofChange fnExactCostOfMovesWrong)

/-- 'laws.FnExactMakeMove': WHATEVER THE INPUT: true; the input reads as it did. -/
def fnExactMakeMoveSpec : ChangeSpec := { name := "fnExactMakeMove", fn := fun _ => fun
  | [d1, d2] => { results := [.lit (.bool true)], args := [d1, d2] }
  | _ => none }
def fnExactMakeMoveRow : OpenClaim := { program := "ytdaghclnggbmoaa", sum := "8921da09709307fbadd23a03ff07c8f60812cb8b5587f2c6ef3462f1a0e87a93", func := "loop.example/g01333/laws.FnExactMakeMove", spec := "fnExactMakeMove", apart := false }
def FnExactMakeMoveSaid : Prop := fnExactMakeMoveRow.holds Try.pinned (OpenSpec.ofChange fnExactMakeMoveSpec)

/-- ITS FALSE NEIGHBOUR: 'it returns false'. Refute it at one input. -/
def fnExactMakeMoveWrong : ChangeSpec := { name := "fnExactMakeMove", fn := fun _ => fun
  | [d1, d2] => { results := [.lit (.bool false)], args := [d1, d2] }
  | _ => none }
def FnExactMakeMoveWrongFalsely : Prop := fnExactMakeMoveRow.holds Try.pinned (OpenSpec.ofChange fnExactMakeMoveWrong)

/-- 'laws.FnExactPlayMoves': WHATEVER THE INPUT: true; the input reads as it did. -/
def fnExactPlayMovesSpec : ChangeSpec := { name := "fnExactPlayMoves", fn := fun _ => fun
  | [d1, d2] => { results := [.lit (.bool true)], args := [d1, d2] }
  | _ => none }
def fnExactPlayMovesRow : OpenClaim := { program := "ytdaghclnggbmoaa", sum := "8921da09709307fbadd23a03ff07c8f60812cb8b5587f2c6ef3462f1a0e87a93", func := "loop.example/g01333/laws.FnExactPlayMoves", spec := "fnExactPlayMoves", apart := false }
def FnExactPlayMovesSaid : Prop := fnExactPlayMovesRow.holds Try.pinned (OpenSpec.ofChange fnExactPlayMovesSpec)

/-- ITS FALSE NEIGHBOUR: 'it returns false'. Refute it at one input. -/
def fnExactPlayMovesWrong : ChangeSpec := { name := "fnExactPlayMoves", fn := fun _ => fun
  | [d1, d2] => { results := [.lit (.bool false)], args := [d1, d2] }
  | _ => none }
def FnExactPlayMovesWrongFalsely : Prop := fnExactPlayMovesRow.holds Try.pinned (OpenSpec.ofChange fnExactPlayMovesWrong)

/- THE SECOND FORM. 'bulk': how many values and letters a reading holds, each counted each time it is reached (what is shared counts as often as it is met; a slice's spare places count too). A statement '..UptoSaid' is the law's where the arguments, and the package variables that the reading takes, are together of bulk at most 1048576: NARROWER than '..Said'. Prove '..Said' where nothing that the law and all that it calls make is longer than what came in: it says more and counts as full. Else prove '..UptoSaid'. A law counts once. -/
mutual
def uptoBulk {H : Type} : DataW H → Nat
  | .lit (.string bytes) => bytes.length + 1
  | .lit _ => 1
  | .nil => 1
  | .ptr d => uptoBulk d + 1
  | .slice elems spare => uptoBulkAll elems + uptoBulkAll spare + 1
  | .agg parts => uptoBulkAll parts + 1
  | .iface _ d => uptoBulk d + 1
  | .map entries => uptoBulkEntries entries + 1
  | .held _ => 1
def uptoBulkAll {H : Type} : List (DataW H) → Nat
  | [] => 0
  | d :: r => uptoBulk d + uptoBulkAll r
def uptoBulkEntries {H : Type} : List (Lit × DataW H) → Nat
  | [] => 0
  | x :: r => uptoBulkEntry x + uptoBulkEntries r
def uptoBulkEntry {H : Type} : Lit × DataW H → Nat
  | (.string bytes, d) => bytes.length + uptoBulk d + 1
  | (_, d) => uptoBulk d + 1
 end
def uptoSmall : (H : Type) → List (DataW H) → Bool := fun _ ds => decide (uptoBulkAll ds ≤ 1048576)
def OpenSpec.upto (s : _root_.Go.ChangeSpec) : _root_.Go.OpenSpec := { _root_.Go.OpenSpec.ofChange s with cond := some uptoSmall }

/-- 'laws.FnExactCanDouble', WHERE WHAT IT READS IS OF BULK AT MOST 1048576: true; the input reads as it did. -/
def fnExactCanDoubleUptoRow : OpenClaim := { program := "ytdaghclnggbmoaa", sum := "8921da09709307fbadd23a03ff07c8f60812cb8b5587f2c6ef3462f1a0e87a93", func := "loop.example/g01333/laws.FnExactCanDouble", spec := "fnExactCanDouble", apart := false, narrowed := true }
def FnExactCanDoubleUptoSaid : Prop := fnExactCanDoubleUptoRow.holds Try.pinned (OpenSpec.upto fnExactCanDoubleSpec)

/-- 'laws.FnExactCostOfMoves', WHERE WHAT IT READS IS OF BULK AT MOST 1048576: true; the input reads as it did. -/
def fnExactCostOfMovesUptoRow : OpenClaim := { program := "ytdaghclnggbmoaa", sum := "8921da09709307fbadd23a03ff07c8f60812cb8b5587f2c6ef3462f1a0e87a93", func := "loop.example/g01333/laws.FnExactCostOfMoves", spec := "fnExactCostOfMoves", apart := false, narrowed := true }
def FnExactCostOfMovesUptoSaid : Prop := fnExactCostOfMovesUptoRow.holds Try.pinned (OpenSpec.upto fnExactCostOfMovesSpec)

/-- 'laws.FnExactMakeMove', WHERE WHAT IT READS IS OF BULK AT MOST 1048576: true; the input reads as it did. -/
def fnExactMakeMoveUptoRow : OpenClaim := { program := "ytdaghclnggbmoaa", sum := "8921da09709307fbadd23a03ff07c8f60812cb8b5587f2c6ef3462f1a0e87a93", func := "loop.example/g01333/laws.FnExactMakeMove", spec := "fnExactMakeMove", apart := false, narrowed := true }
def FnExactMakeMoveUptoSaid : Prop := fnExactMakeMoveUptoRow.holds Try.pinned (OpenSpec.upto fnExactMakeMoveSpec)

/-- 'laws.FnExactPlayMoves', WHERE WHAT IT READS IS OF BULK AT MOST 1048576: true; the input reads as it did. -/
def fnExactPlayMovesUptoRow : OpenClaim := { program := "ytdaghclnggbmoaa", sum := "8921da09709307fbadd23a03ff07c8f60812cb8b5587f2c6ef3462f1a0e87a93", func := "loop.example/g01333/laws.FnExactPlayMoves", spec := "fnExactPlayMoves", apart := false, narrowed := true }
def FnExactPlayMovesUptoSaid : Prop := fnExactPlayMovesUptoRow.holds Try.pinned (OpenSpec.upto fnExactPlayMovesSpec)

end Rows
end Go.Proofs.Ytdaghclnggbmoaa
