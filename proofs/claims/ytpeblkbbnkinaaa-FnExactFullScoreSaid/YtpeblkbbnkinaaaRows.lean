/-
  No cell of these rows narrows 'for every input' (looked for: loops, veiled, ifaces, maps, wideKeys, modest, calm, conditions, laid).
  DERIVED. THE GIVEN ROWS OF THIS SEAT. 5 by the template 'for every input the law returns true; each argument reads behind the call as it read before'; 0 by the template 'total and deterministic' (their statements: YtpeblkbbnkinaaaTotals.lean).
  GIVEN WITH THE SEED: the statements are not yours to turn. If you find one false, say at which input.
  Laid BY PROGRAM, IN A SANDBOX (cutbox-rows.mjs): the forced cells as the released guide's own fill.sh prints them over the translation a58f8e955d9af55f… (all of the seat's roots in one cut). By AI agents, Wed Nov 11 2026. No macro, syntax, notation, axiom, sorry.
-/
import Derived.Test.YtpeblkbbnkinaaaChecked
import GoSem.Claim
import GoSem.ClaimJoined
import GoSem.ClaimMapViews
import Derived.JoinedTies
import Derived.KernelRfl
namespace Go.Proofs.Ytpeblkbbnkinaaa
/- THE CELL 'sum', in the pinned program and in every row, IS THE sha256 OF THE DUMP (.gsa) THAT YtpeblkbbnkinaaaProg.lean LOADS. Nothing in Lean hashes anything: it is a label: what it is worth is what the hold of that sum in a sandbox is worth. -/
noncomputable def Try.pinned : Pinned := { name := "ytpeblkbbnkinaaa", sum := "a58f8e955d9af55f7512aa8870bd760fbc9f98831e60a412f41aa2a36f30873a", checked := Try.checked }
namespace Rows
def none {H : Type} : Left H := { results := [], args := [] }

/-- 'laws.FnExactAreSplitHeaps': WHATEVER THE INPUT: true; the input reads as it did. -/
def fnExactAreSplitHeapsSpec : ChangeSpec := { name := "fnExactAreSplitHeaps", fn := fun _ => fun
  | [d] => { results := [.lit (.bool true)], args := [d] }
  | _ => none }
def fnExactAreSplitHeapsRow : OpenClaim := { program := "ytpeblkbbnkinaaa", sum := "a58f8e955d9af55f7512aa8870bd760fbc9f98831e60a412f41aa2a36f30873a", func := "loop.example/g01333/laws.FnExactAreSplitHeaps", spec := "fnExactAreSplitHeaps", apart := false }
def FnExactAreSplitHeapsSaid : Prop := fnExactAreSplitHeapsRow.holds Try.pinned (OpenSpec.ofChange fnExactAreSplitHeapsSpec)

/-- ITS FALSE NEIGHBOUR: 'it returns false'. Refute it at one input. -/
def fnExactAreSplitHeapsWrong : ChangeSpec := { name := "fnExactAreSplitHeaps", fn := fun _ => fun
  | [d] => { results := [.lit (.bool false)], args := [d] }
  | _ => none }
def FnExactAreSplitHeapsWrongFalsely : Prop := fnExactAreSplitHeapsRow.holds Try.pinned (OpenSpec.ofChange fnExactAreSplitHeapsWrong)

/-- 'laws.FnExactFullScore': WHATEVER THE INPUT: true; the input reads as it did. -/
def fnExactFullScoreSpec : ChangeSpec := { name := "fnExactFullScore", fn := fun _ => fun
  | [d] => { results := [.lit (.bool true)], args := [d] }
  | _ => none }
def fnExactFullScoreRow : OpenClaim := { program := "ytpeblkbbnkinaaa", sum := "a58f8e955d9af55f7512aa8870bd760fbc9f98831e60a412f41aa2a36f30873a", func := "loop.example/g01333/laws.FnExactFullScore", spec := "fnExactFullScore", apart := false }
def FnExactFullScoreSaid : Prop := fnExactFullScoreRow.holds Try.pinned (OpenSpec.ofChange fnExactFullScoreSpec)

/-- ITS FALSE NEIGHBOUR: 'it returns false'. Refute it at one input. -/
def fnExactFullScoreWrong : ChangeSpec := { name := "fnExactFullScore", fn := fun _ => fun
  | [d] => { results := [.lit (.bool false)], args := [d] }
  | _ => none }
def FnExactFullScoreWrongFalsely : Prop := fnExactFullScoreRow.holds Try.pinned (OpenSpec.ofChange fnExactFullScoreWrong)

/-- 'laws.FnExactMakeSplit': WHATEVER THE INPUT: true; the input reads as it did. -/
def fnExactMakeSplitSpec : ChangeSpec := { name := "fnExactMakeSplit", fn := fun _ => fun
  | [d1, d2, d3] => { results := [.lit (.bool true)], args := [d1, d2, d3] }
  | _ => none }
def fnExactMakeSplitRow : OpenClaim := { program := "ytpeblkbbnkinaaa", sum := "a58f8e955d9af55f7512aa8870bd760fbc9f98831e60a412f41aa2a36f30873a", func := "loop.example/g01333/laws.FnExactMakeSplit", spec := "fnExactMakeSplit", apart := false }
def FnExactMakeSplitSaid : Prop := fnExactMakeSplitRow.holds Try.pinned (OpenSpec.ofChange fnExactMakeSplitSpec)

/-- ITS FALSE NEIGHBOUR: 'it returns false'. Refute it at one input. -/
def fnExactMakeSplitWrong : ChangeSpec := { name := "fnExactMakeSplit", fn := fun _ => fun
  | [d1, d2, d3] => { results := [.lit (.bool false)], args := [d1, d2, d3] }
  | _ => none }
def FnExactMakeSplitWrongFalsely : Prop := fnExactMakeSplitRow.holds Try.pinned (OpenSpec.ofChange fnExactMakeSplitWrong)

/-- 'laws.FnExactPlaySplits': WHATEVER THE INPUT: true; the input reads as it did. -/
def fnExactPlaySplitsSpec : ChangeSpec := { name := "fnExactPlaySplits", fn := fun _ => fun
  | [d1, d2, d3] => { results := [.lit (.bool true)], args := [d1, d2, d3] }
  | _ => none }
def fnExactPlaySplitsRow : OpenClaim := { program := "ytpeblkbbnkinaaa", sum := "a58f8e955d9af55f7512aa8870bd760fbc9f98831e60a412f41aa2a36f30873a", func := "loop.example/g01333/laws.FnExactPlaySplits", spec := "fnExactPlaySplits", apart := false }
def FnExactPlaySplitsSaid : Prop := fnExactPlaySplitsRow.holds Try.pinned (OpenSpec.ofChange fnExactPlaySplitsSpec)

/-- ITS FALSE NEIGHBOUR: 'it returns false'. Refute it at one input. -/
def fnExactPlaySplitsWrong : ChangeSpec := { name := "fnExactPlaySplits", fn := fun _ => fun
  | [d1, d2, d3] => { results := [.lit (.bool false)], args := [d1, d2, d3] }
  | _ => none }
def FnExactPlaySplitsWrongFalsely : Prop := fnExactPlaySplitsRow.holds Try.pinned (OpenSpec.ofChange fnExactPlaySplitsWrong)

/-- 'laws.FnExactScoreOfSplits': WHATEVER THE INPUT: true; the input reads as it did. -/
def fnExactScoreOfSplitsSpec : ChangeSpec := { name := "fnExactScoreOfSplits", fn := fun _ => fun
  | [d1, d2] => { results := [.lit (.bool true)], args := [d1, d2] }
  | _ => none }
def fnExactScoreOfSplitsRow : OpenClaim := { program := "ytpeblkbbnkinaaa", sum := "a58f8e955d9af55f7512aa8870bd760fbc9f98831e60a412f41aa2a36f30873a", func := "loop.example/g01333/laws.FnExactScoreOfSplits", spec := "fnExactScoreOfSplits", apart := false }
def FnExactScoreOfSplitsSaid : Prop := fnExactScoreOfSplitsRow.holds Try.pinned (OpenSpec.ofChange fnExactScoreOfSplitsSpec)

/-- ITS FALSE NEIGHBOUR: 'it returns false'. Refute it at one input. -/
def fnExactScoreOfSplitsWrong : ChangeSpec := { name := "fnExactScoreOfSplits", fn := fun _ => fun
  | [d1, d2] => { results := [.lit (.bool false)], args := [d1, d2] }
  | _ => none }
def FnExactScoreOfSplitsWrongFalsely : Prop := fnExactScoreOfSplitsRow.holds Try.pinned (OpenSpec.ofChange fnExactScoreOfSplitsWrong)

/- THE SECOND FORM. 'bulk': how many values and letters a reading holds, each counted each time it is reached (what is shared counts as often as it is met; a slice's spare places count too). A statement '..UptoSaid' is the law's where the arguments, and the package variables that the reading takes, are together of bulk at most 1048576: NARROWER than '..Said'. Prove '..Said' where nothing that the law and all that it calls make is longer than what came in: it says more and counts as full. Else prove '..UptoSaid'. A law counts once. -/
mutual
def uptoBulk {H : Type} : DataW H → Nat
  | .lit (.string bytes) => bytes.length + 1
  | .lit _ => 1
  | .nil => 1
  | .ptr d => uptoBulk d + 1
  | .slice elems spare => uptoBulkAll elems + uptoBulkAll spare + 1
  | .agg parts => uptoBulkAll parts + 1
  | .iface _ d => uptoBulk d + 1
  | .map entries => uptoBulkEntries entries + 1
  | .held _ => 1
def uptoBulkAll {H : Type} : List (DataW H) → Nat
  | [] => 0
  | d :: r => uptoBulk d + uptoBulkAll r
def uptoBulkEntries {H : Type} : List (Lit × DataW H) → Nat
  | [] => 0
  | x :: r => uptoBulkEntry x + uptoBulkEntries r
def uptoBulkEntry {H : Type} : Lit × DataW H → Nat
  | (.string bytes, d) => bytes.length + uptoBulk d + 1
  | (_, d) => uptoBulk d + 1
 end
def uptoSmall : (H : Type) → List (DataW H) → Bool := fun _ ds => decide (uptoBulkAll ds ≤ 1048576)
def OpenSpec.upto (s : _root_.Go.ChangeSpec) : _root_.Go.OpenSpec := { _root_.Go.OpenSpec.ofChange s with cond := some uptoSmall }

/-- 'laws.FnExactAreSplitHeaps', WHERE WHAT IT READS IS OF BULK AT MOST 1048576: true; the input reads as it did. -/
def fnExactAreSplitHeapsUptoRow : OpenClaim := { program := "ytpeblkbbnkinaaa", sum := "a58f8e955d9af55f7512aa8870bd760fbc9f98831e60a412f41aa2a36f30873a", func := "loop.example/g01333/laws.FnExactAreSplitHeaps", spec := "fnExactAreSplitHeaps", apart := false, narrowed := true }
def FnExactAreSplitHeapsUptoSaid : Prop := fnExactAreSplitHeapsUptoRow.holds Try.pinned (OpenSpec.upto fnExactAreSplitHeapsSpec)

/-- 'laws.FnExactFullScore', WHERE WHAT IT READS IS OF BULK AT MOST 1048576: true; the input reads as it did. -/
def fnExactFullScoreUptoRow : OpenClaim := { program := "ytpeblkbbnkinaaa", sum := "a58f8e955d9af55f7512aa8870bd760fbc9f98831e60a412f41aa2a36f30873a", func := "loop.example/g01333/laws.FnExactFullScore", spec := "fnExactFullScore", apart := false, narrowed := true }
def FnExactFullScoreUptoSaid : Prop := fnExactFullScoreUptoRow.holds Try.pinned (OpenSpec.upto fnExactFullScoreSpec)

/-- 'laws.FnExactMakeSplit', WHERE WHAT IT READS IS OF BULK AT MOST 1048576: true; the input reads as it did. -/
def fnExactMakeSplitUptoRow : OpenClaim := { program := "ytpeblkbbnkinaaa", sum := "a58f8e955d9af55f7512aa8870bd760fbc9f98831e60a412f41aa2a36f30873a", func := "loop.example/g01333/laws.FnExactMakeSplit", spec := "fnExactMakeSplit", apart := false, narrowed := true }
def FnExactMakeSplitUptoSaid : Prop := fnExactMakeSplitUptoRow.holds Try.pinned (OpenSpec.upto fnExactMakeSplitSpec)

/-- 'laws.FnExactPlaySplits', WHERE WHAT IT READS IS OF BULK AT MOST 1048576: true; the input reads as it did. -/
def fnExactPlaySplitsUptoRow : OpenClaim := { program := "ytpeblkbbnkinaaa", sum := "a58f8e955d9af55f7512aa8870bd760fbc9f98831e60a412f41aa2a36f30873a", func := "loop.example/g01333/laws.FnExactPlaySplits", spec := "fnExactPlaySplits", apart := false, narrowed := true }
def FnExactPlaySplitsUptoSaid : Prop := fnExactPlaySplitsUptoRow.holds Try.pinned (OpenSpec.upto fnExactPlaySplitsSpec)

/-- 'laws.FnExactScoreOfSplits', WHERE WHAT IT READS IS OF BULK AT MOST 1048576: true; the input reads as it did. -/
def fnExactScoreOfSplitsUptoRow : OpenClaim := { program := "ytpeblkbbnkinaaa", sum := "a58f8e955d9af55f7512aa8870bd760fbc9f98831e60a412f41aa2a36f30873a", func := "loop.example/g01333/laws.FnExactScoreOfSplits", spec := "fnExactScoreOfSplits", apart := false, narrowed := true }
def FnExactScoreOfSplitsUptoSaid : Prop := fnExactScoreOfSplitsUptoRow.holds Try.pinned (OpenSpec.upto fnExactScoreOfSplitsSpec)

end Rows
end Go.Proofs.Ytpeblkbbnkinaaa
