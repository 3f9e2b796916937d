/-
  No cell of these rows narrows 'for every input' (looked for: loops, veiled, ifaces, maps, wideKeys, modest, calm, conditions, laid).
  DERIVED. THE GIVEN ROWS OF THIS SEAT. 6 by the template 'for every input the law returns true; each argument reads behind the call as it read before'; 0 by the template 'total and deterministic' (their statements: YtbfkbmkikgmmcaaTotals.lean).
  GIVEN WITH THE SEED: the statements are not yours to turn. If you find one false, say at which input.
  Laid BY PROGRAM, IN A SANDBOX (cutbox-rows.mjs): the forced cells as the released guide's own fill.sh prints them over the translation 39dded89eb07b84e… (all of the seat's roots in one cut). By AI agents, Wed Nov 11 2026. No macro, syntax, notation, axiom, sorry.
-/
import Derived.Test.YtbfkbmkikgmmcaaChecked
import GoSem.Claim
import GoSem.ClaimJoined
import GoSem.ClaimMapViews
import Derived.JoinedTies
import Derived.KernelRfl
namespace Go.Proofs.Ytbfkbmkikgmmcaa
/- THE CELL 'sum', in the pinned program and in every row, IS THE sha256 OF THE DUMP (.gsa) THAT YtbfkbmkikgmmcaaProg.lean LOADS. Nothing in Lean hashes anything: it is a label: what it is worth is what the hold of that sum in a sandbox is worth. -/
noncomputable def Try.pinned : Pinned := { name := "ytbfkbmkikgmmcaa", sum := "39dded89eb07b84e2af3326d7895a5f81f4ca316aeb2e5f3af69f18d28e269a9", checked := Try.checked }
namespace Rows
def none {H : Type} : Left H := { results := [], args := [] }

/-- 'laws.FnExactAreChips': WHATEVER THE INPUT: true; the input reads as it did. -/
def fnExactAreChipsSpec : ChangeSpec := { name := "fnExactAreChips", fn := fun _ => fun
  | [d] => { results := [.lit (.bool true)], args := [d] }
  | _ => none }
def fnExactAreChipsRow : OpenClaim := { program := "ytbfkbmkikgmmcaa", sum := "39dded89eb07b84e2af3326d7895a5f81f4ca316aeb2e5f3af69f18d28e269a9", func := "loop.example/g01333/laws.FnExactAreChips", spec := "fnExactAreChips", apart := false }
def FnExactAreChipsSaid : Prop := fnExactAreChipsRow.holds Try.pinned (OpenSpec.ofChange fnExactAreChipsSpec)

/-- ITS FALSE NEIGHBOUR: 'it returns false'. Refute it at one input. -/
def fnExactAreChipsWrong : ChangeSpec := { name := "fnExactAreChips", fn := fun _ => fun
  | [d] => { results := [.lit (.bool false)], args := [d] }
  | _ => none }
def FnExactAreChipsWrongFalsely : Prop := fnExactAreChipsRow.holds Try.pinned (OpenSpec.ofChange fnExactAreChipsWrong)

/-- 'laws.FnExactCanFire': WHATEVER THE INPUT: true; the input reads as it did. -/
def fnExactCanFireSpec : ChangeSpec := { name := "fnExactCanFire", fn := fun _ => fun
  | [d1, d2] => { results := [.lit (.bool true)], args := [d1, d2] }
  | _ => none }
def fnExactCanFireRow : OpenClaim := { program := "ytbfkbmkikgmmcaa", sum := "39dded89eb07b84e2af3326d7895a5f81f4ca316aeb2e5f3af69f18d28e269a9", func := "loop.example/g01333/laws.FnExactCanFire", spec := "fnExactCanFire", apart := false }
def FnExactCanFireSaid : Prop := fnExactCanFireRow.holds Try.pinned (OpenSpec.ofChange fnExactCanFireSpec)

/-- ITS FALSE NEIGHBOUR: 'it returns false'. Refute it at one input. -/
def fnExactCanFireWrong : ChangeSpec := { name := "fnExactCanFire", fn := fun _ => fun
  | [d1, d2] => { results := [.lit (.bool false)], args := [d1, d2] }
  | _ => none }
def FnExactCanFireWrongFalsely : Prop := fnExactCanFireRow.holds Try.pinned (OpenSpec.ofChange fnExactCanFireWrong)

/-- 'laws.FnExactClassOfChips': WHATEVER THE INPUT: true; the input reads as it did. -/
def fnExactClassOfChipsSpec : ChangeSpec := { name := "fnExactClassOfChips", fn := fun _ => fun
  | [d] => { results := [.lit (.bool true)], args := [d] }
  | _ => none }
def fnExactClassOfChipsRow : OpenClaim := { program := "ytbfkbmkikgmmcaa", sum := "39dded89eb07b84e2af3326d7895a5f81f4ca316aeb2e5f3af69f18d28e269a9", func := "loop.example/g01333/laws.FnExactClassOfChips", spec := "fnExactClassOfChips", apart := false }
def FnExactClassOfChipsSaid : Prop := fnExactClassOfChipsRow.holds Try.pinned (OpenSpec.ofChange fnExactClassOfChipsSpec)

/-- ITS FALSE NEIGHBOUR: 'it returns false'. Refute it at one input. -/
def fnExactClassOfChipsWrong : ChangeSpec := { name := "fnExactClassOfChips", fn := fun _ => fun
  | [d] => { results := [.lit (.bool false)], args := [d] }
  | _ => none }
def FnExactClassOfChipsWrongFalsely : Prop := fnExactClassOfChipsRow.holds Try.pinned (OpenSpec.ofChange fnExactClassOfChipsWrong)

/-- 'laws.FnExactAreSameClass': WHATEVER THE INPUT: true; the input reads as it did. -/
def fnExactAreSameClassSpec : ChangeSpec := { name := "fnExactAreSameClass", fn := fun _ => fun
  | [d1, d2] => { results := [.lit (.bool true)], args := [d1, d2] }
  | _ => none }
def fnExactAreSameClassRow : OpenClaim := { program := "ytbfkbmkikgmmcaa", sum := "39dded89eb07b84e2af3326d7895a5f81f4ca316aeb2e5f3af69f18d28e269a9", func := "loop.example/g01333/laws.FnExactAreSameClass", spec := "fnExactAreSameClass", apart := false }
def FnExactAreSameClassSaid : Prop := fnExactAreSameClassRow.holds Try.pinned (OpenSpec.ofChange fnExactAreSameClassSpec)

/-- ITS FALSE NEIGHBOUR: 'it returns false'. Refute it at one input. -/
def fnExactAreSameClassWrong : ChangeSpec := { name := "fnExactAreSameClass", fn := fun _ => fun
  | [d1, d2] => { results := [.lit (.bool false)], args := [d1, d2] }
  | _ => none }
def FnExactAreSameClassWrongFalsely : Prop := fnExactAreSameClassRow.holds Try.pinned (OpenSpec.ofChange fnExactAreSameClassWrong)

/-- 'laws.FnExactDoComeAgain': WHATEVER THE INPUT: true; the input reads as it did. -/
def fnExactDoComeAgainSpec : ChangeSpec := { name := "fnExactDoComeAgain", fn := fun _ => fun
  | [d] => { results := [.lit (.bool true)], args := [d] }
  | _ => none }
def fnExactDoComeAgainRow : OpenClaim := { program := "ytbfkbmkikgmmcaa", sum := "39dded89eb07b84e2af3326d7895a5f81f4ca316aeb2e5f3af69f18d28e269a9", func := "loop.example/g01333/laws.FnExactDoComeAgain", spec := "fnExactDoComeAgain", apart := false }
def FnExactDoComeAgainSaid : Prop := fnExactDoComeAgainRow.holds Try.pinned (OpenSpec.ofChange fnExactDoComeAgainSpec)

/-- ITS FALSE NEIGHBOUR: 'it returns false'. Refute it at one input. -/
def fnExactDoComeAgainWrong : ChangeSpec := { name := "fnExactDoComeAgain", fn := fun _ => fun
  | [d] => { results := [.lit (.bool false)], args := [d] }
  | _ => none }
def FnExactDoComeAgainWrongFalsely : Prop := fnExactDoComeAgainRow.holds Try.pinned (OpenSpec.ofChange fnExactDoComeAgainWrong)

/-- 'laws.FnExactMirrorChips': WHATEVER THE INPUT: true; the input reads as it did. -/
def fnExactMirrorChipsSpec : ChangeSpec := { name := "fnExactMirrorChips", fn := fun _ => fun
  | [d] => { results := [.lit (.bool true)], args := [d] }
  | _ => none }
def fnExactMirrorChipsRow : OpenClaim := { program := "ytbfkbmkikgmmcaa", sum := "39dded89eb07b84e2af3326d7895a5f81f4ca316aeb2e5f3af69f18d28e269a9", func := "loop.example/g01333/laws.FnExactMirrorChips", spec := "fnExactMirrorChips", apart := false }
def FnExactMirrorChipsSaid : Prop := fnExactMirrorChipsRow.holds Try.pinned (OpenSpec.ofChange fnExactMirrorChipsSpec)

/-- ITS FALSE NEIGHBOUR: 'it returns false'. Refute it at one input. -/
def fnExactMirrorChipsWrong : ChangeSpec := { name := "fnExactMirrorChips", fn := fun _ => fun
  | [d] => { results := [.lit (.bool false)], args := [d] }
  | _ => none }
def FnExactMirrorChipsWrongFalsely : Prop := fnExactMirrorChipsRow.holds Try.pinned (OpenSpec.ofChange fnExactMirrorChipsWrong)

/- THE SECOND FORM. 'bulk': how many values and letters a reading holds, each counted each time it is reached (what is shared counts as often as it is met; a slice's spare places count too). A statement '..UptoSaid' is the law's where the arguments, and the package variables that the reading takes, are together of bulk at most 1048576: NARROWER than '..Said'. Prove '..Said' where nothing that the law and all that it calls make is longer than what came in: it says more and counts as full. Else prove '..UptoSaid'. A law counts once. -/
mutual
def uptoBulk {H : Type} : DataW H → Nat
  | .lit (.string bytes) => bytes.length + 1
  | .lit _ => 1
  | .nil => 1
  | .ptr d => uptoBulk d + 1
  | .slice elems spare => uptoBulkAll elems + uptoBulkAll spare + 1
  | .agg parts => uptoBulkAll parts + 1
  | .iface _ d => uptoBulk d + 1
  | .map entries => uptoBulkEntries entries + 1
  | .held _ => 1
def uptoBulkAll {H : Type} : List (DataW H) → Nat
  | [] => 0
  | d :: r => uptoBulk d + uptoBulkAll r
def uptoBulkEntries {H : Type} : List (Lit × DataW H) → Nat
  | [] => 0
  | x :: r => uptoBulkEntry x + uptoBulkEntries r
def uptoBulkEntry {H : Type} : Lit × DataW H → Nat
  | (.string bytes, d) => bytes.length + uptoBulk d + 1
  | (_, d) => uptoBulk d + 1
 end
def uptoSmall : (H : Type) → List (DataW H) → Bool := fun _ ds => decide (uptoBulkAll ds ≤ 1048576)
def OpenSpec.upto (s : _root_.Go.ChangeSpec) : _root_.Go.OpenSpec := { _root_.Go.OpenSpec.ofChange s with cond := some uptoSmall }

/-- 'laws.FnExactAreChips', WHERE WHAT IT READS IS OF BULK AT MOST 1048576: true; the input reads as it did. -/
def fnExactAreChipsUptoRow : OpenClaim := { program := "ytbfkbmkikgmmcaa", sum := "39dded89eb07b84e2af3326d7895a5f81f4ca316aeb2e5f3af69f18d28e269a9", func := "loop.example/g01333/laws.FnExactAreChips", spec := "fnExactAreChips", apart := false, narrowed := true }
def FnExactAreChipsUptoSaid : Prop := fnExactAreChipsUptoRow.holds Try.pinned (OpenSpec.upto fnExactAreChipsSpec)

/-- 'laws.FnExactCanFire', WHERE WHAT IT READS IS OF BULK AT MOST 1048576: true; the input reads as it did. -/
def fnExactCanFireUptoRow : OpenClaim := { program := "ytbfkbmkikgmmcaa", sum := "39dded89eb07b84e2af3326d7895a5f81f4ca316aeb2e5f3af69f18d28e269a9", func := "loop.example/g01333/laws.FnExactCanFire", spec := "fnExactCanFire", apart := false, narrowed := true }
def FnExactCanFireUptoSaid : Prop := fnExactCanFireUptoRow.holds Try.pinned (OpenSpec.upto fnExactCanFireSpec)

/-- 'laws.FnExactClassOfChips', WHERE WHAT IT READS IS OF BULK AT MOST 1048576: true; the input reads as it did. -/
def fnExactClassOfChipsUptoRow : OpenClaim := { program := "ytbfkbmkikgmmcaa", sum := "39dded89eb07b84e2af3326d7895a5f81f4ca316aeb2e5f3af69f18d28e269a9", func := "loop.example/g01333/laws.FnExactClassOfChips", spec := "fnExactClassOfChips", apart := false, narrowed := true }
def FnExactClassOfChipsUptoSaid : Prop := fnExactClassOfChipsUptoRow.holds Try.pinned (OpenSpec.upto fnExactClassOfChipsSpec)

/-- 'laws.FnExactAreSameClass', WHERE WHAT IT READS IS OF BULK AT MOST 1048576: true; the input reads as it did. -/
def fnExactAreSameClassUptoRow : OpenClaim := { program := "ytbfkbmkikgmmcaa", sum := "39dded89eb07b84e2af3326d7895a5f81f4ca316aeb2e5f3af69f18d28e269a9", func := "loop.example/g01333/laws.FnExactAreSameClass", spec := "fnExactAreSameClass", apart := false, narrowed := true }
def FnExactAreSameClassUptoSaid : Prop := fnExactAreSameClassUptoRow.holds Try.pinned (OpenSpec.upto fnExactAreSameClassSpec)

/-- 'laws.FnExactDoComeAgain', WHERE WHAT IT READS IS OF BULK AT MOST 1048576: true; the input reads as it did. -/
def fnExactDoComeAgainUptoRow : OpenClaim := { program := "ytbfkbmkikgmmcaa", sum := "39dded89eb07b84e2af3326d7895a5f81f4ca316aeb2e5f3af69f18d28e269a9", func := "loop.example/g01333/laws.FnExactDoComeAgain", spec := "fnExactDoComeAgain", apart := false, narrowed := true }
def FnExactDoComeAgainUptoSaid : Prop := fnExactDoComeAgainUptoRow.holds Try.pinned (OpenSpec.upto fnExactDoComeAgainSpec)

/-- 'laws.FnExactMirrorChips', WHERE WHAT IT READS IS OF BULK AT MOST 1048576: true; the input reads as it did. -/
def fnExactMirrorChipsUptoRow : OpenClaim := { program := "ytbfkbmkikgmmcaa", sum := "39dded89eb07b84e2af3326d7895a5f81f4ca316aeb2e5f3af69f18d28e269a9", func := "loop.example/g01333/laws.FnExactMirrorChips", spec := "fnExactMirrorChips", apart := false, narrowed := true }
def FnExactMirrorChipsUptoSaid : Prop := fnExactMirrorChipsUptoRow.holds Try.pinned (OpenSpec.upto fnExactMirrorChipsSpec)

end Rows
end Go.Proofs.Ytbfkbmkikgmmcaa
