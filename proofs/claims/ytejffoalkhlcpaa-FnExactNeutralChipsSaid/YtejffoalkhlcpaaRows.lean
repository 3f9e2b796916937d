/-
  No cell of these rows narrows 'for every input' (looked for: loops, veiled, ifaces, maps, wideKeys, modest, calm, conditions, laid).
  DERIVED. THE GIVEN ROWS OF THIS SEAT. 2 by the template 'for every input the law returns true; each argument reads behind the call as it read before'; 0 by the template 'total and deterministic' (their statements: YtejffoalkhlcpaaTotals.lean).
  GIVEN WITH THE SEED: the statements are not yours to turn. If you find one false, say at which input.
  Laid BY PROGRAM, IN A SANDBOX (cutbox-rows.mjs): the forced cells as the released guide's own fill.sh prints them over the translation e6d1c535baea1c56… (all of the seat's roots in one cut). By AI agents, Wed Nov 11 2026. No macro, syntax, notation, axiom, sorry.
-/
import Derived.Test.YtejffoalkhlcpaaChecked
import GoSem.Claim
import GoSem.ClaimJoined
import GoSem.ClaimMapViews
import Derived.JoinedTies
import Derived.KernelRfl
namespace Go.Proofs.Ytejffoalkhlcpaa
/- THE CELL 'sum', in the pinned program and in every row, IS THE sha256 OF THE DUMP (.gsa) THAT YtejffoalkhlcpaaProg.lean LOADS. Nothing in Lean hashes anything: it is a label: what it is worth is what the hold of that sum in a sandbox is worth. -/
noncomputable def Try.pinned : Pinned := { name := "ytejffoalkhlcpaa", sum := "e6d1c535baea1c567f3bf8bb25f36279756be7ef2ea996518e4c43ed728b6257", checked := Try.checked }
namespace Rows
def none {H : Type} : Left H := { results := [], args := [] }

/-- 'laws.FnExactComingChips': WHATEVER THE INPUT: true; the input reads as it did. -/
def fnExactComingChipsSpec : ChangeSpec := { name := "fnExactComingChips", fn := fun _ => fun
  | [d1, d2] => { results := [.lit (.bool true)], args := [d1, d2] }
  | _ => none }
def fnExactComingChipsRow : OpenClaim := { program := "ytejffoalkhlcpaa", sum := "e6d1c535baea1c567f3bf8bb25f36279756be7ef2ea996518e4c43ed728b6257", func := "loop.example/g01333/laws.FnExactComingChips", spec := "fnExactComingChips", apart := false }
def FnExactComingChipsSaid : Prop := fnExactComingChipsRow.holds Try.pinned (OpenSpec.ofChange fnExactComingChipsSpec)

/-- ITS FALSE NEIGHBOUR: 'it returns false'. Refute it at one input. -/
def fnExactComingChipsWrong : ChangeSpec := { name := "fnExactComingChips", fn := fun _ => fun
  | [d1, d2] => { results := [.lit (.bool false)], args := [d1, d2] }
  | _ => none }
def FnExactComingChipsWrongFalsely : Prop := fnExactComingChipsRow.holds Try.pinned (OpenSpec.ofChange fnExactComingChipsWrong)

/-- 'laws.FnExactNeutralChips': WHATEVER THE INPUT: true; the input reads as it did. -/
def fnExactNeutralChipsSpec : ChangeSpec := { name := "fnExactNeutralChips", fn := fun _ => fun
  | [d] => { results := [.lit (.bool true)], args := [d] }
  | _ => none }
def fnExactNeutralChipsRow : OpenClaim := { program := "ytejffoalkhlcpaa", sum := "e6d1c535baea1c567f3bf8bb25f36279756be7ef2ea996518e4c43ed728b6257", func := "loop.example/g01333/laws.FnExactNeutralChips", spec := "fnExactNeutralChips", apart := false }
def FnExactNeutralChipsSaid : Prop := fnExactNeutralChipsRow.holds Try.pinned (OpenSpec.ofChange fnExactNeutralChipsSpec)

/-- ITS FALSE NEIGHBOUR: 'it returns false'. Refute it at one input. -/
def fnExactNeutralChipsWrong : ChangeSpec := { name := "fnExactNeutralChips", fn := fun _ => fun
  | [d] => { results := [.lit (.bool false)], args := [d] }
  | _ => none }
def FnExactNeutralChipsWrongFalsely : Prop := fnExactNeutralChipsRow.holds Try.pinned (OpenSpec.ofChange fnExactNeutralChipsWrong)

/- THE SECOND FORM. 'bulk': how many values and letters a reading holds, each counted each time it is reached (what is shared counts as often as it is met; a slice's spare places count too). A statement '..UptoSaid' is the law's where the arguments, and the package variables that the reading takes, are together of bulk at most 1048576: NARROWER than '..Said'. Prove '..Said' where nothing that the law and all that it calls make is longer than what came in: it says more and counts as full. Else prove '..UptoSaid'. A law counts once. -/
mutual
def uptoBulk {H : Type} : DataW H → Nat
  | .lit (.string bytes) => bytes.length + 1
  | .lit _ => 1
  | .nil => 1
  | .ptr d => uptoBulk d + 1
  | .slice elems spare => uptoBulkAll elems + uptoBulkAll spare + 1
  | .agg parts => uptoBulkAll parts + 1
  | .iface _ d => uptoBulk d + 1
  | .map entries => uptoBulkEntries entries + 1
  | .held _ => 1
def uptoBulkAll {H : Type} : List (DataW H) → Nat
  | [] => 0
  | d :: r => uptoBulk d + uptoBulkAll r
def uptoBulkEntries {H : Type} : List (Lit × DataW H) → Nat
  | [] => 0
  | x :: r => uptoBulkEntry x + uptoBulkEntries r
def uptoBulkEntry {H : Type} : Lit × DataW H → Nat
  | (.string bytes, d) => bytes.length + uptoBulk d + 1
  | (_, d) => uptoBulk d + 1
 end
def uptoSmall : (H : Type) → List (DataW H) → Bool := fun _ ds => decide (uptoBulkAll ds ≤ 1048576)
def OpenSpec.upto (s : _root_.Go.ChangeSpec) : _root_.Go.OpenSpec := { _root_.Go.OpenSpec.ofChange s with cond := some uptoSmall }

/-- 'laws.FnExactComingChips', WHERE WHAT IT READS IS OF BULK AT MOST 1048576: true; the input reads as it did. -/
def fnExactComingChipsUptoRow : OpenClaim := { program := "ytejffoalkhlcpaa", sum := "e6d1c535baea1c567f3bf8bb25f36279756be7ef2ea996518e4c43ed728b6257", func := "loop.example/g01333/laws.FnExactComingChips", spec := "fnExactComingChips", apart := false, narrowed := true }
def FnExactComingChipsUptoSaid : Prop := fnExactComingChipsUptoRow.holds Try.pinned (OpenSpec.upto fnExactComingChipsSpec)

/-- 'laws.FnExactNeutralChips', WHERE WHAT IT READS IS OF BULK AT MOST 1048576: true; the input reads as it did. -/
def fnExactNeutralChipsUptoRow : OpenClaim := { program := "ytejffoalkhlcpaa", sum := "e6d1c535baea1c567f3bf8bb25f36279756be7ef2ea996518e4c43ed728b6257", func := "loop.example/g01333/laws.FnExactNeutralChips", spec := "fnExactNeutralChips", apart := false, narrowed := true }
def FnExactNeutralChipsUptoSaid : Prop := fnExactNeutralChipsUptoRow.holds Try.pinned (OpenSpec.upto fnExactNeutralChipsSpec)

end Rows
end Go.Proofs.Ytejffoalkhlcpaa
