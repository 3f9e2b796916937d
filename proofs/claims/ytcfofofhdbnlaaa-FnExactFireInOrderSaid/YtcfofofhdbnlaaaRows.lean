/-
  No cell of these rows narrows 'for every input' (looked for: loops, veiled, ifaces, maps, wideKeys, modest, calm, conditions, laid).
  DERIVED. THE GIVEN ROWS OF THIS SEAT. 4 by the template 'for every input the law returns true; each argument reads behind the call as it read before'; 0 by the template 'total and deterministic' (their statements: YtcfofofhdbnlaaaTotals.lean).
  GIVEN WITH THE SEED: the statements are not yours to turn. If you find one false, say at which input.
  Laid BY PROGRAM, IN A SANDBOX (cutbox-rows.mjs): the forced cells as the released guide's own fill.sh prints them over the translation 06ac61896ee710a6… (all of the seat's roots in one cut). By AI agents, Wed Nov 11 2026. No macro, syntax, notation, axiom, sorry.
-/
import Derived.Test.YtcfofofhdbnlaaaChecked
import GoSem.Claim
import GoSem.ClaimJoined
import GoSem.ClaimMapViews
import Derived.JoinedTies
import Derived.KernelRfl
namespace Go.Proofs.Ytcfofofhdbnlaaa
/- THE CELL 'sum', in the pinned program and in every row, IS THE sha256 OF THE DUMP (.gsa) THAT YtcfofofhdbnlaaaProg.lean LOADS. Nothing in Lean hashes anything: it is a label: what it is worth is what the hold of that sum in a sandbox is worth. -/
noncomputable def Try.pinned : Pinned := { name := "ytcfofofhdbnlaaa", sum := "06ac61896ee710a6fad310525fb590b387cc642c2884e96251adf8ad507c7edd", checked := Try.checked }
namespace Rows
def none {H : Type} : Left H := { results := [], args := [] }

/-- 'laws.FnExactFireAt': WHATEVER THE INPUT: true; the input reads as it did. -/
def fnExactFireAtSpec : ChangeSpec := { name := "fnExactFireAt", fn := fun _ => fun
  | [d1, d2] => { results := [.lit (.bool true)], args := [d1, d2] }
  | _ => none }
def fnExactFireAtRow : OpenClaim := { program := "ytcfofofhdbnlaaa", sum := "06ac61896ee710a6fad310525fb590b387cc642c2884e96251adf8ad507c7edd", func := "loop.example/g01333/laws.FnExactFireAt", spec := "fnExactFireAt", apart := false }
def FnExactFireAtSaid : Prop := fnExactFireAtRow.holds Try.pinned (OpenSpec.ofChange fnExactFireAtSpec)

/-- ITS FALSE NEIGHBOUR: 'it returns false'. Refute it at one input. -/
def fnExactFireAtWrong : ChangeSpec := { name := "fnExactFireAt", fn := fun _ => fun
  | [d1, d2] => { results := [.lit (.bool false)], args := [d1, d2] }
  | _ => none }
def FnExactFireAtWrongFalsely : Prop := fnExactFireAtRow.holds Try.pinned (OpenSpec.ofChange fnExactFireAtWrong)

/-- 'laws.FnExactFireAll': WHATEVER THE INPUT: true; the input reads as it did. -/
def fnExactFireAllSpec : ChangeSpec := { name := "fnExactFireAll", fn := fun _ => fun
  | [d] => { results := [.lit (.bool true)], args := [d] }
  | _ => none }
def fnExactFireAllRow : OpenClaim := { program := "ytcfofofhdbnlaaa", sum := "06ac61896ee710a6fad310525fb590b387cc642c2884e96251adf8ad507c7edd", func := "loop.example/g01333/laws.FnExactFireAll", spec := "fnExactFireAll", apart := false }
def FnExactFireAllSaid : Prop := fnExactFireAllRow.holds Try.pinned (OpenSpec.ofChange fnExactFireAllSpec)

/-- ITS FALSE NEIGHBOUR: 'it returns false'. Refute it at one input. -/
def fnExactFireAllWrong : ChangeSpec := { name := "fnExactFireAll", fn := fun _ => fun
  | [d] => { results := [.lit (.bool false)], args := [d] }
  | _ => none }
def FnExactFireAllWrongFalsely : Prop := fnExactFireAllRow.holds Try.pinned (OpenSpec.ofChange fnExactFireAllWrong)

/-- 'laws.FnExactRoundsToRest': WHATEVER THE INPUT: true; the input reads as it did. -/
def fnExactRoundsToRestSpec : ChangeSpec := { name := "fnExactRoundsToRest", fn := fun _ => fun
  | [d] => { results := [.lit (.bool true)], args := [d] }
  | _ => none }
def fnExactRoundsToRestRow : OpenClaim := { program := "ytcfofofhdbnlaaa", sum := "06ac61896ee710a6fad310525fb590b387cc642c2884e96251adf8ad507c7edd", func := "loop.example/g01333/laws.FnExactRoundsToRest", spec := "fnExactRoundsToRest", apart := false }
def FnExactRoundsToRestSaid : Prop := fnExactRoundsToRestRow.holds Try.pinned (OpenSpec.ofChange fnExactRoundsToRestSpec)

/-- ITS FALSE NEIGHBOUR: 'it returns false'. Refute it at one input. -/
def fnExactRoundsToRestWrong : ChangeSpec := { name := "fnExactRoundsToRest", fn := fun _ => fun
  | [d] => { results := [.lit (.bool false)], args := [d] }
  | _ => none }
def FnExactRoundsToRestWrongFalsely : Prop := fnExactRoundsToRestRow.holds Try.pinned (OpenSpec.ofChange fnExactRoundsToRestWrong)

/-- 'laws.FnExactFireInOrder': WHATEVER THE INPUT: true; the input reads as it did. -/
def fnExactFireInOrderSpec : ChangeSpec := { name := "fnExactFireInOrder", fn := fun _ => fun
  | [d1, d2] => { results := [.lit (.bool true)], args := [d1, d2] }
  | _ => none }
def fnExactFireInOrderRow : OpenClaim := { program := "ytcfofofhdbnlaaa", sum := "06ac61896ee710a6fad310525fb590b387cc642c2884e96251adf8ad507c7edd", func := "loop.example/g01333/laws.FnExactFireInOrder", spec := "fnExactFireInOrder", apart := false }
def FnExactFireInOrderSaid : Prop := fnExactFireInOrderRow.holds Try.pinned (OpenSpec.ofChange fnExactFireInOrderSpec)

/-- ITS FALSE NEIGHBOUR: 'it returns false'. Refute it at one input. -/
def fnExactFireInOrderWrong : ChangeSpec := { name := "fnExactFireInOrder", fn := fun _ => fun
  | [d1, d2] => { results := [.lit (.bool false)], args := [d1, d2] }
  | _ => none }
def FnExactFireInOrderWrongFalsely : Prop := fnExactFireInOrderRow.holds Try.pinned (OpenSpec.ofChange fnExactFireInOrderWrong)

/- THE SECOND FORM. 'bulk': how many values and letters a reading holds, each counted each time it is reached (what is shared counts as often as it is met; a slice's spare places count too). A statement '..UptoSaid' is the law's where the arguments, and the package variables that the reading takes, are together of bulk at most 1048576: NARROWER than '..Said'. Prove '..Said' where nothing that the law and all that it calls make is longer than what came in: it says more and counts as full. Else prove '..UptoSaid'. A law counts once. -/
mutual
def uptoBulk {H : Type} : DataW H → Nat
  | .lit (.string bytes) => bytes.length + 1
  | .lit _ => 1
  | .nil => 1
  | .ptr d => uptoBulk d + 1
  | .slice elems spare => uptoBulkAll elems + uptoBulkAll spare + 1
  | .agg parts => uptoBulkAll parts + 1
  | .iface _ d => uptoBulk d + 1
  | .map entries => uptoBulkEntries entries + 1
  | .held _ => 1
def uptoBulkAll {H : Type} : List (DataW H) → Nat
  | [] => 0
  | d :: r => uptoBulk d + uptoBulkAll r
def uptoBulkEntries {H : Type} : List (Lit × DataW H) → Nat
  | [] => 0
  | x :: r => uptoBulkEntry x + uptoBulkEntries r
def uptoBulkEntry {H : Type} : Lit × DataW H → Nat
  | (.string bytes, d) => bytes.length + uptoBulk d + 1
  | (_, d) => uptoBulk d + 1
 end
def uptoSmall : (H : Type) → List (DataW H) → Bool := fun _ ds => decide (uptoBulkAll ds ≤ 1048576)
def OpenSpec.upto (s : _root_.Go.ChangeSpec) : _root_.Go.OpenSpec := { _root_.Go.OpenSpec.ofChange s with cond := some uptoSmall }

/-- 'laws.FnExactFireAt', WHERE WHAT IT READS IS OF BULK AT MOST 1048576: true; the input reads as it did. -/
def fnExactFireAtUptoRow : OpenClaim := { program := "ytcfofofhdbnlaaa", sum := "06ac61896ee710a6fad310525fb590b387cc642c2884e96251adf8ad507c7edd", func := "loop.example/g01333/laws.FnExactFireAt", spec := "fnExactFireAt", apart := false, narrowed := true }
def FnExactFireAtUptoSaid : Prop := fnExactFireAtUptoRow.holds Try.pinned (OpenSpec.upto fnExactFireAtSpec)

/-- 'laws.FnExactFireAll', WHERE WHAT IT READS IS OF BULK AT MOST 1048576: true; the input reads as it did. -/
def fnExactFireAllUptoRow : OpenClaim := { program := "ytcfofofhdbnlaaa", sum := "06ac61896ee710a6fad310525fb590b387cc642c2884e96251adf8ad507c7edd", func := "loop.example/g01333/laws.FnExactFireAll", spec := "fnExactFireAll", apart := false, narrowed := true }
def FnExactFireAllUptoSaid : Prop := fnExactFireAllUptoRow.holds Try.pinned (OpenSpec.upto fnExactFireAllSpec)

/-- 'laws.FnExactRoundsToRest', WHERE WHAT IT READS IS OF BULK AT MOST 1048576: true; the input reads as it did. -/
def fnExactRoundsToRestUptoRow : OpenClaim := { program := "ytcfofofhdbnlaaa", sum := "06ac61896ee710a6fad310525fb590b387cc642c2884e96251adf8ad507c7edd", func := "loop.example/g01333/laws.FnExactRoundsToRest", spec := "fnExactRoundsToRest", apart := false, narrowed := true }
def FnExactRoundsToRestUptoSaid : Prop := fnExactRoundsToRestUptoRow.holds Try.pinned (OpenSpec.upto fnExactRoundsToRestSpec)

/-- 'laws.FnExactFireInOrder', WHERE WHAT IT READS IS OF BULK AT MOST 1048576: true; the input reads as it did. -/
def fnExactFireInOrderUptoRow : OpenClaim := { program := "ytcfofofhdbnlaaa", sum := "06ac61896ee710a6fad310525fb590b387cc642c2884e96251adf8ad507c7edd", func := "loop.example/g01333/laws.FnExactFireInOrder", spec := "fnExactFireInOrder", apart := false, narrowed := true }
def FnExactFireInOrderUptoSaid : Prop := fnExactFireInOrderUptoRow.holds Try.pinned (OpenSpec.upto fnExactFireInOrderSpec)

end Rows
end Go.Proofs.Ytcfofofhdbnlaaa
