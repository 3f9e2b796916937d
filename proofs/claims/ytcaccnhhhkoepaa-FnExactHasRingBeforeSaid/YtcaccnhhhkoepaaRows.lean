/-
  No cell of these rows narrows 'for every input' (looked for: loops, veiled, ifaces, maps, wideKeys, modest, calm, conditions, laid).
  DERIVED. THE GIVEN ROWS OF THIS SEAT. 3 by the template 'for every input the law returns true; each argument reads behind the call as it read before'; 0 by the template 'total and deterministic' (their statements: YtcaccnhhhkoepaaTotals.lean).
  GIVEN WITH THE SEED: the statements are not yours to turn. If you find one false, say at which input.
  Laid BY PROGRAM, IN A SANDBOX (cutbox-rows.mjs): the forced cells as the released guide's own fill.sh prints them over the translation 0ac3b43e8847e4eb… (all of the seat's roots in one cut). By AI agents, Wed Nov 11 2026. No macro, syntax, notation, axiom, sorry.
-/
import Derived.Test.YtcaccnhhhkoepaaChecked
import GoSem.Claim
import GoSem.ClaimJoined
import GoSem.ClaimMapViews
import Derived.JoinedTies
import Derived.KernelRfl
namespace Go.Proofs.Ytcaccnhhhkoepaa
/- THE CELL 'sum', in the pinned program and in every row, IS THE sha256 OF THE DUMP (.gsa) THAT YtcaccnhhhkoepaaProg.lean LOADS. Nothing in Lean hashes anything: it is a label: what it is worth is what the hold of that sum in a sandbox is worth. -/
noncomputable def Try.pinned : Pinned := { name := "ytcaccnhhhkoepaa", sum := "0ac3b43e8847e4eb3b0a258cef0c076e9b6491ec3979f1284e309a372e277a45", checked := Try.checked }
namespace Rows
def none {H : Type} : Left H := { results := [], args := [] }

/-- 'laws.FnExactRingsBefore': WHATEVER THE INPUT: true; the input reads as it did. -/
def fnExactRingsBeforeSpec : ChangeSpec := { name := "fnExactRingsBefore", fn := fun _ => fun
  | [d] => { results := [.lit (.bool true)], args := [d] }
  | _ => none }
def fnExactRingsBeforeRow : OpenClaim := { program := "ytcaccnhhhkoepaa", sum := "0ac3b43e8847e4eb3b0a258cef0c076e9b6491ec3979f1284e309a372e277a45", func := "loop.example/g01333/laws.FnExactRingsBefore", spec := "fnExactRingsBefore", unfollowed := true, recurses := true, apart := false }
def FnExactRingsBeforeSaid : Prop := fnExactRingsBeforeRow.holds Try.pinned (OpenSpec.ofChange fnExactRingsBeforeSpec)

/-- ITS FALSE NEIGHBOUR: 'it returns false'. Refute it at one input. -/
def fnExactRingsBeforeWrong : ChangeSpec := { name := "fnExactRingsBefore", fn := fun _ => fun
  | [d] => { results := [.lit (.bool false)], args := [d] }
  | _ => none }
def FnExactRingsBeforeWrongFalsely : Prop := fnExactRingsBeforeRow.holds Try.pinned (OpenSpec.ofChange fnExactRingsBeforeWrong)

/-- 'laws.FnExactCountRingsBefore': WHATEVER THE INPUT: true; the input reads as it did. -/
def fnExactCountRingsBeforeSpec : ChangeSpec := { name := "fnExactCountRingsBefore", fn := fun _ => fun
  | [d] => { results := [.lit (.bool true)], args := [d] }
  | _ => none }
def fnExactCountRingsBeforeRow : OpenClaim := { program := "ytcaccnhhhkoepaa", sum := "0ac3b43e8847e4eb3b0a258cef0c076e9b6491ec3979f1284e309a372e277a45", func := "loop.example/g01333/laws.FnExactCountRingsBefore", spec := "fnExactCountRingsBefore", unfollowed := true, recurses := true, apart := false }
def FnExactCountRingsBeforeSaid : Prop := fnExactCountRingsBeforeRow.holds Try.pinned (OpenSpec.ofChange fnExactCountRingsBeforeSpec)

/-- ITS FALSE NEIGHBOUR: 'it returns false'. Refute it at one input. -/
def fnExactCountRingsBeforeWrong : ChangeSpec := { name := "fnExactCountRingsBefore", fn := fun _ => fun
  | [d] => { results := [.lit (.bool false)], args := [d] }
  | _ => none }
def FnExactCountRingsBeforeWrongFalsely : Prop := fnExactCountRingsBeforeRow.holds Try.pinned (OpenSpec.ofChange fnExactCountRingsBeforeWrong)

/-- 'laws.FnExactHasRingBefore': WHATEVER THE INPUT: true; the input reads as it did. -/
def fnExactHasRingBeforeSpec : ChangeSpec := { name := "fnExactHasRingBefore", fn := fun _ => fun
  | [d] => { results := [.lit (.bool true)], args := [d] }
  | _ => none }
def fnExactHasRingBeforeRow : OpenClaim := { program := "ytcaccnhhhkoepaa", sum := "0ac3b43e8847e4eb3b0a258cef0c076e9b6491ec3979f1284e309a372e277a45", func := "loop.example/g01333/laws.FnExactHasRingBefore", spec := "fnExactHasRingBefore", unfollowed := true, recurses := true, apart := false }
def FnExactHasRingBeforeSaid : Prop := fnExactHasRingBeforeRow.holds Try.pinned (OpenSpec.ofChange fnExactHasRingBeforeSpec)

/-- ITS FALSE NEIGHBOUR: 'it returns false'. Refute it at one input. -/
def fnExactHasRingBeforeWrong : ChangeSpec := { name := "fnExactHasRingBefore", fn := fun _ => fun
  | [d] => { results := [.lit (.bool false)], args := [d] }
  | _ => none }
def FnExactHasRingBeforeWrongFalsely : Prop := fnExactHasRingBeforeRow.holds Try.pinned (OpenSpec.ofChange fnExactHasRingBeforeWrong)

/- THE SECOND FORM. 'bulk': how many values and letters a reading holds, each counted each time it is reached (what is shared counts as often as it is met; a slice's spare places count too). A statement '..UptoSaid' is the law's where the arguments, and the package variables that the reading takes, are together of bulk at most 1048576: NARROWER than '..Said'. Prove '..Said' where nothing that the law and all that it calls make is longer than what came in: it says more and counts as full. Else prove '..UptoSaid'. A law counts once. -/
mutual
def uptoBulk {H : Type} : DataW H → Nat
  | .lit (.string bytes) => bytes.length + 1
  | .lit _ => 1
  | .nil => 1
  | .ptr d => uptoBulk d + 1
  | .slice elems spare => uptoBulkAll elems + uptoBulkAll spare + 1
  | .agg parts => uptoBulkAll parts + 1
  | .iface _ d => uptoBulk d + 1
  | .map entries => uptoBulkEntries entries + 1
  | .held _ => 1
def uptoBulkAll {H : Type} : List (DataW H) → Nat
  | [] => 0
  | d :: r => uptoBulk d + uptoBulkAll r
def uptoBulkEntries {H : Type} : List (Lit × DataW H) → Nat
  | [] => 0
  | x :: r => uptoBulkEntry x + uptoBulkEntries r
def uptoBulkEntry {H : Type} : Lit × DataW H → Nat
  | (.string bytes, d) => bytes.length + uptoBulk d + 1
  | (_, d) => uptoBulk d + 1
 end
def uptoSmall : (H : Type) → List (DataW H) → Bool := fun _ ds => decide (uptoBulkAll ds ≤ 1048576)
def OpenSpec.upto (s : _root_.Go.ChangeSpec) : _root_.Go.OpenSpec := { _root_.Go.OpenSpec.ofChange s with cond := some uptoSmall }

/-- 'laws.FnExactRingsBefore', WHERE WHAT IT READS IS OF BULK AT MOST 1048576: true; the input reads as it did. -/
def fnExactRingsBeforeUptoRow : OpenClaim := { program := "ytcaccnhhhkoepaa", sum := "0ac3b43e8847e4eb3b0a258cef0c076e9b6491ec3979f1284e309a372e277a45", func := "loop.example/g01333/laws.FnExactRingsBefore", spec := "fnExactRingsBefore", unfollowed := true, recurses := true, apart := false, narrowed := true }
def FnExactRingsBeforeUptoSaid : Prop := fnExactRingsBeforeUptoRow.holds Try.pinned (OpenSpec.upto fnExactRingsBeforeSpec)

/-- 'laws.FnExactCountRingsBefore', WHERE WHAT IT READS IS OF BULK AT MOST 1048576: true; the input reads as it did. -/
def fnExactCountRingsBeforeUptoRow : OpenClaim := { program := "ytcaccnhhhkoepaa", sum := "0ac3b43e8847e4eb3b0a258cef0c076e9b6491ec3979f1284e309a372e277a45", func := "loop.example/g01333/laws.FnExactCountRingsBefore", spec := "fnExactCountRingsBefore", unfollowed := true, recurses := true, apart := false, narrowed := true }
def FnExactCountRingsBeforeUptoSaid : Prop := fnExactCountRingsBeforeUptoRow.holds Try.pinned (OpenSpec.upto fnExactCountRingsBeforeSpec)

/-- 'laws.FnExactHasRingBefore', WHERE WHAT IT READS IS OF BULK AT MOST 1048576: true; the input reads as it did. -/
def fnExactHasRingBeforeUptoRow : OpenClaim := { program := "ytcaccnhhhkoepaa", sum := "0ac3b43e8847e4eb3b0a258cef0c076e9b6491ec3979f1284e309a372e277a45", func := "loop.example/g01333/laws.FnExactHasRingBefore", spec := "fnExactHasRingBefore", unfollowed := true, recurses := true, apart := false, narrowed := true }
def FnExactHasRingBeforeUptoSaid : Prop := fnExactHasRingBeforeUptoRow.holds Try.pinned (OpenSpec.upto fnExactHasRingBeforeSpec)

end Rows
end Go.Proofs.Ytcaccnhhhkoepaa
