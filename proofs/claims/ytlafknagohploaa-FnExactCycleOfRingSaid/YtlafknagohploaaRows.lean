/-
  No cell of these rows narrows 'for every input' (looked for: loops, veiled, ifaces, maps, wideKeys, modest, calm, conditions, laid).
  DERIVED. THE GIVEN ROWS OF THIS SEAT. 8 by the template 'for every input the law returns true; each argument reads behind the call as it read before'; 0 by the template 'total and deterministic' (their statements: YtlafknagohploaaTotals.lean).
  GIVEN WITH THE SEED: the statements are not yours to turn. If you find one false, say at which input.
  Laid BY PROGRAM, IN A SANDBOX (cutbox-rows.mjs): the forced cells as the released guide's own fill.sh prints them over the translation ba9705dc45d8031e… (all of the seat's roots in one cut). By AI agents, Wed Nov 11 2026. No macro, syntax, notation, axiom, sorry.
-/
import Derived.Test.YtlafknagohploaaChecked
import GoSem.Claim
import GoSem.ClaimJoined
import GoSem.ClaimMapViews
import Derived.JoinedTies
import Derived.KernelRfl
namespace Go.Proofs.Ytlafknagohploaa
/- THE CELL 'sum', in the pinned program and in every row, IS THE sha256 OF THE DUMP (.gsa) THAT YtlafknagohploaaProg.lean LOADS. Nothing in Lean hashes anything: it is a label: what it is worth is what the hold of that sum in a sandbox is worth. -/
noncomputable def Try.pinned : Pinned := { name := "ytlafknagohploaa", sum := "ba9705dc45d8031ee8a0b70672d7f2793a0f58ce8c29549a242cf07dbdb341f8", checked := Try.checked }
namespace Rows
def none {H : Type} : Left H := { results := [], args := [] }

/-- 'laws.FnExactRingAfter': WHATEVER THE INPUT: true; the input reads as it did. -/
def fnExactRingAfterSpec : ChangeSpec := { name := "fnExactRingAfter", fn := fun _ => fun
  | [d1, d2] => { results := [.lit (.bool true)], args := [d1, d2] }
  | _ => none }
def fnExactRingAfterRow : OpenClaim := { program := "ytlafknagohploaa", sum := "ba9705dc45d8031ee8a0b70672d7f2793a0f58ce8c29549a242cf07dbdb341f8", func := "loop.example/g01333/laws.FnExactRingAfter", spec := "fnExactRingAfter", unfollowed := true, recurses := true, apart := false }
def FnExactRingAfterSaid : Prop := fnExactRingAfterRow.holds Try.pinned (OpenSpec.ofChange fnExactRingAfterSpec)

/-- ITS FALSE NEIGHBOUR: 'it returns false'. Refute it at one input. -/
def fnExactRingAfterWrong : ChangeSpec := { name := "fnExactRingAfter", fn := fun _ => fun
  | [d1, d2] => { results := [.lit (.bool false)], args := [d1, d2] }
  | _ => none }
def FnExactRingAfterWrongFalsely : Prop := fnExactRingAfterRow.holds Try.pinned (OpenSpec.ofChange fnExactRingAfterWrong)

/-- 'laws.FnExactLeadOfRing': WHATEVER THE INPUT: true; the input reads as it did. -/
def fnExactLeadOfRingSpec : ChangeSpec := { name := "fnExactLeadOfRing", fn := fun _ => fun
  | [d] => { results := [.lit (.bool true)], args := [d] }
  | _ => none }
def fnExactLeadOfRingRow : OpenClaim := { program := "ytlafknagohploaa", sum := "ba9705dc45d8031ee8a0b70672d7f2793a0f58ce8c29549a242cf07dbdb341f8", func := "loop.example/g01333/laws.FnExactLeadOfRing", spec := "fnExactLeadOfRing", unfollowed := true, recurses := true, apart := false }
def FnExactLeadOfRingSaid : Prop := fnExactLeadOfRingRow.holds Try.pinned (OpenSpec.ofChange fnExactLeadOfRingSpec)

/-- ITS FALSE NEIGHBOUR: 'it returns false'. Refute it at one input. -/
def fnExactLeadOfRingWrong : ChangeSpec := { name := "fnExactLeadOfRing", fn := fun _ => fun
  | [d] => { results := [.lit (.bool false)], args := [d] }
  | _ => none }
def FnExactLeadOfRingWrongFalsely : Prop := fnExactLeadOfRingRow.holds Try.pinned (OpenSpec.ofChange fnExactLeadOfRingWrong)

/-- 'laws.FnExactPeriodOfRing': WHATEVER THE INPUT: true; the input reads as it did. -/
def fnExactPeriodOfRingSpec : ChangeSpec := { name := "fnExactPeriodOfRing", fn := fun _ => fun
  | [d] => { results := [.lit (.bool true)], args := [d] }
  | _ => none }
def fnExactPeriodOfRingRow : OpenClaim := { program := "ytlafknagohploaa", sum := "ba9705dc45d8031ee8a0b70672d7f2793a0f58ce8c29549a242cf07dbdb341f8", func := "loop.example/g01333/laws.FnExactPeriodOfRing", spec := "fnExactPeriodOfRing", unfollowed := true, recurses := true, apart := false }
def FnExactPeriodOfRingSaid : Prop := fnExactPeriodOfRingRow.holds Try.pinned (OpenSpec.ofChange fnExactPeriodOfRingSpec)

/-- ITS FALSE NEIGHBOUR: 'it returns false'. Refute it at one input. -/
def fnExactPeriodOfRingWrong : ChangeSpec := { name := "fnExactPeriodOfRing", fn := fun _ => fun
  | [d] => { results := [.lit (.bool false)], args := [d] }
  | _ => none }
def FnExactPeriodOfRingWrongFalsely : Prop := fnExactPeriodOfRingRow.holds Try.pinned (OpenSpec.ofChange fnExactPeriodOfRingWrong)

/-- 'laws.FnExactCycleOfRing': WHATEVER THE INPUT: true; the input reads as it did. -/
def fnExactCycleOfRingSpec : ChangeSpec := { name := "fnExactCycleOfRing", fn := fun _ => fun
  | [d] => { results := [.lit (.bool true)], args := [d] }
  | _ => none }
def fnExactCycleOfRingRow : OpenClaim := { program := "ytlafknagohploaa", sum := "ba9705dc45d8031ee8a0b70672d7f2793a0f58ce8c29549a242cf07dbdb341f8", func := "loop.example/g01333/laws.FnExactCycleOfRing", spec := "fnExactCycleOfRing", unfollowed := true, recurses := true, apart := false }
def FnExactCycleOfRingSaid : Prop := fnExactCycleOfRingRow.holds Try.pinned (OpenSpec.ofChange fnExactCycleOfRingSpec)

/-- ITS FALSE NEIGHBOUR: 'it returns false'. Refute it at one input. -/
def fnExactCycleOfRingWrong : ChangeSpec := { name := "fnExactCycleOfRing", fn := fun _ => fun
  | [d] => { results := [.lit (.bool false)], args := [d] }
  | _ => none }
def FnExactCycleOfRingWrongFalsely : Prop := fnExactCycleOfRingRow.holds Try.pinned (OpenSpec.ofChange fnExactCycleOfRingWrong)

/-- 'laws.FnExactComesToZero': WHATEVER THE INPUT: true; the input reads as it did. -/
def fnExactComesToZeroSpec : ChangeSpec := { name := "fnExactComesToZero", fn := fun _ => fun
  | [d] => { results := [.lit (.bool true)], args := [d] }
  | _ => none }
def fnExactComesToZeroRow : OpenClaim := { program := "ytlafknagohploaa", sum := "ba9705dc45d8031ee8a0b70672d7f2793a0f58ce8c29549a242cf07dbdb341f8", func := "loop.example/g01333/laws.FnExactComesToZero", spec := "fnExactComesToZero", unfollowed := true, recurses := true, apart := false }
def FnExactComesToZeroSaid : Prop := fnExactComesToZeroRow.holds Try.pinned (OpenSpec.ofChange fnExactComesToZeroSpec)

/-- ITS FALSE NEIGHBOUR: 'it returns false'. Refute it at one input. -/
def fnExactComesToZeroWrong : ChangeSpec := { name := "fnExactComesToZero", fn := fun _ => fun
  | [d] => { results := [.lit (.bool false)], args := [d] }
  | _ => none }
def FnExactComesToZeroWrongFalsely : Prop := fnExactComesToZeroRow.holds Try.pinned (OpenSpec.ofChange fnExactComesToZeroWrong)

/-- 'laws.FnExactStepsToZero': WHATEVER THE INPUT: true; the input reads as it did. -/
def fnExactStepsToZeroSpec : ChangeSpec := { name := "fnExactStepsToZero", fn := fun _ => fun
  | [d] => { results := [.lit (.bool true)], args := [d] }
  | _ => none }
def fnExactStepsToZeroRow : OpenClaim := { program := "ytlafknagohploaa", sum := "ba9705dc45d8031ee8a0b70672d7f2793a0f58ce8c29549a242cf07dbdb341f8", func := "loop.example/g01333/laws.FnExactStepsToZero", spec := "fnExactStepsToZero", unfollowed := true, recurses := true, apart := false }
def FnExactStepsToZeroSaid : Prop := fnExactStepsToZeroRow.holds Try.pinned (OpenSpec.ofChange fnExactStepsToZeroSpec)

/-- ITS FALSE NEIGHBOUR: 'it returns false'. Refute it at one input. -/
def fnExactStepsToZeroWrong : ChangeSpec := { name := "fnExactStepsToZero", fn := fun _ => fun
  | [d] => { results := [.lit (.bool false)], args := [d] }
  | _ => none }
def FnExactStepsToZeroWrongFalsely : Prop := fnExactStepsToZeroRow.holds Try.pinned (OpenSpec.ofChange fnExactStepsToZeroWrong)

/-- 'laws.FnExactGreatestAtLast': WHATEVER THE INPUT: true; the input reads as it did. -/
def fnExactGreatestAtLastSpec : ChangeSpec := { name := "fnExactGreatestAtLast", fn := fun _ => fun
  | [d] => { results := [.lit (.bool true)], args := [d] }
  | _ => none }
def fnExactGreatestAtLastRow : OpenClaim := { program := "ytlafknagohploaa", sum := "ba9705dc45d8031ee8a0b70672d7f2793a0f58ce8c29549a242cf07dbdb341f8", func := "loop.example/g01333/laws.FnExactGreatestAtLast", spec := "fnExactGreatestAtLast", unfollowed := true, recurses := true, apart := false }
def FnExactGreatestAtLastSaid : Prop := fnExactGreatestAtLastRow.holds Try.pinned (OpenSpec.ofChange fnExactGreatestAtLastSpec)

/-- ITS FALSE NEIGHBOUR: 'it returns false'. Refute it at one input. -/
def fnExactGreatestAtLastWrong : ChangeSpec := { name := "fnExactGreatestAtLast", fn := fun _ => fun
  | [d] => { results := [.lit (.bool false)], args := [d] }
  | _ => none }
def FnExactGreatestAtLastWrongFalsely : Prop := fnExactGreatestAtLastRow.holds Try.pinned (OpenSpec.ofChange fnExactGreatestAtLastWrong)

/-- 'laws.FnExactLongestPeriod': WHATEVER THE INPUT: true; the input reads as it did. -/
def fnExactLongestPeriodSpec : ChangeSpec := { name := "fnExactLongestPeriod", fn := fun _ => fun
  | [d] => { results := [.lit (.bool true)], args := [d] }
  | _ => none }
def fnExactLongestPeriodRow : OpenClaim := { program := "ytlafknagohploaa", sum := "ba9705dc45d8031ee8a0b70672d7f2793a0f58ce8c29549a242cf07dbdb341f8", func := "loop.example/g01333/laws.FnExactLongestPeriod", spec := "fnExactLongestPeriod", unfollowed := true, recurses := true, apart := false }
def FnExactLongestPeriodSaid : Prop := fnExactLongestPeriodRow.holds Try.pinned (OpenSpec.ofChange fnExactLongestPeriodSpec)

/-- ITS FALSE NEIGHBOUR: 'it returns false'. Refute it at one input. -/
def fnExactLongestPeriodWrong : ChangeSpec := { name := "fnExactLongestPeriod", fn := fun _ => fun
  | [d] => { results := [.lit (.bool false)], args := [d] }
  | _ => none }
def FnExactLongestPeriodWrongFalsely : Prop := fnExactLongestPeriodRow.holds Try.pinned (OpenSpec.ofChange fnExactLongestPeriodWrong)

/- THE SECOND FORM. 'bulk': how many values and letters a reading holds, each counted each time it is reached (what is shared counts as often as it is met; a slice's spare places count too). A statement '..UptoSaid' is the law's where the arguments, and the package variables that the reading takes, are together of bulk at most 1048576: NARROWER than '..Said'. Prove '..Said' where nothing that the law and all that it calls make is longer than what came in: it says more and counts as full. Else prove '..UptoSaid'. A law counts once. -/
mutual
def uptoBulk {H : Type} : DataW H → Nat
  | .lit (.string bytes) => bytes.length + 1
  | .lit _ => 1
  | .nil => 1
  | .ptr d => uptoBulk d + 1
  | .slice elems spare => uptoBulkAll elems + uptoBulkAll spare + 1
  | .agg parts => uptoBulkAll parts + 1
  | .iface _ d => uptoBulk d + 1
  | .map entries => uptoBulkEntries entries + 1
  | .held _ => 1
def uptoBulkAll {H : Type} : List (DataW H) → Nat
  | [] => 0
  | d :: r => uptoBulk d + uptoBulkAll r
def uptoBulkEntries {H : Type} : List (Lit × DataW H) → Nat
  | [] => 0
  | x :: r => uptoBulkEntry x + uptoBulkEntries r
def uptoBulkEntry {H : Type} : Lit × DataW H → Nat
  | (.string bytes, d) => bytes.length + uptoBulk d + 1
  | (_, d) => uptoBulk d + 1
 end
def uptoSmall : (H : Type) → List (DataW H) → Bool := fun _ ds => decide (uptoBulkAll ds ≤ 1048576)
def OpenSpec.upto (s : _root_.Go.ChangeSpec) : _root_.Go.OpenSpec := { _root_.Go.OpenSpec.ofChange s with cond := some uptoSmall }

/-- 'laws.FnExactRingAfter', WHERE WHAT IT READS IS OF BULK AT MOST 1048576: true; the input reads as it did. -/
def fnExactRingAfterUptoRow : OpenClaim := { program := "ytlafknagohploaa", sum := "ba9705dc45d8031ee8a0b70672d7f2793a0f58ce8c29549a242cf07dbdb341f8", func := "loop.example/g01333/laws.FnExactRingAfter", spec := "fnExactRingAfter", unfollowed := true, recurses := true, apart := false, narrowed := true }
def FnExactRingAfterUptoSaid : Prop := fnExactRingAfterUptoRow.holds Try.pinned (OpenSpec.upto fnExactRingAfterSpec)

/-- 'laws.FnExactLeadOfRing', WHERE WHAT IT READS IS OF BULK AT MOST 1048576: true; the input reads as it did. -/
def fnExactLeadOfRingUptoRow : OpenClaim := { program := "ytlafknagohploaa", sum := "ba9705dc45d8031ee8a0b70672d7f2793a0f58ce8c29549a242cf07dbdb341f8", func := "loop.example/g01333/laws.FnExactLeadOfRing", spec := "fnExactLeadOfRing", unfollowed := true, recurses := true, apart := false, narrowed := true }
def FnExactLeadOfRingUptoSaid : Prop := fnExactLeadOfRingUptoRow.holds Try.pinned (OpenSpec.upto fnExactLeadOfRingSpec)

/-- 'laws.FnExactPeriodOfRing', WHERE WHAT IT READS IS OF BULK AT MOST 1048576: true; the input reads as it did. -/
def fnExactPeriodOfRingUptoRow : OpenClaim := { program := "ytlafknagohploaa", sum := "ba9705dc45d8031ee8a0b70672d7f2793a0f58ce8c29549a242cf07dbdb341f8", func := "loop.example/g01333/laws.FnExactPeriodOfRing", spec := "fnExactPeriodOfRing", unfollowed := true, recurses := true, apart := false, narrowed := true }
def FnExactPeriodOfRingUptoSaid : Prop := fnExactPeriodOfRingUptoRow.holds Try.pinned (OpenSpec.upto fnExactPeriodOfRingSpec)

/-- 'laws.FnExactCycleOfRing', WHERE WHAT IT READS IS OF BULK AT MOST 1048576: true; the input reads as it did. -/
def fnExactCycleOfRingUptoRow : OpenClaim := { program := "ytlafknagohploaa", sum := "ba9705dc45d8031ee8a0b70672d7f2793a0f58ce8c29549a242cf07dbdb341f8", func := "loop.example/g01333/laws.FnExactCycleOfRing", spec := "fnExactCycleOfRing", unfollowed := true, recurses := true, apart := false, narrowed := true }
def FnExactCycleOfRingUptoSaid : Prop := fnExactCycleOfRingUptoRow.holds Try.pinned (OpenSpec.upto fnExactCycleOfRingSpec)

/-- 'laws.FnExactComesToZero', WHERE WHAT IT READS IS OF BULK AT MOST 1048576: true; the input reads as it did. -/
def fnExactComesToZeroUptoRow : OpenClaim := { program := "ytlafknagohploaa", sum := "ba9705dc45d8031ee8a0b70672d7f2793a0f58ce8c29549a242cf07dbdb341f8", func := "loop.example/g01333/laws.FnExactComesToZero", spec := "fnExactComesToZero", unfollowed := true, recurses := true, apart := false, narrowed := true }
def FnExactComesToZeroUptoSaid : Prop := fnExactComesToZeroUptoRow.holds Try.pinned (OpenSpec.upto fnExactComesToZeroSpec)

/-- 'laws.FnExactStepsToZero', WHERE WHAT IT READS IS OF BULK AT MOST 1048576: true; the input reads as it did. -/
def fnExactStepsToZeroUptoRow : OpenClaim := { program := "ytlafknagohploaa", sum := "ba9705dc45d8031ee8a0b70672d7f2793a0f58ce8c29549a242cf07dbdb341f8", func := "loop.example/g01333/laws.FnExactStepsToZero", spec := "fnExactStepsToZero", unfollowed := true, recurses := true, apart := false, narrowed := true }
def FnExactStepsToZeroUptoSaid : Prop := fnExactStepsToZeroUptoRow.holds Try.pinned (OpenSpec.upto fnExactStepsToZeroSpec)

/-- 'laws.FnExactGreatestAtLast', WHERE WHAT IT READS IS OF BULK AT MOST 1048576: true; the input reads as it did. -/
def fnExactGreatestAtLastUptoRow : OpenClaim := { program := "ytlafknagohploaa", sum := "ba9705dc45d8031ee8a0b70672d7f2793a0f58ce8c29549a242cf07dbdb341f8", func := "loop.example/g01333/laws.FnExactGreatestAtLast", spec := "fnExactGreatestAtLast", unfollowed := true, recurses := true, apart := false, narrowed := true }
def FnExactGreatestAtLastUptoSaid : Prop := fnExactGreatestAtLastUptoRow.holds Try.pinned (OpenSpec.upto fnExactGreatestAtLastSpec)

/-- 'laws.FnExactLongestPeriod', WHERE WHAT IT READS IS OF BULK AT MOST 1048576: true; the input reads as it did. -/
def fnExactLongestPeriodUptoRow : OpenClaim := { program := "ytlafknagohploaa", sum := "ba9705dc45d8031ee8a0b70672d7f2793a0f58ce8c29549a242cf07dbdb341f8", func := "loop.example/g01333/laws.FnExactLongestPeriod", spec := "fnExactLongestPeriod", unfollowed := true, recurses := true, apart := false, narrowed := true }
def FnExactLongestPeriodUptoSaid : Prop := fnExactLongestPeriodUptoRow.holds Try.pinned (OpenSpec.upto fnExactLongestPeriodSpec)

end Rows
end Go.Proofs.Ytlafknagohploaa
