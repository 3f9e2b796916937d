/-
  NARROWER THAN 'FOR EVERY INPUT', by the rows' own cells (each row's printed sentence says how): FnExactAreCups: laid · FnExactCupsOf: laid · FnExactContentOf: laid · FnExactMeanOfCups: laid · FnExactSpreadOfCups: laid · FnExactAreAlike: laid.
  DERIVED. THE GIVEN ROWS OF THIS SEAT. 6 by the template 'for every input the law returns true; each argument reads behind the call as it read before'; 0 by the template 'total and deterministic' (their statements: YtlempjfkgmlidaaDoorTotals.lean).
  GIVEN WITH THE SEED: the statements are not yours to turn. If you find one false, say at which input.
  Laid BY PROGRAM, IN A SANDBOX (cutbox-rows.mjs): the forced cells as the released guide's own fill.sh prints them over the translation b47804f3809c607b… (all of the seat's roots in one cut). By AI agents, Wed Nov 11 2026. No macro, syntax, notation, axiom, sorry.
-/
import Derived.Test.YtlempjfkgmlidaaDoorChecked
import GoSem.Claim
import GoSem.ClaimJoined
import GoSem.ClaimMapViews
import Derived.JoinedTies
import Derived.KernelRfl
namespace Go.Proofs.YtlempjfkgmlidaaDoor
/- THE CELL 'sum', in the pinned program and in every row, IS THE sha256 OF THE DUMP (.gsa) THAT YtlempjfkgmlidaaDoorProg.lean LOADS. Nothing in Lean hashes anything: it is a label: what it is worth is what the hold of that sum in a sandbox is worth. -/
noncomputable def Tryd.pinned : Pinned := { name := "ytlempjfkgmlidaadoor", sum := "b47804f3809c607bfc2fab03e290d46b0e8ad2c390cf1698fc5003f74435f899", checked := Tryd.checked }
namespace Rows
def none {H : Type} : Left H := { results := [], args := [] }

/- WHAT THE LISTED PACKAGE-LEVEL VARIABLES READ AS WHEN THE CALL BEGINS. Each datum BY PROGRAM (the guide's laid-datum.mjs) off the statement by which the dump's own 'gosem.cut.vars' lays the variable. In a bare row this is a premise. The card (YtlempjfkgmlidaaDoorCards.lean) ties it to the program's text. -/
def laid_math_bits_deBruijn32tab {H : Type} : DataW H := .agg [.lit (.int .u8 0), .lit (.int .u8 1), .lit (.int .u8 28), .lit (.int .u8 2), .lit (.int .u8 29), .lit (.int .u8 14), .lit (.int .u8 24), .lit (.int .u8 3), .lit (.int .u8 30), .lit (.int .u8 22), .lit (.int .u8 20), .lit (.int .u8 15), .lit (.int .u8 25), .lit (.int .u8 17), .lit (.int .u8 4), .lit (.int .u8 8), .lit (.int .u8 31), .lit (.int .u8 27), .lit (.int .u8 13), .lit (.int .u8 23), .lit (.int .u8 21), .lit (.int .u8 19), .lit (.int .u8 16), .lit (.int .u8 7), .lit (.int .u8 26), .lit (.int .u8 12), .lit (.int .u8 18), .lit (.int .u8 6), .lit (.int .u8 11), .lit (.int .u8 5), .lit (.int .u8 10), .lit (.int .u8 9)]
def laid_math_bits_deBruijn64tab {H : Type} : DataW H := .agg [.lit (.int .u8 0), .lit (.int .u8 1), .lit (.int .u8 56), .lit (.int .u8 2), .lit (.int .u8 57), .lit (.int .u8 49), .lit (.int .u8 28), .lit (.int .u8 3), .lit (.int .u8 61), .lit (.int .u8 58), .lit (.int .u8 42), .lit (.int .u8 50), .lit (.int .u8 38), .lit (.int .u8 29), .lit (.int .u8 17), .lit (.int .u8 4), .lit (.int .u8 62), .lit (.int .u8 47), .lit (.int .u8 59), .lit (.int .u8 36), .lit (.int .u8 45), .lit (.int .u8 43), .lit (.int .u8 51), .lit (.int .u8 22), .lit (.int .u8 53), .lit (.int .u8 39), .lit (.int .u8 33), .lit (.int .u8 30), .lit (.int .u8 24), .lit (.int .u8 18), .lit (.int .u8 12), .lit (.int .u8 5), .lit (.int .u8 63), .lit (.int .u8 55), .lit (.int .u8 48), .lit (.int .u8 27), .lit (.int .u8 60), .lit (.int .u8 41), .lit (.int .u8 37), .lit (.int .u8 16), .lit (.int .u8 46), .lit (.int .u8 35), .lit (.int .u8 44), .lit (.int .u8 21), .lit (.int .u8 52), .lit (.int .u8 32), .lit (.int .u8 23), .lit (.int .u8 11), .lit (.int .u8 54), .lit (.int .u8 26), .lit (.int .u8 40), .lit (.int .u8 15), .lit (.int .u8 34), .lit (.int .u8 20), .lit (.int .u8 31), .lit (.int .u8 10), .lit (.int .u8 25), .lit (.int .u8 14), .lit (.int .u8 19), .lit (.int .u8 9), .lit (.int .u8 13), .lit (.int .u8 8), .lit (.int .u8 7), .lit (.int .u8 6)]

/-- 'laws.FnExactAreCups': WHATEVER THE INPUT: true; the input reads as it did. -/
def fnExactAreCupsSpec : ChangeSpec := { name := "fnExactAreCups", fn := fun _ => fun
  | [d] => { results := [.lit (.bool true)], args := [d] }
  | _ => none }
def fnExactAreCupsRow : OpenClaim := { program := "ytlempjfkgmlidaadoor", sum := "b47804f3809c607bfc2fab03e290d46b0e8ad2c390cf1698fc5003f74435f899", func := "loop.example/g01333/laws.FnExactAreCups", spec := "fnExactAreCups", named := ["math/bits.deBruijn32tab", "math/bits.deBruijn64tab"], apart := false, laid := [("math/bits.deBruijn32tab", laid_math_bits_deBruijn32tab), ("math/bits.deBruijn64tab", laid_math_bits_deBruijn64tab)] }
def FnExactAreCupsSaid : Prop := fnExactAreCupsRow.holds Tryd.pinned (OpenSpec.ofChange fnExactAreCupsSpec)

/-- ITS FALSE NEIGHBOUR: 'it returns false'. Refute it at one input. -/
def fnExactAreCupsWrong : ChangeSpec := { name := "fnExactAreCups", fn := fun _ => fun
  | [d] => { results := [.lit (.bool false)], args := [d] }
  | _ => none }
def FnExactAreCupsWrongFalsely : Prop := fnExactAreCupsRow.holds Tryd.pinned (OpenSpec.ofChange fnExactAreCupsWrong)

/-- 'laws.FnExactCupsOf': WHATEVER THE INPUT: true; the input reads as it did. -/
def fnExactCupsOfSpec : ChangeSpec := { name := "fnExactCupsOf", fn := fun _ => fun
  | [d] => { results := [.lit (.bool true)], args := [d] }
  | _ => none }
def fnExactCupsOfRow : OpenClaim := { program := "ytlempjfkgmlidaadoor", sum := "b47804f3809c607bfc2fab03e290d46b0e8ad2c390cf1698fc5003f74435f899", func := "loop.example/g01333/laws.FnExactCupsOf", spec := "fnExactCupsOf", named := ["math/bits.deBruijn32tab", "math/bits.deBruijn64tab"], apart := false, laid := [("math/bits.deBruijn32tab", laid_math_bits_deBruijn32tab), ("math/bits.deBruijn64tab", laid_math_bits_deBruijn64tab)] }
def FnExactCupsOfSaid : Prop := fnExactCupsOfRow.holds Tryd.pinned (OpenSpec.ofChange fnExactCupsOfSpec)

/-- ITS FALSE NEIGHBOUR: 'it returns false'. Refute it at one input. -/
def fnExactCupsOfWrong : ChangeSpec := { name := "fnExactCupsOf", fn := fun _ => fun
  | [d] => { results := [.lit (.bool false)], args := [d] }
  | _ => none }
def FnExactCupsOfWrongFalsely : Prop := fnExactCupsOfRow.holds Tryd.pinned (OpenSpec.ofChange fnExactCupsOfWrong)

/-- 'laws.FnExactContentOf': WHATEVER THE INPUT: true; the input reads as it did. -/
def fnExactContentOfSpec : ChangeSpec := { name := "fnExactContentOf", fn := fun _ => fun
  | [d1, d2] => { results := [.lit (.bool true)], args := [d1, d2] }
  | _ => none }
def fnExactContentOfRow : OpenClaim := { program := "ytlempjfkgmlidaadoor", sum := "b47804f3809c607bfc2fab03e290d46b0e8ad2c390cf1698fc5003f74435f899", func := "loop.example/g01333/laws.FnExactContentOf", spec := "fnExactContentOf", named := ["math/bits.deBruijn32tab", "math/bits.deBruijn64tab"], apart := false, laid := [("math/bits.deBruijn32tab", laid_math_bits_deBruijn32tab), ("math/bits.deBruijn64tab", laid_math_bits_deBruijn64tab)] }
def FnExactContentOfSaid : Prop := fnExactContentOfRow.holds Tryd.pinned (OpenSpec.ofChange fnExactContentOfSpec)

/-- ITS FALSE NEIGHBOUR: 'it returns false'. Refute it at one input. -/
def fnExactContentOfWrong : ChangeSpec := { name := "fnExactContentOf", fn := fun _ => fun
  | [d1, d2] => { results := [.lit (.bool false)], args := [d1, d2] }
  | _ => none }
def FnExactContentOfWrongFalsely : Prop := fnExactContentOfRow.holds Tryd.pinned (OpenSpec.ofChange fnExactContentOfWrong)

/-- 'laws.FnExactMeanOfCups': WHATEVER THE INPUT: true; the input reads as it did. -/
def fnExactMeanOfCupsSpec : ChangeSpec := { name := "fnExactMeanOfCups", fn := fun _ => fun
  | [d] => { results := [.lit (.bool true)], args := [d] }
  | _ => none }
def fnExactMeanOfCupsRow : OpenClaim := { program := "ytlempjfkgmlidaadoor", sum := "b47804f3809c607bfc2fab03e290d46b0e8ad2c390cf1698fc5003f74435f899", func := "loop.example/g01333/laws.FnExactMeanOfCups", spec := "fnExactMeanOfCups", named := ["math/bits.deBruijn32tab", "math/bits.deBruijn64tab"], apart := false, laid := [("math/bits.deBruijn32tab", laid_math_bits_deBruijn32tab), ("math/bits.deBruijn64tab", laid_math_bits_deBruijn64tab)] }
def FnExactMeanOfCupsSaid : Prop := fnExactMeanOfCupsRow.holds Tryd.pinned (OpenSpec.ofChange fnExactMeanOfCupsSpec)

/-- ITS FALSE NEIGHBOUR: 'it returns false'. Refute it at one input. -/
def fnExactMeanOfCupsWrong : ChangeSpec := { name := "fnExactMeanOfCups", fn := fun _ => fun
  | [d] => { results := [.lit (.bool false)], args := [d] }
  | _ => none }
def FnExactMeanOfCupsWrongFalsely : Prop := fnExactMeanOfCupsRow.holds Tryd.pinned (OpenSpec.ofChange fnExactMeanOfCupsWrong)

/-- 'laws.FnExactSpreadOfCups': WHATEVER THE INPUT: true; the input reads as it did. -/
def fnExactSpreadOfCupsSpec : ChangeSpec := { name := "fnExactSpreadOfCups", fn := fun _ => fun
  | [d] => { results := [.lit (.bool true)], args := [d] }
  | _ => none }
def fnExactSpreadOfCupsRow : OpenClaim := { program := "ytlempjfkgmlidaadoor", sum := "b47804f3809c607bfc2fab03e290d46b0e8ad2c390cf1698fc5003f74435f899", func := "loop.example/g01333/laws.FnExactSpreadOfCups", spec := "fnExactSpreadOfCups", named := ["math/bits.deBruijn32tab", "math/bits.deBruijn64tab"], apart := false, laid := [("math/bits.deBruijn32tab", laid_math_bits_deBruijn32tab), ("math/bits.deBruijn64tab", laid_math_bits_deBruijn64tab)] }
def FnExactSpreadOfCupsSaid : Prop := fnExactSpreadOfCupsRow.holds Tryd.pinned (OpenSpec.ofChange fnExactSpreadOfCupsSpec)

/-- ITS FALSE NEIGHBOUR: 'it returns false'. Refute it at one input. -/
def fnExactSpreadOfCupsWrong : ChangeSpec := { name := "fnExactSpreadOfCups", fn := fun _ => fun
  | [d] => { results := [.lit (.bool false)], args := [d] }
  | _ => none }
def FnExactSpreadOfCupsWrongFalsely : Prop := fnExactSpreadOfCupsRow.holds Tryd.pinned (OpenSpec.ofChange fnExactSpreadOfCupsWrong)

/-- 'laws.FnExactAreAlike': WHATEVER THE INPUT: true; the input reads as it did. -/
def fnExactAreAlikeSpec : ChangeSpec := { name := "fnExactAreAlike", fn := fun _ => fun
  | [d] => { results := [.lit (.bool true)], args := [d] }
  | _ => none }
def fnExactAreAlikeRow : OpenClaim := { program := "ytlempjfkgmlidaadoor", sum := "b47804f3809c607bfc2fab03e290d46b0e8ad2c390cf1698fc5003f74435f899", func := "loop.example/g01333/laws.FnExactAreAlike", spec := "fnExactAreAlike", named := ["math/bits.deBruijn32tab", "math/bits.deBruijn64tab"], apart := false, laid := [("math/bits.deBruijn32tab", laid_math_bits_deBruijn32tab), ("math/bits.deBruijn64tab", laid_math_bits_deBruijn64tab)] }
def FnExactAreAlikeSaid : Prop := fnExactAreAlikeRow.holds Tryd.pinned (OpenSpec.ofChange fnExactAreAlikeSpec)

/-- ITS FALSE NEIGHBOUR: 'it returns false'. Refute it at one input. -/
def fnExactAreAlikeWrong : ChangeSpec := { name := "fnExactAreAlike", fn := fun _ => fun
  | [d] => { results := [.lit (.bool false)], args := [d] }
  | _ => none }
def FnExactAreAlikeWrongFalsely : Prop := fnExactAreAlikeRow.holds Tryd.pinned (OpenSpec.ofChange fnExactAreAlikeWrong)

/- THE SECOND FORM. 'bulk': how many values and letters a reading holds, each counted each time it is reached (what is shared counts as often as it is met; a slice's spare places count too). A statement '..UptoSaid' is the law's where the arguments, and the package variables that the reading takes, are together of bulk at most 1048576: NARROWER than '..Said'. Prove '..Said' where nothing that the law and all that it calls make is longer than what came in: it says more and counts as full. Else prove '..UptoSaid'. A law counts once. -/
mutual
def uptoBulk {H : Type} : DataW H → Nat
  | .lit (.string bytes) => bytes.length + 1
  | .lit _ => 1
  | .nil => 1
  | .ptr d => uptoBulk d + 1
  | .slice elems spare => uptoBulkAll elems + uptoBulkAll spare + 1
  | .agg parts => uptoBulkAll parts + 1
  | .iface _ d => uptoBulk d + 1
  | .map entries => uptoBulkEntries entries + 1
  | .held _ => 1
def uptoBulkAll {H : Type} : List (DataW H) → Nat
  | [] => 0
  | d :: r => uptoBulk d + uptoBulkAll r
def uptoBulkEntries {H : Type} : List (Lit × DataW H) → Nat
  | [] => 0
  | x :: r => uptoBulkEntry x + uptoBulkEntries r
def uptoBulkEntry {H : Type} : Lit × DataW H → Nat
  | (.string bytes, d) => bytes.length + uptoBulk d + 1
  | (_, d) => uptoBulk d + 1
 end
def uptoSmall : (H : Type) → List (DataW H) → Bool := fun _ ds => decide (uptoBulkAll ds ≤ 1048576)
def OpenSpec.upto (s : _root_.Go.ChangeSpec) : _root_.Go.OpenSpec := { _root_.Go.OpenSpec.ofChange s with cond := some uptoSmall }

/-- 'laws.FnExactAreCups', WHERE WHAT IT READS IS OF BULK AT MOST 1048576: true; the input reads as it did. -/
def fnExactAreCupsUptoRow : OpenClaim := { program := "ytlempjfkgmlidaadoor", sum := "b47804f3809c607bfc2fab03e290d46b0e8ad2c390cf1698fc5003f74435f899", func := "loop.example/g01333/laws.FnExactAreCups", spec := "fnExactAreCups", named := ["math/bits.deBruijn32tab", "math/bits.deBruijn64tab"], apart := false, laid := [("math/bits.deBruijn32tab", laid_math_bits_deBruijn32tab), ("math/bits.deBruijn64tab", laid_math_bits_deBruijn64tab)], narrowed := true }
def FnExactAreCupsUptoSaid : Prop := fnExactAreCupsUptoRow.holds Tryd.pinned (OpenSpec.upto fnExactAreCupsSpec)

/-- 'laws.FnExactCupsOf', WHERE WHAT IT READS IS OF BULK AT MOST 1048576: true; the input reads as it did. -/
def fnExactCupsOfUptoRow : OpenClaim := { program := "ytlempjfkgmlidaadoor", sum := "b47804f3809c607bfc2fab03e290d46b0e8ad2c390cf1698fc5003f74435f899", func := "loop.example/g01333/laws.FnExactCupsOf", spec := "fnExactCupsOf", named := ["math/bits.deBruijn32tab", "math/bits.deBruijn64tab"], apart := false, laid := [("math/bits.deBruijn32tab", laid_math_bits_deBruijn32tab), ("math/bits.deBruijn64tab", laid_math_bits_deBruijn64tab)], narrowed := true }
def FnExactCupsOfUptoSaid : Prop := fnExactCupsOfUptoRow.holds Tryd.pinned (OpenSpec.upto fnExactCupsOfSpec)

/-- 'laws.FnExactContentOf', WHERE WHAT IT READS IS OF BULK AT MOST 1048576: true; the input reads as it did. -/
def fnExactContentOfUptoRow : OpenClaim := { program := "ytlempjfkgmlidaadoor", sum := "b47804f3809c607bfc2fab03e290d46b0e8ad2c390cf1698fc5003f74435f899", func := "loop.example/g01333/laws.FnExactContentOf", spec := "fnExactContentOf", named := ["math/bits.deBruijn32tab", "math/bits.deBruijn64tab"], apart := false, laid := [("math/bits.deBruijn32tab", laid_math_bits_deBruijn32tab), ("math/bits.deBruijn64tab", laid_math_bits_deBruijn64tab)], narrowed := true }
def FnExactContentOfUptoSaid : Prop := fnExactContentOfUptoRow.holds Tryd.pinned (OpenSpec.upto fnExactContentOfSpec)

/-- 'laws.FnExactMeanOfCups', WHERE WHAT IT READS IS OF BULK AT MOST 1048576: true; the input reads as it did. -/
def fnExactMeanOfCupsUptoRow : OpenClaim := { program := "ytlempjfkgmlidaadoor", sum := "b47804f3809c607bfc2fab03e290d46b0e8ad2c390cf1698fc5003f74435f899", func := "loop.example/g01333/laws.FnExactMeanOfCups", spec := "fnExactMeanOfCups", named := ["math/bits.deBruijn32tab", "math/bits.deBruijn64tab"], apart := false, laid := [("math/bits.deBruijn32tab", laid_math_bits_deBruijn32tab), ("math/bits.deBruijn64tab", laid_math_bits_deBruijn64tab)], narrowed := true }
def FnExactMeanOfCupsUptoSaid : Prop := fnExactMeanOfCupsUptoRow.holds Tryd.pinned (OpenSpec.upto fnExactMeanOfCupsSpec)

/-- 'laws.FnExactSpreadOfCups', WHERE WHAT IT READS IS OF BULK AT MOST 1048576: true; the input reads as it did. -/
def fnExactSpreadOfCupsUptoRow : OpenClaim := { program := "ytlempjfkgmlidaadoor", sum := "b47804f3809c607bfc2fab03e290d46b0e8ad2c390cf1698fc5003f74435f899", func := "loop.example/g01333/laws.FnExactSpreadOfCups", spec := "fnExactSpreadOfCups", named := ["math/bits.deBruijn32tab", "math/bits.deBruijn64tab"], apart := false, laid := [("math/bits.deBruijn32tab", laid_math_bits_deBruijn32tab), ("math/bits.deBruijn64tab", laid_math_bits_deBruijn64tab)], narrowed := true }
def FnExactSpreadOfCupsUptoSaid : Prop := fnExactSpreadOfCupsUptoRow.holds Tryd.pinned (OpenSpec.upto fnExactSpreadOfCupsSpec)

/-- 'laws.FnExactAreAlike', WHERE WHAT IT READS IS OF BULK AT MOST 1048576: true; the input reads as it did. -/
def fnExactAreAlikeUptoRow : OpenClaim := { program := "ytlempjfkgmlidaadoor", sum := "b47804f3809c607bfc2fab03e290d46b0e8ad2c390cf1698fc5003f74435f899", func := "loop.example/g01333/laws.FnExactAreAlike", spec := "fnExactAreAlike", named := ["math/bits.deBruijn32tab", "math/bits.deBruijn64tab"], apart := false, laid := [("math/bits.deBruijn32tab", laid_math_bits_deBruijn32tab), ("math/bits.deBruijn64tab", laid_math_bits_deBruijn64tab)], narrowed := true }
def FnExactAreAlikeUptoSaid : Prop := fnExactAreAlikeUptoRow.holds Tryd.pinned (OpenSpec.upto fnExactAreAlikeSpec)

end Rows
end Go.Proofs.YtlempjfkgmlidaaDoor
