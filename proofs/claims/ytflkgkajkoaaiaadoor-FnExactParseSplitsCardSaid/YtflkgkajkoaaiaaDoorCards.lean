/-
  DERIVED. GIVEN WITH THE SEED: THE CARDS: each row of YtflkgkajkoaaiaaDoorRows.lean that lists a variable, with what it lists TIED to the program's text (the seventh form; the later family's looks); each row that meets fmt, with fmt's text TOLD by the authors' own Lean function (tested against real Go, not proved from fmt's source: count such statements apart). THE CARD IS WHAT COUNTS. Prove the row's statement (the work); the ties are given (YtflkgkajkoaaiaaDoorTie.lean); close each card by the builder's one call (the guide's Derived/Test/ToyasCard.lean, 'card_holds'). Laid BY PROGRAM, IN A SANDBOX (cutbox-door.mjs). By AI agents, Wed Nov 11 2026. No macro, syntax, notation, axiom, sorry.
-/
import Derived.Test.YtflkgkajkoaaiaaDoorRows
import GoSem.ClaimSeven
namespace Go.Proofs.YtflkgkajkoaaiaaDoor
namespace Rows

/-- THE TIED CARD OF 'laws.FnExactSplitsText'. -/
def fnExactSplitsTextCard : Claim7 := { stood := { row := fnExactSplitsTextRow, standIns := [], harness := (true, "5a9f3e5424f44660ef47f24e2e1144ec9536296e030eb4709d2aad273e56127b"), looks := true }, kinds := [], alts := [], laidByText := true, laidKinds := [.data, .data, .data], laidTests := true, laidLooks := .later }
def FnExactSplitsTextCardSaid : Prop := Claim7.holds Tryd.pinned (.plain (OpenSpec.ofChange fnExactSplitsTextSpec)) fnExactSplitsTextCard

/-- THE TIED CARD OF 'laws.FnExactParseSplits'. -/
def fnExactParseSplitsCard : Claim7 := { stood := { row := fnExactParseSplitsRow, standIns := [], harness := (true, "5a9f3e5424f44660ef47f24e2e1144ec9536296e030eb4709d2aad273e56127b"), looks := true }, kinds := [], alts := [], laidByText := true, laidKinds := [.data, .data, .data, .data, .sentinel, .sentinel, .pinned], laidTests := true, laidLooks := .later }
def FnExactParseSplitsCardSaid : Prop := Claim7.holds Tryd.pinned (.plain (OpenSpec.ofChange fnExactParseSplitsSpec)) fnExactParseSplitsCard

/-- THE SECOND FORM's CARD OF 'laws.FnExactSplitsText'. -/
def fnExactSplitsTextUptoCard : Claim7 := { stood := { row := fnExactSplitsTextUptoRow, standIns := [], harness := (true, "5a9f3e5424f44660ef47f24e2e1144ec9536296e030eb4709d2aad273e56127b"), looks := true }, kinds := [], alts := [], laidByText := true, laidKinds := [.data, .data, .data], laidTests := true, laidLooks := .later }
def FnExactSplitsTextUptoCardSaid : Prop := Claim7.holds Tryd.pinned (.plain (OpenSpec.upto fnExactSplitsTextSpec)) fnExactSplitsTextUptoCard

/-- THE SECOND FORM's CARD OF 'laws.FnExactParseSplits'. -/
def fnExactParseSplitsUptoCard : Claim7 := { stood := { row := fnExactParseSplitsUptoRow, standIns := [], harness := (true, "5a9f3e5424f44660ef47f24e2e1144ec9536296e030eb4709d2aad273e56127b"), looks := true }, kinds := [], alts := [], laidByText := true, laidKinds := [.data, .data, .data, .data, .sentinel, .sentinel, .pinned], laidTests := true, laidLooks := .later }
def FnExactParseSplitsUptoCardSaid : Prop := Claim7.holds Tryd.pinned (.plain (OpenSpec.upto fnExactParseSplitsSpec)) fnExactParseSplitsUptoCard
end Rows
end Go.Proofs.YtflkgkajkoaaiaaDoor
