/-
  DERIVED. GIVEN WITH THE SEED: THE CARDS: each row of YtpfchdhbdlcddaaDoorRows.lean that lists a variable, with what it lists TIED to the program's text (the seventh form; the later family's looks); each row that meets fmt, with fmt's text TOLD by the authors' own Lean function (tested against real Go, not proved from fmt's source: count such statements apart). THE CARD IS WHAT COUNTS. Prove the row's statement (the work); the ties are given (YtpfchdhbdlcddaaDoorTie.lean); close each card by the builder's one call (the guide's Derived/Test/ToyasCard.lean, 'card_holds'). Laid BY PROGRAM, IN A SANDBOX (cutbox-door.mjs). By AI agents, Wed Nov 11 2026. No macro, syntax, notation, axiom, sorry.
-/
import Derived.Test.YtpfchdhbdlcddaaDoorRows
import GoSem.ClaimSeven
namespace Go.Proofs.YtpfchdhbdlcddaaDoor
namespace Rows

/-- THE TIED CARD OF 'laws.FnExactDoublingsText'. -/
def fnExactDoublingsTextCard : Claim7 := { stood := { row := fnExactDoublingsTextRow, standIns := [], harness := (true, "d2aac869172c0b2e6204b003fcb6b77f04ba7d55449d9fa03f883ec7d64f3e62"), looks := false }, kinds := [], alts := [], laidByText := true, laidKinds := [.data, .data, .data], laidTests := true, laidLooks := .later }
def FnExactDoublingsTextCardSaid : Prop := Claim7.holds Tryd.pinned (.plain (OpenSpec.ofChange fnExactDoublingsTextSpec)) fnExactDoublingsTextCard

/-- THE SECOND FORM's CARD OF 'laws.FnExactDoublingsText'. -/
def fnExactDoublingsTextUptoCard : Claim7 := { stood := { row := fnExactDoublingsTextUptoRow, standIns := [], harness := (true, "d2aac869172c0b2e6204b003fcb6b77f04ba7d55449d9fa03f883ec7d64f3e62"), looks := false }, kinds := [], alts := [], laidByText := true, laidKinds := [.data, .data, .data], laidTests := true, laidLooks := .later }
def FnExactDoublingsTextUptoCardSaid : Prop := Claim7.holds Tryd.pinned (.plain (OpenSpec.upto fnExactDoublingsTextSpec)) fnExactDoublingsTextUptoCard
end Rows
end Go.Proofs.YtpfchdhbdlcddaaDoor
