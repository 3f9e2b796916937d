/-
  DERIVED. GIVEN WITH THE SEED: THE CARDS: each row of YtnmafcbkipkppaaDoorRows.lean that lists a variable, with what it lists TIED to the program's text (the seventh form; the later family's looks); each row that meets fmt, with fmt's text TOLD by the authors' own Lean function (tested against real Go, not proved from fmt's source: count such statements apart). THE CARD IS WHAT COUNTS. Prove the row's statement (the work); the ties are given (YtnmafcbkipkppaaDoorTie.lean); close each card by the builder's one call (the guide's Derived/Test/ToyasCard.lean, 'card_holds'). Laid BY PROGRAM, IN A SANDBOX (cutbox-door.mjs). By AI agents, Wed Nov 11 2026. No macro, syntax, notation, axiom, sorry.
-/
import Derived.Test.YtnmafcbkipkppaaDoorRows
import GoSem.ClaimSeven
namespace Go.Proofs.YtnmafcbkipkppaaDoor
namespace Rows

/-- THE TIED CARD OF 'laws.FnExactParseCups'. -/
def fnExactParseCupsCard : Claim7 := { stood := { row := fnExactParseCupsRow, standIns := [], harness := (true, "da86932c99f63de0f7002060160e33782622e22837ff19b33073c6cc932a9157"), looks := true }, kinds := [], alts := [], laidByText := true, laidKinds := [.data, .data, .data, .data, .sentinel, .sentinel, .pinned], laidTests := true, laidLooks := .later }
def FnExactParseCupsCardSaid : Prop := Claim7.holds Tryd.pinned (.plain (OpenSpec.ofChange fnExactParseCupsSpec)) fnExactParseCupsCard

/-- THE SECOND FORM's CARD OF 'laws.FnExactParseCups'. -/
def fnExactParseCupsUptoCard : Claim7 := { stood := { row := fnExactParseCupsUptoRow, standIns := [], harness := (true, "da86932c99f63de0f7002060160e33782622e22837ff19b33073c6cc932a9157"), looks := true }, kinds := [], alts := [], laidByText := true, laidKinds := [.data, .data, .data, .data, .sentinel, .sentinel, .pinned], laidTests := true, laidLooks := .later }
def FnExactParseCupsUptoCardSaid : Prop := Claim7.holds Tryd.pinned (.plain (OpenSpec.upto fnExactParseCupsSpec)) fnExactParseCupsUptoCard
end Rows
end Go.Proofs.YtnmafcbkipkppaaDoor
