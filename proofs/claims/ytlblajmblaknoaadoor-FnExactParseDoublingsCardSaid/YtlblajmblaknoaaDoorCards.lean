/-
  DERIVED. GIVEN WITH THE SEED: THE CARDS: each row of YtlblajmblaknoaaDoorRows.lean that lists a variable, with what it lists TIED to the program's text (the seventh form; the later family's looks); each row that meets fmt, with fmt's text TOLD by the authors' own Lean function (tested against real Go, not proved from fmt's source: count such statements apart). THE CARD IS WHAT COUNTS. Prove the row's statement (the work); the ties are given (YtlblajmblaknoaaDoorTie.lean); close each card by the builder's one call (the guide's Derived/Test/ToyasCard.lean, 'card_holds'). Laid BY PROGRAM, IN A SANDBOX (cutbox-door.mjs). By AI agents, Wed Nov 11 2026. No macro, syntax, notation, axiom, sorry.
-/
import Derived.Test.YtlblajmblaknoaaDoorRows
import GoSem.ClaimSeven
namespace Go.Proofs.YtlblajmblaknoaaDoor
namespace Rows

/-- THE TIED CARD OF 'laws.FnExactParseDoublings'. -/
def fnExactParseDoublingsCard : Claim7 := { stood := { row := fnExactParseDoublingsRow, standIns := [], harness := (true, "1f4ea7007975944ca75b9545d0439444b73b3f10e6df4744a207460049c47b3c"), looks := false }, kinds := [], alts := [], laidByText := true, laidKinds := [.data, .pinned], laidTests := true, laidLooks := .later }
def FnExactParseDoublingsCardSaid : Prop := Claim7.holds Tryd.pinned (.plain (OpenSpec.ofChange fnExactParseDoublingsSpec)) fnExactParseDoublingsCard

/-- THE SECOND FORM's CARD OF 'laws.FnExactParseDoublings'. -/
def fnExactParseDoublingsUptoCard : Claim7 := { stood := { row := fnExactParseDoublingsUptoRow, standIns := [], harness := (true, "1f4ea7007975944ca75b9545d0439444b73b3f10e6df4744a207460049c47b3c"), looks := false }, kinds := [], alts := [], laidByText := true, laidKinds := [.data, .pinned], laidTests := true, laidLooks := .later }
def FnExactParseDoublingsUptoCardSaid : Prop := Claim7.holds Tryd.pinned (.plain (OpenSpec.upto fnExactParseDoublingsSpec)) fnExactParseDoublingsUptoCard
end Rows
end Go.Proofs.YtlblajmblaknoaaDoor
