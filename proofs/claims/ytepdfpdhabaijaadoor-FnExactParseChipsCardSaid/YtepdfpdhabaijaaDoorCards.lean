/-
  DERIVED. GIVEN WITH THE SEED: THE CARDS: each row of YtepdfpdhabaijaaDoorRows.lean that lists a variable, with what it lists TIED to the program's text (the seventh form; the later family's looks); each row that meets fmt, with fmt's text TOLD by the authors' own Lean function (tested against real Go, not proved from fmt's source: count such statements apart). THE CARD IS WHAT COUNTS. Prove the row's statement (the work); the ties are given (YtepdfpdhabaijaaDoorTie.lean); close each card by the builder's one call (the guide's Derived/Test/ToyasCard.lean, 'card_holds'). Laid BY PROGRAM, IN A SANDBOX (cutbox-door.mjs). By AI agents, Wed Nov 11 2026. No macro, syntax, notation, axiom, sorry.
-/
import Derived.Test.YtepdfpdhabaijaaDoorRows
import GoSem.ClaimSeven
namespace Go.Proofs.YtepdfpdhabaijaaDoor
namespace Rows

/-- THE TIED CARD OF 'laws.FnExactChipsText'. -/
def fnExactChipsTextCard : Claim7 := { stood := { row := fnExactChipsTextRow, standIns := [], harness := (true, "b4f5e796b4ba4d8156de7f36d138a4d286e182a173ec7ccea054ae46ce2274e6"), looks := true }, kinds := [], alts := [], laidByText := true, laidKinds := [.data, .data, .data], laidTests := true, laidLooks := .later }
def FnExactChipsTextCardSaid : Prop := Claim7.holds Tryd.pinned (.plain (OpenSpec.ofChange fnExactChipsTextSpec)) fnExactChipsTextCard

/-- THE TIED CARD OF 'laws.FnExactParseChips'. -/
def fnExactParseChipsCard : Claim7 := { stood := { row := fnExactParseChipsRow, standIns := [], harness := (true, "b4f5e796b4ba4d8156de7f36d138a4d286e182a173ec7ccea054ae46ce2274e6"), looks := true }, kinds := [], alts := [], laidByText := true, laidKinds := [.data, .data, .data, .data, .sentinel, .sentinel, .pinned], laidTests := true, laidLooks := .later }
def FnExactParseChipsCardSaid : Prop := Claim7.holds Tryd.pinned (.plain (OpenSpec.ofChange fnExactParseChipsSpec)) fnExactParseChipsCard

/-- THE SECOND FORM's CARD OF 'laws.FnExactChipsText'. -/
def fnExactChipsTextUptoCard : Claim7 := { stood := { row := fnExactChipsTextUptoRow, standIns := [], harness := (true, "b4f5e796b4ba4d8156de7f36d138a4d286e182a173ec7ccea054ae46ce2274e6"), looks := true }, kinds := [], alts := [], laidByText := true, laidKinds := [.data, .data, .data], laidTests := true, laidLooks := .later }
def FnExactChipsTextUptoCardSaid : Prop := Claim7.holds Tryd.pinned (.plain (OpenSpec.upto fnExactChipsTextSpec)) fnExactChipsTextUptoCard

/-- THE SECOND FORM's CARD OF 'laws.FnExactParseChips'. -/
def fnExactParseChipsUptoCard : Claim7 := { stood := { row := fnExactParseChipsUptoRow, standIns := [], harness := (true, "b4f5e796b4ba4d8156de7f36d138a4d286e182a173ec7ccea054ae46ce2274e6"), looks := true }, kinds := [], alts := [], laidByText := true, laidKinds := [.data, .data, .data, .data, .sentinel, .sentinel, .pinned], laidTests := true, laidLooks := .later }
def FnExactParseChipsUptoCardSaid : Prop := Claim7.holds Tryd.pinned (.plain (OpenSpec.upto fnExactParseChipsSpec)) fnExactParseChipsUptoCard
end Rows
end Go.Proofs.YtepdfpdhabaijaaDoor
