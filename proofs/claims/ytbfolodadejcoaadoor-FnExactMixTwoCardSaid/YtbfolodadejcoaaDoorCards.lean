/-
  DERIVED. GIVEN WITH THE SEED: THE CARDS: each row of YtbfolodadejcoaaDoorRows.lean that lists a variable, with what it lists TIED to the program's text (the seventh form; the later family's looks); each row that meets fmt, with fmt's text TOLD by the authors' own Lean function (tested against real Go, not proved from fmt's source: count such statements apart). THE CARD IS WHAT COUNTS. Prove the row's statement (the work); the ties are given (YtbfolodadejcoaaDoorTie.lean); close each card by the builder's one call (the guide's Derived/Test/ToyasCard.lean, 'card_holds'). Laid BY PROGRAM, IN A SANDBOX (cutbox-door.mjs). By AI agents, Wed Nov 11 2026. No macro, syntax, notation, axiom, sorry.
-/
import Derived.Test.YtbfolodadejcoaaDoorRows
import GoSem.ClaimSeven
namespace Go.Proofs.YtbfolodadejcoaaDoor
namespace Rows

/-- THE TIED CARD OF 'laws.FnExactMixTwo'. -/
def fnExactMixTwoCard : Claim7 := { stood := { row := fnExactMixTwoRow, standIns := [], harness := (true, "85382c30b75aa4bac903865e85070e3a745ee5daf1a7d2f3ebcbbaafa4a47dd1"), looks := false }, kinds := [], alts := [], laidByText := true, laidKinds := [.data, .data], laidTests := true, laidLooks := .later }
def FnExactMixTwoCardSaid : Prop := Claim7.holds Tryd.pinned (.plain (OpenSpec.ofChange fnExactMixTwoSpec)) fnExactMixTwoCard

/-- THE TIED CARD OF 'laws.FnExactPlayMixes'. -/
def fnExactPlayMixesCard : Claim7 := { stood := { row := fnExactPlayMixesRow, standIns := [], harness := (true, "85382c30b75aa4bac903865e85070e3a745ee5daf1a7d2f3ebcbbaafa4a47dd1"), looks := false }, kinds := [], alts := [], laidByText := true, laidKinds := [.data, .data], laidTests := true, laidLooks := .later }
def FnExactPlayMixesCardSaid : Prop := Claim7.holds Tryd.pinned (.plain (OpenSpec.ofChange fnExactPlayMixesSpec)) fnExactPlayMixesCard

/-- THE SECOND FORM's CARD OF 'laws.FnExactMixTwo'. -/
def fnExactMixTwoUptoCard : Claim7 := { stood := { row := fnExactMixTwoUptoRow, standIns := [], harness := (true, "85382c30b75aa4bac903865e85070e3a745ee5daf1a7d2f3ebcbbaafa4a47dd1"), looks := false }, kinds := [], alts := [], laidByText := true, laidKinds := [.data, .data], laidTests := true, laidLooks := .later }
def FnExactMixTwoUptoCardSaid : Prop := Claim7.holds Tryd.pinned (.plain (OpenSpec.upto fnExactMixTwoSpec)) fnExactMixTwoUptoCard

/-- THE SECOND FORM's CARD OF 'laws.FnExactPlayMixes'. -/
def fnExactPlayMixesUptoCard : Claim7 := { stood := { row := fnExactPlayMixesUptoRow, standIns := [], harness := (true, "85382c30b75aa4bac903865e85070e3a745ee5daf1a7d2f3ebcbbaafa4a47dd1"), looks := false }, kinds := [], alts := [], laidByText := true, laidKinds := [.data, .data], laidTests := true, laidLooks := .later }
def FnExactPlayMixesUptoCardSaid : Prop := Claim7.holds Tryd.pinned (.plain (OpenSpec.upto fnExactPlayMixesSpec)) fnExactPlayMixesUptoCard
end Rows
end Go.Proofs.YtbfolodadejcoaaDoor
