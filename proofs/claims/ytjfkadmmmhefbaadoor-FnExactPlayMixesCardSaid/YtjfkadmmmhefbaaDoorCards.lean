/-
  DERIVED. GIVEN WITH THE SEED: THE CARDS: each row of YtjfkadmmmhefbaaDoorRows.lean that lists a variable, with what it lists TIED to the program's text (the seventh form; the later family's looks); each row that meets fmt, with fmt's text TOLD by the authors' own Lean function (tested against real Go, not proved from fmt's source: count such statements apart). THE CARD IS WHAT COUNTS. Prove the row's statement (the work); the ties are given (YtjfkadmmmhefbaaDoorTie.lean); close each card by the builder's one call (the guide's Derived/Test/ToyasCard.lean, 'card_holds'). Laid BY PROGRAM, IN A SANDBOX (cutbox-door.mjs). By AI agents, Wed Nov 11 2026. No macro, syntax, notation, axiom, sorry.
-/
import Derived.Test.YtjfkadmmmhefbaaDoorRows
import GoSem.ClaimSeven
namespace Go.Proofs.YtjfkadmmmhefbaaDoor
namespace Rows

/-- THE TIED CARD OF 'laws.FnExactPlayMixes'. -/
def fnExactPlayMixesCard : Claim7 := { stood := { row := fnExactPlayMixesRow, standIns := [], harness := (true, "ab7f3534fed1be69b7baa74d22d1143b07ae719e40859ad3f2d2dbc0c33422df"), looks := false }, kinds := [], alts := [], laidByText := true, laidKinds := [.data, .data], laidTests := true, laidLooks := .later }
def FnExactPlayMixesCardSaid : Prop := Claim7.holds Tryd.pinned (.plain (OpenSpec.ofChange fnExactPlayMixesSpec)) fnExactPlayMixesCard

/-- THE SECOND FORM's CARD OF 'laws.FnExactPlayMixes'. -/
def fnExactPlayMixesUptoCard : Claim7 := { stood := { row := fnExactPlayMixesUptoRow, standIns := [], harness := (true, "ab7f3534fed1be69b7baa74d22d1143b07ae719e40859ad3f2d2dbc0c33422df"), looks := false }, kinds := [], alts := [], laidByText := true, laidKinds := [.data, .data], laidTests := true, laidLooks := .later }
def FnExactPlayMixesUptoCardSaid : Prop := Claim7.holds Tryd.pinned (.plain (OpenSpec.upto fnExactPlayMixesSpec)) fnExactPlayMixesUptoCard
end Rows
end Go.Proofs.YtjfkadmmmhefbaaDoor
