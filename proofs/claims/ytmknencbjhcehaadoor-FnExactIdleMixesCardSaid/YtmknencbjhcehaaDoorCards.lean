/-
  DERIVED. GIVEN WITH THE SEED: THE CARDS: each row of YtmknencbjhcehaaDoorRows.lean that lists a variable, with what it lists TIED to the program's text (the seventh form; the later family's looks); each row that meets fmt, with fmt's text TOLD by the authors' own Lean function (tested against real Go, not proved from fmt's source: count such statements apart). THE CARD IS WHAT COUNTS. Prove the row's statement (the work); the ties are given (YtmknencbjhcehaaDoorTie.lean); close each card by the builder's one call (the guide's Derived/Test/ToyasCard.lean, 'card_holds'). Laid BY PROGRAM, IN A SANDBOX (cutbox-door.mjs). By AI agents, Wed Nov 11 2026. No macro, syntax, notation, axiom, sorry.
-/
import Derived.Test.YtmknencbjhcehaaDoorRows
import GoSem.ClaimSeven
namespace Go.Proofs.YtmknencbjhcehaaDoor
namespace Rows

/-- THE TIED CARD OF 'laws.FnExactIdleMixes'. -/
def fnExactIdleMixesCard : Claim7 := { stood := { row := fnExactIdleMixesRow, standIns := [], harness := (true, "c98a4e08c1ed591bb7a7a29ed2381bcc66e66b140e6e6aee33223fa7b9cd32ab"), looks := false }, kinds := [], alts := [], laidByText := true, laidKinds := [.data, .data], laidTests := true, laidLooks := .later }
def FnExactIdleMixesCardSaid : Prop := Claim7.holds Tryd.pinned (.plain (OpenSpec.ofChange fnExactIdleMixesSpec)) fnExactIdleMixesCard

/-- THE SECOND FORM's CARD OF 'laws.FnExactIdleMixes'. -/
def fnExactIdleMixesUptoCard : Claim7 := { stood := { row := fnExactIdleMixesUptoRow, standIns := [], harness := (true, "c98a4e08c1ed591bb7a7a29ed2381bcc66e66b140e6e6aee33223fa7b9cd32ab"), looks := false }, kinds := [], alts := [], laidByText := true, laidKinds := [.data, .data], laidTests := true, laidLooks := .later }
def FnExactIdleMixesUptoCardSaid : Prop := Claim7.holds Tryd.pinned (.plain (OpenSpec.upto fnExactIdleMixesSpec)) fnExactIdleMixesUptoCard
end Rows
end Go.Proofs.YtmknencbjhcehaaDoor
