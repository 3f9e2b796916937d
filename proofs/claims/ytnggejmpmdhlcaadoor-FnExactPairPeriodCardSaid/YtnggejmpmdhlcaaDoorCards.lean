/-
  DERIVED. GIVEN WITH THE SEED: THE CARDS: each row of YtnggejmpmdhlcaaDoorRows.lean that lists a variable, with what it lists TIED to the program's text (the seventh form; the later family's looks); each row that meets fmt, with fmt's text TOLD by the authors' own Lean function (tested against real Go, not proved from fmt's source: count such statements apart). THE CARD IS WHAT COUNTS. Prove the row's statement (the work); the ties are given (YtnggejmpmdhlcaaDoorTie.lean); close each card by the builder's one call (the guide's Derived/Test/ToyasCard.lean, 'card_holds'). Laid BY PROGRAM, IN A SANDBOX (cutbox-door.mjs). By AI agents, Wed Nov 11 2026. No macro, syntax, notation, axiom, sorry.
-/
import Derived.Test.YtnggejmpmdhlcaaDoorRows
import GoSem.ClaimSeven
namespace Go.Proofs.YtnggejmpmdhlcaaDoor
namespace Rows

/-- THE TIED CARD OF 'laws.FnExactPairLead'. -/
def fnExactPairLeadCard : Claim7 := { stood := { row := fnExactPairLeadRow, standIns := [], harness := (true, "899527642f0fa3d7eb84ca46dbdb5d106cf8ef5e8d6fc713082d8f891e8ed67a"), looks := false }, kinds := [], alts := [], laidByText := true, laidKinds := [.data, .data], laidTests := true, laidLooks := .later }
def FnExactPairLeadCardSaid : Prop := Claim7.holds Tryd.pinned (.plain (OpenSpec.ofChange fnExactPairLeadSpec)) fnExactPairLeadCard

/-- THE TIED CARD OF 'laws.FnExactPairPeriod'. -/
def fnExactPairPeriodCard : Claim7 := { stood := { row := fnExactPairPeriodRow, standIns := [], harness := (true, "899527642f0fa3d7eb84ca46dbdb5d106cf8ef5e8d6fc713082d8f891e8ed67a"), looks := false }, kinds := [], alts := [], laidByText := true, laidKinds := [.data, .data], laidTests := true, laidLooks := .later }
def FnExactPairPeriodCardSaid : Prop := Claim7.holds Tryd.pinned (.plain (OpenSpec.ofChange fnExactPairPeriodSpec)) fnExactPairPeriodCard

/-- THE TIED CARD OF 'laws.FnExactDoesPairEmpty'. -/
def fnExactDoesPairEmptyCard : Claim7 := { stood := { row := fnExactDoesPairEmptyRow, standIns := [], harness := (true, "899527642f0fa3d7eb84ca46dbdb5d106cf8ef5e8d6fc713082d8f891e8ed67a"), looks := false }, kinds := [], alts := [], laidByText := true, laidKinds := [.data, .data], laidTests := true, laidLooks := .later }
def FnExactDoesPairEmptyCardSaid : Prop := Claim7.holds Tryd.pinned (.plain (OpenSpec.ofChange fnExactDoesPairEmptySpec)) fnExactDoesPairEmptyCard

/-- THE TIED CARD OF 'laws.FnExactPairStepsToEmpty'. -/
def fnExactPairStepsToEmptyCard : Claim7 := { stood := { row := fnExactPairStepsToEmptyRow, standIns := [], harness := (true, "899527642f0fa3d7eb84ca46dbdb5d106cf8ef5e8d6fc713082d8f891e8ed67a"), looks := false }, kinds := [], alts := [], laidByText := true, laidKinds := [.data, .data], laidTests := true, laidLooks := .later }
def FnExactPairStepsToEmptyCardSaid : Prop := Claim7.holds Tryd.pinned (.plain (OpenSpec.ofChange fnExactPairStepsToEmptySpec)) fnExactPairStepsToEmptyCard

/-- THE SECOND FORM's CARD OF 'laws.FnExactPairLead'. -/
def fnExactPairLeadUptoCard : Claim7 := { stood := { row := fnExactPairLeadUptoRow, standIns := [], harness := (true, "899527642f0fa3d7eb84ca46dbdb5d106cf8ef5e8d6fc713082d8f891e8ed67a"), looks := false }, kinds := [], alts := [], laidByText := true, laidKinds := [.data, .data], laidTests := true, laidLooks := .later }
def FnExactPairLeadUptoCardSaid : Prop := Claim7.holds Tryd.pinned (.plain (OpenSpec.upto fnExactPairLeadSpec)) fnExactPairLeadUptoCard

/-- THE SECOND FORM's CARD OF 'laws.FnExactPairPeriod'. -/
def fnExactPairPeriodUptoCard : Claim7 := { stood := { row := fnExactPairPeriodUptoRow, standIns := [], harness := (true, "899527642f0fa3d7eb84ca46dbdb5d106cf8ef5e8d6fc713082d8f891e8ed67a"), looks := false }, kinds := [], alts := [], laidByText := true, laidKinds := [.data, .data], laidTests := true, laidLooks := .later }
def FnExactPairPeriodUptoCardSaid : Prop := Claim7.holds Tryd.pinned (.plain (OpenSpec.upto fnExactPairPeriodSpec)) fnExactPairPeriodUptoCard

/-- THE SECOND FORM's CARD OF 'laws.FnExactDoesPairEmpty'. -/
def fnExactDoesPairEmptyUptoCard : Claim7 := { stood := { row := fnExactDoesPairEmptyUptoRow, standIns := [], harness := (true, "899527642f0fa3d7eb84ca46dbdb5d106cf8ef5e8d6fc713082d8f891e8ed67a"), looks := false }, kinds := [], alts := [], laidByText := true, laidKinds := [.data, .data], laidTests := true, laidLooks := .later }
def FnExactDoesPairEmptyUptoCardSaid : Prop := Claim7.holds Tryd.pinned (.plain (OpenSpec.upto fnExactDoesPairEmptySpec)) fnExactDoesPairEmptyUptoCard

/-- THE SECOND FORM's CARD OF 'laws.FnExactPairStepsToEmpty'. -/
def fnExactPairStepsToEmptyUptoCard : Claim7 := { stood := { row := fnExactPairStepsToEmptyUptoRow, standIns := [], harness := (true, "899527642f0fa3d7eb84ca46dbdb5d106cf8ef5e8d6fc713082d8f891e8ed67a"), looks := false }, kinds := [], alts := [], laidByText := true, laidKinds := [.data, .data], laidTests := true, laidLooks := .later }
def FnExactPairStepsToEmptyUptoCardSaid : Prop := Claim7.holds Tryd.pinned (.plain (OpenSpec.upto fnExactPairStepsToEmptySpec)) fnExactPairStepsToEmptyUptoCard
end Rows
end Go.Proofs.YtnggejmpmdhlcaaDoor
