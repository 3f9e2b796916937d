/-
  DERIVED. GIVEN WITH THE SEED: THE CARDS: each row of YtlaceicajgbdiaaDoorRows.lean that lists a variable, with what it lists TIED to the program's text (the seventh form; the later family's looks); each row that meets fmt, with fmt's text TOLD by the authors' own Lean function (tested against real Go, not proved from fmt's source: count such statements apart). THE CARD IS WHAT COUNTS. Prove the row's statement (the work); the ties are given (YtlaceicajgbdiaaDoorTie.lean); close each card by the builder's one call (the guide's Derived/Test/ToyasCard.lean, 'card_holds'). Laid BY PROGRAM, IN A SANDBOX (cutbox-door.mjs). By AI agents, Wed Nov 11 2026. No macro, syntax, notation, axiom, sorry.
-/
import Derived.Test.YtlaceicajgbdiaaDoorRows
import GoSem.ClaimSeven
namespace Go.Proofs.YtlaceicajgbdiaaDoor
namespace Rows

/-- THE TIED CARD OF 'laws.FnExactDoublingsText'. -/
def fnExactDoublingsTextCard : Claim7 := { stood := { row := fnExactDoublingsTextRow, standIns := [], harness := (true, "efc5cf8b25498ce7eaf5c240b8c67dda29b237fe8377dba191a8419f6b9873a1"), looks := true }, kinds := [], alts := [], laidByText := true, laidKinds := [.data, .data, .data], laidTests := true, laidLooks := .later }
def FnExactDoublingsTextCardSaid : Prop := Claim7.holds Tryd.pinned (.plain (OpenSpec.ofChange fnExactDoublingsTextSpec)) fnExactDoublingsTextCard

/-- THE TIED CARD OF 'laws.FnExactParseDoublings'. -/
def fnExactParseDoublingsCard : Claim7 := { stood := { row := fnExactParseDoublingsRow, standIns := [], harness := (true, "efc5cf8b25498ce7eaf5c240b8c67dda29b237fe8377dba191a8419f6b9873a1"), looks := true }, kinds := [], alts := [], laidByText := true, laidKinds := [.data, .pinned], laidTests := true, laidLooks := .later }
def FnExactParseDoublingsCardSaid : Prop := Claim7.holds Tryd.pinned (.plain (OpenSpec.ofChange fnExactParseDoublingsSpec)) fnExactParseDoublingsCard

/-- THE TIED CARD OF 'laws.FnExactHeapsText'. -/
def fnExactHeapsTextCard : Claim7 := { stood := { row := fnExactHeapsTextRow, standIns := [], harness := (true, "efc5cf8b25498ce7eaf5c240b8c67dda29b237fe8377dba191a8419f6b9873a1"), looks := true }, kinds := [], alts := [], laidByText := true, laidKinds := [.data, .data, .data], laidTests := true, laidLooks := .later }
def FnExactHeapsTextCardSaid : Prop := Claim7.holds Tryd.pinned (.plain (OpenSpec.ofChange fnExactHeapsTextSpec)) fnExactHeapsTextCard

/-- THE TIED CARD OF 'laws.FnExactParseHeaps'. -/
def fnExactParseHeapsCard : Claim7 := { stood := { row := fnExactParseHeapsRow, standIns := [], harness := (true, "efc5cf8b25498ce7eaf5c240b8c67dda29b237fe8377dba191a8419f6b9873a1"), looks := true }, kinds := [], alts := [], laidByText := true, laidKinds := [.data, .data, .data, .data, .sentinel, .sentinel, .pinned], laidTests := true, laidLooks := .later }
def FnExactParseHeapsCardSaid : Prop := Claim7.holds Tryd.pinned (.plain (OpenSpec.ofChange fnExactParseHeapsSpec)) fnExactParseHeapsCard

/-- THE SECOND FORM's CARD OF 'laws.FnExactDoublingsText'. -/
def fnExactDoublingsTextUptoCard : Claim7 := { stood := { row := fnExactDoublingsTextUptoRow, standIns := [], harness := (true, "efc5cf8b25498ce7eaf5c240b8c67dda29b237fe8377dba191a8419f6b9873a1"), looks := true }, kinds := [], alts := [], laidByText := true, laidKinds := [.data, .data, .data], laidTests := true, laidLooks := .later }
def FnExactDoublingsTextUptoCardSaid : Prop := Claim7.holds Tryd.pinned (.plain (OpenSpec.upto fnExactDoublingsTextSpec)) fnExactDoublingsTextUptoCard

/-- THE SECOND FORM's CARD OF 'laws.FnExactParseDoublings'. -/
def fnExactParseDoublingsUptoCard : Claim7 := { stood := { row := fnExactParseDoublingsUptoRow, standIns := [], harness := (true, "efc5cf8b25498ce7eaf5c240b8c67dda29b237fe8377dba191a8419f6b9873a1"), looks := true }, kinds := [], alts := [], laidByText := true, laidKinds := [.data, .pinned], laidTests := true, laidLooks := .later }
def FnExactParseDoublingsUptoCardSaid : Prop := Claim7.holds Tryd.pinned (.plain (OpenSpec.upto fnExactParseDoublingsSpec)) fnExactParseDoublingsUptoCard

/-- THE SECOND FORM's CARD OF 'laws.FnExactHeapsText'. -/
def fnExactHeapsTextUptoCard : Claim7 := { stood := { row := fnExactHeapsTextUptoRow, standIns := [], harness := (true, "efc5cf8b25498ce7eaf5c240b8c67dda29b237fe8377dba191a8419f6b9873a1"), looks := true }, kinds := [], alts := [], laidByText := true, laidKinds := [.data, .data, .data], laidTests := true, laidLooks := .later }
def FnExactHeapsTextUptoCardSaid : Prop := Claim7.holds Tryd.pinned (.plain (OpenSpec.upto fnExactHeapsTextSpec)) fnExactHeapsTextUptoCard

/-- THE SECOND FORM's CARD OF 'laws.FnExactParseHeaps'. -/
def fnExactParseHeapsUptoCard : Claim7 := { stood := { row := fnExactParseHeapsUptoRow, standIns := [], harness := (true, "efc5cf8b25498ce7eaf5c240b8c67dda29b237fe8377dba191a8419f6b9873a1"), looks := true }, kinds := [], alts := [], laidByText := true, laidKinds := [.data, .data, .data, .data, .sentinel, .sentinel, .pinned], laidTests := true, laidLooks := .later }
def FnExactParseHeapsUptoCardSaid : Prop := Claim7.holds Tryd.pinned (.plain (OpenSpec.upto fnExactParseHeapsSpec)) fnExactParseHeapsUptoCard
end Rows
end Go.Proofs.YtlaceicajgbdiaaDoor
