/-
  DERIVED. GIVEN WITH THE SEED: THE CARDS: each row of YtlempjfkgmlidaaDoorRows.lean that lists a variable, with what it lists TIED to the program's text (the seventh form; the later family's looks); each row that meets fmt, with fmt's text TOLD by the authors' own Lean function (tested against real Go, not proved from fmt's source: count such statements apart). THE CARD IS WHAT COUNTS. Prove the row's statement (the work); the ties are given (YtlempjfkgmlidaaDoorTie.lean); close each card by the builder's one call (the guide's Derived/Test/ToyasCard.lean, 'card_holds'). Laid BY PROGRAM, IN A SANDBOX (cutbox-door.mjs). By AI agents, Wed Nov 11 2026. No macro, syntax, notation, axiom, sorry.
-/
import Derived.Test.YtlempjfkgmlidaaDoorRows
import GoSem.ClaimSeven
namespace Go.Proofs.YtlempjfkgmlidaaDoor
namespace Rows

/-- THE TIED CARD OF 'laws.FnExactAreCups'. -/
def fnExactAreCupsCard : Claim7 := { stood := { row := fnExactAreCupsRow, standIns := [], harness := (true, "e6202c25c0fe19479f55f5e28501865d39eb98acb89684e6952b6c729b1bd10e"), looks := false }, kinds := [], alts := [], laidByText := true, laidKinds := [.data, .data], laidTests := true, laidLooks := .later }
def FnExactAreCupsCardSaid : Prop := Claim7.holds Tryd.pinned (.plain (OpenSpec.ofChange fnExactAreCupsSpec)) fnExactAreCupsCard

/-- THE TIED CARD OF 'laws.FnExactCupsOf'. -/
def fnExactCupsOfCard : Claim7 := { stood := { row := fnExactCupsOfRow, standIns := [], harness := (true, "e6202c25c0fe19479f55f5e28501865d39eb98acb89684e6952b6c729b1bd10e"), looks := false }, kinds := [], alts := [], laidByText := true, laidKinds := [.data, .data], laidTests := true, laidLooks := .later }
def FnExactCupsOfCardSaid : Prop := Claim7.holds Tryd.pinned (.plain (OpenSpec.ofChange fnExactCupsOfSpec)) fnExactCupsOfCard

/-- THE TIED CARD OF 'laws.FnExactContentOf'. -/
def fnExactContentOfCard : Claim7 := { stood := { row := fnExactContentOfRow, standIns := [], harness := (true, "e6202c25c0fe19479f55f5e28501865d39eb98acb89684e6952b6c729b1bd10e"), looks := false }, kinds := [], alts := [], laidByText := true, laidKinds := [.data, .data], laidTests := true, laidLooks := .later }
def FnExactContentOfCardSaid : Prop := Claim7.holds Tryd.pinned (.plain (OpenSpec.ofChange fnExactContentOfSpec)) fnExactContentOfCard

/-- THE TIED CARD OF 'laws.FnExactMeanOfCups'. -/
def fnExactMeanOfCupsCard : Claim7 := { stood := { row := fnExactMeanOfCupsRow, standIns := [], harness := (true, "e6202c25c0fe19479f55f5e28501865d39eb98acb89684e6952b6c729b1bd10e"), looks := false }, kinds := [], alts := [], laidByText := true, laidKinds := [.data, .data], laidTests := true, laidLooks := .later }
def FnExactMeanOfCupsCardSaid : Prop := Claim7.holds Tryd.pinned (.plain (OpenSpec.ofChange fnExactMeanOfCupsSpec)) fnExactMeanOfCupsCard

/-- THE TIED CARD OF 'laws.FnExactSpreadOfCups'. -/
def fnExactSpreadOfCupsCard : Claim7 := { stood := { row := fnExactSpreadOfCupsRow, standIns := [], harness := (true, "e6202c25c0fe19479f55f5e28501865d39eb98acb89684e6952b6c729b1bd10e"), looks := false }, kinds := [], alts := [], laidByText := true, laidKinds := [.data, .data], laidTests := true, laidLooks := .later }
def FnExactSpreadOfCupsCardSaid : Prop := Claim7.holds Tryd.pinned (.plain (OpenSpec.ofChange fnExactSpreadOfCupsSpec)) fnExactSpreadOfCupsCard

/-- THE TIED CARD OF 'laws.FnExactAreAlike'. -/
def fnExactAreAlikeCard : Claim7 := { stood := { row := fnExactAreAlikeRow, standIns := [], harness := (true, "e6202c25c0fe19479f55f5e28501865d39eb98acb89684e6952b6c729b1bd10e"), looks := false }, kinds := [], alts := [], laidByText := true, laidKinds := [.data, .data], laidTests := true, laidLooks := .later }
def FnExactAreAlikeCardSaid : Prop := Claim7.holds Tryd.pinned (.plain (OpenSpec.ofChange fnExactAreAlikeSpec)) fnExactAreAlikeCard

/-- THE SECOND FORM's CARD OF 'laws.FnExactAreCups'. -/
def fnExactAreCupsUptoCard : Claim7 := { stood := { row := fnExactAreCupsUptoRow, standIns := [], harness := (true, "e6202c25c0fe19479f55f5e28501865d39eb98acb89684e6952b6c729b1bd10e"), looks := false }, kinds := [], alts := [], laidByText := true, laidKinds := [.data, .data], laidTests := true, laidLooks := .later }
def FnExactAreCupsUptoCardSaid : Prop := Claim7.holds Tryd.pinned (.plain (OpenSpec.upto fnExactAreCupsSpec)) fnExactAreCupsUptoCard

/-- THE SECOND FORM's CARD OF 'laws.FnExactCupsOf'. -/
def fnExactCupsOfUptoCard : Claim7 := { stood := { row := fnExactCupsOfUptoRow, standIns := [], harness := (true, "e6202c25c0fe19479f55f5e28501865d39eb98acb89684e6952b6c729b1bd10e"), looks := false }, kinds := [], alts := [], laidByText := true, laidKinds := [.data, .data], laidTests := true, laidLooks := .later }
def FnExactCupsOfUptoCardSaid : Prop := Claim7.holds Tryd.pinned (.plain (OpenSpec.upto fnExactCupsOfSpec)) fnExactCupsOfUptoCard

/-- THE SECOND FORM's CARD OF 'laws.FnExactContentOf'. -/
def fnExactContentOfUptoCard : Claim7 := { stood := { row := fnExactContentOfUptoRow, standIns := [], harness := (true, "e6202c25c0fe19479f55f5e28501865d39eb98acb89684e6952b6c729b1bd10e"), looks := false }, kinds := [], alts := [], laidByText := true, laidKinds := [.data, .data], laidTests := true, laidLooks := .later }
def FnExactContentOfUptoCardSaid : Prop := Claim7.holds Tryd.pinned (.plain (OpenSpec.upto fnExactContentOfSpec)) fnExactContentOfUptoCard

/-- THE SECOND FORM's CARD OF 'laws.FnExactMeanOfCups'. -/
def fnExactMeanOfCupsUptoCard : Claim7 := { stood := { row := fnExactMeanOfCupsUptoRow, standIns := [], harness := (true, "e6202c25c0fe19479f55f5e28501865d39eb98acb89684e6952b6c729b1bd10e"), looks := false }, kinds := [], alts := [], laidByText := true, laidKinds := [.data, .data], laidTests := true, laidLooks := .later }
def FnExactMeanOfCupsUptoCardSaid : Prop := Claim7.holds Tryd.pinned (.plain (OpenSpec.upto fnExactMeanOfCupsSpec)) fnExactMeanOfCupsUptoCard

/-- THE SECOND FORM's CARD OF 'laws.FnExactSpreadOfCups'. -/
def fnExactSpreadOfCupsUptoCard : Claim7 := { stood := { row := fnExactSpreadOfCupsUptoRow, standIns := [], harness := (true, "e6202c25c0fe19479f55f5e28501865d39eb98acb89684e6952b6c729b1bd10e"), looks := false }, kinds := [], alts := [], laidByText := true, laidKinds := [.data, .data], laidTests := true, laidLooks := .later }
def FnExactSpreadOfCupsUptoCardSaid : Prop := Claim7.holds Tryd.pinned (.plain (OpenSpec.upto fnExactSpreadOfCupsSpec)) fnExactSpreadOfCupsUptoCard

/-- THE SECOND FORM's CARD OF 'laws.FnExactAreAlike'. -/
def fnExactAreAlikeUptoCard : Claim7 := { stood := { row := fnExactAreAlikeUptoRow, standIns := [], harness := (true, "e6202c25c0fe19479f55f5e28501865d39eb98acb89684e6952b6c729b1bd10e"), looks := false }, kinds := [], alts := [], laidByText := true, laidKinds := [.data, .data], laidTests := true, laidLooks := .later }
def FnExactAreAlikeUptoCardSaid : Prop := Claim7.holds Tryd.pinned (.plain (OpenSpec.upto fnExactAreAlikeSpec)) fnExactAreAlikeUptoCard
end Rows
end Go.Proofs.YtlempjfkgmlidaaDoor
