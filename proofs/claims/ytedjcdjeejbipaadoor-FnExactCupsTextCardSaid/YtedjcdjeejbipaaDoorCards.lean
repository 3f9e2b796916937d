/-
  DERIVED. GIVEN WITH THE SEED: THE CARDS: each row of YtedjcdjeejbipaaDoorRows.lean that lists a variable, with what it lists TIED to the program's text (the seventh form; the later family's looks); each row that meets fmt, with fmt's text TOLD by the authors' own Lean function (tested against real Go, not proved from fmt's source: count such statements apart). THE CARD IS WHAT COUNTS. Prove the row's statement (the work); the ties are given (YtedjcdjeejbipaaDoorTie.lean); close each card by the builder's one call (the guide's Derived/Test/ToyasCard.lean, 'card_holds'). Laid BY PROGRAM, IN A SANDBOX (cutbox-door.mjs). By AI agents, Wed Nov 11 2026. No macro, syntax, notation, axiom, sorry.
-/
import Derived.Test.YtedjcdjeejbipaaDoorRows
import GoSem.ClaimSeven
namespace Go.Proofs.YtedjcdjeejbipaaDoor
namespace Rows

/-- THE TIED CARD OF 'laws.FnExactCupsText'. -/
def fnExactCupsTextCard : Claim7 := { stood := { row := fnExactCupsTextRow, standIns := [], harness := (true, "9d2f50774b8d9051081add4585047924d46b4648800f09a25e1843a3f8d6d5b1"), looks := true }, kinds := [], alts := [], laidByText := true, laidKinds := [.data, .data, .data], laidTests := true, laidLooks := .later }
def FnExactCupsTextCardSaid : Prop := Claim7.holds Tryd.pinned (.plain (OpenSpec.ofChange fnExactCupsTextSpec)) fnExactCupsTextCard

/-- THE TIED CARD OF 'laws.FnExactParseCups'. -/
def fnExactParseCupsCard : Claim7 := { stood := { row := fnExactParseCupsRow, standIns := [], harness := (true, "9d2f50774b8d9051081add4585047924d46b4648800f09a25e1843a3f8d6d5b1"), looks := true }, kinds := [], alts := [], laidByText := true, laidKinds := [.data, .data, .data, .data, .sentinel, .sentinel, .pinned], laidTests := true, laidLooks := .later }
def FnExactParseCupsCardSaid : Prop := Claim7.holds Tryd.pinned (.plain (OpenSpec.ofChange fnExactParseCupsSpec)) fnExactParseCupsCard

/-- THE SECOND FORM's CARD OF 'laws.FnExactCupsText'. -/
def fnExactCupsTextUptoCard : Claim7 := { stood := { row := fnExactCupsTextUptoRow, standIns := [], harness := (true, "9d2f50774b8d9051081add4585047924d46b4648800f09a25e1843a3f8d6d5b1"), looks := true }, kinds := [], alts := [], laidByText := true, laidKinds := [.data, .data, .data], laidTests := true, laidLooks := .later }
def FnExactCupsTextUptoCardSaid : Prop := Claim7.holds Tryd.pinned (.plain (OpenSpec.upto fnExactCupsTextSpec)) fnExactCupsTextUptoCard

/-- THE SECOND FORM's CARD OF 'laws.FnExactParseCups'. -/
def fnExactParseCupsUptoCard : Claim7 := { stood := { row := fnExactParseCupsUptoRow, standIns := [], harness := (true, "9d2f50774b8d9051081add4585047924d46b4648800f09a25e1843a3f8d6d5b1"), looks := true }, kinds := [], alts := [], laidByText := true, laidKinds := [.data, .data, .data, .data, .sentinel, .sentinel, .pinned], laidTests := true, laidLooks := .later }
def FnExactParseCupsUptoCardSaid : Prop := Claim7.holds Tryd.pinned (.plain (OpenSpec.upto fnExactParseCupsSpec)) fnExactParseCupsUptoCard
end Rows
end Go.Proofs.YtedjcdjeejbipaaDoor
