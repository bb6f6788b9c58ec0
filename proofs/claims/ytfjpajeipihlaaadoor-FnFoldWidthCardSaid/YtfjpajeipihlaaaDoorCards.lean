/-
  DERIVED. GIVEN WITH THE SEED: THE CARDS: each row of YtfjpajeipihlaaaDoorRows.lean that lists a variable, with what it lists TIED to the program's text (the seventh form; the later family's looks); each row that meets fmt, with fmt's text TOLD by the authors' own Lean function (tested against real Go, not proved from fmt's source: count such statements apart). THE CARD IS WHAT COUNTS. Prove the row's statement (the work); the ties are given (YtfjpajeipihlaaaDoorTie.lean); close each card by the builder's one call (the guide's Derived/Test/ToyasCard.lean, 'card_holds'). Laid BY PROGRAM, IN A SANDBOX (cutbox-door.mjs). By AI agents, Wed Nov 11 2026. No macro, syntax, notation, axiom, sorry.
-/
import Derived.Test.YtfjpajeipihlaaaDoorRows
import GoSem.ClaimSeven
namespace Go.Proofs.YtfjpajeipihlaaaDoor
namespace Rows

/-- THE TIED CARD OF 'laws.FnFoldField'. -/
def fnFoldFieldCard : Claim7 := { stood := { row := fnFoldFieldRow, standIns := [], harness := (true, "6935d78dbe185b58b18c0d750504e01fbb474a425d8b8222097c469ac19904dc"), looks := false }, kinds := [], alts := [], laidByText := true, laidKinds := [.data, .pinned], laidTests := true, laidLooks := .later }
def FnFoldFieldCardSaid : Prop := Claim7.holds Tryd.pinned (.plain (OpenSpec.ofChange fnFoldFieldSpec)) fnFoldFieldCard

/-- THE TIED CARD OF 'laws.FnFoldFields'. -/
def fnFoldFieldsCard : Claim7 := { stood := { row := fnFoldFieldsRow, standIns := [], harness := (true, "6935d78dbe185b58b18c0d750504e01fbb474a425d8b8222097c469ac19904dc"), looks := false }, kinds := [], alts := [], laidByText := true, laidKinds := [.data, .pinned], laidTests := true, laidLooks := .later }
def FnFoldFieldsCardSaid : Prop := Claim7.holds Tryd.pinned (.plain (OpenSpec.ofChange fnFoldFieldsSpec)) fnFoldFieldsCard

/-- THE TIED CARD OF 'laws.FnPutField'. -/
def fnPutFieldCard : Claim7 := { stood := { row := fnPutFieldRow, standIns := [], harness := (true, "6935d78dbe185b58b18c0d750504e01fbb474a425d8b8222097c469ac19904dc"), looks := false }, kinds := [], alts := [], laidByText := true, laidKinds := [.data, .pinned], laidTests := true, laidLooks := .later }
def FnPutFieldCardSaid : Prop := Claim7.holds Tryd.pinned (.plain (OpenSpec.ofChange fnPutFieldSpec)) fnPutFieldCard

/-- THE TIED CARD OF 'laws.FnFieldValid'. -/
def fnFieldValidCard : Claim7 := { stood := { row := fnFieldValidRow, standIns := [], harness := (true, "6935d78dbe185b58b18c0d750504e01fbb474a425d8b8222097c469ac19904dc"), looks := false }, kinds := [], alts := [], laidByText := true, laidKinds := [.data, .pinned], laidTests := true, laidLooks := .later }
def FnFieldValidCardSaid : Prop := Claim7.holds Tryd.pinned (.plain (OpenSpec.ofChange fnFieldValidSpec)) fnFieldValidCard

/-- THE TIED CARD OF 'laws.FnFoldWidth'. -/
def fnFoldWidthCard : Claim7 := { stood := { row := fnFoldWidthRow, standIns := [], harness := (true, "6935d78dbe185b58b18c0d750504e01fbb474a425d8b8222097c469ac19904dc"), looks := false }, kinds := [], alts := [], laidByText := true, laidKinds := [.data, .pinned], laidTests := true, laidLooks := .later }
def FnFoldWidthCardSaid : Prop := Claim7.holds Tryd.pinned (.plain (OpenSpec.ofChange fnFoldWidthSpec)) fnFoldWidthCard

/-- THE TIED CARD OF 'laws.FnReadSpaces'. -/
def fnReadSpacesCard : Claim7 := { stood := { row := fnReadSpacesRow, standIns := [], harness := (true, "6935d78dbe185b58b18c0d750504e01fbb474a425d8b8222097c469ac19904dc"), looks := false }, kinds := [], alts := [], laidByText := true, laidKinds := [.data, .pinned], laidTests := true, laidLooks := .later }
def FnReadSpacesCardSaid : Prop := Claim7.holds Tryd.pinned (.plain (OpenSpec.ofChange fnReadSpacesSpec)) fnReadSpacesCard

/-- THE TIED CARD OF 'laws.FnReadParts'. -/
def fnReadPartsCard : Claim7 := { stood := { row := fnReadPartsRow, standIns := [], harness := (true, "6935d78dbe185b58b18c0d750504e01fbb474a425d8b8222097c469ac19904dc"), looks := false }, kinds := [], alts := [], laidByText := true, laidKinds := [.data, .pinned], laidTests := true, laidLooks := .later }
def FnReadPartsCardSaid : Prop := Claim7.holds Tryd.pinned (.plain (OpenSpec.ofChange fnReadPartsSpec)) fnReadPartsCard

/-- THE TIED CARD OF 'laws.FnPutTwice'. -/
def fnPutTwiceCard : Claim7 := { stood := { row := fnPutTwiceRow, standIns := [], harness := (true, "6935d78dbe185b58b18c0d750504e01fbb474a425d8b8222097c469ac19904dc"), looks := false }, kinds := [], alts := [], laidByText := true, laidKinds := [.data, .pinned], laidTests := true, laidLooks := .later }
def FnPutTwiceCardSaid : Prop := Claim7.holds Tryd.pinned (.plain (OpenSpec.ofChange fnPutTwiceSpec)) fnPutTwiceCard

/-- THE SECOND FORM's CARD OF 'laws.FnFoldField'. -/
def fnFoldFieldUptoCard : Claim7 := { stood := { row := fnFoldFieldUptoRow, standIns := [], harness := (true, "6935d78dbe185b58b18c0d750504e01fbb474a425d8b8222097c469ac19904dc"), looks := false }, kinds := [], alts := [], laidByText := true, laidKinds := [.data, .pinned], laidTests := true, laidLooks := .later }
def FnFoldFieldUptoCardSaid : Prop := Claim7.holds Tryd.pinned (.plain (OpenSpec.upto fnFoldFieldSpec)) fnFoldFieldUptoCard

/-- THE SECOND FORM's CARD OF 'laws.FnFoldFields'. -/
def fnFoldFieldsUptoCard : Claim7 := { stood := { row := fnFoldFieldsUptoRow, standIns := [], harness := (true, "6935d78dbe185b58b18c0d750504e01fbb474a425d8b8222097c469ac19904dc"), looks := false }, kinds := [], alts := [], laidByText := true, laidKinds := [.data, .pinned], laidTests := true, laidLooks := .later }
def FnFoldFieldsUptoCardSaid : Prop := Claim7.holds Tryd.pinned (.plain (OpenSpec.upto fnFoldFieldsSpec)) fnFoldFieldsUptoCard

/-- THE SECOND FORM's CARD OF 'laws.FnPutField'. -/
def fnPutFieldUptoCard : Claim7 := { stood := { row := fnPutFieldUptoRow, standIns := [], harness := (true, "6935d78dbe185b58b18c0d750504e01fbb474a425d8b8222097c469ac19904dc"), looks := false }, kinds := [], alts := [], laidByText := true, laidKinds := [.data, .pinned], laidTests := true, laidLooks := .later }
def FnPutFieldUptoCardSaid : Prop := Claim7.holds Tryd.pinned (.plain (OpenSpec.upto fnPutFieldSpec)) fnPutFieldUptoCard

/-- THE SECOND FORM's CARD OF 'laws.FnFieldValid'. -/
def fnFieldValidUptoCard : Claim7 := { stood := { row := fnFieldValidUptoRow, standIns := [], harness := (true, "6935d78dbe185b58b18c0d750504e01fbb474a425d8b8222097c469ac19904dc"), looks := false }, kinds := [], alts := [], laidByText := true, laidKinds := [.data, .pinned], laidTests := true, laidLooks := .later }
def FnFieldValidUptoCardSaid : Prop := Claim7.holds Tryd.pinned (.plain (OpenSpec.upto fnFieldValidSpec)) fnFieldValidUptoCard

/-- THE SECOND FORM's CARD OF 'laws.FnFoldWidth'. -/
def fnFoldWidthUptoCard : Claim7 := { stood := { row := fnFoldWidthUptoRow, standIns := [], harness := (true, "6935d78dbe185b58b18c0d750504e01fbb474a425d8b8222097c469ac19904dc"), looks := false }, kinds := [], alts := [], laidByText := true, laidKinds := [.data, .pinned], laidTests := true, laidLooks := .later }
def FnFoldWidthUptoCardSaid : Prop := Claim7.holds Tryd.pinned (.plain (OpenSpec.upto fnFoldWidthSpec)) fnFoldWidthUptoCard

/-- THE SECOND FORM's CARD OF 'laws.FnReadSpaces'. -/
def fnReadSpacesUptoCard : Claim7 := { stood := { row := fnReadSpacesUptoRow, standIns := [], harness := (true, "6935d78dbe185b58b18c0d750504e01fbb474a425d8b8222097c469ac19904dc"), looks := false }, kinds := [], alts := [], laidByText := true, laidKinds := [.data, .pinned], laidTests := true, laidLooks := .later }
def FnReadSpacesUptoCardSaid : Prop := Claim7.holds Tryd.pinned (.plain (OpenSpec.upto fnReadSpacesSpec)) fnReadSpacesUptoCard

/-- THE SECOND FORM's CARD OF 'laws.FnReadParts'. -/
def fnReadPartsUptoCard : Claim7 := { stood := { row := fnReadPartsUptoRow, standIns := [], harness := (true, "6935d78dbe185b58b18c0d750504e01fbb474a425d8b8222097c469ac19904dc"), looks := false }, kinds := [], alts := [], laidByText := true, laidKinds := [.data, .pinned], laidTests := true, laidLooks := .later }
def FnReadPartsUptoCardSaid : Prop := Claim7.holds Tryd.pinned (.plain (OpenSpec.upto fnReadPartsSpec)) fnReadPartsUptoCard

/-- THE SECOND FORM's CARD OF 'laws.FnPutTwice'. -/
def fnPutTwiceUptoCard : Claim7 := { stood := { row := fnPutTwiceUptoRow, standIns := [], harness := (true, "6935d78dbe185b58b18c0d750504e01fbb474a425d8b8222097c469ac19904dc"), looks := false }, kinds := [], alts := [], laidByText := true, laidKinds := [.data, .pinned], laidTests := true, laidLooks := .later }
def FnPutTwiceUptoCardSaid : Prop := Claim7.holds Tryd.pinned (.plain (OpenSpec.upto fnPutTwiceSpec)) fnPutTwiceUptoCard
end Rows
end Go.Proofs.YtfjpajeipihlaaaDoor
