/-
  DERIVED. GIVEN WITH THE SEED: THE CARDS: each row of YtfjpajeipihlaabDoorRows.lean that lists a variable, with what it lists TIED to the program's text (the seventh form; the later family's looks); each row that meets fmt, with fmt's text TOLD by the authors' own Lean function (tested against real Go, not proved from fmt's source: count such statements apart). THE CARD IS WHAT COUNTS. Prove the row's statement (the work); the ties are given (YtfjpajeipihlaabDoorTie.lean); close each card by the builder's one call (the guide's Derived/Test/ToyasCard.lean, 'card_holds'). Laid BY PROGRAM, IN A SANDBOX (cutbox-door.mjs). By AI agents, Wed Nov 11 2026. No macro, syntax, notation, axiom, sorry.
-/
import Derived.Test.YtfjpajeipihlaabDoorRows
import GoSem.ClaimSeven
namespace Go.Proofs.YtfjpajeipihlaabDoor
namespace Rows

/-- THE TIED CARD OF 'laws.FnDropPut'. -/
def fnDropPutCard : Claim7 := { stood := { row := fnDropPutRow, standIns := [], harness := (true, "5f6ac058e25e4dc6ed8899d3bd50bbc5ec27d4e5b3a1feb8ed48b3c010ef5d5a"), looks := false }, kinds := [], alts := [], laidByText := true, laidKinds := [.data, .pinned], laidTests := true, laidLooks := .later }
def FnDropPutCardSaid : Prop := Claim7.holds Tryd.pinned (.plain (OpenSpec.ofChange fnDropPutSpec)) fnDropPutCard

/-- THE TIED CARD OF 'laws.FnExactFieldValid'. -/
def fnExactFieldValidCard : Claim7 := { stood := { row := fnExactFieldValidRow, standIns := [], harness := (true, "5f6ac058e25e4dc6ed8899d3bd50bbc5ec27d4e5b3a1feb8ed48b3c010ef5d5a"), looks := false }, kinds := [], alts := [], laidByText := true, laidKinds := [.data, .pinned], laidTests := true, laidLooks := .later }
def FnExactFieldValidCardSaid : Prop := Claim7.holds Tryd.pinned (.plain (OpenSpec.ofChange fnExactFieldValidSpec)) fnExactFieldValidCard

/-- THE TIED CARD OF 'laws.FnExactFoldField'. -/
def fnExactFoldFieldCard : Claim7 := { stood := { row := fnExactFoldFieldRow, standIns := [], harness := (true, "5f6ac058e25e4dc6ed8899d3bd50bbc5ec27d4e5b3a1feb8ed48b3c010ef5d5a"), looks := false }, kinds := [], alts := [], laidByText := true, laidKinds := [.data, .pinned], laidTests := true, laidLooks := .later }
def FnExactFoldFieldCardSaid : Prop := Claim7.holds Tryd.pinned (.plain (OpenSpec.ofChange fnExactFoldFieldSpec)) fnExactFoldFieldCard

/-- THE TIED CARD OF 'laws.FnExactFoldFields'. -/
def fnExactFoldFieldsCard : Claim7 := { stood := { row := fnExactFoldFieldsRow, standIns := [], harness := (true, "5f6ac058e25e4dc6ed8899d3bd50bbc5ec27d4e5b3a1feb8ed48b3c010ef5d5a"), looks := false }, kinds := [], alts := [], laidByText := true, laidKinds := [.data, .pinned], laidTests := true, laidLooks := .later }
def FnExactFoldFieldsCardSaid : Prop := Claim7.holds Tryd.pinned (.plain (OpenSpec.ofChange fnExactFoldFieldsSpec)) fnExactFoldFieldsCard

/-- THE TIED CARD OF 'laws.FnExactReadFields'. -/
def fnExactReadFieldsCard : Claim7 := { stood := { row := fnExactReadFieldsRow, standIns := [], harness := (true, "5f6ac058e25e4dc6ed8899d3bd50bbc5ec27d4e5b3a1feb8ed48b3c010ef5d5a"), looks := false }, kinds := [], alts := [], laidByText := true, laidKinds := [.data, .pinned], laidTests := true, laidLooks := .later }
def FnExactReadFieldsCardSaid : Prop := Claim7.holds Tryd.pinned (.plain (OpenSpec.ofChange fnExactReadFieldsSpec)) fnExactReadFieldsCard

/-- THE TIED CARD OF 'laws.FnExactPutField'. -/
def fnExactPutFieldCard : Claim7 := { stood := { row := fnExactPutFieldRow, standIns := [], harness := (true, "5f6ac058e25e4dc6ed8899d3bd50bbc5ec27d4e5b3a1feb8ed48b3c010ef5d5a"), looks := false }, kinds := [], alts := [], laidByText := true, laidKinds := [.data, .pinned], laidTests := true, laidLooks := .later }
def FnExactPutFieldCardSaid : Prop := Claim7.holds Tryd.pinned (.plain (OpenSpec.ofChange fnExactPutFieldSpec)) fnExactPutFieldCard

/-- THE SECOND FORM's CARD OF 'laws.FnDropPut'. -/
def fnDropPutUptoCard : Claim7 := { stood := { row := fnDropPutUptoRow, standIns := [], harness := (true, "5f6ac058e25e4dc6ed8899d3bd50bbc5ec27d4e5b3a1feb8ed48b3c010ef5d5a"), looks := false }, kinds := [], alts := [], laidByText := true, laidKinds := [.data, .pinned], laidTests := true, laidLooks := .later }
def FnDropPutUptoCardSaid : Prop := Claim7.holds Tryd.pinned (.plain (OpenSpec.upto fnDropPutSpec)) fnDropPutUptoCard

/-- THE SECOND FORM's CARD OF 'laws.FnExactFieldValid'. -/
def fnExactFieldValidUptoCard : Claim7 := { stood := { row := fnExactFieldValidUptoRow, standIns := [], harness := (true, "5f6ac058e25e4dc6ed8899d3bd50bbc5ec27d4e5b3a1feb8ed48b3c010ef5d5a"), looks := false }, kinds := [], alts := [], laidByText := true, laidKinds := [.data, .pinned], laidTests := true, laidLooks := .later }
def FnExactFieldValidUptoCardSaid : Prop := Claim7.holds Tryd.pinned (.plain (OpenSpec.upto fnExactFieldValidSpec)) fnExactFieldValidUptoCard

/-- THE SECOND FORM's CARD OF 'laws.FnExactFoldField'. -/
def fnExactFoldFieldUptoCard : Claim7 := { stood := { row := fnExactFoldFieldUptoRow, standIns := [], harness := (true, "5f6ac058e25e4dc6ed8899d3bd50bbc5ec27d4e5b3a1feb8ed48b3c010ef5d5a"), looks := false }, kinds := [], alts := [], laidByText := true, laidKinds := [.data, .pinned], laidTests := true, laidLooks := .later }
def FnExactFoldFieldUptoCardSaid : Prop := Claim7.holds Tryd.pinned (.plain (OpenSpec.upto fnExactFoldFieldSpec)) fnExactFoldFieldUptoCard

/-- THE SECOND FORM's CARD OF 'laws.FnExactFoldFields'. -/
def fnExactFoldFieldsUptoCard : Claim7 := { stood := { row := fnExactFoldFieldsUptoRow, standIns := [], harness := (true, "5f6ac058e25e4dc6ed8899d3bd50bbc5ec27d4e5b3a1feb8ed48b3c010ef5d5a"), looks := false }, kinds := [], alts := [], laidByText := true, laidKinds := [.data, .pinned], laidTests := true, laidLooks := .later }
def FnExactFoldFieldsUptoCardSaid : Prop := Claim7.holds Tryd.pinned (.plain (OpenSpec.upto fnExactFoldFieldsSpec)) fnExactFoldFieldsUptoCard

/-- THE SECOND FORM's CARD OF 'laws.FnExactReadFields'. -/
def fnExactReadFieldsUptoCard : Claim7 := { stood := { row := fnExactReadFieldsUptoRow, standIns := [], harness := (true, "5f6ac058e25e4dc6ed8899d3bd50bbc5ec27d4e5b3a1feb8ed48b3c010ef5d5a"), looks := false }, kinds := [], alts := [], laidByText := true, laidKinds := [.data, .pinned], laidTests := true, laidLooks := .later }
def FnExactReadFieldsUptoCardSaid : Prop := Claim7.holds Tryd.pinned (.plain (OpenSpec.upto fnExactReadFieldsSpec)) fnExactReadFieldsUptoCard

/-- THE SECOND FORM's CARD OF 'laws.FnExactPutField'. -/
def fnExactPutFieldUptoCard : Claim7 := { stood := { row := fnExactPutFieldUptoRow, standIns := [], harness := (true, "5f6ac058e25e4dc6ed8899d3bd50bbc5ec27d4e5b3a1feb8ed48b3c010ef5d5a"), looks := false }, kinds := [], alts := [], laidByText := true, laidKinds := [.data, .pinned], laidTests := true, laidLooks := .later }
def FnExactPutFieldUptoCardSaid : Prop := Claim7.holds Tryd.pinned (.plain (OpenSpec.upto fnExactPutFieldSpec)) fnExactPutFieldUptoCard
end Rows
end Go.Proofs.YtfjpajeipihlaabDoor
