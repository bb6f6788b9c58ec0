/-
  DERIVED. GIVEN WITH THE SEED: THE CARDS: each row of YtdaoeoociamdnabDoorRows.lean that lists a variable, with what it lists TIED to the program's text (the seventh form; the later family's looks); each row that meets fmt, with fmt's text TOLD by the authors' own Lean function (tested against real Go, not proved from fmt's source: count such statements apart). THE CARD IS WHAT COUNTS. Prove the row's statement (the work); the ties are given (YtdaoeoociamdnabDoorTie.lean); close each card by the builder's one call (the guide's Derived/Test/ToyasCard.lean, 'card_holds'). Laid BY PROGRAM, IN A SANDBOX (cutbox-door.mjs). By AI agents, Wed Nov 11 2026. No macro, syntax, notation, axiom, sorry.
-/
import Derived.Test.YtdaoeoociamdnabDoorRows
import GoSem.ClaimSeven
namespace Go.Proofs.YtdaoeoociamdnabDoor
namespace Rows

/-- THE TIED CARD OF 'laws.FnPlainLines'. -/
def fnPlainLinesCard : Claim7 := { stood := { row := fnPlainLinesRow, standIns := [], harness := (true, "da957b51d6aa39d71d18bd784f9a4f711a32efb501727578ca46c928802d3f87"), looks := false }, kinds := [], alts := [], laidByText := true, laidKinds := [.data, .pinned], laidTests := true, laidLooks := .later }
def FnPlainLinesCardSaid : Prop := Claim7.holds Tryd.pinned (.plain (OpenSpec.ofChange fnPlainLinesSpec)) fnPlainLinesCard

/-- THE TIED CARD OF 'laws.FnBestAll'. -/
def fnBestAllCard : Claim7 := { stood := { row := fnBestAllRow, standIns := [], harness := (true, "da957b51d6aa39d71d18bd784f9a4f711a32efb501727578ca46c928802d3f87"), looks := false }, kinds := [], alts := [], laidByText := true, laidKinds := [.data, .pinned], laidTests := true, laidLooks := .later }
def FnBestAllCardSaid : Prop := Claim7.holds Tryd.pinned (.plain (OpenSpec.ofChange fnBestAllSpec)) fnBestAllCard

/-- THE TIED CARD OF 'laws.FnExactParseDate'. -/
def fnExactParseDateCard : Claim7 := { stood := { row := fnExactParseDateRow, standIns := [], harness := (true, "da957b51d6aa39d71d18bd784f9a4f711a32efb501727578ca46c928802d3f87"), looks := false }, kinds := [], alts := [], laidByText := true, laidKinds := [.data, .listed, .data, .data, .data, .pinned], laidTests := true, laidLooks := .later }
def FnExactParseDateCardSaid : Prop := Claim7.holds Tryd.pinned (.plain (OpenSpec.ofChange fnExactParseDateSpec)) fnExactParseDateCard

/-- THE TIED CARD OF 'laws.FnExactEncodeQuoted'. -/
def fnExactEncodeQuotedCard : Claim7 := { stood := { row := fnExactEncodeQuotedRow, standIns := [], harness := (true, "da957b51d6aa39d71d18bd784f9a4f711a32efb501727578ca46c928802d3f87"), looks := false }, kinds := [], alts := [], laidByText := true, laidKinds := [.data, .pinned], laidTests := true, laidLooks := .later }
def FnExactEncodeQuotedCardSaid : Prop := Claim7.holds Tryd.pinned (.plain (OpenSpec.ofChange fnExactEncodeQuotedSpec)) fnExactEncodeQuotedCard

/-- THE TIED CARD OF 'laws.FnExactBestCode'. -/
def fnExactBestCodeCard : Claim7 := { stood := { row := fnExactBestCodeRow, standIns := [], harness := (true, "da957b51d6aa39d71d18bd784f9a4f711a32efb501727578ca46c928802d3f87"), looks := false }, kinds := [], alts := [], laidByText := true, laidKinds := [.data, .pinned], laidTests := true, laidLooks := .later }
def FnExactBestCodeCardSaid : Prop := Claim7.holds Tryd.pinned (.plain (OpenSpec.ofChange fnExactBestCodeSpec)) fnExactBestCodeCard

/-- THE TIED CARD OF 'laws.FnExactEncodeBytes'. -/
def fnExactEncodeBytesCard : Claim7 := { stood := { row := fnExactEncodeBytesRow, standIns := [], harness := (true, "da957b51d6aa39d71d18bd784f9a4f711a32efb501727578ca46c928802d3f87"), looks := false }, kinds := [], alts := [], laidByText := true, laidKinds := [.data, .pinned], laidTests := true, laidLooks := .later }
def FnExactEncodeBytesCardSaid : Prop := Claim7.holds Tryd.pinned (.plain (OpenSpec.ofChange fnExactEncodeBytesSpec)) fnExactEncodeBytesCard

/-- THE SECOND FORM's CARD OF 'laws.FnPlainLines'. -/
def fnPlainLinesUptoCard : Claim7 := { stood := { row := fnPlainLinesUptoRow, standIns := [], harness := (true, "da957b51d6aa39d71d18bd784f9a4f711a32efb501727578ca46c928802d3f87"), looks := false }, kinds := [], alts := [], laidByText := true, laidKinds := [.data, .pinned], laidTests := true, laidLooks := .later }
def FnPlainLinesUptoCardSaid : Prop := Claim7.holds Tryd.pinned (.plain (OpenSpec.upto fnPlainLinesSpec)) fnPlainLinesUptoCard

/-- THE SECOND FORM's CARD OF 'laws.FnBestAll'. -/
def fnBestAllUptoCard : Claim7 := { stood := { row := fnBestAllUptoRow, standIns := [], harness := (true, "da957b51d6aa39d71d18bd784f9a4f711a32efb501727578ca46c928802d3f87"), looks := false }, kinds := [], alts := [], laidByText := true, laidKinds := [.data, .pinned], laidTests := true, laidLooks := .later }
def FnBestAllUptoCardSaid : Prop := Claim7.holds Tryd.pinned (.plain (OpenSpec.upto fnBestAllSpec)) fnBestAllUptoCard

/-- THE SECOND FORM's CARD OF 'laws.FnExactParseDate'. -/
def fnExactParseDateUptoCard : Claim7 := { stood := { row := fnExactParseDateUptoRow, standIns := [], harness := (true, "da957b51d6aa39d71d18bd784f9a4f711a32efb501727578ca46c928802d3f87"), looks := false }, kinds := [], alts := [], laidByText := true, laidKinds := [.data, .listed, .data, .data, .data, .pinned], laidTests := true, laidLooks := .later }
def FnExactParseDateUptoCardSaid : Prop := Claim7.holds Tryd.pinned (.plain (OpenSpec.upto fnExactParseDateSpec)) fnExactParseDateUptoCard

/-- THE SECOND FORM's CARD OF 'laws.FnExactEncodeQuoted'. -/
def fnExactEncodeQuotedUptoCard : Claim7 := { stood := { row := fnExactEncodeQuotedUptoRow, standIns := [], harness := (true, "da957b51d6aa39d71d18bd784f9a4f711a32efb501727578ca46c928802d3f87"), looks := false }, kinds := [], alts := [], laidByText := true, laidKinds := [.data, .pinned], laidTests := true, laidLooks := .later }
def FnExactEncodeQuotedUptoCardSaid : Prop := Claim7.holds Tryd.pinned (.plain (OpenSpec.upto fnExactEncodeQuotedSpec)) fnExactEncodeQuotedUptoCard

/-- THE SECOND FORM's CARD OF 'laws.FnExactBestCode'. -/
def fnExactBestCodeUptoCard : Claim7 := { stood := { row := fnExactBestCodeUptoRow, standIns := [], harness := (true, "da957b51d6aa39d71d18bd784f9a4f711a32efb501727578ca46c928802d3f87"), looks := false }, kinds := [], alts := [], laidByText := true, laidKinds := [.data, .pinned], laidTests := true, laidLooks := .later }
def FnExactBestCodeUptoCardSaid : Prop := Claim7.holds Tryd.pinned (.plain (OpenSpec.upto fnExactBestCodeSpec)) fnExactBestCodeUptoCard

/-- THE SECOND FORM's CARD OF 'laws.FnExactEncodeBytes'. -/
def fnExactEncodeBytesUptoCard : Claim7 := { stood := { row := fnExactEncodeBytesUptoRow, standIns := [], harness := (true, "da957b51d6aa39d71d18bd784f9a4f711a32efb501727578ca46c928802d3f87"), looks := false }, kinds := [], alts := [], laidByText := true, laidKinds := [.data, .pinned], laidTests := true, laidLooks := .later }
def FnExactEncodeBytesUptoCardSaid : Prop := Claim7.holds Tryd.pinned (.plain (OpenSpec.upto fnExactEncodeBytesSpec)) fnExactEncodeBytesUptoCard
end Rows
end Go.Proofs.YtdaoeoociamdnabDoor
