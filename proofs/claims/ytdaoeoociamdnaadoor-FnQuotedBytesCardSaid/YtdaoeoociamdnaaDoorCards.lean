/-
  DERIVED. GIVEN WITH THE SEED: THE CARDS: each row of YtdaoeoociamdnaaDoorRows.lean that lists a variable, with what it lists TIED to the program's text (the seventh form; the later family's looks); each row that meets fmt, with fmt's text TOLD by the authors' own Lean function (tested against real Go, not proved from fmt's source: count such statements apart). THE CARD IS WHAT COUNTS. Prove the row's statement (the work); the ties are given (YtdaoeoociamdnaaDoorTie.lean); close each card by the builder's one call (the guide's Derived/Test/ToyasCard.lean, 'card_holds'). Laid BY PROGRAM, IN A SANDBOX (cutbox-door.mjs). By AI agents, Wed Nov 11 2026. No macro, syntax, notation, axiom, sorry.
-/
import Derived.Test.YtdaoeoociamdnaaDoorRows
import GoSem.ClaimSeven
namespace Go.Proofs.YtdaoeoociamdnaaDoor
namespace Rows

/-- THE TIED CARD OF 'laws.FnQuotedBytes'. -/
def fnQuotedBytesCard : Claim7 := { stood := { row := fnQuotedBytesRow, standIns := [], harness := (true, "709d8c525873e3be5da1528389a7e2c7db9271d87496d60bd0577608ac491d8b"), looks := false }, kinds := [], alts := [], laidByText := true, laidKinds := [.data, .pinned], laidTests := true, laidLooks := .later }
def FnQuotedBytesCardSaid : Prop := Claim7.holds Tryd.pinned (.plain (OpenSpec.ofChange fnQuotedBytesSpec)) fnQuotedBytesCard

/-- THE TIED CARD OF 'laws.FnBestCode'. -/
def fnBestCodeCard : Claim7 := { stood := { row := fnBestCodeRow, standIns := [], harness := (true, "709d8c525873e3be5da1528389a7e2c7db9271d87496d60bd0577608ac491d8b"), looks := false }, kinds := [], alts := [], laidByText := true, laidKinds := [.data, .pinned], laidTests := true, laidLooks := .later }
def FnBestCodeCardSaid : Prop := Claim7.holds Tryd.pinned (.plain (OpenSpec.ofChange fnBestCodeSpec)) fnBestCodeCard

/-- THE TIED CARD OF 'laws.FnEncodeBytes'. -/
def fnEncodeBytesCard : Claim7 := { stood := { row := fnEncodeBytesRow, standIns := [], harness := (true, "709d8c525873e3be5da1528389a7e2c7db9271d87496d60bd0577608ac491d8b"), looks := false }, kinds := [], alts := [], laidByText := true, laidKinds := [.data, .pinned], laidTests := true, laidLooks := .later }
def FnEncodeBytesCardSaid : Prop := Claim7.holds Tryd.pinned (.plain (OpenSpec.ofChange fnEncodeBytesSpec)) fnEncodeBytesCard

/-- THE TIED CARD OF 'laws.FnDecodeBytes'. -/
def fnDecodeBytesCard : Claim7 := { stood := { row := fnDecodeBytesRow, standIns := [], harness := (true, "709d8c525873e3be5da1528389a7e2c7db9271d87496d60bd0577608ac491d8b"), looks := false }, kinds := [], alts := [], laidByText := true, laidKinds := [.data, .pinned], laidTests := true, laidLooks := .later }
def FnDecodeBytesCardSaid : Prop := Claim7.holds Tryd.pinned (.plain (OpenSpec.ofChange fnDecodeBytesSpec)) fnDecodeBytesCard

/-- THE TIED CARD OF 'laws.FnQuotedPlain'. -/
def fnQuotedPlainCard : Claim7 := { stood := { row := fnQuotedPlainRow, standIns := [], harness := (true, "709d8c525873e3be5da1528389a7e2c7db9271d87496d60bd0577608ac491d8b"), looks := false }, kinds := [], alts := [], laidByText := true, laidKinds := [.data, .pinned], laidTests := true, laidLooks := .later }
def FnQuotedPlainCardSaid : Prop := Claim7.holds Tryd.pinned (.plain (OpenSpec.ofChange fnQuotedPlainSpec)) fnQuotedPlainCard

/-- THE TIED CARD OF 'laws.FnQuotedNewlines'. -/
def fnQuotedNewlinesCard : Claim7 := { stood := { row := fnQuotedNewlinesRow, standIns := [], harness := (true, "709d8c525873e3be5da1528389a7e2c7db9271d87496d60bd0577608ac491d8b"), looks := false }, kinds := [], alts := [], laidByText := true, laidKinds := [.data, .pinned], laidTests := true, laidLooks := .later }
def FnQuotedNewlinesCardSaid : Prop := Claim7.holds Tryd.pinned (.plain (OpenSpec.ofChange fnQuotedNewlinesSpec)) fnQuotedNewlinesCard

/-- THE SECOND FORM's CARD OF 'laws.FnQuotedBytes'. -/
def fnQuotedBytesUptoCard : Claim7 := { stood := { row := fnQuotedBytesUptoRow, standIns := [], harness := (true, "709d8c525873e3be5da1528389a7e2c7db9271d87496d60bd0577608ac491d8b"), looks := false }, kinds := [], alts := [], laidByText := true, laidKinds := [.data, .pinned], laidTests := true, laidLooks := .later }
def FnQuotedBytesUptoCardSaid : Prop := Claim7.holds Tryd.pinned (.plain (OpenSpec.upto fnQuotedBytesSpec)) fnQuotedBytesUptoCard

/-- THE SECOND FORM's CARD OF 'laws.FnBestCode'. -/
def fnBestCodeUptoCard : Claim7 := { stood := { row := fnBestCodeUptoRow, standIns := [], harness := (true, "709d8c525873e3be5da1528389a7e2c7db9271d87496d60bd0577608ac491d8b"), looks := false }, kinds := [], alts := [], laidByText := true, laidKinds := [.data, .pinned], laidTests := true, laidLooks := .later }
def FnBestCodeUptoCardSaid : Prop := Claim7.holds Tryd.pinned (.plain (OpenSpec.upto fnBestCodeSpec)) fnBestCodeUptoCard

/-- THE SECOND FORM's CARD OF 'laws.FnEncodeBytes'. -/
def fnEncodeBytesUptoCard : Claim7 := { stood := { row := fnEncodeBytesUptoRow, standIns := [], harness := (true, "709d8c525873e3be5da1528389a7e2c7db9271d87496d60bd0577608ac491d8b"), looks := false }, kinds := [], alts := [], laidByText := true, laidKinds := [.data, .pinned], laidTests := true, laidLooks := .later }
def FnEncodeBytesUptoCardSaid : Prop := Claim7.holds Tryd.pinned (.plain (OpenSpec.upto fnEncodeBytesSpec)) fnEncodeBytesUptoCard

/-- THE SECOND FORM's CARD OF 'laws.FnDecodeBytes'. -/
def fnDecodeBytesUptoCard : Claim7 := { stood := { row := fnDecodeBytesUptoRow, standIns := [], harness := (true, "709d8c525873e3be5da1528389a7e2c7db9271d87496d60bd0577608ac491d8b"), looks := false }, kinds := [], alts := [], laidByText := true, laidKinds := [.data, .pinned], laidTests := true, laidLooks := .later }
def FnDecodeBytesUptoCardSaid : Prop := Claim7.holds Tryd.pinned (.plain (OpenSpec.upto fnDecodeBytesSpec)) fnDecodeBytesUptoCard

/-- THE SECOND FORM's CARD OF 'laws.FnQuotedPlain'. -/
def fnQuotedPlainUptoCard : Claim7 := { stood := { row := fnQuotedPlainUptoRow, standIns := [], harness := (true, "709d8c525873e3be5da1528389a7e2c7db9271d87496d60bd0577608ac491d8b"), looks := false }, kinds := [], alts := [], laidByText := true, laidKinds := [.data, .pinned], laidTests := true, laidLooks := .later }
def FnQuotedPlainUptoCardSaid : Prop := Claim7.holds Tryd.pinned (.plain (OpenSpec.upto fnQuotedPlainSpec)) fnQuotedPlainUptoCard

/-- THE SECOND FORM's CARD OF 'laws.FnQuotedNewlines'. -/
def fnQuotedNewlinesUptoCard : Claim7 := { stood := { row := fnQuotedNewlinesUptoRow, standIns := [], harness := (true, "709d8c525873e3be5da1528389a7e2c7db9271d87496d60bd0577608ac491d8b"), looks := false }, kinds := [], alts := [], laidByText := true, laidKinds := [.data, .pinned], laidTests := true, laidLooks := .later }
def FnQuotedNewlinesUptoCardSaid : Prop := Claim7.holds Tryd.pinned (.plain (OpenSpec.upto fnQuotedNewlinesSpec)) fnQuotedNewlinesUptoCard
end Rows
end Go.Proofs.YtdaoeoociamdnaaDoor
