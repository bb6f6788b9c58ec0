/-
  DERIVED. GIVEN WITH THE SEED: THE CARDS: each row of YtjnpkmenlecdmabDoorRows.lean that lists a variable, with what it lists TIED to the program's text (the seventh form; the later family's looks); each row that meets fmt, with fmt's text TOLD by the authors' own Lean function (tested against real Go, not proved from fmt's source: count such statements apart). THE CARD IS WHAT COUNTS. Prove the row's statement (the work); the ties are given (YtjnpkmenlecdmabDoorTie.lean); close each card by the builder's one call (the guide's Derived/Test/ToyasCard.lean, 'card_holds'). Laid BY PROGRAM, IN A SANDBOX (cutbox-door.mjs). By AI agents, Wed Nov 11 2026. No macro, syntax, notation, axiom, sorry.
-/
import Derived.Test.YtjnpkmenlecdmabDoorRows
import GoSem.ClaimSeven
namespace Go.Proofs.YtjnpkmenlecdmabDoor
namespace Rows

/-- THE TIED CARD OF 'laws.FnExactSplitWords'. -/
def fnExactSplitWordsCard : Claim7 := { stood := { row := fnExactSplitWordsRow, standIns := [], harness := (true, "3c122291ae4aed2a73fb8bd5adf0459f8677d6a425e8adb48b1042665beb84a3"), looks := false }, kinds := [], alts := [], laidByText := true, laidKinds := [.data], laidTests := true, laidLooks := .later }
def FnExactSplitWordsCardSaid : Prop := Claim7.holds Tryd.pinned (.plain (OpenSpec.ofChange fnExactSplitWordsSpec)) fnExactSplitWordsCard

/-- THE TIED CARD OF 'laws.FnExactJoinWords'. -/
def fnExactJoinWordsCard : Claim7 := { stood := { row := fnExactJoinWordsRow, standIns := [], harness := (true, "3c122291ae4aed2a73fb8bd5adf0459f8677d6a425e8adb48b1042665beb84a3"), looks := false }, kinds := [], alts := [], laidByText := true, laidKinds := [.data], laidTests := true, laidLooks := .later }
def FnExactJoinWordsCardSaid : Prop := Claim7.holds Tryd.pinned (.plain (OpenSpec.ofChange fnExactJoinWordsSpec)) fnExactJoinWordsCard

/-- THE TIED CARD OF 'laws.FnQuotedBytes'. -/
def fnQuotedBytesCard : Claim7 := { stood := { row := fnQuotedBytesRow, standIns := [], harness := (true, "3c122291ae4aed2a73fb8bd5adf0459f8677d6a425e8adb48b1042665beb84a3"), looks := false }, kinds := [], alts := [], laidByText := true, laidKinds := [.data, .pinned], laidTests := true, laidLooks := .later }
def FnQuotedBytesCardSaid : Prop := Claim7.holds Tryd.pinned (.plain (OpenSpec.ofChange fnQuotedBytesSpec)) fnQuotedBytesCard

/-- THE TIED CARD OF 'laws.FnBestCode'. -/
def fnBestCodeCard : Claim7 := { stood := { row := fnBestCodeRow, standIns := [], harness := (true, "3c122291ae4aed2a73fb8bd5adf0459f8677d6a425e8adb48b1042665beb84a3"), looks := false }, kinds := [], alts := [], laidByText := true, laidKinds := [.data, .pinned], laidTests := true, laidLooks := .later }
def FnBestCodeCardSaid : Prop := Claim7.holds Tryd.pinned (.plain (OpenSpec.ofChange fnBestCodeSpec)) fnBestCodeCard

/-- THE TIED CARD OF 'laws.FnEncodeBytes'. -/
def fnEncodeBytesCard : Claim7 := { stood := { row := fnEncodeBytesRow, standIns := [], harness := (true, "3c122291ae4aed2a73fb8bd5adf0459f8677d6a425e8adb48b1042665beb84a3"), looks := false }, kinds := [], alts := [], laidByText := true, laidKinds := [.data, .pinned], laidTests := true, laidLooks := .later }
def FnEncodeBytesCardSaid : Prop := Claim7.holds Tryd.pinned (.plain (OpenSpec.ofChange fnEncodeBytesSpec)) fnEncodeBytesCard

/-- THE TIED CARD OF 'laws.FnDecodeBytes'. -/
def fnDecodeBytesCard : Claim7 := { stood := { row := fnDecodeBytesRow, standIns := [], harness := (true, "3c122291ae4aed2a73fb8bd5adf0459f8677d6a425e8adb48b1042665beb84a3"), looks := false }, kinds := [], alts := [], laidByText := true, laidKinds := [.data, .pinned], laidTests := true, laidLooks := .later }
def FnDecodeBytesCardSaid : Prop := Claim7.holds Tryd.pinned (.plain (OpenSpec.ofChange fnDecodeBytesSpec)) fnDecodeBytesCard

/-- THE TIED CARD OF 'laws.FnBestAll'. -/
def fnBestAllCard : Claim7 := { stood := { row := fnBestAllRow, standIns := [], harness := (true, "3c122291ae4aed2a73fb8bd5adf0459f8677d6a425e8adb48b1042665beb84a3"), looks := false }, kinds := [], alts := [], laidByText := true, laidKinds := [.data, .pinned], laidTests := true, laidLooks := .later }
def FnBestAllCardSaid : Prop := Claim7.holds Tryd.pinned (.plain (OpenSpec.ofChange fnBestAllSpec)) fnBestAllCard

/-- THE SECOND FORM's CARD OF 'laws.FnExactSplitWords'. -/
def fnExactSplitWordsUptoCard : Claim7 := { stood := { row := fnExactSplitWordsUptoRow, standIns := [], harness := (true, "3c122291ae4aed2a73fb8bd5adf0459f8677d6a425e8adb48b1042665beb84a3"), looks := false }, kinds := [], alts := [], laidByText := true, laidKinds := [.data], laidTests := true, laidLooks := .later }
def FnExactSplitWordsUptoCardSaid : Prop := Claim7.holds Tryd.pinned (.plain (OpenSpec.upto fnExactSplitWordsSpec)) fnExactSplitWordsUptoCard

/-- THE SECOND FORM's CARD OF 'laws.FnExactJoinWords'. -/
def fnExactJoinWordsUptoCard : Claim7 := { stood := { row := fnExactJoinWordsUptoRow, standIns := [], harness := (true, "3c122291ae4aed2a73fb8bd5adf0459f8677d6a425e8adb48b1042665beb84a3"), looks := false }, kinds := [], alts := [], laidByText := true, laidKinds := [.data], laidTests := true, laidLooks := .later }
def FnExactJoinWordsUptoCardSaid : Prop := Claim7.holds Tryd.pinned (.plain (OpenSpec.upto fnExactJoinWordsSpec)) fnExactJoinWordsUptoCard

/-- THE SECOND FORM's CARD OF 'laws.FnQuotedBytes'. -/
def fnQuotedBytesUptoCard : Claim7 := { stood := { row := fnQuotedBytesUptoRow, standIns := [], harness := (true, "3c122291ae4aed2a73fb8bd5adf0459f8677d6a425e8adb48b1042665beb84a3"), looks := false }, kinds := [], alts := [], laidByText := true, laidKinds := [.data, .pinned], laidTests := true, laidLooks := .later }
def FnQuotedBytesUptoCardSaid : Prop := Claim7.holds Tryd.pinned (.plain (OpenSpec.upto fnQuotedBytesSpec)) fnQuotedBytesUptoCard

/-- THE SECOND FORM's CARD OF 'laws.FnBestCode'. -/
def fnBestCodeUptoCard : Claim7 := { stood := { row := fnBestCodeUptoRow, standIns := [], harness := (true, "3c122291ae4aed2a73fb8bd5adf0459f8677d6a425e8adb48b1042665beb84a3"), looks := false }, kinds := [], alts := [], laidByText := true, laidKinds := [.data, .pinned], laidTests := true, laidLooks := .later }
def FnBestCodeUptoCardSaid : Prop := Claim7.holds Tryd.pinned (.plain (OpenSpec.upto fnBestCodeSpec)) fnBestCodeUptoCard

/-- THE SECOND FORM's CARD OF 'laws.FnEncodeBytes'. -/
def fnEncodeBytesUptoCard : Claim7 := { stood := { row := fnEncodeBytesUptoRow, standIns := [], harness := (true, "3c122291ae4aed2a73fb8bd5adf0459f8677d6a425e8adb48b1042665beb84a3"), looks := false }, kinds := [], alts := [], laidByText := true, laidKinds := [.data, .pinned], laidTests := true, laidLooks := .later }
def FnEncodeBytesUptoCardSaid : Prop := Claim7.holds Tryd.pinned (.plain (OpenSpec.upto fnEncodeBytesSpec)) fnEncodeBytesUptoCard

/-- THE SECOND FORM's CARD OF 'laws.FnDecodeBytes'. -/
def fnDecodeBytesUptoCard : Claim7 := { stood := { row := fnDecodeBytesUptoRow, standIns := [], harness := (true, "3c122291ae4aed2a73fb8bd5adf0459f8677d6a425e8adb48b1042665beb84a3"), looks := false }, kinds := [], alts := [], laidByText := true, laidKinds := [.data, .pinned], laidTests := true, laidLooks := .later }
def FnDecodeBytesUptoCardSaid : Prop := Claim7.holds Tryd.pinned (.plain (OpenSpec.upto fnDecodeBytesSpec)) fnDecodeBytesUptoCard

/-- THE SECOND FORM's CARD OF 'laws.FnBestAll'. -/
def fnBestAllUptoCard : Claim7 := { stood := { row := fnBestAllUptoRow, standIns := [], harness := (true, "3c122291ae4aed2a73fb8bd5adf0459f8677d6a425e8adb48b1042665beb84a3"), looks := false }, kinds := [], alts := [], laidByText := true, laidKinds := [.data, .pinned], laidTests := true, laidLooks := .later }
def FnBestAllUptoCardSaid : Prop := Claim7.holds Tryd.pinned (.plain (OpenSpec.upto fnBestAllSpec)) fnBestAllUptoCard
end Rows
end Go.Proofs.YtjnpkmenlecdmabDoor
