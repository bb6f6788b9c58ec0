/-
  DERIVED. GIVEN WITH THE SEED: THE CARDS: each row of YtdoclfbfhlgejacDoorRows.lean that lists a variable, with what it lists TIED to the program's text (the seventh form; the later family's looks); each row that meets fmt, with fmt's text TOLD by the authors' own Lean function (tested against real Go, not proved from fmt's source: count such statements apart). THE CARD IS WHAT COUNTS. Prove the row's statement (the work); the ties are given (YtdoclfbfhlgejacDoorTie.lean); close each card by the builder's one call (the guide's Derived/Test/ToyasCard.lean, 'card_holds'). Laid BY PROGRAM, IN A SANDBOX (cutbox-door.mjs). By AI agents, Wed Nov 11 2026. No macro, syntax, notation, axiom, sorry.
-/
import Derived.Test.YtdoclfbfhlgejacDoorRows
import GoSem.ClaimSeven
namespace Go.Proofs.YtdoclfbfhlgejacDoor
namespace Rows

/-- THE TIED CARD OF 'laws.FnBoundaryKind'. -/
def fnBoundaryKindCard : Claim7 := { stood := { row := fnBoundaryKindRow, standIns := [], harness := (true, "948941b2391b304ed946ae8cb370d50f51146838f7247e526de0a42dbea0b386"), looks := false }, kinds := [], alts := [], laidByText := true, laidKinds := [.data, .data, .pinned], laidTests := true, laidLooks := .later }
def FnBoundaryKindCardSaid : Prop := Claim7.holds Tryd.pinned (.plain (OpenSpec.ofChange fnBoundaryKindSpec)) fnBoundaryKindCard

/-- THE TIED CARD OF 'laws.FnExactKindValid'. -/
def fnExactKindValidCard : Claim7 := { stood := { row := fnExactKindValidRow, standIns := [], harness := (true, "948941b2391b304ed946ae8cb370d50f51146838f7247e526de0a42dbea0b386"), looks := false }, kinds := [], alts := [], laidByText := true, laidKinds := [.data], laidTests := true, laidLooks := .later }
def FnExactKindValidCardSaid : Prop := Claim7.holds Tryd.pinned (.plain (OpenSpec.ofChange fnExactKindValidSpec)) fnExactKindValidCard

/-- THE TIED CARD OF 'laws.FnExactFormatKind'. -/
def fnExactFormatKindCard : Claim7 := { stood := { row := fnExactFormatKindRow, standIns := [], harness := (true, "948941b2391b304ed946ae8cb370d50f51146838f7247e526de0a42dbea0b386"), looks := false }, kinds := [], alts := [], laidByText := true, laidKinds := [.data], laidTests := true, laidLooks := .later }
def FnExactFormatKindCardSaid : Prop := Claim7.holds Tryd.pinned (.plain (OpenSpec.ofChange fnExactFormatKindSpec)) fnExactFormatKindCard

/-- THE TIED CARD OF 'laws.FnExactParseKind'. -/
def fnExactParseKindCard : Claim7 := { stood := { row := fnExactParseKindRow, standIns := [], harness := (true, "948941b2391b304ed946ae8cb370d50f51146838f7247e526de0a42dbea0b386"), looks := false }, kinds := [], alts := [], laidByText := true, laidKinds := [.data, .data, .pinned], laidTests := true, laidLooks := .later }
def FnExactParseKindCardSaid : Prop := Claim7.holds Tryd.pinned (.plain (OpenSpec.ofChange fnExactParseKindSpec)) fnExactParseKindCard

/-- THE TIED CARD OF 'laws.FnExactBoundaryOf'. -/
def fnExactBoundaryOfCard : Claim7 := { stood := { row := fnExactBoundaryOfRow, standIns := [], harness := (true, "948941b2391b304ed946ae8cb370d50f51146838f7247e526de0a42dbea0b386"), looks := false }, kinds := [], alts := [], laidByText := true, laidKinds := [.data], laidTests := true, laidLooks := .later }
def FnExactBoundaryOfCardSaid : Prop := Claim7.holds Tryd.pinned (.plain (OpenSpec.ofChange fnExactBoundaryOfSpec)) fnExactBoundaryOfCard

/-- THE SECOND FORM's CARD OF 'laws.FnBoundaryKind'. -/
def fnBoundaryKindUptoCard : Claim7 := { stood := { row := fnBoundaryKindUptoRow, standIns := [], harness := (true, "948941b2391b304ed946ae8cb370d50f51146838f7247e526de0a42dbea0b386"), looks := false }, kinds := [], alts := [], laidByText := true, laidKinds := [.data, .data, .pinned], laidTests := true, laidLooks := .later }
def FnBoundaryKindUptoCardSaid : Prop := Claim7.holds Tryd.pinned (.plain (OpenSpec.upto fnBoundaryKindSpec)) fnBoundaryKindUptoCard

/-- THE SECOND FORM's CARD OF 'laws.FnExactKindValid'. -/
def fnExactKindValidUptoCard : Claim7 := { stood := { row := fnExactKindValidUptoRow, standIns := [], harness := (true, "948941b2391b304ed946ae8cb370d50f51146838f7247e526de0a42dbea0b386"), looks := false }, kinds := [], alts := [], laidByText := true, laidKinds := [.data], laidTests := true, laidLooks := .later }
def FnExactKindValidUptoCardSaid : Prop := Claim7.holds Tryd.pinned (.plain (OpenSpec.upto fnExactKindValidSpec)) fnExactKindValidUptoCard

/-- THE SECOND FORM's CARD OF 'laws.FnExactFormatKind'. -/
def fnExactFormatKindUptoCard : Claim7 := { stood := { row := fnExactFormatKindUptoRow, standIns := [], harness := (true, "948941b2391b304ed946ae8cb370d50f51146838f7247e526de0a42dbea0b386"), looks := false }, kinds := [], alts := [], laidByText := true, laidKinds := [.data], laidTests := true, laidLooks := .later }
def FnExactFormatKindUptoCardSaid : Prop := Claim7.holds Tryd.pinned (.plain (OpenSpec.upto fnExactFormatKindSpec)) fnExactFormatKindUptoCard

/-- THE SECOND FORM's CARD OF 'laws.FnExactParseKind'. -/
def fnExactParseKindUptoCard : Claim7 := { stood := { row := fnExactParseKindUptoRow, standIns := [], harness := (true, "948941b2391b304ed946ae8cb370d50f51146838f7247e526de0a42dbea0b386"), looks := false }, kinds := [], alts := [], laidByText := true, laidKinds := [.data, .data, .pinned], laidTests := true, laidLooks := .later }
def FnExactParseKindUptoCardSaid : Prop := Claim7.holds Tryd.pinned (.plain (OpenSpec.upto fnExactParseKindSpec)) fnExactParseKindUptoCard

/-- THE SECOND FORM's CARD OF 'laws.FnExactBoundaryOf'. -/
def fnExactBoundaryOfUptoCard : Claim7 := { stood := { row := fnExactBoundaryOfUptoRow, standIns := [], harness := (true, "948941b2391b304ed946ae8cb370d50f51146838f7247e526de0a42dbea0b386"), looks := false }, kinds := [], alts := [], laidByText := true, laidKinds := [.data], laidTests := true, laidLooks := .later }
def FnExactBoundaryOfUptoCardSaid : Prop := Claim7.holds Tryd.pinned (.plain (OpenSpec.upto fnExactBoundaryOfSpec)) fnExactBoundaryOfUptoCard
end Rows
end Go.Proofs.YtdoclfbfhlgejacDoor
