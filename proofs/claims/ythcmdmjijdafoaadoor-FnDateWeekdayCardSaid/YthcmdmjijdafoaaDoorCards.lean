/-
  DERIVED. GIVEN WITH THE SEED: THE CARDS: each row of YthcmdmjijdafoaaDoorRows.lean that lists a variable, with what it lists TIED to the program's text (the seventh form; the later family's looks); each row that meets fmt, with fmt's text TOLD by the authors' own Lean function (tested against real Go, not proved from fmt's source: count such statements apart). THE CARD IS WHAT COUNTS. Prove the row's statement (the work); the ties are given (YthcmdmjijdafoaaDoorTie.lean); close each card by the builder's one call (the guide's Derived/Test/ToyasCard.lean, 'card_holds'). Laid BY PROGRAM, IN A SANDBOX (cutbox-door.mjs). By AI agents, Wed Nov 11 2026. No macro, syntax, notation, axiom, sorry.
-/
import Derived.Test.YthcmdmjijdafoaaDoorRows
import GoSem.ClaimSeven
namespace Go.Proofs.YthcmdmjijdafoaaDoor
namespace Rows

/-- THE TIED CARD OF 'laws.FnPutField'. -/
def fnPutFieldCard : Claim7 := { stood := { row := fnPutFieldRow, standIns := [], harness := (true, "80e84f61d64d82c03b54a8331b4e067d9cb3b84a6d2e9888fbed5c9f36d5350a"), looks := false }, kinds := [], alts := [], laidByText := true, laidKinds := [.data, .pinned], laidTests := true, laidLooks := .later }
def FnPutFieldCardSaid : Prop := Claim7.holds Tryd.pinned (.plain (OpenSpec.ofChange fnPutFieldSpec)) fnPutFieldCard

/-- THE TIED CARD OF 'laws.FnZoneText'. -/
def fnZoneTextCard : Claim7 := { stood := { row := fnZoneTextRow, standIns := [], harness := (true, "80e84f61d64d82c03b54a8331b4e067d9cb3b84a6d2e9888fbed5c9f36d5350a"), looks := false }, kinds := [], alts := [], laidByText := true, laidKinds := [.data, .data, .data, .data, .data], laidTests := true, laidLooks := .later }
def FnZoneTextCardSaid : Prop := Claim7.holds Tryd.pinned (.plain (OpenSpec.ofChange fnZoneTextSpec)) fnZoneTextCard

/-- THE TIED CARD OF 'laws.FnDateWeekday'. -/
def fnDateWeekdayCard : Claim7 := { stood := { row := fnDateWeekdayRow, standIns := [], harness := (true, "80e84f61d64d82c03b54a8331b4e067d9cb3b84a6d2e9888fbed5c9f36d5350a"), looks := false }, kinds := [], alts := [], laidByText := true, laidKinds := [.data, .data, .data, .data, .listed, .data, .data, .data, .pinned], laidTests := true, laidLooks := .later }
def FnDateWeekdayCardSaid : Prop := Claim7.holds Tryd.pinned (.plain (OpenSpec.ofChange fnDateWeekdaySpec)) fnDateWeekdayCard

/-- THE TIED CARD OF 'laws.FnExactPutField'. -/
def fnExactPutFieldCard : Claim7 := { stood := { row := fnExactPutFieldRow, standIns := [], harness := (true, "80e84f61d64d82c03b54a8331b4e067d9cb3b84a6d2e9888fbed5c9f36d5350a"), looks := false }, kinds := [], alts := [], laidByText := true, laidKinds := [.data, .pinned], laidTests := true, laidLooks := .later }
def FnExactPutFieldCardSaid : Prop := Claim7.holds Tryd.pinned (.plain (OpenSpec.ofChange fnExactPutFieldSpec)) fnExactPutFieldCard

/-- THE TIED CARD OF 'laws.FnExactFormatDate'. -/
def fnExactFormatDateCard : Claim7 := { stood := { row := fnExactFormatDateRow, standIns := [], harness := (true, "80e84f61d64d82c03b54a8331b4e067d9cb3b84a6d2e9888fbed5c9f36d5350a"), looks := false }, kinds := [], alts := [], laidByText := true, laidKinds := [.data, .data, .data, .data, .data], laidTests := true, laidLooks := .later }
def FnExactFormatDateCardSaid : Prop := Claim7.holds Tryd.pinned (.plain (OpenSpec.ofChange fnExactFormatDateSpec)) fnExactFormatDateCard

/-- THE TIED CARD OF 'laws.FnExactParseDate'. -/
def fnExactParseDateCard : Claim7 := { stood := { row := fnExactParseDateRow, standIns := [], harness := (true, "80e84f61d64d82c03b54a8331b4e067d9cb3b84a6d2e9888fbed5c9f36d5350a"), looks := false }, kinds := [], alts := [], laidByText := true, laidKinds := [.data, .listed, .data, .data, .data, .pinned], laidTests := true, laidLooks := .later }
def FnExactParseDateCardSaid : Prop := Claim7.holds Tryd.pinned (.plain (OpenSpec.ofChange fnExactParseDateSpec)) fnExactParseDateCard

/-- THE SECOND FORM's CARD OF 'laws.FnPutField'. -/
def fnPutFieldUptoCard : Claim7 := { stood := { row := fnPutFieldUptoRow, standIns := [], harness := (true, "80e84f61d64d82c03b54a8331b4e067d9cb3b84a6d2e9888fbed5c9f36d5350a"), looks := false }, kinds := [], alts := [], laidByText := true, laidKinds := [.data, .pinned], laidTests := true, laidLooks := .later }
def FnPutFieldUptoCardSaid : Prop := Claim7.holds Tryd.pinned (.plain (OpenSpec.upto fnPutFieldSpec)) fnPutFieldUptoCard

/-- THE SECOND FORM's CARD OF 'laws.FnZoneText'. -/
def fnZoneTextUptoCard : Claim7 := { stood := { row := fnZoneTextUptoRow, standIns := [], harness := (true, "80e84f61d64d82c03b54a8331b4e067d9cb3b84a6d2e9888fbed5c9f36d5350a"), looks := false }, kinds := [], alts := [], laidByText := true, laidKinds := [.data, .data, .data, .data, .data], laidTests := true, laidLooks := .later }
def FnZoneTextUptoCardSaid : Prop := Claim7.holds Tryd.pinned (.plain (OpenSpec.upto fnZoneTextSpec)) fnZoneTextUptoCard

/-- THE SECOND FORM's CARD OF 'laws.FnDateWeekday'. -/
def fnDateWeekdayUptoCard : Claim7 := { stood := { row := fnDateWeekdayUptoRow, standIns := [], harness := (true, "80e84f61d64d82c03b54a8331b4e067d9cb3b84a6d2e9888fbed5c9f36d5350a"), looks := false }, kinds := [], alts := [], laidByText := true, laidKinds := [.data, .data, .data, .data, .listed, .data, .data, .data, .pinned], laidTests := true, laidLooks := .later }
def FnDateWeekdayUptoCardSaid : Prop := Claim7.holds Tryd.pinned (.plain (OpenSpec.upto fnDateWeekdaySpec)) fnDateWeekdayUptoCard

/-- THE SECOND FORM's CARD OF 'laws.FnExactPutField'. -/
def fnExactPutFieldUptoCard : Claim7 := { stood := { row := fnExactPutFieldUptoRow, standIns := [], harness := (true, "80e84f61d64d82c03b54a8331b4e067d9cb3b84a6d2e9888fbed5c9f36d5350a"), looks := false }, kinds := [], alts := [], laidByText := true, laidKinds := [.data, .pinned], laidTests := true, laidLooks := .later }
def FnExactPutFieldUptoCardSaid : Prop := Claim7.holds Tryd.pinned (.plain (OpenSpec.upto fnExactPutFieldSpec)) fnExactPutFieldUptoCard

/-- THE SECOND FORM's CARD OF 'laws.FnExactFormatDate'. -/
def fnExactFormatDateUptoCard : Claim7 := { stood := { row := fnExactFormatDateUptoRow, standIns := [], harness := (true, "80e84f61d64d82c03b54a8331b4e067d9cb3b84a6d2e9888fbed5c9f36d5350a"), looks := false }, kinds := [], alts := [], laidByText := true, laidKinds := [.data, .data, .data, .data, .data], laidTests := true, laidLooks := .later }
def FnExactFormatDateUptoCardSaid : Prop := Claim7.holds Tryd.pinned (.plain (OpenSpec.upto fnExactFormatDateSpec)) fnExactFormatDateUptoCard

/-- THE SECOND FORM's CARD OF 'laws.FnExactParseDate'. -/
def fnExactParseDateUptoCard : Claim7 := { stood := { row := fnExactParseDateUptoRow, standIns := [], harness := (true, "80e84f61d64d82c03b54a8331b4e067d9cb3b84a6d2e9888fbed5c9f36d5350a"), looks := false }, kinds := [], alts := [], laidByText := true, laidKinds := [.data, .listed, .data, .data, .data, .pinned], laidTests := true, laidLooks := .later }
def FnExactParseDateUptoCardSaid : Prop := Claim7.holds Tryd.pinned (.plain (OpenSpec.upto fnExactParseDateSpec)) fnExactParseDateUptoCard
end Rows
end Go.Proofs.YthcmdmjijdafoaaDoor
