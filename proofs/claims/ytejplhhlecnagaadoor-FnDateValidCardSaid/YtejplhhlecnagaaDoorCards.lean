/-
  DERIVED. GIVEN WITH THE SEED: THE CARDS: each row of YtejplhhlecnagaaDoorRows.lean that lists a variable, with what it lists TIED to the program's text (the seventh form; the later family's looks); each row that meets fmt, with fmt's text TOLD by the authors' own Lean function (tested against real Go, not proved from fmt's source: count such statements apart). THE CARD IS WHAT COUNTS. Prove the row's statement (the work); the ties are given (YtejplhhlecnagaaDoorTie.lean); close each card by the builder's one call (the guide's Derived/Test/ToyasCard.lean, 'card_holds'). Laid BY PROGRAM, IN A SANDBOX (cutbox-door.mjs). By AI agents, Wed Nov 11 2026. No macro, syntax, notation, axiom, sorry.
-/
import Derived.Test.YtejplhhlecnagaaDoorRows
import GoSem.ClaimSeven
namespace Go.Proofs.YtejplhhlecnagaaDoor
namespace Rows

/-- THE TIED CARD OF 'laws.FnWeekdayOf'. -/
def fnWeekdayOfCard : Claim7 := { stood := { row := fnWeekdayOfRow, standIns := [], harness := (true, "dd028806919c834f3cdb22d720a055a6059d8f67239144bbd22cad70443ddbfb"), looks := false }, kinds := [], alts := [], laidByText := true, laidKinds := [.data], laidTests := true, laidLooks := .later }
def FnWeekdayOfCardSaid : Prop := Claim7.holds Tryd.pinned (.plain (OpenSpec.ofChange fnWeekdayOfSpec)) fnWeekdayOfCard

/-- THE TIED CARD OF 'laws.FnZoneText'. -/
def fnZoneTextCard : Claim7 := { stood := { row := fnZoneTextRow, standIns := [], harness := (true, "dd028806919c834f3cdb22d720a055a6059d8f67239144bbd22cad70443ddbfb"), looks := false }, kinds := [], alts := [], laidByText := true, laidKinds := [.data, .data, .data, .data, .data], laidTests := true, laidLooks := .later }
def FnZoneTextCardSaid : Prop := Claim7.holds Tryd.pinned (.plain (OpenSpec.ofChange fnZoneTextSpec)) fnZoneTextCard

/-- THE TIED CARD OF 'laws.FnDateWeekday'. -/
def fnDateWeekdayCard : Claim7 := { stood := { row := fnDateWeekdayRow, standIns := [], harness := (true, "dd028806919c834f3cdb22d720a055a6059d8f67239144bbd22cad70443ddbfb"), looks := false }, kinds := [], alts := [], laidByText := true, laidKinds := [.data, .data, .data, .data, .listed, .data, .data, .data, .pinned], laidTests := true, laidLooks := .later }
def FnDateWeekdayCardSaid : Prop := Claim7.holds Tryd.pinned (.plain (OpenSpec.ofChange fnDateWeekdaySpec)) fnDateWeekdayCard

/-- THE TIED CARD OF 'laws.FnDateValid'. -/
def fnDateValidCard : Claim7 := { stood := { row := fnDateValidRow, standIns := [], harness := (true, "dd028806919c834f3cdb22d720a055a6059d8f67239144bbd22cad70443ddbfb"), looks := false }, kinds := [], alts := [], laidByText := true, laidKinds := [.data, .data, .data, .data, .data], laidTests := true, laidLooks := .later }
def FnDateValidCardSaid : Prop := Claim7.holds Tryd.pinned (.plain (OpenSpec.ofChange fnDateValidSpec)) fnDateValidCard

/-- THE TIED CARD OF 'laws.FnWeekdayNames'. -/
def fnWeekdayNamesCard : Claim7 := { stood := { row := fnWeekdayNamesRow, standIns := [], harness := (true, "dd028806919c834f3cdb22d720a055a6059d8f67239144bbd22cad70443ddbfb"), looks := false }, kinds := [], alts := [], laidByText := true, laidKinds := [.data], laidTests := true, laidLooks := .later }
def FnWeekdayNamesCardSaid : Prop := Claim7.holds Tryd.pinned (.plain (OpenSpec.ofChange fnWeekdayNamesSpec)) fnWeekdayNamesCard

/-- THE SECOND FORM's CARD OF 'laws.FnWeekdayOf'. -/
def fnWeekdayOfUptoCard : Claim7 := { stood := { row := fnWeekdayOfUptoRow, standIns := [], harness := (true, "dd028806919c834f3cdb22d720a055a6059d8f67239144bbd22cad70443ddbfb"), looks := false }, kinds := [], alts := [], laidByText := true, laidKinds := [.data], laidTests := true, laidLooks := .later }
def FnWeekdayOfUptoCardSaid : Prop := Claim7.holds Tryd.pinned (.plain (OpenSpec.upto fnWeekdayOfSpec)) fnWeekdayOfUptoCard

/-- THE SECOND FORM's CARD OF 'laws.FnZoneText'. -/
def fnZoneTextUptoCard : Claim7 := { stood := { row := fnZoneTextUptoRow, standIns := [], harness := (true, "dd028806919c834f3cdb22d720a055a6059d8f67239144bbd22cad70443ddbfb"), looks := false }, kinds := [], alts := [], laidByText := true, laidKinds := [.data, .data, .data, .data, .data], laidTests := true, laidLooks := .later }
def FnZoneTextUptoCardSaid : Prop := Claim7.holds Tryd.pinned (.plain (OpenSpec.upto fnZoneTextSpec)) fnZoneTextUptoCard

/-- THE SECOND FORM's CARD OF 'laws.FnDateWeekday'. -/
def fnDateWeekdayUptoCard : Claim7 := { stood := { row := fnDateWeekdayUptoRow, standIns := [], harness := (true, "dd028806919c834f3cdb22d720a055a6059d8f67239144bbd22cad70443ddbfb"), looks := false }, kinds := [], alts := [], laidByText := true, laidKinds := [.data, .data, .data, .data, .listed, .data, .data, .data, .pinned], laidTests := true, laidLooks := .later }
def FnDateWeekdayUptoCardSaid : Prop := Claim7.holds Tryd.pinned (.plain (OpenSpec.upto fnDateWeekdaySpec)) fnDateWeekdayUptoCard

/-- THE SECOND FORM's CARD OF 'laws.FnDateValid'. -/
def fnDateValidUptoCard : Claim7 := { stood := { row := fnDateValidUptoRow, standIns := [], harness := (true, "dd028806919c834f3cdb22d720a055a6059d8f67239144bbd22cad70443ddbfb"), looks := false }, kinds := [], alts := [], laidByText := true, laidKinds := [.data, .data, .data, .data, .data], laidTests := true, laidLooks := .later }
def FnDateValidUptoCardSaid : Prop := Claim7.holds Tryd.pinned (.plain (OpenSpec.upto fnDateValidSpec)) fnDateValidUptoCard

/-- THE SECOND FORM's CARD OF 'laws.FnWeekdayNames'. -/
def fnWeekdayNamesUptoCard : Claim7 := { stood := { row := fnWeekdayNamesUptoRow, standIns := [], harness := (true, "dd028806919c834f3cdb22d720a055a6059d8f67239144bbd22cad70443ddbfb"), looks := false }, kinds := [], alts := [], laidByText := true, laidKinds := [.data], laidTests := true, laidLooks := .later }
def FnWeekdayNamesUptoCardSaid : Prop := Claim7.holds Tryd.pinned (.plain (OpenSpec.upto fnWeekdayNamesSpec)) fnWeekdayNamesUptoCard
end Rows
end Go.Proofs.YtejplhhlecnagaaDoor
