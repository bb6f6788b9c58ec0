/-
  DERIVED. GIVEN WITH THE SEED: THE CARDS: each row of YtcdmjckkencgoaaGreatDoorRows.lean that lists a variable, with what it lists TIED to the program's text (the seventh form; the later family's looks); each row that meets fmt, with fmt's text TOLD by the authors' own Lean function (tested against real Go, not proved from fmt's source: count such statements apart). THE CARD IS WHAT COUNTS. Prove the row's statement (the work); the ties are given (YtcdmjckkencgoaaGreatDoorTie.lean); close each card by the builder's one call (the guide's Derived/Test/ToyasCard.lean, 'card_holds'). Laid BY PROGRAM, IN A SANDBOX (cutbox-door.mjs). By AI agents, Wed Nov 11 2026. No macro, syntax, notation, axiom, sorry.
-/
import Derived.Test.YtcdmjckkencgoaaGreatDoorRows
import GoSem.ClaimSeven
namespace Go.Proofs.YtcdmjckkencgoaaGreatDoor
namespace Rows

/-- THE TIED CARD OF 'laws.FnExactFormatPart'. -/
def fnExactFormatPartCard : Claim7 := { stood := { row := fnExactFormatPartRow, standIns := [], harness := (true, "12d423be387109892480af150422770c15f3b4355abc123141eea02e7ef99411"), looks := false }, kinds := [], alts := [], laidByText := true, laidKinds := [.data, .data, .pinned], laidTests := true, laidLooks := .later }
def FnExactFormatPartCardSaid : Prop := Claim7.holds Tryz.pinned (.plain (OpenSpec.ofChange fnExactFormatPartSpec)) fnExactFormatPartCard

/-- THE TIED CARD OF 'laws.FnExactParsePart'. -/
def fnExactParsePartCard : Claim7 := { stood := { row := fnExactParsePartRow, standIns := [], harness := (true, "12d423be387109892480af150422770c15f3b4355abc123141eea02e7ef99411"), looks := false }, kinds := [], alts := [], laidByText := true, laidKinds := [.data, .data, .pinned], laidTests := true, laidLooks := .later }
def FnExactParsePartCardSaid : Prop := Claim7.holds Tryz.pinned (.plain (OpenSpec.ofChange fnExactParsePartSpec)) fnExactParsePartCard

/-- THE TIED CARD OF 'laws.FnExactPartAt'. -/
def fnExactPartAtCard : Claim7 := { stood := { row := fnExactPartAtRow, standIns := [], harness := (true, "12d423be387109892480af150422770c15f3b4355abc123141eea02e7ef99411"), looks := false }, kinds := [], alts := [], laidByText := true, laidKinds := [.data, .data, .pinned], laidTests := true, laidLooks := .later }
def FnExactPartAtCardSaid : Prop := Claim7.holds Tryz.pinned (.plain (OpenSpec.ofChange fnExactPartAtSpec)) fnExactPartAtCard

/-- THE TIED CARD OF 'laws.FnExactBodyBytes'. -/
def fnExactBodyBytesCard : Claim7 := { stood := { row := fnExactBodyBytesRow, standIns := [], harness := (true, "12d423be387109892480af150422770c15f3b4355abc123141eea02e7ef99411"), looks := false }, kinds := [], alts := [], laidByText := true, laidKinds := [.data, .data, .data, .pinned], laidTests := true, laidLooks := .later }
def FnExactBodyBytesCardSaid : Prop := Claim7.holds Tryz.pinned (.plain (OpenSpec.ofChange fnExactBodyBytesSpec)) fnExactBodyBytesCard

/-- THE SECOND FORM's CARD OF 'laws.FnExactFormatPart'. -/
def fnExactFormatPartUptoCard : Claim7 := { stood := { row := fnExactFormatPartUptoRow, standIns := [], harness := (true, "12d423be387109892480af150422770c15f3b4355abc123141eea02e7ef99411"), looks := false }, kinds := [], alts := [], laidByText := true, laidKinds := [.data, .data, .pinned], laidTests := true, laidLooks := .later }
def FnExactFormatPartUptoCardSaid : Prop := Claim7.holds Tryz.pinned (.plain (OpenSpec.upto fnExactFormatPartSpec)) fnExactFormatPartUptoCard

/-- THE SECOND FORM's CARD OF 'laws.FnExactParsePart'. -/
def fnExactParsePartUptoCard : Claim7 := { stood := { row := fnExactParsePartUptoRow, standIns := [], harness := (true, "12d423be387109892480af150422770c15f3b4355abc123141eea02e7ef99411"), looks := false }, kinds := [], alts := [], laidByText := true, laidKinds := [.data, .data, .pinned], laidTests := true, laidLooks := .later }
def FnExactParsePartUptoCardSaid : Prop := Claim7.holds Tryz.pinned (.plain (OpenSpec.upto fnExactParsePartSpec)) fnExactParsePartUptoCard

/-- THE SECOND FORM's CARD OF 'laws.FnExactPartAt'. -/
def fnExactPartAtUptoCard : Claim7 := { stood := { row := fnExactPartAtUptoRow, standIns := [], harness := (true, "12d423be387109892480af150422770c15f3b4355abc123141eea02e7ef99411"), looks := false }, kinds := [], alts := [], laidByText := true, laidKinds := [.data, .data, .pinned], laidTests := true, laidLooks := .later }
def FnExactPartAtUptoCardSaid : Prop := Claim7.holds Tryz.pinned (.plain (OpenSpec.upto fnExactPartAtSpec)) fnExactPartAtUptoCard

/-- THE SECOND FORM's CARD OF 'laws.FnExactBodyBytes'. -/
def fnExactBodyBytesUptoCard : Claim7 := { stood := { row := fnExactBodyBytesUptoRow, standIns := [], harness := (true, "12d423be387109892480af150422770c15f3b4355abc123141eea02e7ef99411"), looks := false }, kinds := [], alts := [], laidByText := true, laidKinds := [.data, .data, .data, .pinned], laidTests := true, laidLooks := .later }
def FnExactBodyBytesUptoCardSaid : Prop := Claim7.holds Tryz.pinned (.plain (OpenSpec.upto fnExactBodyBytesSpec)) fnExactBodyBytesUptoCard
end Rows
end Go.Proofs.YtcdmjckkencgoaaGreatDoor
