/-
  DERIVED. GIVEN WITH THE SEED: THE CARDS: each row of YtejplhhlecnagabDoorRows.lean that lists a variable, with what it lists TIED to the program's text (the seventh form; the later family's looks); each row that meets fmt, with fmt's text TOLD by the authors' own Lean function (tested against real Go, not proved from fmt's source: count such statements apart). THE CARD IS WHAT COUNTS. Prove the row's statement (the work); the ties are given (YtejplhhlecnagabDoorTie.lean); close each card by the builder's one call (the guide's Derived/Test/ToyasCard.lean, 'card_holds'). Laid BY PROGRAM, IN A SANDBOX (cutbox-door.mjs). By AI agents, Wed Nov 11 2026. No macro, syntax, notation, axiom, sorry.
-/
import Derived.Test.YtejplhhlecnagabDoorRows
import GoSem.ClaimSeven
namespace Go.Proofs.YtejplhhlecnagabDoor
namespace Rows

/-- THE TIED CARD OF 'laws.FnExactWeekdayOf'. -/
def fnExactWeekdayOfCard : Claim7 := { stood := { row := fnExactWeekdayOfRow, standIns := [], harness := (true, "a95a72c67648d6fa15b7813cc1cf6db2ab3847708fb5ec9dcd7ae2b052de5f99"), looks := false }, kinds := [], alts := [], laidByText := true, laidKinds := [.data], laidTests := true, laidLooks := .later }
def FnExactWeekdayOfCardSaid : Prop := Claim7.holds Tryd.pinned (.plain (OpenSpec.ofChange fnExactWeekdayOfSpec)) fnExactWeekdayOfCard

/-- THE TIED CARD OF 'laws.FnExactFormatDate'. -/
def fnExactFormatDateCard : Claim7 := { stood := { row := fnExactFormatDateRow, standIns := [], harness := (true, "a95a72c67648d6fa15b7813cc1cf6db2ab3847708fb5ec9dcd7ae2b052de5f99"), looks := false }, kinds := [], alts := [], laidByText := true, laidKinds := [.data, .data, .data, .data, .data], laidTests := true, laidLooks := .later }
def FnExactFormatDateCardSaid : Prop := Claim7.holds Tryd.pinned (.plain (OpenSpec.ofChange fnExactFormatDateSpec)) fnExactFormatDateCard

/-- THE TIED CARD OF 'laws.FnExactParseDate'. -/
def fnExactParseDateCard : Claim7 := { stood := { row := fnExactParseDateRow, standIns := [], harness := (true, "a95a72c67648d6fa15b7813cc1cf6db2ab3847708fb5ec9dcd7ae2b052de5f99"), looks := false }, kinds := [], alts := [], laidByText := true, laidKinds := [.data, .listed, .data, .data, .data, .pinned], laidTests := true, laidLooks := .later }
def FnExactParseDateCardSaid : Prop := Claim7.holds Tryd.pinned (.plain (OpenSpec.ofChange fnExactParseDateSpec)) fnExactParseDateCard

/-- THE SECOND FORM's CARD OF 'laws.FnExactWeekdayOf'. -/
def fnExactWeekdayOfUptoCard : Claim7 := { stood := { row := fnExactWeekdayOfUptoRow, standIns := [], harness := (true, "a95a72c67648d6fa15b7813cc1cf6db2ab3847708fb5ec9dcd7ae2b052de5f99"), looks := false }, kinds := [], alts := [], laidByText := true, laidKinds := [.data], laidTests := true, laidLooks := .later }
def FnExactWeekdayOfUptoCardSaid : Prop := Claim7.holds Tryd.pinned (.plain (OpenSpec.upto fnExactWeekdayOfSpec)) fnExactWeekdayOfUptoCard

/-- THE SECOND FORM's CARD OF 'laws.FnExactFormatDate'. -/
def fnExactFormatDateUptoCard : Claim7 := { stood := { row := fnExactFormatDateUptoRow, standIns := [], harness := (true, "a95a72c67648d6fa15b7813cc1cf6db2ab3847708fb5ec9dcd7ae2b052de5f99"), looks := false }, kinds := [], alts := [], laidByText := true, laidKinds := [.data, .data, .data, .data, .data], laidTests := true, laidLooks := .later }
def FnExactFormatDateUptoCardSaid : Prop := Claim7.holds Tryd.pinned (.plain (OpenSpec.upto fnExactFormatDateSpec)) fnExactFormatDateUptoCard

/-- THE SECOND FORM's CARD OF 'laws.FnExactParseDate'. -/
def fnExactParseDateUptoCard : Claim7 := { stood := { row := fnExactParseDateUptoRow, standIns := [], harness := (true, "a95a72c67648d6fa15b7813cc1cf6db2ab3847708fb5ec9dcd7ae2b052de5f99"), looks := false }, kinds := [], alts := [], laidByText := true, laidKinds := [.data, .listed, .data, .data, .data, .pinned], laidTests := true, laidLooks := .later }
def FnExactParseDateUptoCardSaid : Prop := Claim7.holds Tryd.pinned (.plain (OpenSpec.upto fnExactParseDateSpec)) fnExactParseDateUptoCard
end Rows
end Go.Proofs.YtejplhhlecnagabDoor
