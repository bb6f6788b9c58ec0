/-
  DERIVED. GIVEN WITH THE SEED: THE CARDS: each row of YtboopbjdehdhgaaGreatDoorRows.lean that lists a variable, with what it lists TIED to the program's text (the seventh form; the later family's looks); each row that meets fmt, with fmt's text TOLD by the authors' own Lean function (tested against real Go, not proved from fmt's source: count such statements apart). THE CARD IS WHAT COUNTS. Prove the row's statement (the work); the ties are given (YtboopbjdehdhgaaGreatDoorTie.lean); close each card by the builder's one call (the guide's Derived/Test/ToyasCard.lean, 'card_holds'). Laid BY PROGRAM, IN A SANDBOX (cutbox-door.mjs). By AI agents, Wed Nov 11 2026. No macro, syntax, notation, axiom, sorry.
-/
import Derived.Test.YtboopbjdehdhgaaGreatDoorRows
import GoSem.ClaimSeven
namespace Go.Proofs.YtboopbjdehdhgaaGreatDoor
namespace Rows

/-- THE TIED CARD OF 'laws.FnDateText'. -/
def fnDateTextCard : Claim7 := { stood := { row := fnDateTextRow, standIns := [], harness := (true, "7d65b7f4c2cf7939bce1caad177809971caf3ca56ab1fdd1cf09bdacb2aadd6f"), looks := false }, kinds := [], alts := [], laidByText := true, laidKinds := [.data, .data, .data, .data, .listed, .data, .data, .data, .pinned], laidTests := true, laidLooks := .later }
def FnDateTextCardSaid : Prop := Claim7.holds Tryz.pinned (.plain (OpenSpec.ofChange fnDateTextSpec)) fnDateTextCard

/-- THE SECOND FORM's CARD OF 'laws.FnDateText'. -/
def fnDateTextUptoCard : Claim7 := { stood := { row := fnDateTextUptoRow, standIns := [], harness := (true, "7d65b7f4c2cf7939bce1caad177809971caf3ca56ab1fdd1cf09bdacb2aadd6f"), looks := false }, kinds := [], alts := [], laidByText := true, laidKinds := [.data, .data, .data, .data, .listed, .data, .data, .data, .pinned], laidTests := true, laidLooks := .later }
def FnDateTextUptoCardSaid : Prop := Claim7.holds Tryz.pinned (.plain (OpenSpec.upto fnDateTextSpec)) fnDateTextUptoCard
end Rows
end Go.Proofs.YtboopbjdehdhgaaGreatDoor
