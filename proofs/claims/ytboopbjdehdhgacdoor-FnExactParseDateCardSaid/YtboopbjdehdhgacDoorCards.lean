/-
  DERIVED. GIVEN WITH THE SEED: THE CARDS: each row of YtboopbjdehdhgacDoorRows.lean that lists a variable, with what it lists TIED to the program's text (the seventh form; the later family's looks); each row that meets fmt, with fmt's text TOLD by the authors' own Lean function (tested against real Go, not proved from fmt's source: count such statements apart). THE CARD IS WHAT COUNTS. Prove the row's statement (the work); the ties are given (YtboopbjdehdhgacDoorTie.lean); close each card by the builder's one call (the guide's Derived/Test/ToyasCard.lean, 'card_holds'). Laid BY PROGRAM, IN A SANDBOX (cutbox-door.mjs). By AI agents, Wed Nov 11 2026. No macro, syntax, notation, axiom, sorry.
-/
import Derived.Test.YtboopbjdehdhgacDoorRows
import GoSem.ClaimSeven
namespace Go.Proofs.YtboopbjdehdhgacDoor
namespace Rows

/-- THE TIED CARD OF 'laws.FnExactParseDate'. -/
def fnExactParseDateCard : Claim7 := { stood := { row := fnExactParseDateRow, standIns := [], harness := (true, "a5dacf37504babca5fd1136da05ae75e1ffffdea0f13876142910b0b055fe432"), looks := false }, kinds := [], alts := [], laidByText := true, laidKinds := [.data, .listed, .data, .data, .data, .pinned], laidTests := true, laidLooks := .later }
def FnExactParseDateCardSaid : Prop := Claim7.holds Tryd.pinned (.plain (OpenSpec.ofChange fnExactParseDateSpec)) fnExactParseDateCard

/-- THE TIED CARD OF 'laws.FnExactReadCodeWord'. -/
def fnExactReadCodeWordCard : Claim7 := { stood := { row := fnExactReadCodeWordRow, standIns := [], harness := (true, "a5dacf37504babca5fd1136da05ae75e1ffffdea0f13876142910b0b055fe432"), looks := false }, kinds := [], alts := [], laidByText := true, laidKinds := [.data, .pinned], laidTests := true, laidLooks := .later }
def FnExactReadCodeWordCardSaid : Prop := Claim7.holds Tryd.pinned (.plain (OpenSpec.ofChange fnExactReadCodeWordSpec)) fnExactReadCodeWordCard

/-- THE SECOND FORM's CARD OF 'laws.FnExactParseDate'. -/
def fnExactParseDateUptoCard : Claim7 := { stood := { row := fnExactParseDateUptoRow, standIns := [], harness := (true, "a5dacf37504babca5fd1136da05ae75e1ffffdea0f13876142910b0b055fe432"), looks := false }, kinds := [], alts := [], laidByText := true, laidKinds := [.data, .listed, .data, .data, .data, .pinned], laidTests := true, laidLooks := .later }
def FnExactParseDateUptoCardSaid : Prop := Claim7.holds Tryd.pinned (.plain (OpenSpec.upto fnExactParseDateSpec)) fnExactParseDateUptoCard

/-- THE SECOND FORM's CARD OF 'laws.FnExactReadCodeWord'. -/
def fnExactReadCodeWordUptoCard : Claim7 := { stood := { row := fnExactReadCodeWordUptoRow, standIns := [], harness := (true, "a5dacf37504babca5fd1136da05ae75e1ffffdea0f13876142910b0b055fe432"), looks := false }, kinds := [], alts := [], laidByText := true, laidKinds := [.data, .pinned], laidTests := true, laidLooks := .later }
def FnExactReadCodeWordUptoCardSaid : Prop := Claim7.holds Tryd.pinned (.plain (OpenSpec.upto fnExactReadCodeWordSpec)) fnExactReadCodeWordUptoCard
end Rows
end Go.Proofs.YtboopbjdehdhgacDoor
