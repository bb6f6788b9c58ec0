/-
  DERIVED. GIVEN WITH THE SEED: THE CARDS: each row of YtfheajfcepcepabDoorRows.lean that lists a variable, with what it lists TIED to the program's text (the seventh form; the later family's looks); each row that meets fmt, with fmt's text TOLD by the authors' own Lean function (tested against real Go, not proved from fmt's source: count such statements apart). THE CARD IS WHAT COUNTS. Prove the row's statement (the work); the ties are given (YtfheajfcepcepabDoorTie.lean); close each card by the builder's one call (the guide's Derived/Test/ToyasCard.lean, 'card_holds'). Laid BY PROGRAM, IN A SANDBOX (cutbox-door.mjs). By AI agents, Wed Nov 11 2026. No macro, syntax, notation, axiom, sorry.
-/
import Derived.Test.YtfheajfcepcepabDoorRows
import GoSem.ClaimSeven
namespace Go.Proofs.YtfheajfcepcepabDoor
namespace Rows

/-- THE TIED CARD OF 'laws.FnExactParseKind'. -/
def fnExactParseKindCard : Claim7 := { stood := { row := fnExactParseKindRow, standIns := [], harness := (true, "84a6cbca25bb9108f9509b76a8daa064c33757671d3403fe510875e650e9ba5a"), looks := false }, kinds := [], alts := [], laidByText := true, laidKinds := [.data, .data, .pinned], laidTests := true, laidLooks := .later }
def FnExactParseKindCardSaid : Prop := Claim7.holds Tryd.pinned (.plain (OpenSpec.ofChange fnExactParseKindSpec)) fnExactParseKindCard

/-- THE SECOND FORM's CARD OF 'laws.FnExactParseKind'. -/
def fnExactParseKindUptoCard : Claim7 := { stood := { row := fnExactParseKindUptoRow, standIns := [], harness := (true, "84a6cbca25bb9108f9509b76a8daa064c33757671d3403fe510875e650e9ba5a"), looks := false }, kinds := [], alts := [], laidByText := true, laidKinds := [.data, .data, .pinned], laidTests := true, laidLooks := .later }
def FnExactParseKindUptoCardSaid : Prop := Claim7.holds Tryd.pinned (.plain (OpenSpec.upto fnExactParseKindSpec)) fnExactParseKindUptoCard
end Rows
end Go.Proofs.YtfheajfcepcepabDoor
