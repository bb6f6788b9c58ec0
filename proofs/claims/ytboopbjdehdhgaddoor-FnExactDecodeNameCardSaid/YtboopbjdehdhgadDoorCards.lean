/-
  DERIVED. GIVEN WITH THE SEED: THE CARDS: each row of YtboopbjdehdhgadDoorRows.lean that lists a variable, with what it lists TIED to the program's text (the seventh form; the later family's looks); each row that meets fmt, with fmt's text TOLD by the authors' own Lean function (tested against real Go, not proved from fmt's source: count such statements apart). THE CARD IS WHAT COUNTS. Prove the row's statement (the work); the ties are given (YtboopbjdehdhgadDoorTie.lean); close each card by the builder's one call (the guide's Derived/Test/ToyasCard.lean, 'card_holds'). Laid BY PROGRAM, IN A SANDBOX (cutbox-door.mjs). By AI agents, Wed Nov 11 2026. No macro, syntax, notation, axiom, sorry.
-/
import Derived.Test.YtboopbjdehdhgadDoorRows
import GoSem.ClaimSeven
namespace Go.Proofs.YtboopbjdehdhgadDoor
namespace Rows

/-- THE TIED CARD OF 'laws.FnExactDecodeName'. -/
def fnExactDecodeNameCard : Claim7 := { stood := { row := fnExactDecodeNameRow, standIns := [], harness := (true, "9cfab492d5eb4719fcfa872e8ec37769df30e8baf0e0f30595c9a95dff9b859b"), looks := false }, kinds := [], alts := [], laidByText := true, laidKinds := [.data, .pinned], laidTests := true, laidLooks := .later }
def FnExactDecodeNameCardSaid : Prop := Claim7.holds Tryd.pinned (.plain (OpenSpec.ofChange fnExactDecodeNameSpec)) fnExactDecodeNameCard

/-- THE SECOND FORM's CARD OF 'laws.FnExactDecodeName'. -/
def fnExactDecodeNameUptoCard : Claim7 := { stood := { row := fnExactDecodeNameUptoRow, standIns := [], harness := (true, "9cfab492d5eb4719fcfa872e8ec37769df30e8baf0e0f30595c9a95dff9b859b"), looks := false }, kinds := [], alts := [], laidByText := true, laidKinds := [.data, .pinned], laidTests := true, laidLooks := .later }
def FnExactDecodeNameUptoCardSaid : Prop := Claim7.holds Tryd.pinned (.plain (OpenSpec.upto fnExactDecodeNameSpec)) fnExactDecodeNameUptoCard
end Rows
end Go.Proofs.YtboopbjdehdhgadDoor
