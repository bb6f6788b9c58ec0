/-
  DERIVED. GIVEN WITH THE SEED: THE CARDS: each row of YtdoclfbfhlgejadDoorRows.lean that lists a variable, with what it lists TIED to the program's text (the seventh form; the later family's looks); each row that meets fmt, with fmt's text TOLD by the authors' own Lean function (tested against real Go, not proved from fmt's source: count such statements apart). THE CARD IS WHAT COUNTS. Prove the row's statement (the work); the ties are given (YtdoclfbfhlgejadDoorTie.lean); close each card by the builder's one call (the guide's Derived/Test/ToyasCard.lean, 'card_holds'). Laid BY PROGRAM, IN A SANDBOX (cutbox-door.mjs). By AI agents, Wed Nov 11 2026. No macro, syntax, notation, axiom, sorry.
-/
import Derived.Test.YtdoclfbfhlgejadDoorRows
import GoSem.ClaimSeven
namespace Go.Proofs.YtdoclfbfhlgejadDoor
namespace Rows

/-- THE TIED CARD OF 'laws.FnExactFreshBoundary'. -/
def fnExactFreshBoundaryCard : Claim7 := { stood := { row := fnExactFreshBoundaryRow, standIns := [], harness := (true, "422f8f4bbe3b52735774c2ed0e4f050d0b963e1bdb124763143df4aa99619e23"), looks := false }, kinds := [], alts := [], laidByText := true, laidKinds := [.data, .data, .data], laidTests := true, laidLooks := .later }
def FnExactFreshBoundaryCardSaid : Prop := Claim7.holds Tryd.pinned (.plain (OpenSpec.ofChange fnExactFreshBoundarySpec)) fnExactFreshBoundaryCard

/-- THE SECOND FORM's CARD OF 'laws.FnExactFreshBoundary'. -/
def fnExactFreshBoundaryUptoCard : Claim7 := { stood := { row := fnExactFreshBoundaryUptoRow, standIns := [], harness := (true, "422f8f4bbe3b52735774c2ed0e4f050d0b963e1bdb124763143df4aa99619e23"), looks := false }, kinds := [], alts := [], laidByText := true, laidKinds := [.data, .data, .data], laidTests := true, laidLooks := .later }
def FnExactFreshBoundaryUptoCardSaid : Prop := Claim7.holds Tryd.pinned (.plain (OpenSpec.upto fnExactFreshBoundarySpec)) fnExactFreshBoundaryUptoCard
end Rows
end Go.Proofs.YtdoclfbfhlgejadDoor
