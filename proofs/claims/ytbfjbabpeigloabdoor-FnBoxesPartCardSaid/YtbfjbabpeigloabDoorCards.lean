/-
  DERIVED. GIVEN WITH THE SEED: THE CARDS: each row of YtbfjbabpeigloabDoorRows.lean that lists a variable, with what it lists TIED to the program's text (the seventh form; the later family's looks); each row that meets fmt, with fmt's text TOLD by the authors' own Lean function (tested against real Go, not proved from fmt's source: count such statements apart). THE CARD IS WHAT COUNTS. Prove the row's statement (the work); the ties are given (YtbfjbabpeigloabDoorTie.lean); close each card by the builder's one call (the guide's Derived/Test/ToyasCard.lean, 'card_holds'). Laid BY PROGRAM, IN A SANDBOX (cutbox-door.mjs). By AI agents, Wed Nov 11 2026. No macro, syntax, notation, axiom, sorry.
-/
import Derived.Test.YtbfjbabpeigloabDoorRows
import GoSem.ClaimSeven
namespace Go.Proofs.YtbfjbabpeigloabDoor
namespace Rows

/-- THE TIED CARD OF 'laws.FnTakeMail'. -/
def fnTakeMailCard : Claim7 := { stood := { row := fnTakeMailRow, standIns := [], harness := (true, "3a0ee2dd983fd9ca4de5cea73950d8fc529c2d1a100c9d277b8d38fb16725f53"), looks := false }, kinds := [], alts := [], laidByText := true, laidKinds := [.data, .data, .pinned], laidTests := true, laidLooks := .later }
def FnTakeMailCardSaid : Prop := Claim7.holds Tryd.pinned (.plain (OpenSpec.ofChange fnTakeMailSpec)) fnTakeMailCard

/-- THE TIED CARD OF 'laws.FnAddOrder'. -/
def fnAddOrderCard : Claim7 := { stood := { row := fnAddOrderRow, standIns := [], harness := (true, "3a0ee2dd983fd9ca4de5cea73950d8fc529c2d1a100c9d277b8d38fb16725f53"), looks := false }, kinds := [], alts := [], laidByText := true, laidKinds := [.data, .data, .pinned], laidTests := true, laidLooks := .later }
def FnAddOrderCardSaid : Prop := Claim7.holds Tryd.pinned (.plain (OpenSpec.ofChange fnAddOrderSpec)) fnAddOrderCard

/-- THE TIED CARD OF 'laws.FnTakeOrder'. -/
def fnTakeOrderCard : Claim7 := { stood := { row := fnTakeOrderRow, standIns := [], harness := (true, "3a0ee2dd983fd9ca4de5cea73950d8fc529c2d1a100c9d277b8d38fb16725f53"), looks := false }, kinds := [], alts := [], laidByText := true, laidKinds := [.data, .data, .pinned], laidTests := true, laidLooks := .later }
def FnTakeOrderCardSaid : Prop := Claim7.holds Tryd.pinned (.plain (OpenSpec.ofChange fnTakeOrderSpec)) fnTakeOrderCard

/-- THE TIED CARD OF 'laws.FnBoxesPart'. -/
def fnBoxesPartCard : Claim7 := { stood := { row := fnBoxesPartRow, standIns := [], harness := (true, "3a0ee2dd983fd9ca4de5cea73950d8fc529c2d1a100c9d277b8d38fb16725f53"), looks := false }, kinds := [], alts := [], laidByText := true, laidKinds := [.data, .data, .pinned], laidTests := true, laidLooks := .later }
def FnBoxesPartCardSaid : Prop := Claim7.holds Tryd.pinned (.plain (OpenSpec.ofChange fnBoxesPartSpec)) fnBoxesPartCard

/-- THE TIED CARD OF 'laws.FnBoxesSame'. -/
def fnBoxesSameCard : Claim7 := { stood := { row := fnBoxesSameRow, standIns := [], harness := (true, "3a0ee2dd983fd9ca4de5cea73950d8fc529c2d1a100c9d277b8d38fb16725f53"), looks := false }, kinds := [], alts := [], laidByText := true, laidKinds := [.data, .data, .pinned], laidTests := true, laidLooks := .later }
def FnBoxesSameCardSaid : Prop := Claim7.holds Tryd.pinned (.plain (OpenSpec.ofChange fnBoxesSameSpec)) fnBoxesSameCard

/-- THE TIED CARD OF 'laws.FnCountHeld'. -/
def fnCountHeldCard : Claim7 := { stood := { row := fnCountHeldRow, standIns := [], harness := (true, "3a0ee2dd983fd9ca4de5cea73950d8fc529c2d1a100c9d277b8d38fb16725f53"), looks := false }, kinds := [], alts := [], laidByText := true, laidKinds := [.data, .data, .pinned], laidTests := true, laidLooks := .later }
def FnCountHeldCardSaid : Prop := Claim7.holds Tryd.pinned (.plain (OpenSpec.ofChange fnCountHeldSpec)) fnCountHeldCard

/-- THE SECOND FORM's CARD OF 'laws.FnTakeMail'. -/
def fnTakeMailUptoCard : Claim7 := { stood := { row := fnTakeMailUptoRow, standIns := [], harness := (true, "3a0ee2dd983fd9ca4de5cea73950d8fc529c2d1a100c9d277b8d38fb16725f53"), looks := false }, kinds := [], alts := [], laidByText := true, laidKinds := [.data, .data, .pinned], laidTests := true, laidLooks := .later }
def FnTakeMailUptoCardSaid : Prop := Claim7.holds Tryd.pinned (.plain (OpenSpec.upto fnTakeMailSpec)) fnTakeMailUptoCard

/-- THE SECOND FORM's CARD OF 'laws.FnAddOrder'. -/
def fnAddOrderUptoCard : Claim7 := { stood := { row := fnAddOrderUptoRow, standIns := [], harness := (true, "3a0ee2dd983fd9ca4de5cea73950d8fc529c2d1a100c9d277b8d38fb16725f53"), looks := false }, kinds := [], alts := [], laidByText := true, laidKinds := [.data, .data, .pinned], laidTests := true, laidLooks := .later }
def FnAddOrderUptoCardSaid : Prop := Claim7.holds Tryd.pinned (.plain (OpenSpec.upto fnAddOrderSpec)) fnAddOrderUptoCard

/-- THE SECOND FORM's CARD OF 'laws.FnTakeOrder'. -/
def fnTakeOrderUptoCard : Claim7 := { stood := { row := fnTakeOrderUptoRow, standIns := [], harness := (true, "3a0ee2dd983fd9ca4de5cea73950d8fc529c2d1a100c9d277b8d38fb16725f53"), looks := false }, kinds := [], alts := [], laidByText := true, laidKinds := [.data, .data, .pinned], laidTests := true, laidLooks := .later }
def FnTakeOrderUptoCardSaid : Prop := Claim7.holds Tryd.pinned (.plain (OpenSpec.upto fnTakeOrderSpec)) fnTakeOrderUptoCard

/-- THE SECOND FORM's CARD OF 'laws.FnBoxesPart'. -/
def fnBoxesPartUptoCard : Claim7 := { stood := { row := fnBoxesPartUptoRow, standIns := [], harness := (true, "3a0ee2dd983fd9ca4de5cea73950d8fc529c2d1a100c9d277b8d38fb16725f53"), looks := false }, kinds := [], alts := [], laidByText := true, laidKinds := [.data, .data, .pinned], laidTests := true, laidLooks := .later }
def FnBoxesPartUptoCardSaid : Prop := Claim7.holds Tryd.pinned (.plain (OpenSpec.upto fnBoxesPartSpec)) fnBoxesPartUptoCard

/-- THE SECOND FORM's CARD OF 'laws.FnBoxesSame'. -/
def fnBoxesSameUptoCard : Claim7 := { stood := { row := fnBoxesSameUptoRow, standIns := [], harness := (true, "3a0ee2dd983fd9ca4de5cea73950d8fc529c2d1a100c9d277b8d38fb16725f53"), looks := false }, kinds := [], alts := [], laidByText := true, laidKinds := [.data, .data, .pinned], laidTests := true, laidLooks := .later }
def FnBoxesSameUptoCardSaid : Prop := Claim7.holds Tryd.pinned (.plain (OpenSpec.upto fnBoxesSameSpec)) fnBoxesSameUptoCard

/-- THE SECOND FORM's CARD OF 'laws.FnCountHeld'. -/
def fnCountHeldUptoCard : Claim7 := { stood := { row := fnCountHeldUptoRow, standIns := [], harness := (true, "3a0ee2dd983fd9ca4de5cea73950d8fc529c2d1a100c9d277b8d38fb16725f53"), looks := false }, kinds := [], alts := [], laidByText := true, laidKinds := [.data, .data, .pinned], laidTests := true, laidLooks := .later }
def FnCountHeldUptoCardSaid : Prop := Claim7.holds Tryd.pinned (.plain (OpenSpec.upto fnCountHeldSpec)) fnCountHeldUptoCard
end Rows
end Go.Proofs.YtbfjbabpeigloabDoor
