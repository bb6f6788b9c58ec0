/-
  DERIVED. GIVEN WITH THE SEED: THE CARDS: each row of YtdddmclhafbfoabDoorRows.lean that lists a variable, with what it lists TIED to the program's text (the seventh form; the later family's looks); each row that meets fmt, with fmt's text TOLD by the authors' own Lean function (tested against real Go, not proved from fmt's source: count such statements apart). THE CARD IS WHAT COUNTS. Prove the row's statement (the work); the ties are given (YtdddmclhafbfoabDoorTie.lean); close each card by the builder's one call (the guide's Derived/Test/ToyasCard.lean, 'card_holds'). Laid BY PROGRAM, IN A SANDBOX (cutbox-door.mjs). By AI agents, Wed Nov 11 2026. No macro, syntax, notation, axiom, sorry.
-/
import Derived.Test.YtdddmclhafbfoabDoorRows
import GoSem.ClaimSeven
namespace Go.Proofs.YtdddmclhafbfoabDoor
namespace Rows

/-- THE TIED CARD OF 'laws.FnMailPart'. -/
def fnMailPartCard : Claim7 := { stood := { row := fnMailPartRow, standIns := [], harness := (true, "92dee9e48a985837820fe10ab744c542074a9de95c98955cc6e2bdb2f0c76696"), looks := false }, kinds := [], alts := [], laidByText := true, laidKinds := [.data, .data, .pinned], laidTests := true, laidLooks := .later }
def FnMailPartCardSaid : Prop := Claim7.holds Tryd.pinned (.plain (OpenSpec.ofChange fnMailPartSpec)) fnMailPartCard

/-- THE TIED CARD OF 'laws.FnExactMailValid'. -/
def fnExactMailValidCard : Claim7 := { stood := { row := fnExactMailValidRow, standIns := [], harness := (true, "92dee9e48a985837820fe10ab744c542074a9de95c98955cc6e2bdb2f0c76696"), looks := false }, kinds := [], alts := [], laidByText := true, laidKinds := [.data, .data, .pinned], laidTests := true, laidLooks := .later }
def FnExactMailValidCardSaid : Prop := Claim7.holds Tryd.pinned (.plain (OpenSpec.ofChange fnExactMailValidSpec)) fnExactMailValidCard

/-- THE TIED CARD OF 'laws.FnExactSessionValid'. -/
def fnExactSessionValidCard : Claim7 := { stood := { row := fnExactSessionValidRow, standIns := [], harness := (true, "92dee9e48a985837820fe10ab744c542074a9de95c98955cc6e2bdb2f0c76696"), looks := false }, kinds := [], alts := [], laidByText := true, laidKinds := [.data, .data, .pinned], laidTests := true, laidLooks := .later }
def FnExactSessionValidCardSaid : Prop := Claim7.holds Tryd.pinned (.plain (OpenSpec.ofChange fnExactSessionValidSpec)) fnExactSessionValidCard

/-- THE TIED CARD OF 'laws.FnExactSpeakMail'. -/
def fnExactSpeakMailCard : Claim7 := { stood := { row := fnExactSpeakMailRow, standIns := [], harness := (true, "92dee9e48a985837820fe10ab744c542074a9de95c98955cc6e2bdb2f0c76696"), looks := false }, kinds := [], alts := [], laidByText := true, laidKinds := [.data, .data, .pinned], laidTests := true, laidLooks := .later }
def FnExactSpeakMailCardSaid : Prop := Claim7.holds Tryd.pinned (.plain (OpenSpec.ofChange fnExactSpeakMailSpec)) fnExactSpeakMailCard

/-- THE SECOND FORM's CARD OF 'laws.FnMailPart'. -/
def fnMailPartUptoCard : Claim7 := { stood := { row := fnMailPartUptoRow, standIns := [], harness := (true, "92dee9e48a985837820fe10ab744c542074a9de95c98955cc6e2bdb2f0c76696"), looks := false }, kinds := [], alts := [], laidByText := true, laidKinds := [.data, .data, .pinned], laidTests := true, laidLooks := .later }
def FnMailPartUptoCardSaid : Prop := Claim7.holds Tryd.pinned (.plain (OpenSpec.upto fnMailPartSpec)) fnMailPartUptoCard

/-- THE SECOND FORM's CARD OF 'laws.FnExactMailValid'. -/
def fnExactMailValidUptoCard : Claim7 := { stood := { row := fnExactMailValidUptoRow, standIns := [], harness := (true, "92dee9e48a985837820fe10ab744c542074a9de95c98955cc6e2bdb2f0c76696"), looks := false }, kinds := [], alts := [], laidByText := true, laidKinds := [.data, .data, .pinned], laidTests := true, laidLooks := .later }
def FnExactMailValidUptoCardSaid : Prop := Claim7.holds Tryd.pinned (.plain (OpenSpec.upto fnExactMailValidSpec)) fnExactMailValidUptoCard

/-- THE SECOND FORM's CARD OF 'laws.FnExactSessionValid'. -/
def fnExactSessionValidUptoCard : Claim7 := { stood := { row := fnExactSessionValidUptoRow, standIns := [], harness := (true, "92dee9e48a985837820fe10ab744c542074a9de95c98955cc6e2bdb2f0c76696"), looks := false }, kinds := [], alts := [], laidByText := true, laidKinds := [.data, .data, .pinned], laidTests := true, laidLooks := .later }
def FnExactSessionValidUptoCardSaid : Prop := Claim7.holds Tryd.pinned (.plain (OpenSpec.upto fnExactSessionValidSpec)) fnExactSessionValidUptoCard

/-- THE SECOND FORM's CARD OF 'laws.FnExactSpeakMail'. -/
def fnExactSpeakMailUptoCard : Claim7 := { stood := { row := fnExactSpeakMailUptoRow, standIns := [], harness := (true, "92dee9e48a985837820fe10ab744c542074a9de95c98955cc6e2bdb2f0c76696"), looks := false }, kinds := [], alts := [], laidByText := true, laidKinds := [.data, .data, .pinned], laidTests := true, laidLooks := .later }
def FnExactSpeakMailUptoCardSaid : Prop := Claim7.holds Tryd.pinned (.plain (OpenSpec.upto fnExactSpeakMailSpec)) fnExactSpeakMailUptoCard
end Rows
end Go.Proofs.YtdddmclhafbfoabDoor
