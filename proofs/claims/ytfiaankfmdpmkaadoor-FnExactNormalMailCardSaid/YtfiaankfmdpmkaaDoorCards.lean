/-
  DERIVED. GIVEN WITH THE SEED: THE CARDS: each row of YtfiaankfmdpmkaaDoorRows.lean that lists a variable, with what it lists TIED to the program's text (the seventh form; the later family's looks); each row that meets fmt, with fmt's text TOLD by the authors' own Lean function (tested against real Go, not proved from fmt's source: count such statements apart). THE CARD IS WHAT COUNTS. Prove the row's statement (the work); the ties are given (YtfiaankfmdpmkaaDoorTie.lean); close each card by the builder's one call (the guide's Derived/Test/ToyasCard.lean, 'card_holds'). Laid BY PROGRAM, IN A SANDBOX (cutbox-door.mjs). By AI agents, Wed Nov 11 2026. No macro, syntax, notation, axiom, sorry.
-/
import Derived.Test.YtfiaankfmdpmkaaDoorRows
import GoSem.ClaimSeven
namespace Go.Proofs.YtfiaankfmdpmkaaDoor
namespace Rows

/-- THE TIED CARD OF 'laws.FnExactBoxesValid'. -/
def fnExactBoxesValidCard : Claim7 := { stood := { row := fnExactBoxesValidRow, standIns := [], harness := (true, "f72567bacdb1b744a44a2b7fe88c673b5cc8d8c958d98cd69b6e54efebf164a2"), looks := false }, kinds := [], alts := [], laidByText := true, laidKinds := [.data, .data, .pinned], laidTests := true, laidLooks := .later }
def FnExactBoxesValidCardSaid : Prop := Claim7.holds Tryd.pinned (.plain (OpenSpec.ofChange fnExactBoxesValidSpec)) fnExactBoxesValidCard

/-- THE TIED CARD OF 'laws.FnExactCountHeld'. -/
def fnExactCountHeldCard : Claim7 := { stood := { row := fnExactCountHeldRow, standIns := [], harness := (true, "f72567bacdb1b744a44a2b7fe88c673b5cc8d8c958d98cd69b6e54efebf164a2"), looks := false }, kinds := [], alts := [], laidByText := true, laidKinds := [.data, .data, .pinned], laidTests := true, laidLooks := .later }
def FnExactCountHeldCardSaid : Prop := Claim7.holds Tryd.pinned (.plain (OpenSpec.ofChange fnExactCountHeldSpec)) fnExactCountHeldCard

/-- THE TIED CARD OF 'laws.FnExactCountHops'. -/
def fnExactCountHopsCard : Claim7 := { stood := { row := fnExactCountHopsRow, standIns := [], harness := (true, "f72567bacdb1b744a44a2b7fe88c673b5cc8d8c958d98cd69b6e54efebf164a2"), looks := false }, kinds := [], alts := [], laidByText := true, laidKinds := [.data, .data, .pinned], laidTests := true, laidLooks := .later }
def FnExactCountHopsCardSaid : Prop := Claim7.holds Tryd.pinned (.plain (OpenSpec.ofChange fnExactCountHopsSpec)) fnExactCountHopsCard

/-- THE TIED CARD OF 'laws.FnExactNormalMail'. -/
def fnExactNormalMailCard : Claim7 := { stood := { row := fnExactNormalMailRow, standIns := [], harness := (true, "f72567bacdb1b744a44a2b7fe88c673b5cc8d8c958d98cd69b6e54efebf164a2"), looks := false }, kinds := [], alts := [], laidByText := true, laidKinds := [.data, .data, .pinned], laidTests := true, laidLooks := .later }
def FnExactNormalMailCardSaid : Prop := Claim7.holds Tryd.pinned (.plain (OpenSpec.ofChange fnExactNormalMailSpec)) fnExactNormalMailCard

/-- THE TIED CARD OF 'laws.FnExactSplitMail'. -/
def fnExactSplitMailCard : Claim7 := { stood := { row := fnExactSplitMailRow, standIns := [], harness := (true, "f72567bacdb1b744a44a2b7fe88c673b5cc8d8c958d98cd69b6e54efebf164a2"), looks := false }, kinds := [], alts := [], laidByText := true, laidKinds := [.data, .data, .pinned], laidTests := true, laidLooks := .later }
def FnExactSplitMailCardSaid : Prop := Claim7.holds Tryd.pinned (.plain (OpenSpec.ofChange fnExactSplitMailSpec)) fnExactSplitMailCard

/-- THE SECOND FORM's CARD OF 'laws.FnExactBoxesValid'. -/
def fnExactBoxesValidUptoCard : Claim7 := { stood := { row := fnExactBoxesValidUptoRow, standIns := [], harness := (true, "f72567bacdb1b744a44a2b7fe88c673b5cc8d8c958d98cd69b6e54efebf164a2"), looks := false }, kinds := [], alts := [], laidByText := true, laidKinds := [.data, .data, .pinned], laidTests := true, laidLooks := .later }
def FnExactBoxesValidUptoCardSaid : Prop := Claim7.holds Tryd.pinned (.plain (OpenSpec.upto fnExactBoxesValidSpec)) fnExactBoxesValidUptoCard

/-- THE SECOND FORM's CARD OF 'laws.FnExactCountHeld'. -/
def fnExactCountHeldUptoCard : Claim7 := { stood := { row := fnExactCountHeldUptoRow, standIns := [], harness := (true, "f72567bacdb1b744a44a2b7fe88c673b5cc8d8c958d98cd69b6e54efebf164a2"), looks := false }, kinds := [], alts := [], laidByText := true, laidKinds := [.data, .data, .pinned], laidTests := true, laidLooks := .later }
def FnExactCountHeldUptoCardSaid : Prop := Claim7.holds Tryd.pinned (.plain (OpenSpec.upto fnExactCountHeldSpec)) fnExactCountHeldUptoCard

/-- THE SECOND FORM's CARD OF 'laws.FnExactCountHops'. -/
def fnExactCountHopsUptoCard : Claim7 := { stood := { row := fnExactCountHopsUptoRow, standIns := [], harness := (true, "f72567bacdb1b744a44a2b7fe88c673b5cc8d8c958d98cd69b6e54efebf164a2"), looks := false }, kinds := [], alts := [], laidByText := true, laidKinds := [.data, .data, .pinned], laidTests := true, laidLooks := .later }
def FnExactCountHopsUptoCardSaid : Prop := Claim7.holds Tryd.pinned (.plain (OpenSpec.upto fnExactCountHopsSpec)) fnExactCountHopsUptoCard

/-- THE SECOND FORM's CARD OF 'laws.FnExactNormalMail'. -/
def fnExactNormalMailUptoCard : Claim7 := { stood := { row := fnExactNormalMailUptoRow, standIns := [], harness := (true, "f72567bacdb1b744a44a2b7fe88c673b5cc8d8c958d98cd69b6e54efebf164a2"), looks := false }, kinds := [], alts := [], laidByText := true, laidKinds := [.data, .data, .pinned], laidTests := true, laidLooks := .later }
def FnExactNormalMailUptoCardSaid : Prop := Claim7.holds Tryd.pinned (.plain (OpenSpec.upto fnExactNormalMailSpec)) fnExactNormalMailUptoCard

/-- THE SECOND FORM's CARD OF 'laws.FnExactSplitMail'. -/
def fnExactSplitMailUptoCard : Claim7 := { stood := { row := fnExactSplitMailUptoRow, standIns := [], harness := (true, "f72567bacdb1b744a44a2b7fe88c673b5cc8d8c958d98cd69b6e54efebf164a2"), looks := false }, kinds := [], alts := [], laidByText := true, laidKinds := [.data, .data, .pinned], laidTests := true, laidLooks := .later }
def FnExactSplitMailUptoCardSaid : Prop := Claim7.holds Tryd.pinned (.plain (OpenSpec.upto fnExactSplitMailSpec)) fnExactSplitMailUptoCard
end Rows
end Go.Proofs.YtfiaankfmdpmkaaDoor
