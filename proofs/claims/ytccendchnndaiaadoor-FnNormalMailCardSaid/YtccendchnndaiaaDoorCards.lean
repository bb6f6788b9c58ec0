/-
  DERIVED. GIVEN WITH THE SEED: THE CARDS: each row of YtccendchnndaiaaDoorRows.lean that lists a variable, with what it lists TIED to the program's text (the seventh form; the later family's looks); each row that meets fmt, with fmt's text TOLD by the authors' own Lean function (tested against real Go, not proved from fmt's source: count such statements apart). THE CARD IS WHAT COUNTS. Prove the row's statement (the work); the ties are given (YtccendchnndaiaaDoorTie.lean); close each card by the builder's one call (the guide's Derived/Test/ToyasCard.lean, 'card_holds'). Laid BY PROGRAM, IN A SANDBOX (cutbox-door.mjs). By AI agents, Wed Nov 11 2026. No macro, syntax, notation, axiom, sorry.
-/
import Derived.Test.YtccendchnndaiaaDoorRows
import GoSem.ClaimSeven
namespace Go.Proofs.YtccendchnndaiaaDoor
namespace Rows

/-- THE TIED CARD OF 'laws.FnNormalMail'. -/
def fnNormalMailCard : Claim7 := { stood := { row := fnNormalMailRow, standIns := [], harness := (true, "4e9bfc1c59d4743a59a004322b2d177d8f36a039b88d5eab86d40090a46a2919"), looks := false }, kinds := [], alts := [], laidByText := true, laidKinds := [.data, .data, .pinned], laidTests := true, laidLooks := .later }
def FnNormalMailCardSaid : Prop := Claim7.holds Tryd.pinned (.plain (OpenSpec.ofChange fnNormalMailSpec)) fnNormalMailCard

/-- THE TIED CARD OF 'laws.FnSplitMail'. -/
def fnSplitMailCard : Claim7 := { stood := { row := fnSplitMailRow, standIns := [], harness := (true, "4e9bfc1c59d4743a59a004322b2d177d8f36a039b88d5eab86d40090a46a2919"), looks := false }, kinds := [], alts := [], laidByText := true, laidKinds := [.data, .data, .pinned], laidTests := true, laidLooks := .later }
def FnSplitMailCardSaid : Prop := Claim7.holds Tryd.pinned (.plain (OpenSpec.ofChange fnSplitMailSpec)) fnSplitMailCard

/-- THE TIED CARD OF 'laws.FnDeliverMail'. -/
def fnDeliverMailCard : Claim7 := { stood := { row := fnDeliverMailRow, standIns := [], harness := (true, "4e9bfc1c59d4743a59a004322b2d177d8f36a039b88d5eab86d40090a46a2919"), looks := false }, kinds := [], alts := [], laidByText := true, laidKinds := [.data, .data, .pinned], laidTests := true, laidLooks := .later }
def FnDeliverMailCardSaid : Prop := Claim7.holds Tryd.pinned (.plain (OpenSpec.ofChange fnDeliverMailSpec)) fnDeliverMailCard

/-- THE TIED CARD OF 'laws.FnTakeMail'. -/
def fnTakeMailCard : Claim7 := { stood := { row := fnTakeMailRow, standIns := [], harness := (true, "4e9bfc1c59d4743a59a004322b2d177d8f36a039b88d5eab86d40090a46a2919"), looks := false }, kinds := [], alts := [], laidByText := true, laidKinds := [.data, .data, .pinned], laidTests := true, laidLooks := .later }
def FnTakeMailCardSaid : Prop := Claim7.holds Tryd.pinned (.plain (OpenSpec.ofChange fnTakeMailSpec)) fnTakeMailCard

/-- THE TIED CARD OF 'laws.FnCountHops'. -/
def fnCountHopsCard : Claim7 := { stood := { row := fnCountHopsRow, standIns := [], harness := (true, "4e9bfc1c59d4743a59a004322b2d177d8f36a039b88d5eab86d40090a46a2919"), looks := false }, kinds := [], alts := [], laidByText := true, laidKinds := [.data, .data, .pinned], laidTests := true, laidLooks := .later }
def FnCountHopsCardSaid : Prop := Claim7.holds Tryd.pinned (.plain (OpenSpec.ofChange fnCountHopsSpec)) fnCountHopsCard

/-- THE TIED CARD OF 'laws.FnBoxesSame'. -/
def fnBoxesSameCard : Claim7 := { stood := { row := fnBoxesSameRow, standIns := [], harness := (true, "4e9bfc1c59d4743a59a004322b2d177d8f36a039b88d5eab86d40090a46a2919"), looks := false }, kinds := [], alts := [], laidByText := true, laidKinds := [.data, .data, .pinned], laidTests := true, laidLooks := .later }
def FnBoxesSameCardSaid : Prop := Claim7.holds Tryd.pinned (.plain (OpenSpec.ofChange fnBoxesSameSpec)) fnBoxesSameCard

/-- THE TIED CARD OF 'laws.FnCountHeld'. -/
def fnCountHeldCard : Claim7 := { stood := { row := fnCountHeldRow, standIns := [], harness := (true, "4e9bfc1c59d4743a59a004322b2d177d8f36a039b88d5eab86d40090a46a2919"), looks := false }, kinds := [], alts := [], laidByText := true, laidKinds := [.data, .data, .pinned], laidTests := true, laidLooks := .later }
def FnCountHeldCardSaid : Prop := Claim7.holds Tryd.pinned (.plain (OpenSpec.ofChange fnCountHeldSpec)) fnCountHeldCard

/-- THE TIED CARD OF 'laws.FnDeliverTwice'. -/
def fnDeliverTwiceCard : Claim7 := { stood := { row := fnDeliverTwiceRow, standIns := [], harness := (true, "4e9bfc1c59d4743a59a004322b2d177d8f36a039b88d5eab86d40090a46a2919"), looks := false }, kinds := [], alts := [], laidByText := true, laidKinds := [.data, .data, .pinned], laidTests := true, laidLooks := .later }
def FnDeliverTwiceCardSaid : Prop := Claim7.holds Tryd.pinned (.plain (OpenSpec.ofChange fnDeliverTwiceSpec)) fnDeliverTwiceCard

/-- THE TIED CARD OF 'laws.FnNormalSplit'. -/
def fnNormalSplitCard : Claim7 := { stood := { row := fnNormalSplitRow, standIns := [], harness := (true, "4e9bfc1c59d4743a59a004322b2d177d8f36a039b88d5eab86d40090a46a2919"), looks := false }, kinds := [], alts := [], laidByText := true, laidKinds := [.data, .data, .pinned], laidTests := true, laidLooks := .later }
def FnNormalSplitCardSaid : Prop := Claim7.holds Tryd.pinned (.plain (OpenSpec.ofChange fnNormalSplitSpec)) fnNormalSplitCard

/-- THE SECOND FORM's CARD OF 'laws.FnNormalMail'. -/
def fnNormalMailUptoCard : Claim7 := { stood := { row := fnNormalMailUptoRow, standIns := [], harness := (true, "4e9bfc1c59d4743a59a004322b2d177d8f36a039b88d5eab86d40090a46a2919"), looks := false }, kinds := [], alts := [], laidByText := true, laidKinds := [.data, .data, .pinned], laidTests := true, laidLooks := .later }
def FnNormalMailUptoCardSaid : Prop := Claim7.holds Tryd.pinned (.plain (OpenSpec.upto fnNormalMailSpec)) fnNormalMailUptoCard

/-- THE SECOND FORM's CARD OF 'laws.FnSplitMail'. -/
def fnSplitMailUptoCard : Claim7 := { stood := { row := fnSplitMailUptoRow, standIns := [], harness := (true, "4e9bfc1c59d4743a59a004322b2d177d8f36a039b88d5eab86d40090a46a2919"), looks := false }, kinds := [], alts := [], laidByText := true, laidKinds := [.data, .data, .pinned], laidTests := true, laidLooks := .later }
def FnSplitMailUptoCardSaid : Prop := Claim7.holds Tryd.pinned (.plain (OpenSpec.upto fnSplitMailSpec)) fnSplitMailUptoCard

/-- THE SECOND FORM's CARD OF 'laws.FnDeliverMail'. -/
def fnDeliverMailUptoCard : Claim7 := { stood := { row := fnDeliverMailUptoRow, standIns := [], harness := (true, "4e9bfc1c59d4743a59a004322b2d177d8f36a039b88d5eab86d40090a46a2919"), looks := false }, kinds := [], alts := [], laidByText := true, laidKinds := [.data, .data, .pinned], laidTests := true, laidLooks := .later }
def FnDeliverMailUptoCardSaid : Prop := Claim7.holds Tryd.pinned (.plain (OpenSpec.upto fnDeliverMailSpec)) fnDeliverMailUptoCard

/-- THE SECOND FORM's CARD OF 'laws.FnTakeMail'. -/
def fnTakeMailUptoCard : Claim7 := { stood := { row := fnTakeMailUptoRow, standIns := [], harness := (true, "4e9bfc1c59d4743a59a004322b2d177d8f36a039b88d5eab86d40090a46a2919"), looks := false }, kinds := [], alts := [], laidByText := true, laidKinds := [.data, .data, .pinned], laidTests := true, laidLooks := .later }
def FnTakeMailUptoCardSaid : Prop := Claim7.holds Tryd.pinned (.plain (OpenSpec.upto fnTakeMailSpec)) fnTakeMailUptoCard

/-- THE SECOND FORM's CARD OF 'laws.FnCountHops'. -/
def fnCountHopsUptoCard : Claim7 := { stood := { row := fnCountHopsUptoRow, standIns := [], harness := (true, "4e9bfc1c59d4743a59a004322b2d177d8f36a039b88d5eab86d40090a46a2919"), looks := false }, kinds := [], alts := [], laidByText := true, laidKinds := [.data, .data, .pinned], laidTests := true, laidLooks := .later }
def FnCountHopsUptoCardSaid : Prop := Claim7.holds Tryd.pinned (.plain (OpenSpec.upto fnCountHopsSpec)) fnCountHopsUptoCard

/-- THE SECOND FORM's CARD OF 'laws.FnBoxesSame'. -/
def fnBoxesSameUptoCard : Claim7 := { stood := { row := fnBoxesSameUptoRow, standIns := [], harness := (true, "4e9bfc1c59d4743a59a004322b2d177d8f36a039b88d5eab86d40090a46a2919"), looks := false }, kinds := [], alts := [], laidByText := true, laidKinds := [.data, .data, .pinned], laidTests := true, laidLooks := .later }
def FnBoxesSameUptoCardSaid : Prop := Claim7.holds Tryd.pinned (.plain (OpenSpec.upto fnBoxesSameSpec)) fnBoxesSameUptoCard

/-- THE SECOND FORM's CARD OF 'laws.FnCountHeld'. -/
def fnCountHeldUptoCard : Claim7 := { stood := { row := fnCountHeldUptoRow, standIns := [], harness := (true, "4e9bfc1c59d4743a59a004322b2d177d8f36a039b88d5eab86d40090a46a2919"), looks := false }, kinds := [], alts := [], laidByText := true, laidKinds := [.data, .data, .pinned], laidTests := true, laidLooks := .later }
def FnCountHeldUptoCardSaid : Prop := Claim7.holds Tryd.pinned (.plain (OpenSpec.upto fnCountHeldSpec)) fnCountHeldUptoCard

/-- THE SECOND FORM's CARD OF 'laws.FnDeliverTwice'. -/
def fnDeliverTwiceUptoCard : Claim7 := { stood := { row := fnDeliverTwiceUptoRow, standIns := [], harness := (true, "4e9bfc1c59d4743a59a004322b2d177d8f36a039b88d5eab86d40090a46a2919"), looks := false }, kinds := [], alts := [], laidByText := true, laidKinds := [.data, .data, .pinned], laidTests := true, laidLooks := .later }
def FnDeliverTwiceUptoCardSaid : Prop := Claim7.holds Tryd.pinned (.plain (OpenSpec.upto fnDeliverTwiceSpec)) fnDeliverTwiceUptoCard

/-- THE SECOND FORM's CARD OF 'laws.FnNormalSplit'. -/
def fnNormalSplitUptoCard : Claim7 := { stood := { row := fnNormalSplitUptoRow, standIns := [], harness := (true, "4e9bfc1c59d4743a59a004322b2d177d8f36a039b88d5eab86d40090a46a2919"), looks := false }, kinds := [], alts := [], laidByText := true, laidKinds := [.data, .data, .pinned], laidTests := true, laidLooks := .later }
def FnNormalSplitUptoCardSaid : Prop := Claim7.holds Tryd.pinned (.plain (OpenSpec.upto fnNormalSplitSpec)) fnNormalSplitUptoCard
end Rows
end Go.Proofs.YtccendchnndaiaaDoor
