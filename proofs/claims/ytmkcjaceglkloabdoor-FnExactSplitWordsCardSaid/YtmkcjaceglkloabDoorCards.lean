/-
  DERIVED. GIVEN WITH THE SEED: THE CARDS: each row of YtmkcjaceglkloabDoorRows.lean that lists a variable, with what it lists TIED to the program's text (the seventh form; the later family's looks); each row that meets fmt, with fmt's text TOLD by the authors' own Lean function (tested against real Go, not proved from fmt's source: count such statements apart). THE CARD IS WHAT COUNTS. Prove the row's statement (the work); the ties are given (YtmkcjaceglkloabDoorTie.lean); close each card by the builder's one call (the guide's Derived/Test/ToyasCard.lean, 'card_holds'). Laid BY PROGRAM, IN A SANDBOX (cutbox-door.mjs). By AI agents, Wed Nov 11 2026. No macro, syntax, notation, axiom, sorry.
-/
import Derived.Test.YtmkcjaceglkloabDoorRows
import GoSem.ClaimSeven
namespace Go.Proofs.YtmkcjaceglkloabDoor
namespace Rows

/-- THE TIED CARD OF 'laws.FnJoinSpaces'. -/
def fnJoinSpacesCard : Claim7 := { stood := { row := fnJoinSpacesRow, standIns := [], harness := (true, "17fec1a4b11a574d0e25a8c5cd834012337449fd96136591d19d3842d10e0171"), looks := false }, kinds := [], alts := [], laidByText := true, laidKinds := [.data], laidTests := true, laidLooks := .later }
def FnJoinSpacesCardSaid : Prop := Claim7.holds Tryd.pinned (.plain (OpenSpec.ofChange fnJoinSpacesSpec)) fnJoinSpacesCard

/-- THE TIED CARD OF 'laws.FnExactAtomValid'. -/
def fnExactAtomValidCard : Claim7 := { stood := { row := fnExactAtomValidRow, standIns := [], harness := (true, "17fec1a4b11a574d0e25a8c5cd834012337449fd96136591d19d3842d10e0171"), looks := false }, kinds := [], alts := [], laidByText := true, laidKinds := [.data], laidTests := true, laidLooks := .later }
def FnExactAtomValidCardSaid : Prop := Claim7.holds Tryd.pinned (.plain (OpenSpec.ofChange fnExactAtomValidSpec)) fnExactAtomValidCard

/-- THE TIED CARD OF 'laws.FnExactQuoteWord'. -/
def fnExactQuoteWordCard : Claim7 := { stood := { row := fnExactQuoteWordRow, standIns := [], harness := (true, "17fec1a4b11a574d0e25a8c5cd834012337449fd96136591d19d3842d10e0171"), looks := false }, kinds := [], alts := [], laidByText := true, laidKinds := [.data], laidTests := true, laidLooks := .later }
def FnExactQuoteWordCardSaid : Prop := Claim7.holds Tryd.pinned (.plain (OpenSpec.ofChange fnExactQuoteWordSpec)) fnExactQuoteWordCard

/-- THE TIED CARD OF 'laws.FnExactUnquoteWord'. -/
def fnExactUnquoteWordCard : Claim7 := { stood := { row := fnExactUnquoteWordRow, standIns := [], harness := (true, "17fec1a4b11a574d0e25a8c5cd834012337449fd96136591d19d3842d10e0171"), looks := false }, kinds := [], alts := [], laidByText := true, laidKinds := [.data], laidTests := true, laidLooks := .later }
def FnExactUnquoteWordCardSaid : Prop := Claim7.holds Tryd.pinned (.plain (OpenSpec.ofChange fnExactUnquoteWordSpec)) fnExactUnquoteWordCard

/-- THE TIED CARD OF 'laws.FnExactSplitWords'. -/
def fnExactSplitWordsCard : Claim7 := { stood := { row := fnExactSplitWordsRow, standIns := [], harness := (true, "17fec1a4b11a574d0e25a8c5cd834012337449fd96136591d19d3842d10e0171"), looks := false }, kinds := [], alts := [], laidByText := true, laidKinds := [.data], laidTests := true, laidLooks := .later }
def FnExactSplitWordsCardSaid : Prop := Claim7.holds Tryd.pinned (.plain (OpenSpec.ofChange fnExactSplitWordsSpec)) fnExactSplitWordsCard

/-- THE TIED CARD OF 'laws.FnExactJoinWords'. -/
def fnExactJoinWordsCard : Claim7 := { stood := { row := fnExactJoinWordsRow, standIns := [], harness := (true, "17fec1a4b11a574d0e25a8c5cd834012337449fd96136591d19d3842d10e0171"), looks := false }, kinds := [], alts := [], laidByText := true, laidKinds := [.data], laidTests := true, laidLooks := .later }
def FnExactJoinWordsCardSaid : Prop := Claim7.holds Tryd.pinned (.plain (OpenSpec.ofChange fnExactJoinWordsSpec)) fnExactJoinWordsCard

/-- THE SECOND FORM's CARD OF 'laws.FnJoinSpaces'. -/
def fnJoinSpacesUptoCard : Claim7 := { stood := { row := fnJoinSpacesUptoRow, standIns := [], harness := (true, "17fec1a4b11a574d0e25a8c5cd834012337449fd96136591d19d3842d10e0171"), looks := false }, kinds := [], alts := [], laidByText := true, laidKinds := [.data], laidTests := true, laidLooks := .later }
def FnJoinSpacesUptoCardSaid : Prop := Claim7.holds Tryd.pinned (.plain (OpenSpec.upto fnJoinSpacesSpec)) fnJoinSpacesUptoCard

/-- THE SECOND FORM's CARD OF 'laws.FnExactAtomValid'. -/
def fnExactAtomValidUptoCard : Claim7 := { stood := { row := fnExactAtomValidUptoRow, standIns := [], harness := (true, "17fec1a4b11a574d0e25a8c5cd834012337449fd96136591d19d3842d10e0171"), looks := false }, kinds := [], alts := [], laidByText := true, laidKinds := [.data], laidTests := true, laidLooks := .later }
def FnExactAtomValidUptoCardSaid : Prop := Claim7.holds Tryd.pinned (.plain (OpenSpec.upto fnExactAtomValidSpec)) fnExactAtomValidUptoCard

/-- THE SECOND FORM's CARD OF 'laws.FnExactQuoteWord'. -/
def fnExactQuoteWordUptoCard : Claim7 := { stood := { row := fnExactQuoteWordUptoRow, standIns := [], harness := (true, "17fec1a4b11a574d0e25a8c5cd834012337449fd96136591d19d3842d10e0171"), looks := false }, kinds := [], alts := [], laidByText := true, laidKinds := [.data], laidTests := true, laidLooks := .later }
def FnExactQuoteWordUptoCardSaid : Prop := Claim7.holds Tryd.pinned (.plain (OpenSpec.upto fnExactQuoteWordSpec)) fnExactQuoteWordUptoCard

/-- THE SECOND FORM's CARD OF 'laws.FnExactUnquoteWord'. -/
def fnExactUnquoteWordUptoCard : Claim7 := { stood := { row := fnExactUnquoteWordUptoRow, standIns := [], harness := (true, "17fec1a4b11a574d0e25a8c5cd834012337449fd96136591d19d3842d10e0171"), looks := false }, kinds := [], alts := [], laidByText := true, laidKinds := [.data], laidTests := true, laidLooks := .later }
def FnExactUnquoteWordUptoCardSaid : Prop := Claim7.holds Tryd.pinned (.plain (OpenSpec.upto fnExactUnquoteWordSpec)) fnExactUnquoteWordUptoCard

/-- THE SECOND FORM's CARD OF 'laws.FnExactSplitWords'. -/
def fnExactSplitWordsUptoCard : Claim7 := { stood := { row := fnExactSplitWordsUptoRow, standIns := [], harness := (true, "17fec1a4b11a574d0e25a8c5cd834012337449fd96136591d19d3842d10e0171"), looks := false }, kinds := [], alts := [], laidByText := true, laidKinds := [.data], laidTests := true, laidLooks := .later }
def FnExactSplitWordsUptoCardSaid : Prop := Claim7.holds Tryd.pinned (.plain (OpenSpec.upto fnExactSplitWordsSpec)) fnExactSplitWordsUptoCard

/-- THE SECOND FORM's CARD OF 'laws.FnExactJoinWords'. -/
def fnExactJoinWordsUptoCard : Claim7 := { stood := { row := fnExactJoinWordsUptoRow, standIns := [], harness := (true, "17fec1a4b11a574d0e25a8c5cd834012337449fd96136591d19d3842d10e0171"), looks := false }, kinds := [], alts := [], laidByText := true, laidKinds := [.data], laidTests := true, laidLooks := .later }
def FnExactJoinWordsUptoCardSaid : Prop := Claim7.holds Tryd.pinned (.plain (OpenSpec.upto fnExactJoinWordsSpec)) fnExactJoinWordsUptoCard
end Rows
end Go.Proofs.YtmkcjaceglkloabDoor
