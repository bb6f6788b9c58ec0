/-
  DERIVED. GIVEN WITH THE SEED: THE CARDS: each row of YtjnpkmenlecdmaaDoorRows.lean that lists a variable, with what it lists TIED to the program's text (the seventh form; the later family's looks); each row that meets fmt, with fmt's text TOLD by the authors' own Lean function (tested against real Go, not proved from fmt's source: count such statements apart). THE CARD IS WHAT COUNTS. Prove the row's statement (the work); the ties are given (YtjnpkmenlecdmaaDoorTie.lean); close each card by the builder's one call (the guide's Derived/Test/ToyasCard.lean, 'card_holds'). Laid BY PROGRAM, IN A SANDBOX (cutbox-door.mjs). By AI agents, Wed Nov 11 2026. No macro, syntax, notation, axiom, sorry.
-/
import Derived.Test.YtjnpkmenlecdmaaDoorRows
import GoSem.ClaimSeven
namespace Go.Proofs.YtjnpkmenlecdmaaDoor
namespace Rows

/-- THE TIED CARD OF 'laws.FnQuoteWord'. -/
def fnQuoteWordCard : Claim7 := { stood := { row := fnQuoteWordRow, standIns := [], harness := (true, "64d8414820de2451d9eb4327e6421b5c66c00ac8ff6775b35681dc5dc61534e9"), looks := false }, kinds := [], alts := [], laidByText := true, laidKinds := [.data], laidTests := true, laidLooks := .later }
def FnQuoteWordCardSaid : Prop := Claim7.holds Tryd.pinned (.plain (OpenSpec.ofChange fnQuoteWordSpec)) fnQuoteWordCard

/-- THE TIED CARD OF 'laws.FnJoinWords'. -/
def fnJoinWordsCard : Claim7 := { stood := { row := fnJoinWordsRow, standIns := [], harness := (true, "64d8414820de2451d9eb4327e6421b5c66c00ac8ff6775b35681dc5dc61534e9"), looks := false }, kinds := [], alts := [], laidByText := true, laidKinds := [.data], laidTests := true, laidLooks := .later }
def FnJoinWordsCardSaid : Prop := Claim7.holds Tryd.pinned (.plain (OpenSpec.ofChange fnJoinWordsSpec)) fnJoinWordsCard

/-- THE TIED CARD OF 'laws.FnSplitWords'. -/
def fnSplitWordsCard : Claim7 := { stood := { row := fnSplitWordsRow, standIns := [], harness := (true, "64d8414820de2451d9eb4327e6421b5c66c00ac8ff6775b35681dc5dc61534e9"), looks := false }, kinds := [], alts := [], laidByText := true, laidKinds := [.data], laidTests := true, laidLooks := .later }
def FnSplitWordsCardSaid : Prop := Claim7.holds Tryd.pinned (.plain (OpenSpec.ofChange fnSplitWordsSpec)) fnSplitWordsCard

/-- THE TIED CARD OF 'laws.FnAtomValid'. -/
def fnAtomValidCard : Claim7 := { stood := { row := fnAtomValidRow, standIns := [], harness := (true, "64d8414820de2451d9eb4327e6421b5c66c00ac8ff6775b35681dc5dc61534e9"), looks := false }, kinds := [], alts := [], laidByText := true, laidKinds := [.data], laidTests := true, laidLooks := .later }
def FnAtomValidCardSaid : Prop := Claim7.holds Tryd.pinned (.plain (OpenSpec.ofChange fnAtomValidSpec)) fnAtomValidCard

/-- THE TIED CARD OF 'laws.FnQuoteAtom'. -/
def fnQuoteAtomCard : Claim7 := { stood := { row := fnQuoteAtomRow, standIns := [], harness := (true, "64d8414820de2451d9eb4327e6421b5c66c00ac8ff6775b35681dc5dc61534e9"), looks := false }, kinds := [], alts := [], laidByText := true, laidKinds := [.data], laidTests := true, laidLooks := .later }
def FnQuoteAtomCardSaid : Prop := Claim7.holds Tryd.pinned (.plain (OpenSpec.ofChange fnQuoteAtomSpec)) fnQuoteAtomCard

/-- THE TIED CARD OF 'laws.FnUnquote'. -/
def fnUnquoteCard : Claim7 := { stood := { row := fnUnquoteRow, standIns := [], harness := (true, "64d8414820de2451d9eb4327e6421b5c66c00ac8ff6775b35681dc5dc61534e9"), looks := false }, kinds := [], alts := [], laidByText := true, laidKinds := [.data], laidTests := true, laidLooks := .later }
def FnUnquoteCardSaid : Prop := Claim7.holds Tryd.pinned (.plain (OpenSpec.ofChange fnUnquoteSpec)) fnUnquoteCard

/-- THE TIED CARD OF 'laws.FnSplitOne'. -/
def fnSplitOneCard : Claim7 := { stood := { row := fnSplitOneRow, standIns := [], harness := (true, "64d8414820de2451d9eb4327e6421b5c66c00ac8ff6775b35681dc5dc61534e9"), looks := false }, kinds := [], alts := [], laidByText := true, laidKinds := [.data], laidTests := true, laidLooks := .later }
def FnSplitOneCardSaid : Prop := Claim7.holds Tryd.pinned (.plain (OpenSpec.ofChange fnSplitOneSpec)) fnSplitOneCard

/-- THE TIED CARD OF 'laws.FnAtomPart'. -/
def fnAtomPartCard : Claim7 := { stood := { row := fnAtomPartRow, standIns := [], harness := (true, "64d8414820de2451d9eb4327e6421b5c66c00ac8ff6775b35681dc5dc61534e9"), looks := false }, kinds := [], alts := [], laidByText := true, laidKinds := [.data], laidTests := true, laidLooks := .later }
def FnAtomPartCardSaid : Prop := Claim7.holds Tryd.pinned (.plain (OpenSpec.ofChange fnAtomPartSpec)) fnAtomPartCard

/-- THE TIED CARD OF 'laws.FnJoinSpaces'. -/
def fnJoinSpacesCard : Claim7 := { stood := { row := fnJoinSpacesRow, standIns := [], harness := (true, "64d8414820de2451d9eb4327e6421b5c66c00ac8ff6775b35681dc5dc61534e9"), looks := false }, kinds := [], alts := [], laidByText := true, laidKinds := [.data], laidTests := true, laidLooks := .later }
def FnJoinSpacesCardSaid : Prop := Claim7.holds Tryd.pinned (.plain (OpenSpec.ofChange fnJoinSpacesSpec)) fnJoinSpacesCard

/-- THE TIED CARD OF 'laws.FnExactAtomValid'. -/
def fnExactAtomValidCard : Claim7 := { stood := { row := fnExactAtomValidRow, standIns := [], harness := (true, "64d8414820de2451d9eb4327e6421b5c66c00ac8ff6775b35681dc5dc61534e9"), looks := false }, kinds := [], alts := [], laidByText := true, laidKinds := [.data], laidTests := true, laidLooks := .later }
def FnExactAtomValidCardSaid : Prop := Claim7.holds Tryd.pinned (.plain (OpenSpec.ofChange fnExactAtomValidSpec)) fnExactAtomValidCard

/-- THE TIED CARD OF 'laws.FnExactQuoteWord'. -/
def fnExactQuoteWordCard : Claim7 := { stood := { row := fnExactQuoteWordRow, standIns := [], harness := (true, "64d8414820de2451d9eb4327e6421b5c66c00ac8ff6775b35681dc5dc61534e9"), looks := false }, kinds := [], alts := [], laidByText := true, laidKinds := [.data], laidTests := true, laidLooks := .later }
def FnExactQuoteWordCardSaid : Prop := Claim7.holds Tryd.pinned (.plain (OpenSpec.ofChange fnExactQuoteWordSpec)) fnExactQuoteWordCard

/-- THE TIED CARD OF 'laws.FnExactUnquoteWord'. -/
def fnExactUnquoteWordCard : Claim7 := { stood := { row := fnExactUnquoteWordRow, standIns := [], harness := (true, "64d8414820de2451d9eb4327e6421b5c66c00ac8ff6775b35681dc5dc61534e9"), looks := false }, kinds := [], alts := [], laidByText := true, laidKinds := [.data], laidTests := true, laidLooks := .later }
def FnExactUnquoteWordCardSaid : Prop := Claim7.holds Tryd.pinned (.plain (OpenSpec.ofChange fnExactUnquoteWordSpec)) fnExactUnquoteWordCard

/-- THE SECOND FORM's CARD OF 'laws.FnQuoteWord'. -/
def fnQuoteWordUptoCard : Claim7 := { stood := { row := fnQuoteWordUptoRow, standIns := [], harness := (true, "64d8414820de2451d9eb4327e6421b5c66c00ac8ff6775b35681dc5dc61534e9"), looks := false }, kinds := [], alts := [], laidByText := true, laidKinds := [.data], laidTests := true, laidLooks := .later }
def FnQuoteWordUptoCardSaid : Prop := Claim7.holds Tryd.pinned (.plain (OpenSpec.upto fnQuoteWordSpec)) fnQuoteWordUptoCard

/-- THE SECOND FORM's CARD OF 'laws.FnJoinWords'. -/
def fnJoinWordsUptoCard : Claim7 := { stood := { row := fnJoinWordsUptoRow, standIns := [], harness := (true, "64d8414820de2451d9eb4327e6421b5c66c00ac8ff6775b35681dc5dc61534e9"), looks := false }, kinds := [], alts := [], laidByText := true, laidKinds := [.data], laidTests := true, laidLooks := .later }
def FnJoinWordsUptoCardSaid : Prop := Claim7.holds Tryd.pinned (.plain (OpenSpec.upto fnJoinWordsSpec)) fnJoinWordsUptoCard

/-- THE SECOND FORM's CARD OF 'laws.FnSplitWords'. -/
def fnSplitWordsUptoCard : Claim7 := { stood := { row := fnSplitWordsUptoRow, standIns := [], harness := (true, "64d8414820de2451d9eb4327e6421b5c66c00ac8ff6775b35681dc5dc61534e9"), looks := false }, kinds := [], alts := [], laidByText := true, laidKinds := [.data], laidTests := true, laidLooks := .later }
def FnSplitWordsUptoCardSaid : Prop := Claim7.holds Tryd.pinned (.plain (OpenSpec.upto fnSplitWordsSpec)) fnSplitWordsUptoCard

/-- THE SECOND FORM's CARD OF 'laws.FnAtomValid'. -/
def fnAtomValidUptoCard : Claim7 := { stood := { row := fnAtomValidUptoRow, standIns := [], harness := (true, "64d8414820de2451d9eb4327e6421b5c66c00ac8ff6775b35681dc5dc61534e9"), looks := false }, kinds := [], alts := [], laidByText := true, laidKinds := [.data], laidTests := true, laidLooks := .later }
def FnAtomValidUptoCardSaid : Prop := Claim7.holds Tryd.pinned (.plain (OpenSpec.upto fnAtomValidSpec)) fnAtomValidUptoCard

/-- THE SECOND FORM's CARD OF 'laws.FnQuoteAtom'. -/
def fnQuoteAtomUptoCard : Claim7 := { stood := { row := fnQuoteAtomUptoRow, standIns := [], harness := (true, "64d8414820de2451d9eb4327e6421b5c66c00ac8ff6775b35681dc5dc61534e9"), looks := false }, kinds := [], alts := [], laidByText := true, laidKinds := [.data], laidTests := true, laidLooks := .later }
def FnQuoteAtomUptoCardSaid : Prop := Claim7.holds Tryd.pinned (.plain (OpenSpec.upto fnQuoteAtomSpec)) fnQuoteAtomUptoCard

/-- THE SECOND FORM's CARD OF 'laws.FnUnquote'. -/
def fnUnquoteUptoCard : Claim7 := { stood := { row := fnUnquoteUptoRow, standIns := [], harness := (true, "64d8414820de2451d9eb4327e6421b5c66c00ac8ff6775b35681dc5dc61534e9"), looks := false }, kinds := [], alts := [], laidByText := true, laidKinds := [.data], laidTests := true, laidLooks := .later }
def FnUnquoteUptoCardSaid : Prop := Claim7.holds Tryd.pinned (.plain (OpenSpec.upto fnUnquoteSpec)) fnUnquoteUptoCard

/-- THE SECOND FORM's CARD OF 'laws.FnSplitOne'. -/
def fnSplitOneUptoCard : Claim7 := { stood := { row := fnSplitOneUptoRow, standIns := [], harness := (true, "64d8414820de2451d9eb4327e6421b5c66c00ac8ff6775b35681dc5dc61534e9"), looks := false }, kinds := [], alts := [], laidByText := true, laidKinds := [.data], laidTests := true, laidLooks := .later }
def FnSplitOneUptoCardSaid : Prop := Claim7.holds Tryd.pinned (.plain (OpenSpec.upto fnSplitOneSpec)) fnSplitOneUptoCard

/-- THE SECOND FORM's CARD OF 'laws.FnAtomPart'. -/
def fnAtomPartUptoCard : Claim7 := { stood := { row := fnAtomPartUptoRow, standIns := [], harness := (true, "64d8414820de2451d9eb4327e6421b5c66c00ac8ff6775b35681dc5dc61534e9"), looks := false }, kinds := [], alts := [], laidByText := true, laidKinds := [.data], laidTests := true, laidLooks := .later }
def FnAtomPartUptoCardSaid : Prop := Claim7.holds Tryd.pinned (.plain (OpenSpec.upto fnAtomPartSpec)) fnAtomPartUptoCard

/-- THE SECOND FORM's CARD OF 'laws.FnJoinSpaces'. -/
def fnJoinSpacesUptoCard : Claim7 := { stood := { row := fnJoinSpacesUptoRow, standIns := [], harness := (true, "64d8414820de2451d9eb4327e6421b5c66c00ac8ff6775b35681dc5dc61534e9"), looks := false }, kinds := [], alts := [], laidByText := true, laidKinds := [.data], laidTests := true, laidLooks := .later }
def FnJoinSpacesUptoCardSaid : Prop := Claim7.holds Tryd.pinned (.plain (OpenSpec.upto fnJoinSpacesSpec)) fnJoinSpacesUptoCard

/-- THE SECOND FORM's CARD OF 'laws.FnExactAtomValid'. -/
def fnExactAtomValidUptoCard : Claim7 := { stood := { row := fnExactAtomValidUptoRow, standIns := [], harness := (true, "64d8414820de2451d9eb4327e6421b5c66c00ac8ff6775b35681dc5dc61534e9"), looks := false }, kinds := [], alts := [], laidByText := true, laidKinds := [.data], laidTests := true, laidLooks := .later }
def FnExactAtomValidUptoCardSaid : Prop := Claim7.holds Tryd.pinned (.plain (OpenSpec.upto fnExactAtomValidSpec)) fnExactAtomValidUptoCard

/-- THE SECOND FORM's CARD OF 'laws.FnExactQuoteWord'. -/
def fnExactQuoteWordUptoCard : Claim7 := { stood := { row := fnExactQuoteWordUptoRow, standIns := [], harness := (true, "64d8414820de2451d9eb4327e6421b5c66c00ac8ff6775b35681dc5dc61534e9"), looks := false }, kinds := [], alts := [], laidByText := true, laidKinds := [.data], laidTests := true, laidLooks := .later }
def FnExactQuoteWordUptoCardSaid : Prop := Claim7.holds Tryd.pinned (.plain (OpenSpec.upto fnExactQuoteWordSpec)) fnExactQuoteWordUptoCard

/-- THE SECOND FORM's CARD OF 'laws.FnExactUnquoteWord'. -/
def fnExactUnquoteWordUptoCard : Claim7 := { stood := { row := fnExactUnquoteWordUptoRow, standIns := [], harness := (true, "64d8414820de2451d9eb4327e6421b5c66c00ac8ff6775b35681dc5dc61534e9"), looks := false }, kinds := [], alts := [], laidByText := true, laidKinds := [.data], laidTests := true, laidLooks := .later }
def FnExactUnquoteWordUptoCardSaid : Prop := Claim7.holds Tryd.pinned (.plain (OpenSpec.upto fnExactUnquoteWordSpec)) fnExactUnquoteWordUptoCard
end Rows
end Go.Proofs.YtjnpkmenlecdmaaDoor
