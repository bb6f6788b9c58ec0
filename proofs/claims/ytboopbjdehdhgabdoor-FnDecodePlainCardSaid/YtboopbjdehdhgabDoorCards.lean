/-
  DERIVED. GIVEN WITH THE SEED: THE CARDS: each row of YtboopbjdehdhgabDoorRows.lean that lists a variable, with what it lists TIED to the program's text (the seventh form; the later family's looks); each row that meets fmt, with fmt's text TOLD by the authors' own Lean function (tested against real Go, not proved from fmt's source: count such statements apart). THE CARD IS WHAT COUNTS. Prove the row's statement (the work); the ties are given (YtboopbjdehdhgabDoorTie.lean); close each card by the builder's one call (the guide's Derived/Test/ToyasCard.lean, 'card_holds'). Laid BY PROGRAM, IN A SANDBOX (cutbox-door.mjs). By AI agents, Wed Nov 11 2026. No macro, syntax, notation, axiom, sorry.
-/
import Derived.Test.YtboopbjdehdhgabDoorRows
import GoSem.ClaimSeven
namespace Go.Proofs.YtboopbjdehdhgabDoor
namespace Rows

/-- THE TIED CARD OF 'laws.FnNameWords'. -/
def fnNameWordsCard : Claim7 := { stood := { row := fnNameWordsRow, standIns := [], harness := (true, "db7e44d15dd31a8051d4eaf05ca073a66ef76ca6442bddb52a6d9e7bb66c55f9"), looks := false }, kinds := [], alts := [], laidByText := true, laidKinds := [.data, .pinned], laidTests := true, laidLooks := .later }
def FnNameWordsCardSaid : Prop := Claim7.holds Tryd.pinned (.plain (OpenSpec.ofChange fnNameWordsSpec)) fnNameWordsCard

/-- THE TIED CARD OF 'laws.FnDecodePlain'. -/
def fnDecodePlainCard : Claim7 := { stood := { row := fnDecodePlainRow, standIns := [], harness := (true, "db7e44d15dd31a8051d4eaf05ca073a66ef76ca6442bddb52a6d9e7bb66c55f9"), looks := false }, kinds := [], alts := [], laidByText := true, laidKinds := [.data, .pinned], laidTests := true, laidLooks := .later }
def FnDecodePlainCardSaid : Prop := Claim7.holds Tryd.pinned (.plain (OpenSpec.ofChange fnDecodePlainSpec)) fnDecodePlainCard

/-- THE TIED CARD OF 'laws.FnReadWord'. -/
def fnReadWordCard : Claim7 := { stood := { row := fnReadWordRow, standIns := [], harness := (true, "db7e44d15dd31a8051d4eaf05ca073a66ef76ca6442bddb52a6d9e7bb66c55f9"), looks := false }, kinds := [], alts := [], laidByText := true, laidKinds := [.data, .pinned], laidTests := true, laidLooks := .later }
def FnReadWordCardSaid : Prop := Claim7.holds Tryd.pinned (.plain (OpenSpec.ofChange fnReadWordSpec)) fnReadWordCard

/-- THE SECOND FORM's CARD OF 'laws.FnNameWords'. -/
def fnNameWordsUptoCard : Claim7 := { stood := { row := fnNameWordsUptoRow, standIns := [], harness := (true, "db7e44d15dd31a8051d4eaf05ca073a66ef76ca6442bddb52a6d9e7bb66c55f9"), looks := false }, kinds := [], alts := [], laidByText := true, laidKinds := [.data, .pinned], laidTests := true, laidLooks := .later }
def FnNameWordsUptoCardSaid : Prop := Claim7.holds Tryd.pinned (.plain (OpenSpec.upto fnNameWordsSpec)) fnNameWordsUptoCard

/-- THE SECOND FORM's CARD OF 'laws.FnDecodePlain'. -/
def fnDecodePlainUptoCard : Claim7 := { stood := { row := fnDecodePlainUptoRow, standIns := [], harness := (true, "db7e44d15dd31a8051d4eaf05ca073a66ef76ca6442bddb52a6d9e7bb66c55f9"), looks := false }, kinds := [], alts := [], laidByText := true, laidKinds := [.data, .pinned], laidTests := true, laidLooks := .later }
def FnDecodePlainUptoCardSaid : Prop := Claim7.holds Tryd.pinned (.plain (OpenSpec.upto fnDecodePlainSpec)) fnDecodePlainUptoCard

/-- THE SECOND FORM's CARD OF 'laws.FnReadWord'. -/
def fnReadWordUptoCard : Claim7 := { stood := { row := fnReadWordUptoRow, standIns := [], harness := (true, "db7e44d15dd31a8051d4eaf05ca073a66ef76ca6442bddb52a6d9e7bb66c55f9"), looks := false }, kinds := [], alts := [], laidByText := true, laidKinds := [.data, .pinned], laidTests := true, laidLooks := .later }
def FnReadWordUptoCardSaid : Prop := Claim7.holds Tryd.pinned (.plain (OpenSpec.upto fnReadWordSpec)) fnReadWordUptoCard
end Rows
end Go.Proofs.YtboopbjdehdhgabDoor
