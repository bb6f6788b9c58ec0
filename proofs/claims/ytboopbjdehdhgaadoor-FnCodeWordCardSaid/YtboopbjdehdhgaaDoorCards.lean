/-
  DERIVED. GIVEN WITH THE SEED: THE CARDS: each row of YtboopbjdehdhgaaDoorRows.lean that lists a variable, with what it lists TIED to the program's text (the seventh form; the later family's looks); each row that meets fmt, with fmt's text TOLD by the authors' own Lean function (tested against real Go, not proved from fmt's source: count such statements apart). THE CARD IS WHAT COUNTS. Prove the row's statement (the work); the ties are given (YtboopbjdehdhgaaDoorTie.lean); close each card by the builder's one call (the guide's Derived/Test/ToyasCard.lean, 'card_holds'). Laid BY PROGRAM, IN A SANDBOX (cutbox-door.mjs). By AI agents, Wed Nov 11 2026. No macro, syntax, notation, axiom, sorry.
-/
import Derived.Test.YtboopbjdehdhgaaDoorRows
import GoSem.ClaimSeven
namespace Go.Proofs.YtboopbjdehdhgaaDoor
namespace Rows

/-- THE TIED CARD OF 'laws.FnCodeWord'. -/
def fnCodeWordCard : Claim7 := { stood := { row := fnCodeWordRow, standIns := [], harness := (true, "989d6f8778285cf8dd542ed914b69104525bdd7703d9c52ea81afda5f206036e"), looks := false }, kinds := [], alts := [], laidByText := true, laidKinds := [.data, .pinned], laidTests := true, laidLooks := .later }
def FnCodeWordCardSaid : Prop := Claim7.holds Tryd.pinned (.plain (OpenSpec.ofChange fnCodeWordSpec)) fnCodeWordCard

/-- THE TIED CARD OF 'laws.FnEncodeName'. -/
def fnEncodeNameCard : Claim7 := { stood := { row := fnEncodeNameRow, standIns := [], harness := (true, "989d6f8778285cf8dd542ed914b69104525bdd7703d9c52ea81afda5f206036e"), looks := false }, kinds := [], alts := [], laidByText := true, laidKinds := [.data, .pinned], laidTests := true, laidLooks := .later }
def FnEncodeNameCardSaid : Prop := Claim7.holds Tryd.pinned (.plain (OpenSpec.ofChange fnEncodeNameSpec)) fnEncodeNameCard

/-- THE TIED CARD OF 'laws.FnDecodeName'. -/
def fnDecodeNameCard : Claim7 := { stood := { row := fnDecodeNameRow, standIns := [], harness := (true, "989d6f8778285cf8dd542ed914b69104525bdd7703d9c52ea81afda5f206036e"), looks := false }, kinds := [], alts := [], laidByText := true, laidKinds := [.data, .pinned], laidTests := true, laidLooks := .later }
def FnDecodeNameCardSaid : Prop := Claim7.holds Tryd.pinned (.plain (OpenSpec.ofChange fnDecodeNameSpec)) fnDecodeNameCard

/-- THE SECOND FORM's CARD OF 'laws.FnCodeWord'. -/
def fnCodeWordUptoCard : Claim7 := { stood := { row := fnCodeWordUptoRow, standIns := [], harness := (true, "989d6f8778285cf8dd542ed914b69104525bdd7703d9c52ea81afda5f206036e"), looks := false }, kinds := [], alts := [], laidByText := true, laidKinds := [.data, .pinned], laidTests := true, laidLooks := .later }
def FnCodeWordUptoCardSaid : Prop := Claim7.holds Tryd.pinned (.plain (OpenSpec.upto fnCodeWordSpec)) fnCodeWordUptoCard

/-- THE SECOND FORM's CARD OF 'laws.FnEncodeName'. -/
def fnEncodeNameUptoCard : Claim7 := { stood := { row := fnEncodeNameUptoRow, standIns := [], harness := (true, "989d6f8778285cf8dd542ed914b69104525bdd7703d9c52ea81afda5f206036e"), looks := false }, kinds := [], alts := [], laidByText := true, laidKinds := [.data, .pinned], laidTests := true, laidLooks := .later }
def FnEncodeNameUptoCardSaid : Prop := Claim7.holds Tryd.pinned (.plain (OpenSpec.upto fnEncodeNameSpec)) fnEncodeNameUptoCard

/-- THE SECOND FORM's CARD OF 'laws.FnDecodeName'. -/
def fnDecodeNameUptoCard : Claim7 := { stood := { row := fnDecodeNameUptoRow, standIns := [], harness := (true, "989d6f8778285cf8dd542ed914b69104525bdd7703d9c52ea81afda5f206036e"), looks := false }, kinds := [], alts := [], laidByText := true, laidKinds := [.data, .pinned], laidTests := true, laidLooks := .later }
def FnDecodeNameUptoCardSaid : Prop := Claim7.holds Tryd.pinned (.plain (OpenSpec.upto fnDecodeNameSpec)) fnDecodeNameUptoCard
end Rows
end Go.Proofs.YtboopbjdehdhgaaDoor
