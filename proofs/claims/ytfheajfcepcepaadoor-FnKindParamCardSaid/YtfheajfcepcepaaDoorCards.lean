/-
  DERIVED. GIVEN WITH THE SEED: THE CARDS: each row of YtfheajfcepcepaaDoorRows.lean that lists a variable, with what it lists TIED to the program's text (the seventh form; the later family's looks); each row that meets fmt, with fmt's text TOLD by the authors' own Lean function (tested against real Go, not proved from fmt's source: count such statements apart). THE CARD IS WHAT COUNTS. Prove the row's statement (the work); the ties are given (YtfheajfcepcepaaDoorTie.lean); close each card by the builder's one call (the guide's Derived/Test/ToyasCard.lean, 'card_holds'). Laid BY PROGRAM, IN A SANDBOX (cutbox-door.mjs). By AI agents, Wed Nov 11 2026. No macro, syntax, notation, axiom, sorry.
-/
import Derived.Test.YtfheajfcepcepaaDoorRows
import GoSem.ClaimSeven
namespace Go.Proofs.YtfheajfcepcepaaDoor
namespace Rows

/-- THE TIED CARD OF 'laws.FnKindText'. -/
def fnKindTextCard : Claim7 := { stood := { row := fnKindTextRow, standIns := [], harness := (true, "25bed40eccb5b81017ad91868ed4d4c2297ff9c35e605e13d67b615fa3b92506"), looks := false }, kinds := [], alts := [], laidByText := true, laidKinds := [.data, .data, .pinned], laidTests := true, laidLooks := .later }
def FnKindTextCardSaid : Prop := Claim7.holds Tryd.pinned (.plain (OpenSpec.ofChange fnKindTextSpec)) fnKindTextCard

/-- THE TIED CARD OF 'laws.FnBoundaryOf'. -/
def fnBoundaryOfCard : Claim7 := { stood := { row := fnBoundaryOfRow, standIns := [], harness := (true, "25bed40eccb5b81017ad91868ed4d4c2297ff9c35e605e13d67b615fa3b92506"), looks := false }, kinds := [], alts := [], laidByText := true, laidKinds := [.data], laidTests := true, laidLooks := .later }
def FnBoundaryOfCardSaid : Prop := Claim7.holds Tryd.pinned (.plain (OpenSpec.ofChange fnBoundaryOfSpec)) fnBoundaryOfCard

/-- THE TIED CARD OF 'laws.FnKindSame'. -/
def fnKindSameCard : Claim7 := { stood := { row := fnKindSameRow, standIns := [], harness := (true, "25bed40eccb5b81017ad91868ed4d4c2297ff9c35e605e13d67b615fa3b92506"), looks := false }, kinds := [], alts := [], laidByText := true, laidKinds := [.data], laidTests := true, laidLooks := .later }
def FnKindSameCardSaid : Prop := Claim7.holds Tryd.pinned (.plain (OpenSpec.ofChange fnKindSameSpec)) fnKindSameCard

/-- THE TIED CARD OF 'laws.FnKindCapital'. -/
def fnKindCapitalCard : Claim7 := { stood := { row := fnKindCapitalRow, standIns := [], harness := (true, "25bed40eccb5b81017ad91868ed4d4c2297ff9c35e605e13d67b615fa3b92506"), looks := false }, kinds := [], alts := [], laidByText := true, laidKinds := [.data, .data, .pinned], laidTests := true, laidLooks := .later }
def FnKindCapitalCardSaid : Prop := Claim7.holds Tryd.pinned (.plain (OpenSpec.ofChange fnKindCapitalSpec)) fnKindCapitalCard

/-- THE TIED CARD OF 'laws.FnKindParam'. -/
def fnKindParamCard : Claim7 := { stood := { row := fnKindParamRow, standIns := [], harness := (true, "25bed40eccb5b81017ad91868ed4d4c2297ff9c35e605e13d67b615fa3b92506"), looks := false }, kinds := [], alts := [], laidByText := true, laidKinds := [.data, .data, .pinned], laidTests := true, laidLooks := .later }
def FnKindParamCardSaid : Prop := Claim7.holds Tryd.pinned (.plain (OpenSpec.ofChange fnKindParamSpec)) fnKindParamCard

/-- THE TIED CARD OF 'laws.FnBoundaryKind'. -/
def fnBoundaryKindCard : Claim7 := { stood := { row := fnBoundaryKindRow, standIns := [], harness := (true, "25bed40eccb5b81017ad91868ed4d4c2297ff9c35e605e13d67b615fa3b92506"), looks := false }, kinds := [], alts := [], laidByText := true, laidKinds := [.data, .data, .pinned], laidTests := true, laidLooks := .later }
def FnBoundaryKindCardSaid : Prop := Claim7.holds Tryd.pinned (.plain (OpenSpec.ofChange fnBoundaryKindSpec)) fnBoundaryKindCard

/-- THE SECOND FORM's CARD OF 'laws.FnKindText'. -/
def fnKindTextUptoCard : Claim7 := { stood := { row := fnKindTextUptoRow, standIns := [], harness := (true, "25bed40eccb5b81017ad91868ed4d4c2297ff9c35e605e13d67b615fa3b92506"), looks := false }, kinds := [], alts := [], laidByText := true, laidKinds := [.data, .data, .pinned], laidTests := true, laidLooks := .later }
def FnKindTextUptoCardSaid : Prop := Claim7.holds Tryd.pinned (.plain (OpenSpec.upto fnKindTextSpec)) fnKindTextUptoCard

/-- THE SECOND FORM's CARD OF 'laws.FnBoundaryOf'. -/
def fnBoundaryOfUptoCard : Claim7 := { stood := { row := fnBoundaryOfUptoRow, standIns := [], harness := (true, "25bed40eccb5b81017ad91868ed4d4c2297ff9c35e605e13d67b615fa3b92506"), looks := false }, kinds := [], alts := [], laidByText := true, laidKinds := [.data], laidTests := true, laidLooks := .later }
def FnBoundaryOfUptoCardSaid : Prop := Claim7.holds Tryd.pinned (.plain (OpenSpec.upto fnBoundaryOfSpec)) fnBoundaryOfUptoCard

/-- THE SECOND FORM's CARD OF 'laws.FnKindSame'. -/
def fnKindSameUptoCard : Claim7 := { stood := { row := fnKindSameUptoRow, standIns := [], harness := (true, "25bed40eccb5b81017ad91868ed4d4c2297ff9c35e605e13d67b615fa3b92506"), looks := false }, kinds := [], alts := [], laidByText := true, laidKinds := [.data], laidTests := true, laidLooks := .later }
def FnKindSameUptoCardSaid : Prop := Claim7.holds Tryd.pinned (.plain (OpenSpec.upto fnKindSameSpec)) fnKindSameUptoCard

/-- THE SECOND FORM's CARD OF 'laws.FnKindCapital'. -/
def fnKindCapitalUptoCard : Claim7 := { stood := { row := fnKindCapitalUptoRow, standIns := [], harness := (true, "25bed40eccb5b81017ad91868ed4d4c2297ff9c35e605e13d67b615fa3b92506"), looks := false }, kinds := [], alts := [], laidByText := true, laidKinds := [.data, .data, .pinned], laidTests := true, laidLooks := .later }
def FnKindCapitalUptoCardSaid : Prop := Claim7.holds Tryd.pinned (.plain (OpenSpec.upto fnKindCapitalSpec)) fnKindCapitalUptoCard

/-- THE SECOND FORM's CARD OF 'laws.FnKindParam'. -/
def fnKindParamUptoCard : Claim7 := { stood := { row := fnKindParamUptoRow, standIns := [], harness := (true, "25bed40eccb5b81017ad91868ed4d4c2297ff9c35e605e13d67b615fa3b92506"), looks := false }, kinds := [], alts := [], laidByText := true, laidKinds := [.data, .data, .pinned], laidTests := true, laidLooks := .later }
def FnKindParamUptoCardSaid : Prop := Claim7.holds Tryd.pinned (.plain (OpenSpec.upto fnKindParamSpec)) fnKindParamUptoCard

/-- THE SECOND FORM's CARD OF 'laws.FnBoundaryKind'. -/
def fnBoundaryKindUptoCard : Claim7 := { stood := { row := fnBoundaryKindUptoRow, standIns := [], harness := (true, "25bed40eccb5b81017ad91868ed4d4c2297ff9c35e605e13d67b615fa3b92506"), looks := false }, kinds := [], alts := [], laidByText := true, laidKinds := [.data, .data, .pinned], laidTests := true, laidLooks := .later }
def FnBoundaryKindUptoCardSaid : Prop := Claim7.holds Tryd.pinned (.plain (OpenSpec.upto fnBoundaryKindSpec)) fnBoundaryKindUptoCard
end Rows
end Go.Proofs.YtfheajfcepcepaaDoor
