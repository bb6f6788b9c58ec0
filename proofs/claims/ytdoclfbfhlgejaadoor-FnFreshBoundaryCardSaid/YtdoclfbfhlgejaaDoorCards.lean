/-
  DERIVED. GIVEN WITH THE SEED: THE CARDS: each row of YtdoclfbfhlgejaaDoorRows.lean that lists a variable, with what it lists TIED to the program's text (the seventh form; the later family's looks); each row that meets fmt, with fmt's text TOLD by the authors' own Lean function (tested against real Go, not proved from fmt's source: count such statements apart). THE CARD IS WHAT COUNTS. Prove the row's statement (the work); the ties are given (YtdoclfbfhlgejaaDoorTie.lean); close each card by the builder's one call (the guide's Derived/Test/ToyasCard.lean, 'card_holds'). Laid BY PROGRAM, IN A SANDBOX (cutbox-door.mjs). By AI agents, Wed Nov 11 2026. No macro, syntax, notation, axiom, sorry.
-/
import Derived.Test.YtdoclfbfhlgejaaDoorRows
import GoSem.ClaimSeven
namespace Go.Proofs.YtdoclfbfhlgejaaDoor
namespace Rows

/-- THE TIED CARD OF 'laws.FnKindText'. -/
def fnKindTextCard : Claim7 := { stood := { row := fnKindTextRow, standIns := [], harness := (true, "de6f96957bf516e629aa74b5a32e6fd46f0cad862ae09c7fd2d0c24749d3bfdc"), looks := false }, kinds := [], alts := [], laidByText := true, laidKinds := [.data, .data, .pinned], laidTests := true, laidLooks := .later }
def FnKindTextCardSaid : Prop := Claim7.holds Tryd.pinned (.plain (OpenSpec.ofChange fnKindTextSpec)) fnKindTextCard

/-- THE TIED CARD OF 'laws.FnFreshBoundary'. -/
def fnFreshBoundaryCard : Claim7 := { stood := { row := fnFreshBoundaryRow, standIns := [], harness := (true, "de6f96957bf516e629aa74b5a32e6fd46f0cad862ae09c7fd2d0c24749d3bfdc"), looks := false }, kinds := [], alts := [], laidByText := true, laidKinds := [.data, .data, .data], laidTests := true, laidLooks := .later }
def FnFreshBoundaryCardSaid : Prop := Claim7.holds Tryd.pinned (.plain (OpenSpec.ofChange fnFreshBoundarySpec)) fnFreshBoundaryCard

/-- THE TIED CARD OF 'laws.FnBoundaryOf'. -/
def fnBoundaryOfCard : Claim7 := { stood := { row := fnBoundaryOfRow, standIns := [], harness := (true, "de6f96957bf516e629aa74b5a32e6fd46f0cad862ae09c7fd2d0c24749d3bfdc"), looks := false }, kinds := [], alts := [], laidByText := true, laidKinds := [.data], laidTests := true, laidLooks := .later }
def FnBoundaryOfCardSaid : Prop := Claim7.holds Tryd.pinned (.plain (OpenSpec.ofChange fnBoundaryOfSpec)) fnBoundaryOfCard

/-- THE TIED CARD OF 'laws.FnKindSame'. -/
def fnKindSameCard : Claim7 := { stood := { row := fnKindSameRow, standIns := [], harness := (true, "de6f96957bf516e629aa74b5a32e6fd46f0cad862ae09c7fd2d0c24749d3bfdc"), looks := false }, kinds := [], alts := [], laidByText := true, laidKinds := [.data], laidTests := true, laidLooks := .later }
def FnKindSameCardSaid : Prop := Claim7.holds Tryd.pinned (.plain (OpenSpec.ofChange fnKindSameSpec)) fnKindSameCard

/-- THE SECOND FORM's CARD OF 'laws.FnKindText'. -/
def fnKindTextUptoCard : Claim7 := { stood := { row := fnKindTextUptoRow, standIns := [], harness := (true, "de6f96957bf516e629aa74b5a32e6fd46f0cad862ae09c7fd2d0c24749d3bfdc"), looks := false }, kinds := [], alts := [], laidByText := true, laidKinds := [.data, .data, .pinned], laidTests := true, laidLooks := .later }
def FnKindTextUptoCardSaid : Prop := Claim7.holds Tryd.pinned (.plain (OpenSpec.upto fnKindTextSpec)) fnKindTextUptoCard

/-- THE SECOND FORM's CARD OF 'laws.FnFreshBoundary'. -/
def fnFreshBoundaryUptoCard : Claim7 := { stood := { row := fnFreshBoundaryUptoRow, standIns := [], harness := (true, "de6f96957bf516e629aa74b5a32e6fd46f0cad862ae09c7fd2d0c24749d3bfdc"), looks := false }, kinds := [], alts := [], laidByText := true, laidKinds := [.data, .data, .data], laidTests := true, laidLooks := .later }
def FnFreshBoundaryUptoCardSaid : Prop := Claim7.holds Tryd.pinned (.plain (OpenSpec.upto fnFreshBoundarySpec)) fnFreshBoundaryUptoCard

/-- THE SECOND FORM's CARD OF 'laws.FnBoundaryOf'. -/
def fnBoundaryOfUptoCard : Claim7 := { stood := { row := fnBoundaryOfUptoRow, standIns := [], harness := (true, "de6f96957bf516e629aa74b5a32e6fd46f0cad862ae09c7fd2d0c24749d3bfdc"), looks := false }, kinds := [], alts := [], laidByText := true, laidKinds := [.data], laidTests := true, laidLooks := .later }
def FnBoundaryOfUptoCardSaid : Prop := Claim7.holds Tryd.pinned (.plain (OpenSpec.upto fnBoundaryOfSpec)) fnBoundaryOfUptoCard

/-- THE SECOND FORM's CARD OF 'laws.FnKindSame'. -/
def fnKindSameUptoCard : Claim7 := { stood := { row := fnKindSameUptoRow, standIns := [], harness := (true, "de6f96957bf516e629aa74b5a32e6fd46f0cad862ae09c7fd2d0c24749d3bfdc"), looks := false }, kinds := [], alts := [], laidByText := true, laidKinds := [.data], laidTests := true, laidLooks := .later }
def FnKindSameUptoCardSaid : Prop := Claim7.holds Tryd.pinned (.plain (OpenSpec.upto fnKindSameSpec)) fnKindSameUptoCard
end Rows
end Go.Proofs.YtdoclfbfhlgejaaDoor
