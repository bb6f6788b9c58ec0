/-
  DERIVED. GIVEN WITH THE SEED: THE CARDS: each row of YtdoclfbfhlgejabDoorRows.lean that lists a variable, with what it lists TIED to the program's text (the seventh form; the later family's looks); each row that meets fmt, with fmt's text TOLD by the authors' own Lean function (tested against real Go, not proved from fmt's source: count such statements apart). THE CARD IS WHAT COUNTS. Prove the row's statement (the work); the ties are given (YtdoclfbfhlgejabDoorTie.lean); close each card by the builder's one call (the guide's Derived/Test/ToyasCard.lean, 'card_holds'). Laid BY PROGRAM, IN A SANDBOX (cutbox-door.mjs). By AI agents, Wed Nov 11 2026. No macro, syntax, notation, axiom, sorry.
-/
import Derived.Test.YtdoclfbfhlgejabDoorRows
import GoSem.ClaimSeven
namespace Go.Proofs.YtdoclfbfhlgejabDoor
namespace Rows

/-- THE TIED CARD OF 'laws.FnKindCapital'. -/
def fnKindCapitalCard : Claim7 := { stood := { row := fnKindCapitalRow, standIns := [], harness := (true, "fb531e9d954e12a3a2ac114db6c804b1675eab187b65ec659ce1dc15f62f031c"), looks := false }, kinds := [], alts := [], laidByText := true, laidKinds := [.data, .data, .pinned], laidTests := true, laidLooks := .later }
def FnKindCapitalCardSaid : Prop := Claim7.holds Tryd.pinned (.plain (OpenSpec.ofChange fnKindCapitalSpec)) fnKindCapitalCard

/-- THE TIED CARD OF 'laws.FnKindParam'. -/
def fnKindParamCard : Claim7 := { stood := { row := fnKindParamRow, standIns := [], harness := (true, "fb531e9d954e12a3a2ac114db6c804b1675eab187b65ec659ce1dc15f62f031c"), looks := false }, kinds := [], alts := [], laidByText := true, laidKinds := [.data, .data, .pinned], laidTests := true, laidLooks := .later }
def FnKindParamCardSaid : Prop := Claim7.holds Tryd.pinned (.plain (OpenSpec.ofChange fnKindParamSpec)) fnKindParamCard

/-- THE TIED CARD OF 'laws.FnFreshFirst'. -/
def fnFreshFirstCard : Claim7 := { stood := { row := fnFreshFirstRow, standIns := [], harness := (true, "fb531e9d954e12a3a2ac114db6c804b1675eab187b65ec659ce1dc15f62f031c"), looks := false }, kinds := [], alts := [], laidByText := true, laidKinds := [.data, .data, .data], laidTests := true, laidLooks := .later }
def FnFreshFirstCardSaid : Prop := Claim7.holds Tryd.pinned (.plain (OpenSpec.ofChange fnFreshFirstSpec)) fnFreshFirstCard

/-- THE SECOND FORM's CARD OF 'laws.FnKindCapital'. -/
def fnKindCapitalUptoCard : Claim7 := { stood := { row := fnKindCapitalUptoRow, standIns := [], harness := (true, "fb531e9d954e12a3a2ac114db6c804b1675eab187b65ec659ce1dc15f62f031c"), looks := false }, kinds := [], alts := [], laidByText := true, laidKinds := [.data, .data, .pinned], laidTests := true, laidLooks := .later }
def FnKindCapitalUptoCardSaid : Prop := Claim7.holds Tryd.pinned (.plain (OpenSpec.upto fnKindCapitalSpec)) fnKindCapitalUptoCard

/-- THE SECOND FORM's CARD OF 'laws.FnKindParam'. -/
def fnKindParamUptoCard : Claim7 := { stood := { row := fnKindParamUptoRow, standIns := [], harness := (true, "fb531e9d954e12a3a2ac114db6c804b1675eab187b65ec659ce1dc15f62f031c"), looks := false }, kinds := [], alts := [], laidByText := true, laidKinds := [.data, .data, .pinned], laidTests := true, laidLooks := .later }
def FnKindParamUptoCardSaid : Prop := Claim7.holds Tryd.pinned (.plain (OpenSpec.upto fnKindParamSpec)) fnKindParamUptoCard

/-- THE SECOND FORM's CARD OF 'laws.FnFreshFirst'. -/
def fnFreshFirstUptoCard : Claim7 := { stood := { row := fnFreshFirstUptoRow, standIns := [], harness := (true, "fb531e9d954e12a3a2ac114db6c804b1675eab187b65ec659ce1dc15f62f031c"), looks := false }, kinds := [], alts := [], laidByText := true, laidKinds := [.data, .data, .data], laidTests := true, laidLooks := .later }
def FnFreshFirstUptoCardSaid : Prop := Claim7.holds Tryd.pinned (.plain (OpenSpec.upto fnFreshFirstSpec)) fnFreshFirstUptoCard
end Rows
end Go.Proofs.YtdoclfbfhlgejabDoor
