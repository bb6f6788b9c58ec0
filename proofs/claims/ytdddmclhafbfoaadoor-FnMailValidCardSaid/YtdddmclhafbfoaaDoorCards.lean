/-
  DERIVED. GIVEN WITH THE SEED: THE CARDS: each row of YtdddmclhafbfoaaDoorRows.lean that lists a variable, with what it lists TIED to the program's text (the seventh form; the later family's looks); each row that meets fmt, with fmt's text TOLD by the authors' own Lean function (tested against real Go, not proved from fmt's source: count such statements apart). THE CARD IS WHAT COUNTS. Prove the row's statement (the work); the ties are given (YtdddmclhafbfoaaDoorTie.lean); close each card by the builder's one call (the guide's Derived/Test/ToyasCard.lean, 'card_holds'). Laid BY PROGRAM, IN A SANDBOX (cutbox-door.mjs). By AI agents, Wed Nov 11 2026. No macro, syntax, notation, axiom, sorry.
-/
import Derived.Test.YtdddmclhafbfoaaDoorRows
import GoSem.ClaimSeven
namespace Go.Proofs.YtdddmclhafbfoaaDoor
namespace Rows

/-- THE TIED CARD OF 'laws.FnMailValid'. -/
def fnMailValidCard : Claim7 := { stood := { row := fnMailValidRow, standIns := [], harness := (true, "4390150be72c19001231ab1b92785142002e2541b385b62af07c73e49bf23857"), looks := false }, kinds := [], alts := [], laidByText := true, laidKinds := [.data, .data, .pinned], laidTests := true, laidLooks := .later }
def FnMailValidCardSaid : Prop := Claim7.holds Tryd.pinned (.plain (OpenSpec.ofChange fnMailValidSpec)) fnMailValidCard

/-- THE TIED CARD OF 'laws.FnMailSame'. -/
def fnMailSameCard : Claim7 := { stood := { row := fnMailSameRow, standIns := [], harness := (true, "4390150be72c19001231ab1b92785142002e2541b385b62af07c73e49bf23857"), looks := false }, kinds := [], alts := [], laidByText := true, laidKinds := [.data, .data, .pinned], laidTests := true, laidLooks := .later }
def FnMailSameCardSaid : Prop := Claim7.holds Tryd.pinned (.plain (OpenSpec.ofChange fnMailSameSpec)) fnMailSameCard

/-- THE TIED CARD OF 'laws.FnSessionSame'. -/
def fnSessionSameCard : Claim7 := { stood := { row := fnSessionSameRow, standIns := [], harness := (true, "4390150be72c19001231ab1b92785142002e2541b385b62af07c73e49bf23857"), looks := false }, kinds := [], alts := [], laidByText := true, laidKinds := [.data, .data, .pinned], laidTests := true, laidLooks := .later }
def FnSessionSameCardSaid : Prop := Claim7.holds Tryd.pinned (.plain (OpenSpec.ofChange fnSessionSameSpec)) fnSessionSameCard

/-- THE TIED CARD OF 'laws.FnSpeakSize'. -/
def fnSpeakSizeCard : Claim7 := { stood := { row := fnSpeakSizeRow, standIns := [], harness := (true, "4390150be72c19001231ab1b92785142002e2541b385b62af07c73e49bf23857"), looks := false }, kinds := [], alts := [], laidByText := true, laidKinds := [.data, .data, .pinned], laidTests := true, laidLooks := .later }
def FnSpeakSizeCardSaid : Prop := Claim7.holds Tryd.pinned (.plain (OpenSpec.ofChange fnSpeakSizeSpec)) fnSpeakSizeCard

/-- THE SECOND FORM's CARD OF 'laws.FnMailValid'. -/
def fnMailValidUptoCard : Claim7 := { stood := { row := fnMailValidUptoRow, standIns := [], harness := (true, "4390150be72c19001231ab1b92785142002e2541b385b62af07c73e49bf23857"), looks := false }, kinds := [], alts := [], laidByText := true, laidKinds := [.data, .data, .pinned], laidTests := true, laidLooks := .later }
def FnMailValidUptoCardSaid : Prop := Claim7.holds Tryd.pinned (.plain (OpenSpec.upto fnMailValidSpec)) fnMailValidUptoCard

/-- THE SECOND FORM's CARD OF 'laws.FnMailSame'. -/
def fnMailSameUptoCard : Claim7 := { stood := { row := fnMailSameUptoRow, standIns := [], harness := (true, "4390150be72c19001231ab1b92785142002e2541b385b62af07c73e49bf23857"), looks := false }, kinds := [], alts := [], laidByText := true, laidKinds := [.data, .data, .pinned], laidTests := true, laidLooks := .later }
def FnMailSameUptoCardSaid : Prop := Claim7.holds Tryd.pinned (.plain (OpenSpec.upto fnMailSameSpec)) fnMailSameUptoCard

/-- THE SECOND FORM's CARD OF 'laws.FnSessionSame'. -/
def fnSessionSameUptoCard : Claim7 := { stood := { row := fnSessionSameUptoRow, standIns := [], harness := (true, "4390150be72c19001231ab1b92785142002e2541b385b62af07c73e49bf23857"), looks := false }, kinds := [], alts := [], laidByText := true, laidKinds := [.data, .data, .pinned], laidTests := true, laidLooks := .later }
def FnSessionSameUptoCardSaid : Prop := Claim7.holds Tryd.pinned (.plain (OpenSpec.upto fnSessionSameSpec)) fnSessionSameUptoCard

/-- THE SECOND FORM's CARD OF 'laws.FnSpeakSize'. -/
def fnSpeakSizeUptoCard : Claim7 := { stood := { row := fnSpeakSizeUptoRow, standIns := [], harness := (true, "4390150be72c19001231ab1b92785142002e2541b385b62af07c73e49bf23857"), looks := false }, kinds := [], alts := [], laidByText := true, laidKinds := [.data, .data, .pinned], laidTests := true, laidLooks := .later }
def FnSpeakSizeUptoCardSaid : Prop := Claim7.holds Tryd.pinned (.plain (OpenSpec.upto fnSpeakSizeSpec)) fnSpeakSizeUptoCard
end Rows
end Go.Proofs.YtdddmclhafbfoaaDoor
