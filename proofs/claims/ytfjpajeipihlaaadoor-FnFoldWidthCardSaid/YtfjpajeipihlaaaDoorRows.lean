/-
  NARROWER THAN 'FOR EVERY INPUT', by the rows' own cells (each row's printed sentence says how): FnFoldField: laid · FnFoldFields: laid · FnPutField: laid · FnFieldValid: laid · FnFoldWidth: laid · FnReadSpaces: laid · FnReadParts: laid · FnPutTwice: laid.
  DERIVED. THE GIVEN ROWS OF THIS SEAT. 8 by the template 'for every input the law returns true; each argument reads behind the call as it read before'; 0 by the template 'total and deterministic' (their statements: YtfjpajeipihlaaaDoorTotals.lean).
  GIVEN WITH THE SEED: the statements are not yours to turn. If you find one false, say at which input.
  Laid BY PROGRAM, IN A SANDBOX (cutbox-rows.mjs): the forced cells as the released guide's own fill.sh prints them over the translation 8bff828c9e7138d3… (all of the seat's roots in one cut). By AI agents, Wed Nov 11 2026. No macro, syntax, notation, axiom, sorry.
-/
import Derived.Test.YtfjpajeipihlaaaDoorChecked
import GoSem.PinnedTables
import GoSem.Claim
import GoSem.ClaimJoined
import GoSem.ClaimMapViews
import Derived.JoinedTies
import Derived.KernelRfl
namespace Go.Proofs.YtfjpajeipihlaaaDoor
/- THE CELL 'sum', in the pinned program and in every row, IS THE sha256 OF THE DUMP (.gsa) THAT YtfjpajeipihlaaaDoorProg.lean LOADS. Nothing in Lean hashes anything: it is a label: what it is worth is what the hold of that sum in a sandbox is worth. -/
noncomputable def Tryd.pinned : Pinned := { name := "ytfjpajeipihlaaadoor", sum := "8bff828c9e7138d3a00730a81761e8a300061531199dbd2c85d7d1e81ebc32a5", checked := Tryd.checked }
namespace Rows
def none {H : Type} : Left H := { results := [], args := [] }

/- WHAT THE LISTED PACKAGE-LEVEL VARIABLES READ AS WHEN THE CALL BEGINS. Each datum BY PROGRAM (the guide's laid-datum.mjs) off the statement by which the dump's own 'gosem.cut.vars' lays the variable. In a bare row this is a premise. The card (YtfjpajeipihlaaaDoorCards.lean) ties it to the program's text. -/
def laid_unicode_utf8_acceptRanges {H : Type} : DataW H := .agg [.agg [.lit (.int .u8 128), .lit (.int .u8 191)], .agg [.lit (.int .u8 160), .lit (.int .u8 191)], .agg [.lit (.int .u8 128), .lit (.int .u8 159)], .agg [.lit (.int .u8 144), .lit (.int .u8 191)], .agg [.lit (.int .u8 128), .lit (.int .u8 143)], .agg [.lit (.int .u8 0), .lit (.int .u8 0)], .agg [.lit (.int .u8 0), .lit (.int .u8 0)], .agg [.lit (.int .u8 0), .lit (.int .u8 0)], .agg [.lit (.int .u8 0), .lit (.int .u8 0)], .agg [.lit (.int .u8 0), .lit (.int .u8 0)], .agg [.lit (.int .u8 0), .lit (.int .u8 0)], .agg [.lit (.int .u8 0), .lit (.int .u8 0)], .agg [.lit (.int .u8 0), .lit (.int .u8 0)], .agg [.lit (.int .u8 0), .lit (.int .u8 0)], .agg [.lit (.int .u8 0), .lit (.int .u8 0)], .agg [.lit (.int .u8 0), .lit (.int .u8 0)]]
/-- One of Go's own tables, pinned by name: the form's constant. -/
def laid_unicode_utf8_first : DataW Unit := Go.Pinned.utf8First

/-- 'laws.FnFoldField': WHATEVER THE INPUT: true; the input reads as it did. -/
def fnFoldFieldSpec : ChangeSpec := { name := "fnFoldField", fn := fun _ => fun
  | [d] => { results := [.lit (.bool true)], args := [d] }
  | _ => none }
def fnFoldFieldRow : OpenClaim := { program := "ytfjpajeipihlaaadoor", sum := "8bff828c9e7138d3a00730a81761e8a300061531199dbd2c85d7d1e81ebc32a5", func := "loop.example/mailwire/laws.FnFoldField", spec := "fnFoldField", inPlace := ["internal/bytealg.IndexByteString", "internal/bytealg.IndexString", "internal/abi.NoEscape", "internal/bytealg.MakeNoZero"], named := ["unicode/utf8.first", "unicode/utf8.acceptRanges", "internal/bytealg.MaxLen"], apart := false, laid := [("unicode/utf8.acceptRanges", laid_unicode_utf8_acceptRanges), ("unicode/utf8.first", laid_unicode_utf8_first)] }
def FnFoldFieldSaid : Prop := fnFoldFieldRow.holds Tryd.pinned (OpenSpec.ofChange fnFoldFieldSpec)

/-- ITS FALSE NEIGHBOUR: 'it returns false'. Refute it at one input. -/
def fnFoldFieldWrong : ChangeSpec := { name := "fnFoldField", fn := fun _ => fun
  | [d] => { results := [.lit (.bool false)], args := [d] }
  | _ => none }
def FnFoldFieldWrongFalsely : Prop := fnFoldFieldRow.holds Tryd.pinned (OpenSpec.ofChange fnFoldFieldWrong)

/-- 'laws.FnFoldFields': WHATEVER THE INPUT: true; the input reads as it did. -/
def fnFoldFieldsSpec : ChangeSpec := { name := "fnFoldFields", fn := fun _ => fun
  | [d1, d2] => { results := [.lit (.bool true)], args := [d1, d2] }
  | _ => none }
def fnFoldFieldsRow : OpenClaim := { program := "ytfjpajeipihlaaadoor", sum := "8bff828c9e7138d3a00730a81761e8a300061531199dbd2c85d7d1e81ebc32a5", func := "loop.example/mailwire/laws.FnFoldFields", spec := "fnFoldFields", inPlace := ["internal/bytealg.IndexByteString", "internal/bytealg.IndexString", "internal/abi.NoEscape", "internal/bytealg.MakeNoZero"], named := ["unicode/utf8.first", "unicode/utf8.acceptRanges", "internal/bytealg.MaxLen"], apart := false, laid := [("unicode/utf8.acceptRanges", laid_unicode_utf8_acceptRanges), ("unicode/utf8.first", laid_unicode_utf8_first)] }
def FnFoldFieldsSaid : Prop := fnFoldFieldsRow.holds Tryd.pinned (OpenSpec.ofChange fnFoldFieldsSpec)

/-- ITS FALSE NEIGHBOUR: 'it returns false'. Refute it at one input. -/
def fnFoldFieldsWrong : ChangeSpec := { name := "fnFoldFields", fn := fun _ => fun
  | [d1, d2] => { results := [.lit (.bool false)], args := [d1, d2] }
  | _ => none }
def FnFoldFieldsWrongFalsely : Prop := fnFoldFieldsRow.holds Tryd.pinned (OpenSpec.ofChange fnFoldFieldsWrong)

/-- 'laws.FnPutField': WHATEVER THE INPUT: true; the input reads as it did. -/
def fnPutFieldSpec : ChangeSpec := { name := "fnPutField", fn := fun _ => fun
  | [d] => { results := [.lit (.bool true)], args := [d] }
  | _ => none }
def fnPutFieldRow : OpenClaim := { program := "ytfjpajeipihlaaadoor", sum := "8bff828c9e7138d3a00730a81761e8a300061531199dbd2c85d7d1e81ebc32a5", func := "loop.example/mailwire/laws.FnPutField", spec := "fnPutField", inPlace := ["internal/bytealg.IndexByteString", "internal/bytealg.IndexString"], unfollowed := true, recurses := true, named := ["unicode/utf8.first", "unicode/utf8.acceptRanges", "internal/bytealg.MaxLen"], apart := false, laid := [("unicode/utf8.acceptRanges", laid_unicode_utf8_acceptRanges), ("unicode/utf8.first", laid_unicode_utf8_first)] }
def FnPutFieldSaid : Prop := fnPutFieldRow.holds Tryd.pinned (OpenSpec.ofChange fnPutFieldSpec)

/-- ITS FALSE NEIGHBOUR: 'it returns false'. Refute it at one input. -/
def fnPutFieldWrong : ChangeSpec := { name := "fnPutField", fn := fun _ => fun
  | [d] => { results := [.lit (.bool false)], args := [d] }
  | _ => none }
def FnPutFieldWrongFalsely : Prop := fnPutFieldRow.holds Tryd.pinned (OpenSpec.ofChange fnPutFieldWrong)

/-- 'laws.FnFieldValid': WHATEVER THE INPUT: true; the input reads as it did. -/
def fnFieldValidSpec : ChangeSpec := { name := "fnFieldValid", fn := fun _ => fun
  | [d] => { results := [.lit (.bool true)], args := [d] }
  | _ => none }
def fnFieldValidRow : OpenClaim := { program := "ytfjpajeipihlaaadoor", sum := "8bff828c9e7138d3a00730a81761e8a300061531199dbd2c85d7d1e81ebc32a5", func := "loop.example/mailwire/laws.FnFieldValid", spec := "fnFieldValid", inPlace := ["internal/bytealg.IndexByteString", "internal/bytealg.IndexString"], named := ["unicode/utf8.first", "unicode/utf8.acceptRanges", "internal/bytealg.MaxLen"], apart := false, laid := [("unicode/utf8.acceptRanges", laid_unicode_utf8_acceptRanges), ("unicode/utf8.first", laid_unicode_utf8_first)] }
def FnFieldValidSaid : Prop := fnFieldValidRow.holds Tryd.pinned (OpenSpec.ofChange fnFieldValidSpec)

/-- ITS FALSE NEIGHBOUR: 'it returns false'. Refute it at one input. -/
def fnFieldValidWrong : ChangeSpec := { name := "fnFieldValid", fn := fun _ => fun
  | [d] => { results := [.lit (.bool false)], args := [d] }
  | _ => none }
def FnFieldValidWrongFalsely : Prop := fnFieldValidRow.holds Tryd.pinned (OpenSpec.ofChange fnFieldValidWrong)

/-- 'laws.FnFoldWidth': WHATEVER THE INPUT: true; the input reads as it did. -/
def fnFoldWidthSpec : ChangeSpec := { name := "fnFoldWidth", fn := fun _ => fun
  | [d] => { results := [.lit (.bool true)], args := [d] }
  | _ => none }
def fnFoldWidthRow : OpenClaim := { program := "ytfjpajeipihlaaadoor", sum := "8bff828c9e7138d3a00730a81761e8a300061531199dbd2c85d7d1e81ebc32a5", func := "loop.example/mailwire/laws.FnFoldWidth", spec := "fnFoldWidth", inPlace := ["internal/bytealg.IndexByteString", "internal/bytealg.IndexString"], named := ["unicode/utf8.first", "unicode/utf8.acceptRanges", "internal/bytealg.MaxLen"], apart := false, laid := [("unicode/utf8.acceptRanges", laid_unicode_utf8_acceptRanges), ("unicode/utf8.first", laid_unicode_utf8_first)] }
def FnFoldWidthSaid : Prop := fnFoldWidthRow.holds Tryd.pinned (OpenSpec.ofChange fnFoldWidthSpec)

/-- ITS FALSE NEIGHBOUR: 'it returns false'. Refute it at one input. -/
def fnFoldWidthWrong : ChangeSpec := { name := "fnFoldWidth", fn := fun _ => fun
  | [d] => { results := [.lit (.bool false)], args := [d] }
  | _ => none }
def FnFoldWidthWrongFalsely : Prop := fnFoldWidthRow.holds Tryd.pinned (OpenSpec.ofChange fnFoldWidthWrong)

/-- 'laws.FnReadSpaces': WHATEVER THE INPUT: true; the input reads as it did. -/
def fnReadSpacesSpec : ChangeSpec := { name := "fnReadSpaces", fn := fun _ => fun
  | [d] => { results := [.lit (.bool true)], args := [d] }
  | _ => none }
def fnReadSpacesRow : OpenClaim := { program := "ytfjpajeipihlaaadoor", sum := "8bff828c9e7138d3a00730a81761e8a300061531199dbd2c85d7d1e81ebc32a5", func := "loop.example/mailwire/laws.FnReadSpaces", spec := "fnReadSpaces", inPlace := ["internal/bytealg.IndexByteString", "internal/bytealg.IndexString", "internal/abi.NoEscape", "internal/bytealg.MakeNoZero"], named := ["unicode/utf8.first", "unicode/utf8.acceptRanges", "internal/bytealg.MaxLen"], apart := false, laid := [("unicode/utf8.acceptRanges", laid_unicode_utf8_acceptRanges), ("unicode/utf8.first", laid_unicode_utf8_first)] }
def FnReadSpacesSaid : Prop := fnReadSpacesRow.holds Tryd.pinned (OpenSpec.ofChange fnReadSpacesSpec)

/-- ITS FALSE NEIGHBOUR: 'it returns false'. Refute it at one input. -/
def fnReadSpacesWrong : ChangeSpec := { name := "fnReadSpaces", fn := fun _ => fun
  | [d] => { results := [.lit (.bool false)], args := [d] }
  | _ => none }
def FnReadSpacesWrongFalsely : Prop := fnReadSpacesRow.holds Tryd.pinned (OpenSpec.ofChange fnReadSpacesWrong)

/-- 'laws.FnReadParts': WHATEVER THE INPUT: true; the input reads as it did. -/
def fnReadPartsSpec : ChangeSpec := { name := "fnReadParts", fn := fun _ => fun
  | [d] => { results := [.lit (.bool true)], args := [d] }
  | _ => none }
def fnReadPartsRow : OpenClaim := { program := "ytfjpajeipihlaaadoor", sum := "8bff828c9e7138d3a00730a81761e8a300061531199dbd2c85d7d1e81ebc32a5", func := "loop.example/mailwire/laws.FnReadParts", spec := "fnReadParts", inPlace := ["internal/bytealg.IndexByteString", "internal/bytealg.IndexString"], named := ["unicode/utf8.first", "unicode/utf8.acceptRanges", "internal/bytealg.MaxLen"], apart := false, laid := [("unicode/utf8.acceptRanges", laid_unicode_utf8_acceptRanges), ("unicode/utf8.first", laid_unicode_utf8_first)] }
def FnReadPartsSaid : Prop := fnReadPartsRow.holds Tryd.pinned (OpenSpec.ofChange fnReadPartsSpec)

/-- ITS FALSE NEIGHBOUR: 'it returns false'. Refute it at one input. -/
def fnReadPartsWrong : ChangeSpec := { name := "fnReadParts", fn := fun _ => fun
  | [d] => { results := [.lit (.bool false)], args := [d] }
  | _ => none }
def FnReadPartsWrongFalsely : Prop := fnReadPartsRow.holds Tryd.pinned (OpenSpec.ofChange fnReadPartsWrong)

/-- 'laws.FnPutTwice': WHATEVER THE INPUT: true; the input reads as it did. -/
def fnPutTwiceSpec : ChangeSpec := { name := "fnPutTwice", fn := fun _ => fun
  | [d] => { results := [.lit (.bool true)], args := [d] }
  | _ => none }
def fnPutTwiceRow : OpenClaim := { program := "ytfjpajeipihlaaadoor", sum := "8bff828c9e7138d3a00730a81761e8a300061531199dbd2c85d7d1e81ebc32a5", func := "loop.example/mailwire/laws.FnPutTwice", spec := "fnPutTwice", inPlace := ["internal/bytealg.IndexByteString", "internal/bytealg.IndexString"], unfollowed := true, recurses := true, named := ["unicode/utf8.first", "unicode/utf8.acceptRanges", "internal/bytealg.MaxLen"], apart := false, laid := [("unicode/utf8.acceptRanges", laid_unicode_utf8_acceptRanges), ("unicode/utf8.first", laid_unicode_utf8_first)] }
def FnPutTwiceSaid : Prop := fnPutTwiceRow.holds Tryd.pinned (OpenSpec.ofChange fnPutTwiceSpec)

/-- ITS FALSE NEIGHBOUR: 'it returns false'. Refute it at one input. -/
def fnPutTwiceWrong : ChangeSpec := { name := "fnPutTwice", fn := fun _ => fun
  | [d] => { results := [.lit (.bool false)], args := [d] }
  | _ => none }
def FnPutTwiceWrongFalsely : Prop := fnPutTwiceRow.holds Tryd.pinned (OpenSpec.ofChange fnPutTwiceWrong)

/- THE SECOND FORM. 'bulk': how many values and letters a reading holds, each counted each time it is reached (what is shared counts as often as it is met; a slice's spare places count too). A statement '..UptoSaid' is the law's where the arguments, and the package variables that the reading takes, are together of bulk at most 1048576: NARROWER than '..Said'. Prove '..Said' where nothing that the law and all that it calls make is longer than what came in: it says more and counts as full. Else prove '..UptoSaid'. A law counts once. -/
mutual
def uptoBulk {H : Type} : DataW H → Nat
  | .lit (.string bytes) => bytes.length + 1
  | .lit _ => 1
  | .nil => 1
  | .ptr d => uptoBulk d + 1
  | .slice elems spare => uptoBulkAll elems + uptoBulkAll spare + 1
  | .agg parts => uptoBulkAll parts + 1
  | .iface _ d => uptoBulk d + 1
  | .map entries => uptoBulkEntries entries + 1
  | .held _ => 1
def uptoBulkAll {H : Type} : List (DataW H) → Nat
  | [] => 0
  | d :: r => uptoBulk d + uptoBulkAll r
def uptoBulkEntries {H : Type} : List (Lit × DataW H) → Nat
  | [] => 0
  | x :: r => uptoBulkEntry x + uptoBulkEntries r
def uptoBulkEntry {H : Type} : Lit × DataW H → Nat
  | (.string bytes, d) => bytes.length + uptoBulk d + 1
  | (_, d) => uptoBulk d + 1
 end
def uptoSmall : (H : Type) → List (DataW H) → Bool := fun _ ds => decide (uptoBulkAll ds ≤ 1048576)
def OpenSpec.upto (s : _root_.Go.ChangeSpec) : _root_.Go.OpenSpec := { _root_.Go.OpenSpec.ofChange s with cond := some uptoSmall }

/-- 'laws.FnFoldField', WHERE WHAT IT READS IS OF BULK AT MOST 1048576: true; the input reads as it did. -/
def fnFoldFieldUptoRow : OpenClaim := { program := "ytfjpajeipihlaaadoor", sum := "8bff828c9e7138d3a00730a81761e8a300061531199dbd2c85d7d1e81ebc32a5", func := "loop.example/mailwire/laws.FnFoldField", spec := "fnFoldField", inPlace := ["internal/bytealg.IndexByteString", "internal/bytealg.IndexString", "internal/abi.NoEscape", "internal/bytealg.MakeNoZero"], named := ["unicode/utf8.first", "unicode/utf8.acceptRanges", "internal/bytealg.MaxLen"], apart := false, laid := [("unicode/utf8.acceptRanges", laid_unicode_utf8_acceptRanges), ("unicode/utf8.first", laid_unicode_utf8_first)], narrowed := true }
def FnFoldFieldUptoSaid : Prop := fnFoldFieldUptoRow.holds Tryd.pinned (OpenSpec.upto fnFoldFieldSpec)

/-- 'laws.FnFoldFields', WHERE WHAT IT READS IS OF BULK AT MOST 1048576: true; the input reads as it did. -/
def fnFoldFieldsUptoRow : OpenClaim := { program := "ytfjpajeipihlaaadoor", sum := "8bff828c9e7138d3a00730a81761e8a300061531199dbd2c85d7d1e81ebc32a5", func := "loop.example/mailwire/laws.FnFoldFields", spec := "fnFoldFields", inPlace := ["internal/bytealg.IndexByteString", "internal/bytealg.IndexString", "internal/abi.NoEscape", "internal/bytealg.MakeNoZero"], named := ["unicode/utf8.first", "unicode/utf8.acceptRanges", "internal/bytealg.MaxLen"], apart := false, laid := [("unicode/utf8.acceptRanges", laid_unicode_utf8_acceptRanges), ("unicode/utf8.first", laid_unicode_utf8_first)], narrowed := true }
def FnFoldFieldsUptoSaid : Prop := fnFoldFieldsUptoRow.holds Tryd.pinned (OpenSpec.upto fnFoldFieldsSpec)

/-- 'laws.FnPutField', WHERE WHAT IT READS IS OF BULK AT MOST 1048576: true; the input reads as it did. -/
def fnPutFieldUptoRow : OpenClaim := { program := "ytfjpajeipihlaaadoor", sum := "8bff828c9e7138d3a00730a81761e8a300061531199dbd2c85d7d1e81ebc32a5", func := "loop.example/mailwire/laws.FnPutField", spec := "fnPutField", inPlace := ["internal/bytealg.IndexByteString", "internal/bytealg.IndexString"], unfollowed := true, recurses := true, named := ["unicode/utf8.first", "unicode/utf8.acceptRanges", "internal/bytealg.MaxLen"], apart := false, laid := [("unicode/utf8.acceptRanges", laid_unicode_utf8_acceptRanges), ("unicode/utf8.first", laid_unicode_utf8_first)], narrowed := true }
def FnPutFieldUptoSaid : Prop := fnPutFieldUptoRow.holds Tryd.pinned (OpenSpec.upto fnPutFieldSpec)

/-- 'laws.FnFieldValid', WHERE WHAT IT READS IS OF BULK AT MOST 1048576: true; the input reads as it did. -/
def fnFieldValidUptoRow : OpenClaim := { program := "ytfjpajeipihlaaadoor", sum := "8bff828c9e7138d3a00730a81761e8a300061531199dbd2c85d7d1e81ebc32a5", func := "loop.example/mailwire/laws.FnFieldValid", spec := "fnFieldValid", inPlace := ["internal/bytealg.IndexByteString", "internal/bytealg.IndexString"], named := ["unicode/utf8.first", "unicode/utf8.acceptRanges", "internal/bytealg.MaxLen"], apart := false, laid := [("unicode/utf8.acceptRanges", laid_unicode_utf8_acceptRanges), ("unicode/utf8.first", laid_unicode_utf8_first)], narrowed := true }
def FnFieldValidUptoSaid : Prop := fnFieldValidUptoRow.holds Tryd.pinned (OpenSpec.upto fnFieldValidSpec)

/-- 'laws.FnFoldWidth', WHERE WHAT IT READS IS OF BULK AT MOST 1048576: true; the input reads as it did. -/
def fnFoldWidthUptoRow : OpenClaim := { program := "ytfjpajeipihlaaadoor", sum := "8bff828c9e7138d3a00730a81761e8a300061531199dbd2c85d7d1e81ebc32a5", func := "loop.example/mailwire/laws.FnFoldWidth", spec := "fnFoldWidth", inPlace := ["internal/bytealg.IndexByteString", "internal/bytealg.IndexString"], named := ["unicode/utf8.first", "unicode/utf8.acceptRanges", "internal/bytealg.MaxLen"], apart := false, laid := [("unicode/utf8.acceptRanges", laid_unicode_utf8_acceptRanges), ("unicode/utf8.first", laid_unicode_utf8_first)], narrowed := true }
def FnFoldWidthUptoSaid : Prop := fnFoldWidthUptoRow.holds Tryd.pinned (OpenSpec.upto fnFoldWidthSpec)

/-- 'laws.FnReadSpaces', WHERE WHAT IT READS IS OF BULK AT MOST 1048576: true; the input reads as it did. -/
def fnReadSpacesUptoRow : OpenClaim := { program := "ytfjpajeipihlaaadoor", sum := "8bff828c9e7138d3a00730a81761e8a300061531199dbd2c85d7d1e81ebc32a5", func := "loop.example/mailwire/laws.FnReadSpaces", spec := "fnReadSpaces", inPlace := ["internal/bytealg.IndexByteString", "internal/bytealg.IndexString", "internal/abi.NoEscape", "internal/bytealg.MakeNoZero"], named := ["unicode/utf8.first", "unicode/utf8.acceptRanges", "internal/bytealg.MaxLen"], apart := false, laid := [("unicode/utf8.acceptRanges", laid_unicode_utf8_acceptRanges), ("unicode/utf8.first", laid_unicode_utf8_first)], narrowed := true }
def FnReadSpacesUptoSaid : Prop := fnReadSpacesUptoRow.holds Tryd.pinned (OpenSpec.upto fnReadSpacesSpec)

/-- 'laws.FnReadParts', WHERE WHAT IT READS IS OF BULK AT MOST 1048576: true; the input reads as it did. -/
def fnReadPartsUptoRow : OpenClaim := { program := "ytfjpajeipihlaaadoor", sum := "8bff828c9e7138d3a00730a81761e8a300061531199dbd2c85d7d1e81ebc32a5", func := "loop.example/mailwire/laws.FnReadParts", spec := "fnReadParts", inPlace := ["internal/bytealg.IndexByteString", "internal/bytealg.IndexString"], named := ["unicode/utf8.first", "unicode/utf8.acceptRanges", "internal/bytealg.MaxLen"], apart := false, laid := [("unicode/utf8.acceptRanges", laid_unicode_utf8_acceptRanges), ("unicode/utf8.first", laid_unicode_utf8_first)], narrowed := true }
def FnReadPartsUptoSaid : Prop := fnReadPartsUptoRow.holds Tryd.pinned (OpenSpec.upto fnReadPartsSpec)

/-- 'laws.FnPutTwice', WHERE WHAT IT READS IS OF BULK AT MOST 1048576: true; the input reads as it did. -/
def fnPutTwiceUptoRow : OpenClaim := { program := "ytfjpajeipihlaaadoor", sum := "8bff828c9e7138d3a00730a81761e8a300061531199dbd2c85d7d1e81ebc32a5", func := "loop.example/mailwire/laws.FnPutTwice", spec := "fnPutTwice", inPlace := ["internal/bytealg.IndexByteString", "internal/bytealg.IndexString"], unfollowed := true, recurses := true, named := ["unicode/utf8.first", "unicode/utf8.acceptRanges", "internal/bytealg.MaxLen"], apart := false, laid := [("unicode/utf8.acceptRanges", laid_unicode_utf8_acceptRanges), ("unicode/utf8.first", laid_unicode_utf8_first)], narrowed := true }
def FnPutTwiceUptoSaid : Prop := fnPutTwiceUptoRow.holds Tryd.pinned (OpenSpec.upto fnPutTwiceSpec)

end Rows
end Go.Proofs.YtfjpajeipihlaaaDoor
