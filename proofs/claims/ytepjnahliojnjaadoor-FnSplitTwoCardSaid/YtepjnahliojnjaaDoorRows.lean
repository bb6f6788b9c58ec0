/-
  NARROWER THAN 'FOR EVERY INPUT', by the rows' own cells (each row's printed sentence says how): FnSplitTwo: laid · FnAddressText: laid · FnParseAddress: laid · FnAddressName: laid · FnAddressCapital: laid · FnListOne: laid · FnListParts: laid · FnAddressValid: laid · FnExactAddressValid: laid · FnExactFormatAddress: laid · FnExactParseAddress: laid · FnExactFormatList: laid · FnExactParseList: laid.
  DERIVED. THE GIVEN ROWS OF THIS SEAT. 13 by the template 'for every input the law returns true; each argument reads behind the call as it read before'; 0 by the template 'total and deterministic' (their statements: YtepjnahliojnjaaDoorTotals.lean).
  GIVEN WITH THE SEED: the statements are not yours to turn. If you find one false, say at which input.
  Laid BY PROGRAM, IN A SANDBOX (cutbox-rows.mjs): the forced cells as the released guide's own fill.sh prints them over the translation 4b0c2c1565f4f68d… (all of the seat's roots in one cut). By AI agents, Wed Nov 11 2026. No macro, syntax, notation, axiom, sorry.
-/
import Derived.Test.YtepjnahliojnjaaDoorChecked
import GoSem.PinnedTables
import GoSem.Claim
import GoSem.ClaimJoined
import GoSem.ClaimMapViews
import Derived.JoinedTies
import Derived.KernelRfl
namespace Go.Proofs.YtepjnahliojnjaaDoor
/- THE CELL 'sum', in the pinned program and in every row, IS THE sha256 OF THE DUMP (.gsa) THAT YtepjnahliojnjaaDoorProg.lean LOADS. Nothing in Lean hashes anything: it is a label: what it is worth is what the hold of that sum in a sandbox is worth. -/
noncomputable def Tryd.pinned : Pinned := { name := "ytepjnahliojnjaadoor", sum := "4b0c2c1565f4f68d0dd6aee7035ae1c88409db56c2065e541d5f9e81e02b653d", checked := Tryd.checked }
namespace Rows
def none {H : Type} : Left H := { results := [], args := [] }

/- WHAT THE LISTED PACKAGE-LEVEL VARIABLES READ AS WHEN THE CALL BEGINS. Each datum BY PROGRAM (the guide's laid-datum.mjs) off the statement by which the dump's own 'gosem.cut.vars' lays the variable. In a bare row this is a premise. The card (YtepjnahliojnjaaDoorCards.lean) ties it to the program's text. -/
def laid_loop_example_mailwire_impl_atomMarks {H : Type} : DataW H := .agg [.agg [.lit (.int .u8 33), .lit (.int .u8 33)], .agg [.lit (.int .u8 35), .lit (.int .u8 39)], .agg [.lit (.int .u8 42), .lit (.int .u8 43)], .agg [.lit (.int .u8 45), .lit (.int .u8 45)], .agg [.lit (.int .u8 47), .lit (.int .u8 47)], .agg [.lit (.int .u8 61), .lit (.int .u8 61)], .agg [.lit (.int .u8 63), .lit (.int .u8 63)], .agg [.lit (.int .u8 94), .lit (.int .u8 96)], .agg [.lit (.int .u8 123), .lit (.int .u8 126)]]
def laid_unicode_utf8_acceptRanges {H : Type} : DataW H := .agg [.agg [.lit (.int .u8 128), .lit (.int .u8 191)], .agg [.lit (.int .u8 160), .lit (.int .u8 191)], .agg [.lit (.int .u8 128), .lit (.int .u8 159)], .agg [.lit (.int .u8 144), .lit (.int .u8 191)], .agg [.lit (.int .u8 128), .lit (.int .u8 143)], .agg [.lit (.int .u8 0), .lit (.int .u8 0)], .agg [.lit (.int .u8 0), .lit (.int .u8 0)], .agg [.lit (.int .u8 0), .lit (.int .u8 0)], .agg [.lit (.int .u8 0), .lit (.int .u8 0)], .agg [.lit (.int .u8 0), .lit (.int .u8 0)], .agg [.lit (.int .u8 0), .lit (.int .u8 0)], .agg [.lit (.int .u8 0), .lit (.int .u8 0)], .agg [.lit (.int .u8 0), .lit (.int .u8 0)], .agg [.lit (.int .u8 0), .lit (.int .u8 0)], .agg [.lit (.int .u8 0), .lit (.int .u8 0)], .agg [.lit (.int .u8 0), .lit (.int .u8 0)]]
/-- One of Go's own tables, pinned by name: the form's constant. -/
def laid_unicode_utf8_first : DataW Unit := Go.Pinned.utf8First

/-- 'laws.FnSplitTwo': WHATEVER THE INPUT: true; the input reads as it did. -/
def fnSplitTwoSpec : ChangeSpec := { name := "fnSplitTwo", vars := ["loop.example/mailwire/impl.atomMarks"], fn := fun _ => fun
  | [d1, d2, g1] => { results := [.lit (.bool true)], args := [d1, d2], vars := [g1] }
  | _ => none }
def fnSplitTwoRow : OpenClaim := { program := "ytepjnahliojnjaadoor", sum := "4b0c2c1565f4f68d0dd6aee7035ae1c88409db56c2065e541d5f9e81e02b653d", func := "loop.example/mailwire/laws.FnSplitTwo", spec := "fnSplitTwo", inPlace := ["internal/abi.NoEscape"], named := ["loop.example/mailwire/impl.atomMarks"], apart := false, laid := [("loop.example/mailwire/impl.atomMarks", laid_loop_example_mailwire_impl_atomMarks)] }
def FnSplitTwoSaid : Prop := fnSplitTwoRow.holds Tryd.pinned (OpenSpec.ofChange fnSplitTwoSpec)

/-- ITS FALSE NEIGHBOUR: 'it returns false'. Refute it at one input. -/
def fnSplitTwoWrong : ChangeSpec := { name := "fnSplitTwo", vars := ["loop.example/mailwire/impl.atomMarks"], fn := fun _ => fun
  | [d1, d2, g1] => { results := [.lit (.bool false)], args := [d1, d2], vars := [g1] }
  | _ => none }
def FnSplitTwoWrongFalsely : Prop := fnSplitTwoRow.holds Tryd.pinned (OpenSpec.ofChange fnSplitTwoWrong)

/-- 'laws.FnAddressText': WHATEVER THE INPUT: true; the input reads as it did. -/
def fnAddressTextSpec : ChangeSpec := { name := "fnAddressText", vars := ["loop.example/mailwire/impl.atomMarks"], fn := fun _ => fun
  | [d, g1] => { results := [.lit (.bool true)], args := [d], vars := [g1] }
  | _ => none }
def fnAddressTextRow : OpenClaim := { program := "ytepjnahliojnjaadoor", sum := "4b0c2c1565f4f68d0dd6aee7035ae1c88409db56c2065e541d5f9e81e02b653d", func := "loop.example/mailwire/laws.FnAddressText", spec := "fnAddressText", inPlace := ["internal/bytealg.CountString", "internal/bytealg.IndexByteString", "internal/bytealg.IndexString", "internal/abi.NoEscape", "internal/bytealg.MakeNoZero"], unfollowed := true, recurses := true, named := ["unicode/utf8.first", "unicode/utf8.acceptRanges", "internal/bytealg.MaxLen", "loop.example/mailwire/impl.atomMarks"], apart := false, laid := [("unicode/utf8.acceptRanges", laid_unicode_utf8_acceptRanges), ("loop.example/mailwire/impl.atomMarks", laid_loop_example_mailwire_impl_atomMarks), ("unicode/utf8.first", laid_unicode_utf8_first)] }
def FnAddressTextSaid : Prop := fnAddressTextRow.holds Tryd.pinned (OpenSpec.ofChange fnAddressTextSpec)

/-- ITS FALSE NEIGHBOUR: 'it returns false'. Refute it at one input. -/
def fnAddressTextWrong : ChangeSpec := { name := "fnAddressText", vars := ["loop.example/mailwire/impl.atomMarks"], fn := fun _ => fun
  | [d, g1] => { results := [.lit (.bool false)], args := [d], vars := [g1] }
  | _ => none }
def FnAddressTextWrongFalsely : Prop := fnAddressTextRow.holds Tryd.pinned (OpenSpec.ofChange fnAddressTextWrong)

/-- 'laws.FnParseAddress': WHATEVER THE INPUT: true; the input reads as it did. -/
def fnParseAddressSpec : ChangeSpec := { name := "fnParseAddress", vars := ["loop.example/mailwire/impl.atomMarks"], fn := fun _ => fun
  | [d, g1] => { results := [.lit (.bool true)], args := [d], vars := [g1] }
  | _ => none }
def fnParseAddressRow : OpenClaim := { program := "ytepjnahliojnjaadoor", sum := "4b0c2c1565f4f68d0dd6aee7035ae1c88409db56c2065e541d5f9e81e02b653d", func := "loop.example/mailwire/laws.FnParseAddress", spec := "fnParseAddress", inPlace := ["internal/bytealg.IndexByteString", "internal/bytealg.IndexString", "internal/abi.NoEscape", "internal/bytealg.MakeNoZero", "internal/bytealg.CountString"], unfollowed := true, recurses := true, named := ["unicode/utf8.first", "unicode/utf8.acceptRanges", "loop.example/mailwire/impl.atomMarks", "internal/bytealg.MaxLen"], apart := false, laid := [("unicode/utf8.acceptRanges", laid_unicode_utf8_acceptRanges), ("loop.example/mailwire/impl.atomMarks", laid_loop_example_mailwire_impl_atomMarks), ("unicode/utf8.first", laid_unicode_utf8_first)] }
def FnParseAddressSaid : Prop := fnParseAddressRow.holds Tryd.pinned (OpenSpec.ofChange fnParseAddressSpec)

/-- ITS FALSE NEIGHBOUR: 'it returns false'. Refute it at one input. -/
def fnParseAddressWrong : ChangeSpec := { name := "fnParseAddress", vars := ["loop.example/mailwire/impl.atomMarks"], fn := fun _ => fun
  | [d, g1] => { results := [.lit (.bool false)], args := [d], vars := [g1] }
  | _ => none }
def FnParseAddressWrongFalsely : Prop := fnParseAddressRow.holds Tryd.pinned (OpenSpec.ofChange fnParseAddressWrong)

/-- 'laws.FnAddressName': WHATEVER THE INPUT: true; the input reads as it did. -/
def fnAddressNameSpec : ChangeSpec := { name := "fnAddressName", vars := ["loop.example/mailwire/impl.atomMarks"], fn := fun _ => fun
  | [d, g1] => { results := [.lit (.bool true)], args := [d], vars := [g1] }
  | _ => none }
def fnAddressNameRow : OpenClaim := { program := "ytepjnahliojnjaadoor", sum := "4b0c2c1565f4f68d0dd6aee7035ae1c88409db56c2065e541d5f9e81e02b653d", func := "loop.example/mailwire/laws.FnAddressName", spec := "fnAddressName", inPlace := ["internal/bytealg.CountString", "internal/bytealg.IndexByteString", "internal/bytealg.IndexString", "internal/abi.NoEscape"], unfollowed := true, recurses := true, named := ["unicode/utf8.first", "unicode/utf8.acceptRanges", "internal/bytealg.MaxLen", "loop.example/mailwire/impl.atomMarks"], apart := false, laid := [("unicode/utf8.acceptRanges", laid_unicode_utf8_acceptRanges), ("loop.example/mailwire/impl.atomMarks", laid_loop_example_mailwire_impl_atomMarks), ("unicode/utf8.first", laid_unicode_utf8_first)] }
def FnAddressNameSaid : Prop := fnAddressNameRow.holds Tryd.pinned (OpenSpec.ofChange fnAddressNameSpec)

/-- ITS FALSE NEIGHBOUR: 'it returns false'. Refute it at one input. -/
def fnAddressNameWrong : ChangeSpec := { name := "fnAddressName", vars := ["loop.example/mailwire/impl.atomMarks"], fn := fun _ => fun
  | [d, g1] => { results := [.lit (.bool false)], args := [d], vars := [g1] }
  | _ => none }
def FnAddressNameWrongFalsely : Prop := fnAddressNameRow.holds Tryd.pinned (OpenSpec.ofChange fnAddressNameWrong)

/-- 'laws.FnAddressCapital': WHATEVER THE INPUT: true; the input reads as it did. -/
def fnAddressCapitalSpec : ChangeSpec := { name := "fnAddressCapital", vars := ["loop.example/mailwire/impl.atomMarks"], fn := fun _ => fun
  | [d, g1] => { results := [.lit (.bool true)], args := [d], vars := [g1] }
  | _ => none }
def fnAddressCapitalRow : OpenClaim := { program := "ytepjnahliojnjaadoor", sum := "4b0c2c1565f4f68d0dd6aee7035ae1c88409db56c2065e541d5f9e81e02b653d", func := "loop.example/mailwire/laws.FnAddressCapital", spec := "fnAddressCapital", inPlace := ["internal/bytealg.IndexByteString", "internal/bytealg.IndexString", "internal/abi.NoEscape", "internal/bytealg.MakeNoZero", "internal/bytealg.CountString"], unfollowed := true, recurses := true, named := ["unicode/utf8.first", "unicode/utf8.acceptRanges", "loop.example/mailwire/impl.atomMarks", "internal/bytealg.MaxLen"], apart := false, laid := [("unicode/utf8.acceptRanges", laid_unicode_utf8_acceptRanges), ("loop.example/mailwire/impl.atomMarks", laid_loop_example_mailwire_impl_atomMarks), ("unicode/utf8.first", laid_unicode_utf8_first)] }
def FnAddressCapitalSaid : Prop := fnAddressCapitalRow.holds Tryd.pinned (OpenSpec.ofChange fnAddressCapitalSpec)

/-- ITS FALSE NEIGHBOUR: 'it returns false'. Refute it at one input. -/
def fnAddressCapitalWrong : ChangeSpec := { name := "fnAddressCapital", vars := ["loop.example/mailwire/impl.atomMarks"], fn := fun _ => fun
  | [d, g1] => { results := [.lit (.bool false)], args := [d], vars := [g1] }
  | _ => none }
def FnAddressCapitalWrongFalsely : Prop := fnAddressCapitalRow.holds Tryd.pinned (OpenSpec.ofChange fnAddressCapitalWrong)

/-- 'laws.FnListOne': WHATEVER THE INPUT: true; the input reads as it did. -/
def fnListOneSpec : ChangeSpec := { name := "fnListOne", vars := ["loop.example/mailwire/impl.atomMarks"], fn := fun _ => fun
  | [d, g1] => { results := [.lit (.bool true)], args := [d], vars := [g1] }
  | _ => none }
def fnListOneRow : OpenClaim := { program := "ytepjnahliojnjaadoor", sum := "4b0c2c1565f4f68d0dd6aee7035ae1c88409db56c2065e541d5f9e81e02b653d", func := "loop.example/mailwire/laws.FnListOne", spec := "fnListOne", inPlace := ["internal/bytealg.IndexByteString", "internal/bytealg.IndexString", "internal/abi.NoEscape", "internal/bytealg.MakeNoZero", "internal/bytealg.CountString"], unfollowed := true, recurses := true, named := ["unicode/utf8.first", "unicode/utf8.acceptRanges", "loop.example/mailwire/impl.atomMarks", "internal/bytealg.MaxLen"], apart := false, laid := [("unicode/utf8.acceptRanges", laid_unicode_utf8_acceptRanges), ("loop.example/mailwire/impl.atomMarks", laid_loop_example_mailwire_impl_atomMarks), ("unicode/utf8.first", laid_unicode_utf8_first)] }
def FnListOneSaid : Prop := fnListOneRow.holds Tryd.pinned (OpenSpec.ofChange fnListOneSpec)

/-- ITS FALSE NEIGHBOUR: 'it returns false'. Refute it at one input. -/
def fnListOneWrong : ChangeSpec := { name := "fnListOne", vars := ["loop.example/mailwire/impl.atomMarks"], fn := fun _ => fun
  | [d, g1] => { results := [.lit (.bool false)], args := [d], vars := [g1] }
  | _ => none }
def FnListOneWrongFalsely : Prop := fnListOneRow.holds Tryd.pinned (OpenSpec.ofChange fnListOneWrong)

/-- 'laws.FnListParts': WHATEVER THE INPUT: true; the input reads as it did. -/
def fnListPartsSpec : ChangeSpec := { name := "fnListParts", vars := ["loop.example/mailwire/impl.atomMarks"], fn := fun _ => fun
  | [d, g1] => { results := [.lit (.bool true)], args := [d], vars := [g1] }
  | _ => none }
def fnListPartsRow : OpenClaim := { program := "ytepjnahliojnjaadoor", sum := "4b0c2c1565f4f68d0dd6aee7035ae1c88409db56c2065e541d5f9e81e02b653d", func := "loop.example/mailwire/laws.FnListParts", spec := "fnListParts", inPlace := ["internal/bytealg.CountString", "internal/bytealg.IndexByteString", "internal/bytealg.IndexString", "internal/abi.NoEscape", "internal/bytealg.MakeNoZero"], unfollowed := true, recurses := true, named := ["unicode/utf8.first", "unicode/utf8.acceptRanges", "internal/bytealg.MaxLen", "loop.example/mailwire/impl.atomMarks"], apart := false, laid := [("unicode/utf8.acceptRanges", laid_unicode_utf8_acceptRanges), ("loop.example/mailwire/impl.atomMarks", laid_loop_example_mailwire_impl_atomMarks), ("unicode/utf8.first", laid_unicode_utf8_first)] }
def FnListPartsSaid : Prop := fnListPartsRow.holds Tryd.pinned (OpenSpec.ofChange fnListPartsSpec)

/-- ITS FALSE NEIGHBOUR: 'it returns false'. Refute it at one input. -/
def fnListPartsWrong : ChangeSpec := { name := "fnListParts", vars := ["loop.example/mailwire/impl.atomMarks"], fn := fun _ => fun
  | [d, g1] => { results := [.lit (.bool false)], args := [d], vars := [g1] }
  | _ => none }
def FnListPartsWrongFalsely : Prop := fnListPartsRow.holds Tryd.pinned (OpenSpec.ofChange fnListPartsWrong)

/-- 'laws.FnAddressValid': WHATEVER THE INPUT: true; the input reads as it did. -/
def fnAddressValidSpec : ChangeSpec := { name := "fnAddressValid", vars := ["loop.example/mailwire/impl.atomMarks"], fn := fun _ => fun
  | [d, g1] => { results := [.lit (.bool true)], args := [d], vars := [g1] }
  | _ => none }
def fnAddressValidRow : OpenClaim := { program := "ytepjnahliojnjaadoor", sum := "4b0c2c1565f4f68d0dd6aee7035ae1c88409db56c2065e541d5f9e81e02b653d", func := "loop.example/mailwire/laws.FnAddressValid", spec := "fnAddressValid", inPlace := ["internal/bytealg.CountString", "internal/bytealg.IndexByteString", "internal/bytealg.IndexString", "internal/abi.NoEscape"], unfollowed := true, recurses := true, named := ["unicode/utf8.first", "unicode/utf8.acceptRanges", "internal/bytealg.MaxLen", "loop.example/mailwire/impl.atomMarks"], apart := false, laid := [("unicode/utf8.acceptRanges", laid_unicode_utf8_acceptRanges), ("loop.example/mailwire/impl.atomMarks", laid_loop_example_mailwire_impl_atomMarks), ("unicode/utf8.first", laid_unicode_utf8_first)] }
def FnAddressValidSaid : Prop := fnAddressValidRow.holds Tryd.pinned (OpenSpec.ofChange fnAddressValidSpec)

/-- ITS FALSE NEIGHBOUR: 'it returns false'. Refute it at one input. -/
def fnAddressValidWrong : ChangeSpec := { name := "fnAddressValid", vars := ["loop.example/mailwire/impl.atomMarks"], fn := fun _ => fun
  | [d, g1] => { results := [.lit (.bool false)], args := [d], vars := [g1] }
  | _ => none }
def FnAddressValidWrongFalsely : Prop := fnAddressValidRow.holds Tryd.pinned (OpenSpec.ofChange fnAddressValidWrong)

/-- 'laws.FnExactAddressValid': WHATEVER THE INPUT: true; the input reads as it did. -/
def fnExactAddressValidSpec : ChangeSpec := { name := "fnExactAddressValid", vars := ["loop.example/mailwire/impl.atomMarks"], fn := fun _ => fun
  | [d, g1] => { results := [.lit (.bool true)], args := [d], vars := [g1] }
  | _ => none }
def fnExactAddressValidRow : OpenClaim := { program := "ytepjnahliojnjaadoor", sum := "4b0c2c1565f4f68d0dd6aee7035ae1c88409db56c2065e541d5f9e81e02b653d", func := "loop.example/mailwire/laws.FnExactAddressValid", spec := "fnExactAddressValid", inPlace := ["internal/bytealg.CountString", "internal/bytealg.IndexByteString", "internal/bytealg.IndexString"], unfollowed := true, recurses := true, named := ["unicode/utf8.first", "unicode/utf8.acceptRanges", "internal/bytealg.MaxLen", "loop.example/mailwire/impl.atomMarks"], apart := false, laid := [("unicode/utf8.acceptRanges", laid_unicode_utf8_acceptRanges), ("loop.example/mailwire/impl.atomMarks", laid_loop_example_mailwire_impl_atomMarks), ("unicode/utf8.first", laid_unicode_utf8_first)] }
def FnExactAddressValidSaid : Prop := fnExactAddressValidRow.holds Tryd.pinned (OpenSpec.ofChange fnExactAddressValidSpec)

/-- ITS FALSE NEIGHBOUR: 'it returns false'. Refute it at one input. -/
def fnExactAddressValidWrong : ChangeSpec := { name := "fnExactAddressValid", vars := ["loop.example/mailwire/impl.atomMarks"], fn := fun _ => fun
  | [d, g1] => { results := [.lit (.bool false)], args := [d], vars := [g1] }
  | _ => none }
def FnExactAddressValidWrongFalsely : Prop := fnExactAddressValidRow.holds Tryd.pinned (OpenSpec.ofChange fnExactAddressValidWrong)

/-- 'laws.FnExactFormatAddress': WHATEVER THE INPUT: true; the input reads as it did. -/
def fnExactFormatAddressSpec : ChangeSpec := { name := "fnExactFormatAddress", vars := ["loop.example/mailwire/impl.atomMarks"], fn := fun _ => fun
  | [d, g1] => { results := [.lit (.bool true)], args := [d], vars := [g1] }
  | _ => none }
def fnExactFormatAddressRow : OpenClaim := { program := "ytepjnahliojnjaadoor", sum := "4b0c2c1565f4f68d0dd6aee7035ae1c88409db56c2065e541d5f9e81e02b653d", func := "loop.example/mailwire/laws.FnExactFormatAddress", spec := "fnExactFormatAddress", inPlace := ["internal/bytealg.CountString", "internal/bytealg.IndexByteString", "internal/bytealg.IndexString", "internal/abi.NoEscape"], unfollowed := true, recurses := true, named := ["unicode/utf8.first", "unicode/utf8.acceptRanges", "internal/bytealg.MaxLen", "loop.example/mailwire/impl.atomMarks"], apart := false, laid := [("unicode/utf8.acceptRanges", laid_unicode_utf8_acceptRanges), ("loop.example/mailwire/impl.atomMarks", laid_loop_example_mailwire_impl_atomMarks), ("unicode/utf8.first", laid_unicode_utf8_first)] }
def FnExactFormatAddressSaid : Prop := fnExactFormatAddressRow.holds Tryd.pinned (OpenSpec.ofChange fnExactFormatAddressSpec)

/-- ITS FALSE NEIGHBOUR: 'it returns false'. Refute it at one input. -/
def fnExactFormatAddressWrong : ChangeSpec := { name := "fnExactFormatAddress", vars := ["loop.example/mailwire/impl.atomMarks"], fn := fun _ => fun
  | [d, g1] => { results := [.lit (.bool false)], args := [d], vars := [g1] }
  | _ => none }
def FnExactFormatAddressWrongFalsely : Prop := fnExactFormatAddressRow.holds Tryd.pinned (OpenSpec.ofChange fnExactFormatAddressWrong)

/-- 'laws.FnExactParseAddress': WHATEVER THE INPUT: true; the input reads as it did. -/
def fnExactParseAddressSpec : ChangeSpec := { name := "fnExactParseAddress", vars := ["loop.example/mailwire/impl.atomMarks"], fn := fun _ => fun
  | [d, g1] => { results := [.lit (.bool true)], args := [d], vars := [g1] }
  | _ => none }
def fnExactParseAddressRow : OpenClaim := { program := "ytepjnahliojnjaadoor", sum := "4b0c2c1565f4f68d0dd6aee7035ae1c88409db56c2065e541d5f9e81e02b653d", func := "loop.example/mailwire/laws.FnExactParseAddress", spec := "fnExactParseAddress", inPlace := ["internal/bytealg.IndexByteString", "internal/bytealg.IndexString", "internal/abi.NoEscape", "internal/bytealg.MakeNoZero", "internal/bytealg.CountString"], unfollowed := true, recurses := true, named := ["unicode/utf8.first", "unicode/utf8.acceptRanges", "loop.example/mailwire/impl.atomMarks", "internal/bytealg.MaxLen"], apart := false, laid := [("unicode/utf8.acceptRanges", laid_unicode_utf8_acceptRanges), ("loop.example/mailwire/impl.atomMarks", laid_loop_example_mailwire_impl_atomMarks), ("unicode/utf8.first", laid_unicode_utf8_first)] }
def FnExactParseAddressSaid : Prop := fnExactParseAddressRow.holds Tryd.pinned (OpenSpec.ofChange fnExactParseAddressSpec)

/-- ITS FALSE NEIGHBOUR: 'it returns false'. Refute it at one input. -/
def fnExactParseAddressWrong : ChangeSpec := { name := "fnExactParseAddress", vars := ["loop.example/mailwire/impl.atomMarks"], fn := fun _ => fun
  | [d, g1] => { results := [.lit (.bool false)], args := [d], vars := [g1] }
  | _ => none }
def FnExactParseAddressWrongFalsely : Prop := fnExactParseAddressRow.holds Tryd.pinned (OpenSpec.ofChange fnExactParseAddressWrong)

/-- 'laws.FnExactFormatList': WHATEVER THE INPUT: true; the input reads as it did. -/
def fnExactFormatListSpec : ChangeSpec := { name := "fnExactFormatList", vars := ["loop.example/mailwire/impl.atomMarks"], fn := fun _ => fun
  | [d, g1] => { results := [.lit (.bool true)], args := [d], vars := [g1] }
  | _ => none }
def fnExactFormatListRow : OpenClaim := { program := "ytepjnahliojnjaadoor", sum := "4b0c2c1565f4f68d0dd6aee7035ae1c88409db56c2065e541d5f9e81e02b653d", func := "loop.example/mailwire/laws.FnExactFormatList", spec := "fnExactFormatList", inPlace := ["internal/bytealg.CountString", "internal/bytealg.IndexByteString", "internal/bytealg.IndexString", "internal/abi.NoEscape", "internal/bytealg.MakeNoZero"], unfollowed := true, recurses := true, named := ["unicode/utf8.first", "unicode/utf8.acceptRanges", "internal/bytealg.MaxLen", "loop.example/mailwire/impl.atomMarks"], apart := false, laid := [("unicode/utf8.acceptRanges", laid_unicode_utf8_acceptRanges), ("loop.example/mailwire/impl.atomMarks", laid_loop_example_mailwire_impl_atomMarks), ("unicode/utf8.first", laid_unicode_utf8_first)] }
def FnExactFormatListSaid : Prop := fnExactFormatListRow.holds Tryd.pinned (OpenSpec.ofChange fnExactFormatListSpec)

/-- ITS FALSE NEIGHBOUR: 'it returns false'. Refute it at one input. -/
def fnExactFormatListWrong : ChangeSpec := { name := "fnExactFormatList", vars := ["loop.example/mailwire/impl.atomMarks"], fn := fun _ => fun
  | [d, g1] => { results := [.lit (.bool false)], args := [d], vars := [g1] }
  | _ => none }
def FnExactFormatListWrongFalsely : Prop := fnExactFormatListRow.holds Tryd.pinned (OpenSpec.ofChange fnExactFormatListWrong)

/-- 'laws.FnExactParseList': WHATEVER THE INPUT: true; the input reads as it did. -/
def fnExactParseListSpec : ChangeSpec := { name := "fnExactParseList", vars := ["loop.example/mailwire/impl.atomMarks"], fn := fun _ => fun
  | [d, g1] => { results := [.lit (.bool true)], args := [d], vars := [g1] }
  | _ => none }
def fnExactParseListRow : OpenClaim := { program := "ytepjnahliojnjaadoor", sum := "4b0c2c1565f4f68d0dd6aee7035ae1c88409db56c2065e541d5f9e81e02b653d", func := "loop.example/mailwire/laws.FnExactParseList", spec := "fnExactParseList", inPlace := ["internal/abi.NoEscape", "internal/bytealg.IndexByteString", "internal/bytealg.IndexString", "internal/bytealg.MakeNoZero", "internal/bytealg.CountString"], unfollowed := true, recurses := true, named := ["unicode/utf8.first", "unicode/utf8.acceptRanges", "loop.example/mailwire/impl.atomMarks", "internal/bytealg.MaxLen"], apart := false, laid := [("unicode/utf8.acceptRanges", laid_unicode_utf8_acceptRanges), ("loop.example/mailwire/impl.atomMarks", laid_loop_example_mailwire_impl_atomMarks), ("unicode/utf8.first", laid_unicode_utf8_first)] }
def FnExactParseListSaid : Prop := fnExactParseListRow.holds Tryd.pinned (OpenSpec.ofChange fnExactParseListSpec)

/-- ITS FALSE NEIGHBOUR: 'it returns false'. Refute it at one input. -/
def fnExactParseListWrong : ChangeSpec := { name := "fnExactParseList", vars := ["loop.example/mailwire/impl.atomMarks"], fn := fun _ => fun
  | [d, g1] => { results := [.lit (.bool false)], args := [d], vars := [g1] }
  | _ => none }
def FnExactParseListWrongFalsely : Prop := fnExactParseListRow.holds Tryd.pinned (OpenSpec.ofChange fnExactParseListWrong)

/- THE SECOND FORM. 'bulk': how many values and letters a reading holds, each counted each time it is reached (what is shared counts as often as it is met; a slice's spare places count too). A statement '..UptoSaid' is the law's where the arguments, and the package variables that the reading takes, are together of bulk at most 1048576: NARROWER than '..Said'. Prove '..Said' where nothing that the law and all that it calls make is longer than what came in: it says more and counts as full. Else prove '..UptoSaid'. A law counts once. -/
mutual
def uptoBulk {H : Type} : DataW H → Nat
  | .lit (.string bytes) => bytes.length + 1
  | .lit _ => 1
  | .nil => 1
  | .ptr d => uptoBulk d + 1
  | .slice elems spare => uptoBulkAll elems + uptoBulkAll spare + 1
  | .agg parts => uptoBulkAll parts + 1
  | .iface _ d => uptoBulk d + 1
  | .map entries => uptoBulkEntries entries + 1
  | .held _ => 1
def uptoBulkAll {H : Type} : List (DataW H) → Nat
  | [] => 0
  | d :: r => uptoBulk d + uptoBulkAll r
def uptoBulkEntries {H : Type} : List (Lit × DataW H) → Nat
  | [] => 0
  | x :: r => uptoBulkEntry x + uptoBulkEntries r
def uptoBulkEntry {H : Type} : Lit × DataW H → Nat
  | (.string bytes, d) => bytes.length + uptoBulk d + 1
  | (_, d) => uptoBulk d + 1
 end
def uptoSmall : (H : Type) → List (DataW H) → Bool := fun _ ds => decide (uptoBulkAll ds ≤ 1048576)
def OpenSpec.upto (s : _root_.Go.ChangeSpec) : _root_.Go.OpenSpec := { _root_.Go.OpenSpec.ofChange s with cond := some uptoSmall }

/-- 'laws.FnSplitTwo', WHERE WHAT IT READS IS OF BULK AT MOST 1048576: true; the input reads as it did. -/
def fnSplitTwoUptoRow : OpenClaim := { program := "ytepjnahliojnjaadoor", sum := "4b0c2c1565f4f68d0dd6aee7035ae1c88409db56c2065e541d5f9e81e02b653d", func := "loop.example/mailwire/laws.FnSplitTwo", spec := "fnSplitTwo", inPlace := ["internal/abi.NoEscape"], named := ["loop.example/mailwire/impl.atomMarks"], apart := false, laid := [("loop.example/mailwire/impl.atomMarks", laid_loop_example_mailwire_impl_atomMarks)], narrowed := true }
def FnSplitTwoUptoSaid : Prop := fnSplitTwoUptoRow.holds Tryd.pinned (OpenSpec.upto fnSplitTwoSpec)

/-- 'laws.FnAddressText', WHERE WHAT IT READS IS OF BULK AT MOST 1048576: true; the input reads as it did. -/
def fnAddressTextUptoRow : OpenClaim := { program := "ytepjnahliojnjaadoor", sum := "4b0c2c1565f4f68d0dd6aee7035ae1c88409db56c2065e541d5f9e81e02b653d", func := "loop.example/mailwire/laws.FnAddressText", spec := "fnAddressText", inPlace := ["internal/bytealg.CountString", "internal/bytealg.IndexByteString", "internal/bytealg.IndexString", "internal/abi.NoEscape", "internal/bytealg.MakeNoZero"], unfollowed := true, recurses := true, named := ["unicode/utf8.first", "unicode/utf8.acceptRanges", "internal/bytealg.MaxLen", "loop.example/mailwire/impl.atomMarks"], apart := false, laid := [("unicode/utf8.acceptRanges", laid_unicode_utf8_acceptRanges), ("loop.example/mailwire/impl.atomMarks", laid_loop_example_mailwire_impl_atomMarks), ("unicode/utf8.first", laid_unicode_utf8_first)], narrowed := true }
def FnAddressTextUptoSaid : Prop := fnAddressTextUptoRow.holds Tryd.pinned (OpenSpec.upto fnAddressTextSpec)

/-- 'laws.FnParseAddress', WHERE WHAT IT READS IS OF BULK AT MOST 1048576: true; the input reads as it did. -/
def fnParseAddressUptoRow : OpenClaim := { program := "ytepjnahliojnjaadoor", sum := "4b0c2c1565f4f68d0dd6aee7035ae1c88409db56c2065e541d5f9e81e02b653d", func := "loop.example/mailwire/laws.FnParseAddress", spec := "fnParseAddress", inPlace := ["internal/bytealg.IndexByteString", "internal/bytealg.IndexString", "internal/abi.NoEscape", "internal/bytealg.MakeNoZero", "internal/bytealg.CountString"], unfollowed := true, recurses := true, named := ["unicode/utf8.first", "unicode/utf8.acceptRanges", "loop.example/mailwire/impl.atomMarks", "internal/bytealg.MaxLen"], apart := false, laid := [("unicode/utf8.acceptRanges", laid_unicode_utf8_acceptRanges), ("loop.example/mailwire/impl.atomMarks", laid_loop_example_mailwire_impl_atomMarks), ("unicode/utf8.first", laid_unicode_utf8_first)], narrowed := true }
def FnParseAddressUptoSaid : Prop := fnParseAddressUptoRow.holds Tryd.pinned (OpenSpec.upto fnParseAddressSpec)

/-- 'laws.FnAddressName', WHERE WHAT IT READS IS OF BULK AT MOST 1048576: true; the input reads as it did. -/
def fnAddressNameUptoRow : OpenClaim := { program := "ytepjnahliojnjaadoor", sum := "4b0c2c1565f4f68d0dd6aee7035ae1c88409db56c2065e541d5f9e81e02b653d", func := "loop.example/mailwire/laws.FnAddressName", spec := "fnAddressName", inPlace := ["internal/bytealg.CountString", "internal/bytealg.IndexByteString", "internal/bytealg.IndexString", "internal/abi.NoEscape"], unfollowed := true, recurses := true, named := ["unicode/utf8.first", "unicode/utf8.acceptRanges", "internal/bytealg.MaxLen", "loop.example/mailwire/impl.atomMarks"], apart := false, laid := [("unicode/utf8.acceptRanges", laid_unicode_utf8_acceptRanges), ("loop.example/mailwire/impl.atomMarks", laid_loop_example_mailwire_impl_atomMarks), ("unicode/utf8.first", laid_unicode_utf8_first)], narrowed := true }
def FnAddressNameUptoSaid : Prop := fnAddressNameUptoRow.holds Tryd.pinned (OpenSpec.upto fnAddressNameSpec)

/-- 'laws.FnAddressCapital', WHERE WHAT IT READS IS OF BULK AT MOST 1048576: true; the input reads as it did. -/
def fnAddressCapitalUptoRow : OpenClaim := { program := "ytepjnahliojnjaadoor", sum := "4b0c2c1565f4f68d0dd6aee7035ae1c88409db56c2065e541d5f9e81e02b653d", func := "loop.example/mailwire/laws.FnAddressCapital", spec := "fnAddressCapital", inPlace := ["internal/bytealg.IndexByteString", "internal/bytealg.IndexString", "internal/abi.NoEscape", "internal/bytealg.MakeNoZero", "internal/bytealg.CountString"], unfollowed := true, recurses := true, named := ["unicode/utf8.first", "unicode/utf8.acceptRanges", "loop.example/mailwire/impl.atomMarks", "internal/bytealg.MaxLen"], apart := false, laid := [("unicode/utf8.acceptRanges", laid_unicode_utf8_acceptRanges), ("loop.example/mailwire/impl.atomMarks", laid_loop_example_mailwire_impl_atomMarks), ("unicode/utf8.first", laid_unicode_utf8_first)], narrowed := true }
def FnAddressCapitalUptoSaid : Prop := fnAddressCapitalUptoRow.holds Tryd.pinned (OpenSpec.upto fnAddressCapitalSpec)

/-- 'laws.FnListOne', WHERE WHAT IT READS IS OF BULK AT MOST 1048576: true; the input reads as it did. -/
def fnListOneUptoRow : OpenClaim := { program := "ytepjnahliojnjaadoor", sum := "4b0c2c1565f4f68d0dd6aee7035ae1c88409db56c2065e541d5f9e81e02b653d", func := "loop.example/mailwire/laws.FnListOne", spec := "fnListOne", inPlace := ["internal/bytealg.IndexByteString", "internal/bytealg.IndexString", "internal/abi.NoEscape", "internal/bytealg.MakeNoZero", "internal/bytealg.CountString"], unfollowed := true, recurses := true, named := ["unicode/utf8.first", "unicode/utf8.acceptRanges", "loop.example/mailwire/impl.atomMarks", "internal/bytealg.MaxLen"], apart := false, laid := [("unicode/utf8.acceptRanges", laid_unicode_utf8_acceptRanges), ("loop.example/mailwire/impl.atomMarks", laid_loop_example_mailwire_impl_atomMarks), ("unicode/utf8.first", laid_unicode_utf8_first)], narrowed := true }
def FnListOneUptoSaid : Prop := fnListOneUptoRow.holds Tryd.pinned (OpenSpec.upto fnListOneSpec)

/-- 'laws.FnListParts', WHERE WHAT IT READS IS OF BULK AT MOST 1048576: true; the input reads as it did. -/
def fnListPartsUptoRow : OpenClaim := { program := "ytepjnahliojnjaadoor", sum := "4b0c2c1565f4f68d0dd6aee7035ae1c88409db56c2065e541d5f9e81e02b653d", func := "loop.example/mailwire/laws.FnListParts", spec := "fnListParts", inPlace := ["internal/bytealg.CountString", "internal/bytealg.IndexByteString", "internal/bytealg.IndexString", "internal/abi.NoEscape", "internal/bytealg.MakeNoZero"], unfollowed := true, recurses := true, named := ["unicode/utf8.first", "unicode/utf8.acceptRanges", "internal/bytealg.MaxLen", "loop.example/mailwire/impl.atomMarks"], apart := false, laid := [("unicode/utf8.acceptRanges", laid_unicode_utf8_acceptRanges), ("loop.example/mailwire/impl.atomMarks", laid_loop_example_mailwire_impl_atomMarks), ("unicode/utf8.first", laid_unicode_utf8_first)], narrowed := true }
def FnListPartsUptoSaid : Prop := fnListPartsUptoRow.holds Tryd.pinned (OpenSpec.upto fnListPartsSpec)

/-- 'laws.FnAddressValid', WHERE WHAT IT READS IS OF BULK AT MOST 1048576: true; the input reads as it did. -/
def fnAddressValidUptoRow : OpenClaim := { program := "ytepjnahliojnjaadoor", sum := "4b0c2c1565f4f68d0dd6aee7035ae1c88409db56c2065e541d5f9e81e02b653d", func := "loop.example/mailwire/laws.FnAddressValid", spec := "fnAddressValid", inPlace := ["internal/bytealg.CountString", "internal/bytealg.IndexByteString", "internal/bytealg.IndexString", "internal/abi.NoEscape"], unfollowed := true, recurses := true, named := ["unicode/utf8.first", "unicode/utf8.acceptRanges", "internal/bytealg.MaxLen", "loop.example/mailwire/impl.atomMarks"], apart := false, laid := [("unicode/utf8.acceptRanges", laid_unicode_utf8_acceptRanges), ("loop.example/mailwire/impl.atomMarks", laid_loop_example_mailwire_impl_atomMarks), ("unicode/utf8.first", laid_unicode_utf8_first)], narrowed := true }
def FnAddressValidUptoSaid : Prop := fnAddressValidUptoRow.holds Tryd.pinned (OpenSpec.upto fnAddressValidSpec)

/-- 'laws.FnExactAddressValid', WHERE WHAT IT READS IS OF BULK AT MOST 1048576: true; the input reads as it did. -/
def fnExactAddressValidUptoRow : OpenClaim := { program := "ytepjnahliojnjaadoor", sum := "4b0c2c1565f4f68d0dd6aee7035ae1c88409db56c2065e541d5f9e81e02b653d", func := "loop.example/mailwire/laws.FnExactAddressValid", spec := "fnExactAddressValid", inPlace := ["internal/bytealg.CountString", "internal/bytealg.IndexByteString", "internal/bytealg.IndexString"], unfollowed := true, recurses := true, named := ["unicode/utf8.first", "unicode/utf8.acceptRanges", "internal/bytealg.MaxLen", "loop.example/mailwire/impl.atomMarks"], apart := false, laid := [("unicode/utf8.acceptRanges", laid_unicode_utf8_acceptRanges), ("loop.example/mailwire/impl.atomMarks", laid_loop_example_mailwire_impl_atomMarks), ("unicode/utf8.first", laid_unicode_utf8_first)], narrowed := true }
def FnExactAddressValidUptoSaid : Prop := fnExactAddressValidUptoRow.holds Tryd.pinned (OpenSpec.upto fnExactAddressValidSpec)

/-- 'laws.FnExactFormatAddress', WHERE WHAT IT READS IS OF BULK AT MOST 1048576: true; the input reads as it did. -/
def fnExactFormatAddressUptoRow : OpenClaim := { program := "ytepjnahliojnjaadoor", sum := "4b0c2c1565f4f68d0dd6aee7035ae1c88409db56c2065e541d5f9e81e02b653d", func := "loop.example/mailwire/laws.FnExactFormatAddress", spec := "fnExactFormatAddress", inPlace := ["internal/bytealg.CountString", "internal/bytealg.IndexByteString", "internal/bytealg.IndexString", "internal/abi.NoEscape"], unfollowed := true, recurses := true, named := ["unicode/utf8.first", "unicode/utf8.acceptRanges", "internal/bytealg.MaxLen", "loop.example/mailwire/impl.atomMarks"], apart := false, laid := [("unicode/utf8.acceptRanges", laid_unicode_utf8_acceptRanges), ("loop.example/mailwire/impl.atomMarks", laid_loop_example_mailwire_impl_atomMarks), ("unicode/utf8.first", laid_unicode_utf8_first)], narrowed := true }
def FnExactFormatAddressUptoSaid : Prop := fnExactFormatAddressUptoRow.holds Tryd.pinned (OpenSpec.upto fnExactFormatAddressSpec)

/-- 'laws.FnExactParseAddress', WHERE WHAT IT READS IS OF BULK AT MOST 1048576: true; the input reads as it did. -/
def fnExactParseAddressUptoRow : OpenClaim := { program := "ytepjnahliojnjaadoor", sum := "4b0c2c1565f4f68d0dd6aee7035ae1c88409db56c2065e541d5f9e81e02b653d", func := "loop.example/mailwire/laws.FnExactParseAddress", spec := "fnExactParseAddress", inPlace := ["internal/bytealg.IndexByteString", "internal/bytealg.IndexString", "internal/abi.NoEscape", "internal/bytealg.MakeNoZero", "internal/bytealg.CountString"], unfollowed := true, recurses := true, named := ["unicode/utf8.first", "unicode/utf8.acceptRanges", "loop.example/mailwire/impl.atomMarks", "internal/bytealg.MaxLen"], apart := false, laid := [("unicode/utf8.acceptRanges", laid_unicode_utf8_acceptRanges), ("loop.example/mailwire/impl.atomMarks", laid_loop_example_mailwire_impl_atomMarks), ("unicode/utf8.first", laid_unicode_utf8_first)], narrowed := true }
def FnExactParseAddressUptoSaid : Prop := fnExactParseAddressUptoRow.holds Tryd.pinned (OpenSpec.upto fnExactParseAddressSpec)

/-- 'laws.FnExactFormatList', WHERE WHAT IT READS IS OF BULK AT MOST 1048576: true; the input reads as it did. -/
def fnExactFormatListUptoRow : OpenClaim := { program := "ytepjnahliojnjaadoor", sum := "4b0c2c1565f4f68d0dd6aee7035ae1c88409db56c2065e541d5f9e81e02b653d", func := "loop.example/mailwire/laws.FnExactFormatList", spec := "fnExactFormatList", inPlace := ["internal/bytealg.CountString", "internal/bytealg.IndexByteString", "internal/bytealg.IndexString", "internal/abi.NoEscape", "internal/bytealg.MakeNoZero"], unfollowed := true, recurses := true, named := ["unicode/utf8.first", "unicode/utf8.acceptRanges", "internal/bytealg.MaxLen", "loop.example/mailwire/impl.atomMarks"], apart := false, laid := [("unicode/utf8.acceptRanges", laid_unicode_utf8_acceptRanges), ("loop.example/mailwire/impl.atomMarks", laid_loop_example_mailwire_impl_atomMarks), ("unicode/utf8.first", laid_unicode_utf8_first)], narrowed := true }
def FnExactFormatListUptoSaid : Prop := fnExactFormatListUptoRow.holds Tryd.pinned (OpenSpec.upto fnExactFormatListSpec)

/-- 'laws.FnExactParseList', WHERE WHAT IT READS IS OF BULK AT MOST 1048576: true; the input reads as it did. -/
def fnExactParseListUptoRow : OpenClaim := { program := "ytepjnahliojnjaadoor", sum := "4b0c2c1565f4f68d0dd6aee7035ae1c88409db56c2065e541d5f9e81e02b653d", func := "loop.example/mailwire/laws.FnExactParseList", spec := "fnExactParseList", inPlace := ["internal/abi.NoEscape", "internal/bytealg.IndexByteString", "internal/bytealg.IndexString", "internal/bytealg.MakeNoZero", "internal/bytealg.CountString"], unfollowed := true, recurses := true, named := ["unicode/utf8.first", "unicode/utf8.acceptRanges", "loop.example/mailwire/impl.atomMarks", "internal/bytealg.MaxLen"], apart := false, laid := [("unicode/utf8.acceptRanges", laid_unicode_utf8_acceptRanges), ("loop.example/mailwire/impl.atomMarks", laid_loop_example_mailwire_impl_atomMarks), ("unicode/utf8.first", laid_unicode_utf8_first)], narrowed := true }
def FnExactParseListUptoSaid : Prop := fnExactParseListUptoRow.holds Tryd.pinned (OpenSpec.upto fnExactParseListSpec)

end Rows
end Go.Proofs.YtepjnahliojnjaaDoor
