/-
  NARROWER THAN 'FOR EVERY INPUT', by the rows' own cells (each row's printed sentence says how): FnExactSplitWords: laid · FnExactJoinWords: laid · FnQuotedBytes: laid · FnBestCode: laid · FnEncodeBytes: laid · FnDecodeBytes: laid · FnBestAll: laid.
  DERIVED. THE GIVEN ROWS OF THIS SEAT. 7 by the template 'for every input the law returns true; each argument reads behind the call as it read before'; 0 by the template 'total and deterministic' (their statements: YtjnpkmenlecdmabDoorTotals.lean).
  GIVEN WITH THE SEED: the statements are not yours to turn. If you find one false, say at which input.
  Laid BY PROGRAM, IN A SANDBOX (cutbox-rows.mjs): the forced cells as the released guide's own fill.sh prints them over the translation 7cdceb161aa09e63… (all of the seat's roots in one cut). By AI agents, Wed Nov 11 2026. No macro, syntax, notation, axiom, sorry.
-/
import Derived.Test.YtjnpkmenlecdmabDoorChecked
import GoSem.PinnedTables
import GoSem.Claim
import GoSem.ClaimJoined
import GoSem.ClaimMapViews
import Derived.JoinedTies
import Derived.KernelRfl
namespace Go.Proofs.YtjnpkmenlecdmabDoor
/- THE CELL 'sum', in the pinned program and in every row, IS THE sha256 OF THE DUMP (.gsa) THAT YtjnpkmenlecdmabDoorProg.lean LOADS. Nothing in Lean hashes anything: it is a label: what it is worth is what the hold of that sum in a sandbox is worth. -/
noncomputable def Tryd.pinned : Pinned := { name := "ytjnpkmenlecdmabdoor", sum := "7cdceb161aa09e633590a426050df7107cffa63756d9e61e63dcbffe426e56de", checked := Tryd.checked }
namespace Rows
def none {H : Type} : Left H := { results := [], args := [] }

/- WHAT THE LISTED PACKAGE-LEVEL VARIABLES READ AS WHEN THE CALL BEGINS. Each datum BY PROGRAM (the guide's laid-datum.mjs) off the statement by which the dump's own 'gosem.cut.vars' lays the variable. In a bare row this is a premise. The card (YtjnpkmenlecdmabDoorCards.lean) ties it to the program's text. -/
def laid_loop_example_mailwire_impl_atomMarks {H : Type} : DataW H := .agg [.agg [.lit (.int .u8 33), .lit (.int .u8 33)], .agg [.lit (.int .u8 35), .lit (.int .u8 39)], .agg [.lit (.int .u8 42), .lit (.int .u8 43)], .agg [.lit (.int .u8 45), .lit (.int .u8 45)], .agg [.lit (.int .u8 47), .lit (.int .u8 47)], .agg [.lit (.int .u8 61), .lit (.int .u8 61)], .agg [.lit (.int .u8 63), .lit (.int .u8 63)], .agg [.lit (.int .u8 94), .lit (.int .u8 96)], .agg [.lit (.int .u8 123), .lit (.int .u8 126)]]
def laid_unicode_utf8_acceptRanges {H : Type} : DataW H := .agg [.agg [.lit (.int .u8 128), .lit (.int .u8 191)], .agg [.lit (.int .u8 160), .lit (.int .u8 191)], .agg [.lit (.int .u8 128), .lit (.int .u8 159)], .agg [.lit (.int .u8 144), .lit (.int .u8 191)], .agg [.lit (.int .u8 128), .lit (.int .u8 143)], .agg [.lit (.int .u8 0), .lit (.int .u8 0)], .agg [.lit (.int .u8 0), .lit (.int .u8 0)], .agg [.lit (.int .u8 0), .lit (.int .u8 0)], .agg [.lit (.int .u8 0), .lit (.int .u8 0)], .agg [.lit (.int .u8 0), .lit (.int .u8 0)], .agg [.lit (.int .u8 0), .lit (.int .u8 0)], .agg [.lit (.int .u8 0), .lit (.int .u8 0)], .agg [.lit (.int .u8 0), .lit (.int .u8 0)], .agg [.lit (.int .u8 0), .lit (.int .u8 0)], .agg [.lit (.int .u8 0), .lit (.int .u8 0)], .agg [.lit (.int .u8 0), .lit (.int .u8 0)]]
/-- One of Go's own tables, pinned by name: the form's constant. -/
def laid_unicode_utf8_first : DataW Unit := Go.Pinned.utf8First

/-- 'laws.FnExactSplitWords': WHATEVER THE INPUT: true; the input reads as it did. -/
def fnExactSplitWordsSpec : ChangeSpec := { name := "fnExactSplitWords", vars := ["loop.example/mailwire/impl.atomMarks"], fn := fun _ => fun
  | [d, g1] => { results := [.lit (.bool true)], args := [d], vars := [g1] }
  | _ => none }
def fnExactSplitWordsRow : OpenClaim := { program := "ytjnpkmenlecdmabdoor", sum := "7cdceb161aa09e633590a426050df7107cffa63756d9e61e63dcbffe426e56de", func := "loop.example/mailwire/laws.FnExactSplitWords", spec := "fnExactSplitWords", inPlace := ["internal/abi.NoEscape"], named := ["loop.example/mailwire/impl.atomMarks"], apart := false, laid := [("loop.example/mailwire/impl.atomMarks", laid_loop_example_mailwire_impl_atomMarks)] }
def FnExactSplitWordsSaid : Prop := fnExactSplitWordsRow.holds Tryd.pinned (OpenSpec.ofChange fnExactSplitWordsSpec)

/-- ITS FALSE NEIGHBOUR: 'it returns false'. Refute it at one input. -/
def fnExactSplitWordsWrong : ChangeSpec := { name := "fnExactSplitWords", vars := ["loop.example/mailwire/impl.atomMarks"], fn := fun _ => fun
  | [d, g1] => { results := [.lit (.bool false)], args := [d], vars := [g1] }
  | _ => none }
def FnExactSplitWordsWrongFalsely : Prop := fnExactSplitWordsRow.holds Tryd.pinned (OpenSpec.ofChange fnExactSplitWordsWrong)

/-- 'laws.FnExactJoinWords': WHATEVER THE INPUT: true; the input reads as it did. -/
def fnExactJoinWordsSpec : ChangeSpec := { name := "fnExactJoinWords", vars := ["loop.example/mailwire/impl.atomMarks"], fn := fun _ => fun
  | [d, g1] => { results := [.lit (.bool true)], args := [d], vars := [g1] }
  | _ => none }
def fnExactJoinWordsRow : OpenClaim := { program := "ytjnpkmenlecdmabdoor", sum := "7cdceb161aa09e633590a426050df7107cffa63756d9e61e63dcbffe426e56de", func := "loop.example/mailwire/laws.FnExactJoinWords", spec := "fnExactJoinWords", inPlace := ["internal/abi.NoEscape"], named := ["loop.example/mailwire/impl.atomMarks"], apart := false, laid := [("loop.example/mailwire/impl.atomMarks", laid_loop_example_mailwire_impl_atomMarks)] }
def FnExactJoinWordsSaid : Prop := fnExactJoinWordsRow.holds Tryd.pinned (OpenSpec.ofChange fnExactJoinWordsSpec)

/-- ITS FALSE NEIGHBOUR: 'it returns false'. Refute it at one input. -/
def fnExactJoinWordsWrong : ChangeSpec := { name := "fnExactJoinWords", vars := ["loop.example/mailwire/impl.atomMarks"], fn := fun _ => fun
  | [d, g1] => { results := [.lit (.bool false)], args := [d], vars := [g1] }
  | _ => none }
def FnExactJoinWordsWrongFalsely : Prop := fnExactJoinWordsRow.holds Tryd.pinned (OpenSpec.ofChange fnExactJoinWordsWrong)

/-- 'laws.FnQuotedBytes': WHATEVER THE INPUT: true; the input reads as it did. -/
def fnQuotedBytesSpec : ChangeSpec := { name := "fnQuotedBytes", fn := fun _ => fun
  | [d1, d2] => { results := [.lit (.bool true)], args := [d1, d2] }
  | _ => none }
def fnQuotedBytesRow : OpenClaim := { program := "ytjnpkmenlecdmabdoor", sum := "7cdceb161aa09e633590a426050df7107cffa63756d9e61e63dcbffe426e56de", func := "loop.example/mailwire/laws.FnQuotedBytes", spec := "fnQuotedBytes", inPlace := ["internal/bytealg.CountString", "internal/bytealg.IndexByteString", "internal/bytealg.IndexString", "internal/abi.NoEscape"], named := ["unicode/utf8.first", "unicode/utf8.acceptRanges", "internal/bytealg.MaxLen"], apart := false, laid := [("unicode/utf8.acceptRanges", laid_unicode_utf8_acceptRanges), ("unicode/utf8.first", laid_unicode_utf8_first)] }
def FnQuotedBytesSaid : Prop := fnQuotedBytesRow.holds Tryd.pinned (OpenSpec.ofChange fnQuotedBytesSpec)

/-- ITS FALSE NEIGHBOUR: 'it returns false'. Refute it at one input. -/
def fnQuotedBytesWrong : ChangeSpec := { name := "fnQuotedBytes", fn := fun _ => fun
  | [d1, d2] => { results := [.lit (.bool false)], args := [d1, d2] }
  | _ => none }
def FnQuotedBytesWrongFalsely : Prop := fnQuotedBytesRow.holds Tryd.pinned (OpenSpec.ofChange fnQuotedBytesWrong)

/-- 'laws.FnBestCode': WHATEVER THE INPUT: true; the input reads as it did. -/
def fnBestCodeSpec : ChangeSpec := { name := "fnBestCode", fn := fun _ => fun
  | [d] => { results := [.lit (.bool true)], args := [d] }
  | _ => none }
def fnBestCodeRow : OpenClaim := { program := "ytjnpkmenlecdmabdoor", sum := "7cdceb161aa09e633590a426050df7107cffa63756d9e61e63dcbffe426e56de", func := "loop.example/mailwire/laws.FnBestCode", spec := "fnBestCode", inPlace := ["internal/bytealg.CountString", "internal/bytealg.IndexByteString", "internal/bytealg.IndexString", "internal/abi.NoEscape", "internal/bytealg.MakeNoZero"], named := ["unicode/utf8.first", "unicode/utf8.acceptRanges", "internal/bytealg.MaxLen"], apart := false, laid := [("unicode/utf8.acceptRanges", laid_unicode_utf8_acceptRanges), ("unicode/utf8.first", laid_unicode_utf8_first)] }
def FnBestCodeSaid : Prop := fnBestCodeRow.holds Tryd.pinned (OpenSpec.ofChange fnBestCodeSpec)

/-- ITS FALSE NEIGHBOUR: 'it returns false'. Refute it at one input. -/
def fnBestCodeWrong : ChangeSpec := { name := "fnBestCode", fn := fun _ => fun
  | [d] => { results := [.lit (.bool false)], args := [d] }
  | _ => none }
def FnBestCodeWrongFalsely : Prop := fnBestCodeRow.holds Tryd.pinned (OpenSpec.ofChange fnBestCodeWrong)

/-- 'laws.FnEncodeBytes': WHATEVER THE INPUT: true; the input reads as it did. -/
def fnEncodeBytesSpec : ChangeSpec := { name := "fnEncodeBytes", fn := fun _ => fun
  | [d] => { results := [.lit (.bool true)], args := [d] }
  | _ => none }
def fnEncodeBytesRow : OpenClaim := { program := "ytjnpkmenlecdmabdoor", sum := "7cdceb161aa09e633590a426050df7107cffa63756d9e61e63dcbffe426e56de", func := "loop.example/mailwire/laws.FnEncodeBytes", spec := "fnEncodeBytes", inPlace := ["internal/bytealg.CountString", "internal/bytealg.IndexByteString", "internal/bytealg.IndexString", "internal/abi.NoEscape", "internal/bytealg.MakeNoZero"], named := ["unicode/utf8.first", "unicode/utf8.acceptRanges", "internal/bytealg.MaxLen"], apart := false, laid := [("unicode/utf8.acceptRanges", laid_unicode_utf8_acceptRanges), ("unicode/utf8.first", laid_unicode_utf8_first)] }
def FnEncodeBytesSaid : Prop := fnEncodeBytesRow.holds Tryd.pinned (OpenSpec.ofChange fnEncodeBytesSpec)

/-- ITS FALSE NEIGHBOUR: 'it returns false'. Refute it at one input. -/
def fnEncodeBytesWrong : ChangeSpec := { name := "fnEncodeBytes", fn := fun _ => fun
  | [d] => { results := [.lit (.bool false)], args := [d] }
  | _ => none }
def FnEncodeBytesWrongFalsely : Prop := fnEncodeBytesRow.holds Tryd.pinned (OpenSpec.ofChange fnEncodeBytesWrong)

/-- 'laws.FnDecodeBytes': WHATEVER THE INPUT: true; the input reads as it did. -/
def fnDecodeBytesSpec : ChangeSpec := { name := "fnDecodeBytes", fn := fun _ => fun
  | [d] => { results := [.lit (.bool true)], args := [d] }
  | _ => none }
def fnDecodeBytesRow : OpenClaim := { program := "ytjnpkmenlecdmabdoor", sum := "7cdceb161aa09e633590a426050df7107cffa63756d9e61e63dcbffe426e56de", func := "loop.example/mailwire/laws.FnDecodeBytes", spec := "fnDecodeBytes", inPlace := ["internal/abi.NoEscape", "internal/bytealg.MakeNoZero", "internal/bytealg.IndexByteString", "internal/bytealg.CountString", "internal/bytealg.IndexString"], named := ["unicode/utf8.first", "unicode/utf8.acceptRanges", "internal/bytealg.MaxLen"], apart := false, laid := [("unicode/utf8.acceptRanges", laid_unicode_utf8_acceptRanges), ("unicode/utf8.first", laid_unicode_utf8_first)] }
def FnDecodeBytesSaid : Prop := fnDecodeBytesRow.holds Tryd.pinned (OpenSpec.ofChange fnDecodeBytesSpec)

/-- ITS FALSE NEIGHBOUR: 'it returns false'. Refute it at one input. -/
def fnDecodeBytesWrong : ChangeSpec := { name := "fnDecodeBytes", fn := fun _ => fun
  | [d] => { results := [.lit (.bool false)], args := [d] }
  | _ => none }
def FnDecodeBytesWrongFalsely : Prop := fnDecodeBytesRow.holds Tryd.pinned (OpenSpec.ofChange fnDecodeBytesWrong)

/-- 'laws.FnBestAll': WHATEVER THE INPUT: true; the input reads as it did. -/
def fnBestAllSpec : ChangeSpec := { name := "fnBestAll", fn := fun _ => fun
  | [d] => { results := [.lit (.bool true)], args := [d] }
  | _ => none }
def fnBestAllRow : OpenClaim := { program := "ytjnpkmenlecdmabdoor", sum := "7cdceb161aa09e633590a426050df7107cffa63756d9e61e63dcbffe426e56de", func := "loop.example/mailwire/laws.FnBestAll", spec := "fnBestAll", inPlace := ["internal/bytealg.CountString", "internal/bytealg.IndexByteString", "internal/bytealg.IndexString", "internal/abi.NoEscape", "internal/bytealg.MakeNoZero"], named := ["unicode/utf8.first", "unicode/utf8.acceptRanges", "internal/bytealg.MaxLen"], apart := false, laid := [("unicode/utf8.acceptRanges", laid_unicode_utf8_acceptRanges), ("unicode/utf8.first", laid_unicode_utf8_first)] }
def FnBestAllSaid : Prop := fnBestAllRow.holds Tryd.pinned (OpenSpec.ofChange fnBestAllSpec)

/-- ITS FALSE NEIGHBOUR: 'it returns false'. Refute it at one input. -/
def fnBestAllWrong : ChangeSpec := { name := "fnBestAll", fn := fun _ => fun
  | [d] => { results := [.lit (.bool false)], args := [d] }
  | _ => none }
def FnBestAllWrongFalsely : Prop := fnBestAllRow.holds Tryd.pinned (OpenSpec.ofChange fnBestAllWrong)

/- THE SECOND FORM. 'bulk': how many values and letters a reading holds, each counted each time it is reached (what is shared counts as often as it is met; a slice's spare places count too). A statement '..UptoSaid' is the law's where the arguments, and the package variables that the reading takes, are together of bulk at most 1048576: NARROWER than '..Said'. Prove '..Said' where nothing that the law and all that it calls make is longer than what came in: it says more and counts as full. Else prove '..UptoSaid'. A law counts once. -/
mutual
def uptoBulk {H : Type} : DataW H → Nat
  | .lit (.string bytes) => bytes.length + 1
  | .lit _ => 1
  | .nil => 1
  | .ptr d => uptoBulk d + 1
  | .slice elems spare => uptoBulkAll elems + uptoBulkAll spare + 1
  | .agg parts => uptoBulkAll parts + 1
  | .iface _ d => uptoBulk d + 1
  | .map entries => uptoBulkEntries entries + 1
  | .held _ => 1
def uptoBulkAll {H : Type} : List (DataW H) → Nat
  | [] => 0
  | d :: r => uptoBulk d + uptoBulkAll r
def uptoBulkEntries {H : Type} : List (Lit × DataW H) → Nat
  | [] => 0
  | x :: r => uptoBulkEntry x + uptoBulkEntries r
def uptoBulkEntry {H : Type} : Lit × DataW H → Nat
  | (.string bytes, d) => bytes.length + uptoBulk d + 1
  | (_, d) => uptoBulk d + 1
 end
def uptoSmall : (H : Type) → List (DataW H) → Bool := fun _ ds => decide (uptoBulkAll ds ≤ 1048576)
def OpenSpec.upto (s : _root_.Go.ChangeSpec) : _root_.Go.OpenSpec := { _root_.Go.OpenSpec.ofChange s with cond := some uptoSmall }

/-- 'laws.FnExactSplitWords', WHERE WHAT IT READS IS OF BULK AT MOST 1048576: true; the input reads as it did. -/
def fnExactSplitWordsUptoRow : OpenClaim := { program := "ytjnpkmenlecdmabdoor", sum := "7cdceb161aa09e633590a426050df7107cffa63756d9e61e63dcbffe426e56de", func := "loop.example/mailwire/laws.FnExactSplitWords", spec := "fnExactSplitWords", inPlace := ["internal/abi.NoEscape"], named := ["loop.example/mailwire/impl.atomMarks"], apart := false, laid := [("loop.example/mailwire/impl.atomMarks", laid_loop_example_mailwire_impl_atomMarks)], narrowed := true }
def FnExactSplitWordsUptoSaid : Prop := fnExactSplitWordsUptoRow.holds Tryd.pinned (OpenSpec.upto fnExactSplitWordsSpec)

/-- 'laws.FnExactJoinWords', WHERE WHAT IT READS IS OF BULK AT MOST 1048576: true; the input reads as it did. -/
def fnExactJoinWordsUptoRow : OpenClaim := { program := "ytjnpkmenlecdmabdoor", sum := "7cdceb161aa09e633590a426050df7107cffa63756d9e61e63dcbffe426e56de", func := "loop.example/mailwire/laws.FnExactJoinWords", spec := "fnExactJoinWords", inPlace := ["internal/abi.NoEscape"], named := ["loop.example/mailwire/impl.atomMarks"], apart := false, laid := [("loop.example/mailwire/impl.atomMarks", laid_loop_example_mailwire_impl_atomMarks)], narrowed := true }
def FnExactJoinWordsUptoSaid : Prop := fnExactJoinWordsUptoRow.holds Tryd.pinned (OpenSpec.upto fnExactJoinWordsSpec)

/-- 'laws.FnQuotedBytes', WHERE WHAT IT READS IS OF BULK AT MOST 1048576: true; the input reads as it did. -/
def fnQuotedBytesUptoRow : OpenClaim := { program := "ytjnpkmenlecdmabdoor", sum := "7cdceb161aa09e633590a426050df7107cffa63756d9e61e63dcbffe426e56de", func := "loop.example/mailwire/laws.FnQuotedBytes", spec := "fnQuotedBytes", inPlace := ["internal/bytealg.CountString", "internal/bytealg.IndexByteString", "internal/bytealg.IndexString", "internal/abi.NoEscape"], named := ["unicode/utf8.first", "unicode/utf8.acceptRanges", "internal/bytealg.MaxLen"], apart := false, laid := [("unicode/utf8.acceptRanges", laid_unicode_utf8_acceptRanges), ("unicode/utf8.first", laid_unicode_utf8_first)], narrowed := true }
def FnQuotedBytesUptoSaid : Prop := fnQuotedBytesUptoRow.holds Tryd.pinned (OpenSpec.upto fnQuotedBytesSpec)

/-- 'laws.FnBestCode', WHERE WHAT IT READS IS OF BULK AT MOST 1048576: true; the input reads as it did. -/
def fnBestCodeUptoRow : OpenClaim := { program := "ytjnpkmenlecdmabdoor", sum := "7cdceb161aa09e633590a426050df7107cffa63756d9e61e63dcbffe426e56de", func := "loop.example/mailwire/laws.FnBestCode", spec := "fnBestCode", inPlace := ["internal/bytealg.CountString", "internal/bytealg.IndexByteString", "internal/bytealg.IndexString", "internal/abi.NoEscape", "internal/bytealg.MakeNoZero"], named := ["unicode/utf8.first", "unicode/utf8.acceptRanges", "internal/bytealg.MaxLen"], apart := false, laid := [("unicode/utf8.acceptRanges", laid_unicode_utf8_acceptRanges), ("unicode/utf8.first", laid_unicode_utf8_first)], narrowed := true }
def FnBestCodeUptoSaid : Prop := fnBestCodeUptoRow.holds Tryd.pinned (OpenSpec.upto fnBestCodeSpec)

/-- 'laws.FnEncodeBytes', WHERE WHAT IT READS IS OF BULK AT MOST 1048576: true; the input reads as it did. -/
def fnEncodeBytesUptoRow : OpenClaim := { program := "ytjnpkmenlecdmabdoor", sum := "7cdceb161aa09e633590a426050df7107cffa63756d9e61e63dcbffe426e56de", func := "loop.example/mailwire/laws.FnEncodeBytes", spec := "fnEncodeBytes", inPlace := ["internal/bytealg.CountString", "internal/bytealg.IndexByteString", "internal/bytealg.IndexString", "internal/abi.NoEscape", "internal/bytealg.MakeNoZero"], named := ["unicode/utf8.first", "unicode/utf8.acceptRanges", "internal/bytealg.MaxLen"], apart := false, laid := [("unicode/utf8.acceptRanges", laid_unicode_utf8_acceptRanges), ("unicode/utf8.first", laid_unicode_utf8_first)], narrowed := true }
def FnEncodeBytesUptoSaid : Prop := fnEncodeBytesUptoRow.holds Tryd.pinned (OpenSpec.upto fnEncodeBytesSpec)

/-- 'laws.FnDecodeBytes', WHERE WHAT IT READS IS OF BULK AT MOST 1048576: true; the input reads as it did. -/
def fnDecodeBytesUptoRow : OpenClaim := { program := "ytjnpkmenlecdmabdoor", sum := "7cdceb161aa09e633590a426050df7107cffa63756d9e61e63dcbffe426e56de", func := "loop.example/mailwire/laws.FnDecodeBytes", spec := "fnDecodeBytes", inPlace := ["internal/abi.NoEscape", "internal/bytealg.MakeNoZero", "internal/bytealg.IndexByteString", "internal/bytealg.CountString", "internal/bytealg.IndexString"], named := ["unicode/utf8.first", "unicode/utf8.acceptRanges", "internal/bytealg.MaxLen"], apart := false, laid := [("unicode/utf8.acceptRanges", laid_unicode_utf8_acceptRanges), ("unicode/utf8.first", laid_unicode_utf8_first)], narrowed := true }
def FnDecodeBytesUptoSaid : Prop := fnDecodeBytesUptoRow.holds Tryd.pinned (OpenSpec.upto fnDecodeBytesSpec)

/-- 'laws.FnBestAll', WHERE WHAT IT READS IS OF BULK AT MOST 1048576: true; the input reads as it did. -/
def fnBestAllUptoRow : OpenClaim := { program := "ytjnpkmenlecdmabdoor", sum := "7cdceb161aa09e633590a426050df7107cffa63756d9e61e63dcbffe426e56de", func := "loop.example/mailwire/laws.FnBestAll", spec := "fnBestAll", inPlace := ["internal/bytealg.CountString", "internal/bytealg.IndexByteString", "internal/bytealg.IndexString", "internal/abi.NoEscape", "internal/bytealg.MakeNoZero"], named := ["unicode/utf8.first", "unicode/utf8.acceptRanges", "internal/bytealg.MaxLen"], apart := false, laid := [("unicode/utf8.acceptRanges", laid_unicode_utf8_acceptRanges), ("unicode/utf8.first", laid_unicode_utf8_first)], narrowed := true }
def FnBestAllUptoSaid : Prop := fnBestAllUptoRow.holds Tryd.pinned (OpenSpec.upto fnBestAllSpec)

end Rows
end Go.Proofs.YtjnpkmenlecdmabDoor
