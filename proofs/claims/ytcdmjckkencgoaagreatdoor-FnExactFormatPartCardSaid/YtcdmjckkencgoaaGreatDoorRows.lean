/-
  NARROWER THAN 'FOR EVERY INPUT', by the rows' own cells (each row's printed sentence says how): FnExactFormatPart: loops, laid · FnExactParsePart: laid · FnExactPartAt: loops, laid · FnExactBodyBytes: loops, laid.
  DERIVED. THE GIVEN ROWS OF THIS SEAT. 4 by the template 'for every input the law returns true; each argument reads behind the call as it read before'; 0 by the template 'total and deterministic' (their statements: YtcdmjckkencgoaaGreatDoorTotals.lean).
  GIVEN WITH THE SEED: the statements are not yours to turn. If you find one false, say at which input.
  Laid BY PROGRAM, IN A SANDBOX (cutbox-rows.mjs): the forced cells as the released guide's own fill.sh prints them over the translation 39108e274478b999… (all of the seat's roots in one cut). By AI agents, Wed Nov 11 2026. No macro, syntax, notation, axiom, sorry.
-/
import Derived.Test.YtcdmjckkencgoaaGreatDoorChecked
import GoSem.PinnedTables
import GoSem.Claim
import GoSem.ClaimJoined
import GoSem.ClaimMapViews
import Derived.JoinedTies
import Derived.KernelRfl
namespace Go.Proofs.YtcdmjckkencgoaaGreatDoor
/- THE CELL 'sum', in the pinned program and in every row, IS THE sha256 OF THE DUMP (.gsa) THAT YtcdmjckkencgoaaGreatDoorProg.lean LOADS. Nothing in Lean hashes anything: it is a label: what it is worth is what the hold of that sum in a sandbox is worth. -/
noncomputable def Tryz.pinned : Pinned := { name := "ytcdmjckkencgoaagreatdoor", sum := "39108e274478b9991cf7e89b7f67050112d4db1596d9aa507fe8180525ba0499", checked := Tryz.checked }
namespace Rows
def none {H : Type} : Left H := { results := [], args := [] }

/- WHAT THE LISTED PACKAGE-LEVEL VARIABLES READ AS WHEN THE CALL BEGINS. Each datum BY PROGRAM (the guide's laid-datum.mjs) off the statement by which the dump's own 'gosem.cut.vars' lays the variable. In a bare row this is a premise. The card (YtcdmjckkencgoaaGreatDoorCards.lean) ties it to the program's text. -/
def laid_unicode_utf8_acceptRanges {H : Type} : DataW H := .agg [.agg [.lit (.int .u8 128), .lit (.int .u8 191)], .agg [.lit (.int .u8 160), .lit (.int .u8 191)], .agg [.lit (.int .u8 128), .lit (.int .u8 159)], .agg [.lit (.int .u8 144), .lit (.int .u8 191)], .agg [.lit (.int .u8 128), .lit (.int .u8 143)], .agg [.lit (.int .u8 0), .lit (.int .u8 0)], .agg [.lit (.int .u8 0), .lit (.int .u8 0)], .agg [.lit (.int .u8 0), .lit (.int .u8 0)], .agg [.lit (.int .u8 0), .lit (.int .u8 0)], .agg [.lit (.int .u8 0), .lit (.int .u8 0)], .agg [.lit (.int .u8 0), .lit (.int .u8 0)], .agg [.lit (.int .u8 0), .lit (.int .u8 0)], .agg [.lit (.int .u8 0), .lit (.int .u8 0)], .agg [.lit (.int .u8 0), .lit (.int .u8 0)], .agg [.lit (.int .u8 0), .lit (.int .u8 0)], .agg [.lit (.int .u8 0), .lit (.int .u8 0)]]
def laid_loop_example_mailwire_impl_atomMarks {H : Type} : DataW H := .agg [.agg [.lit (.int .u8 33), .lit (.int .u8 33)], .agg [.lit (.int .u8 35), .lit (.int .u8 39)], .agg [.lit (.int .u8 42), .lit (.int .u8 43)], .agg [.lit (.int .u8 45), .lit (.int .u8 45)], .agg [.lit (.int .u8 47), .lit (.int .u8 47)], .agg [.lit (.int .u8 61), .lit (.int .u8 61)], .agg [.lit (.int .u8 63), .lit (.int .u8 63)], .agg [.lit (.int .u8 94), .lit (.int .u8 96)], .agg [.lit (.int .u8 123), .lit (.int .u8 126)]]
/-- One of Go's own tables, pinned by name: the form's constant. -/
def laid_unicode_utf8_first : DataW Unit := Go.Pinned.utf8First
def laid_loop_example_mailwire_impl_codeNames {H : Type} : DataW H := .agg [.lit (.string [55, 98, 105, 116]), .lit (.string [113, 117, 111, 116, 101, 100, 45, 112, 114, 105, 110, 116, 97, 98, 108, 101]), .lit (.string [98, 97, 115, 101, 54, 52])]

/-- 'laws.FnExactFormatPart': WHATEVER THE INPUT: true; the input reads as it did. -/
def fnExactFormatPartSpec : ChangeSpec := { name := "fnExactFormatPart", vars := ["loop.example/mailwire/impl.atomMarks"], fn := fun _ => fun
  | [d, g1] => { results := [.lit (.bool true)], args := [d], vars := [g1] }
  | _ => none }
def fnExactFormatPartRow : OpenClaim := { program := "ytcdmjckkencgoaagreatdoor", sum := "39108e274478b9991cf7e89b7f67050112d4db1596d9aa507fe8180525ba0499", func := "loop.example/mailwire/laws.FnExactFormatPart", spec := "fnExactFormatPart", inPlace := ["internal/bytealg.IndexByteString", "internal/bytealg.IndexString", "internal/abi.NoEscape"], unfollowed := true, recurses := true, named := ["unicode/utf8.first", "unicode/utf8.acceptRanges", "internal/bytealg.MaxLen", "loop.example/mailwire/impl.atomMarks"], loops := true, apart := false, laid := [("unicode/utf8.acceptRanges", laid_unicode_utf8_acceptRanges), ("loop.example/mailwire/impl.atomMarks", laid_loop_example_mailwire_impl_atomMarks), ("unicode/utf8.first", laid_unicode_utf8_first)] }
def FnExactFormatPartSaid : Prop := fnExactFormatPartRow.holds Tryz.pinned (OpenSpec.ofChange fnExactFormatPartSpec)

/-- ITS FALSE NEIGHBOUR: 'it returns false'. Refute it at one input. -/
def fnExactFormatPartWrong : ChangeSpec := { name := "fnExactFormatPart", vars := ["loop.example/mailwire/impl.atomMarks"], fn := fun _ => fun
  | [d, g1] => { results := [.lit (.bool false)], args := [d], vars := [g1] }
  | _ => none }
def FnExactFormatPartWrongFalsely : Prop := fnExactFormatPartRow.holds Tryz.pinned (OpenSpec.ofChange fnExactFormatPartWrong)

/-- 'laws.FnExactParsePart': WHATEVER THE INPUT: true; the input reads as it did. -/
def fnExactParsePartSpec : ChangeSpec := { name := "fnExactParsePart", vars := ["loop.example/mailwire/impl.atomMarks"], fn := fun _ => fun
  | [d, g1] => { results := [.lit (.bool true)], args := [d], vars := [g1] }
  | _ => none }
def fnExactParsePartRow : OpenClaim := { program := "ytcdmjckkencgoaagreatdoor", sum := "39108e274478b9991cf7e89b7f67050112d4db1596d9aa507fe8180525ba0499", func := "loop.example/mailwire/laws.FnExactParsePart", spec := "fnExactParsePart", inPlace := ["internal/abi.NoEscape", "internal/bytealg.MakeNoZero", "internal/bytealg.IndexByteString", "internal/bytealg.IndexString"], unfollowed := true, recurses := true, named := ["internal/bytealg.MaxLen", "unicode/utf8.first", "unicode/utf8.acceptRanges", "loop.example/mailwire/impl.atomMarks"], apart := false, laid := [("unicode/utf8.acceptRanges", laid_unicode_utf8_acceptRanges), ("loop.example/mailwire/impl.atomMarks", laid_loop_example_mailwire_impl_atomMarks), ("unicode/utf8.first", laid_unicode_utf8_first)] }
def FnExactParsePartSaid : Prop := fnExactParsePartRow.holds Tryz.pinned (OpenSpec.ofChange fnExactParsePartSpec)

/-- ITS FALSE NEIGHBOUR: 'it returns false'. Refute it at one input. -/
def fnExactParsePartWrong : ChangeSpec := { name := "fnExactParsePart", vars := ["loop.example/mailwire/impl.atomMarks"], fn := fun _ => fun
  | [d, g1] => { results := [.lit (.bool false)], args := [d], vars := [g1] }
  | _ => none }
def FnExactParsePartWrongFalsely : Prop := fnExactParsePartRow.holds Tryz.pinned (OpenSpec.ofChange fnExactParsePartWrong)

/-- 'laws.FnExactPartAt': WHATEVER THE INPUT: true; the input reads as it did. -/
def fnExactPartAtSpec : ChangeSpec := { name := "fnExactPartAt", vars := ["loop.example/mailwire/impl.atomMarks"], fn := fun _ => fun
  | [d1, d2, g1] => { results := [.lit (.bool true)], args := [d1, d2], vars := [g1] }
  | _ => none }
def fnExactPartAtRow : OpenClaim := { program := "ytcdmjckkencgoaagreatdoor", sum := "39108e274478b9991cf7e89b7f67050112d4db1596d9aa507fe8180525ba0499", func := "loop.example/mailwire/laws.FnExactPartAt", spec := "fnExactPartAt", inPlace := ["internal/bytealg.IndexByteString", "internal/bytealg.IndexString", "internal/abi.NoEscape"], unfollowed := true, recurses := true, named := ["unicode/utf8.first", "unicode/utf8.acceptRanges", "internal/bytealg.MaxLen", "loop.example/mailwire/impl.atomMarks"], loops := true, apart := false, laid := [("unicode/utf8.acceptRanges", laid_unicode_utf8_acceptRanges), ("loop.example/mailwire/impl.atomMarks", laid_loop_example_mailwire_impl_atomMarks), ("unicode/utf8.first", laid_unicode_utf8_first)] }
def FnExactPartAtSaid : Prop := fnExactPartAtRow.holds Tryz.pinned (OpenSpec.ofChange fnExactPartAtSpec)

/-- ITS FALSE NEIGHBOUR: 'it returns false'. Refute it at one input. -/
def fnExactPartAtWrong : ChangeSpec := { name := "fnExactPartAt", vars := ["loop.example/mailwire/impl.atomMarks"], fn := fun _ => fun
  | [d1, d2, g1] => { results := [.lit (.bool false)], args := [d1, d2], vars := [g1] }
  | _ => none }
def FnExactPartAtWrongFalsely : Prop := fnExactPartAtRow.holds Tryz.pinned (OpenSpec.ofChange fnExactPartAtWrong)

/-- 'laws.FnExactBodyBytes': WHATEVER THE INPUT: true; the input reads as it did. -/
def fnExactBodyBytesSpec : ChangeSpec := { name := "fnExactBodyBytes", vars := ["loop.example/mailwire/impl.codeNames", "loop.example/mailwire/impl.atomMarks"], fn := fun _ => fun
  | [d, g1, g2] => { results := [.lit (.bool true)], args := [d], vars := [g1, g2] }
  | _ => none }
def fnExactBodyBytesRow : OpenClaim := { program := "ytcdmjckkencgoaagreatdoor", sum := "39108e274478b9991cf7e89b7f67050112d4db1596d9aa507fe8180525ba0499", func := "loop.example/mailwire/laws.FnExactBodyBytes", spec := "fnExactBodyBytes", inPlace := ["internal/bytealg.IndexByteString", "internal/bytealg.IndexString", "internal/abi.NoEscape", "internal/bytealg.MakeNoZero"], unfollowed := true, recurses := true, named := ["loop.example/mailwire/impl.codeNames", "unicode/utf8.first", "unicode/utf8.acceptRanges", "internal/bytealg.MaxLen", "loop.example/mailwire/impl.atomMarks"], loops := true, apart := false, laid := [("unicode/utf8.acceptRanges", laid_unicode_utf8_acceptRanges), ("loop.example/mailwire/impl.atomMarks", laid_loop_example_mailwire_impl_atomMarks), ("loop.example/mailwire/impl.codeNames", laid_loop_example_mailwire_impl_codeNames), ("unicode/utf8.first", laid_unicode_utf8_first)] }
def FnExactBodyBytesSaid : Prop := fnExactBodyBytesRow.holds Tryz.pinned (OpenSpec.ofChange fnExactBodyBytesSpec)

/-- ITS FALSE NEIGHBOUR: 'it returns false'. Refute it at one input. -/
def fnExactBodyBytesWrong : ChangeSpec := { name := "fnExactBodyBytes", vars := ["loop.example/mailwire/impl.codeNames", "loop.example/mailwire/impl.atomMarks"], fn := fun _ => fun
  | [d, g1, g2] => { results := [.lit (.bool false)], args := [d], vars := [g1, g2] }
  | _ => none }
def FnExactBodyBytesWrongFalsely : Prop := fnExactBodyBytesRow.holds Tryz.pinned (OpenSpec.ofChange fnExactBodyBytesWrong)

/- THE SECOND FORM. 'bulk': how many values and letters a reading holds, each counted each time it is reached (what is shared counts as often as it is met; a slice's spare places count too). A statement '..UptoSaid' is the law's where the arguments, and the package variables that the reading takes, are together of bulk at most 1048576: NARROWER than '..Said'. Prove '..Said' where nothing that the law and all that it calls make is longer than what came in: it says more and counts as full. Else prove '..UptoSaid'. A law counts once. -/
mutual
def uptoBulk {H : Type} : DataW H → Nat
  | .lit (.string bytes) => bytes.length + 1
  | .lit _ => 1
  | .nil => 1
  | .ptr d => uptoBulk d + 1
  | .slice elems spare => uptoBulkAll elems + uptoBulkAll spare + 1
  | .agg parts => uptoBulkAll parts + 1
  | .iface _ d => uptoBulk d + 1
  | .map entries => uptoBulkEntries entries + 1
  | .held _ => 1
def uptoBulkAll {H : Type} : List (DataW H) → Nat
  | [] => 0
  | d :: r => uptoBulk d + uptoBulkAll r
def uptoBulkEntries {H : Type} : List (Lit × DataW H) → Nat
  | [] => 0
  | x :: r => uptoBulkEntry x + uptoBulkEntries r
def uptoBulkEntry {H : Type} : Lit × DataW H → Nat
  | (.string bytes, d) => bytes.length + uptoBulk d + 1
  | (_, d) => uptoBulk d + 1
 end
def uptoSmall : (H : Type) → List (DataW H) → Bool := fun _ ds => decide (uptoBulkAll ds ≤ 1048576)
def OpenSpec.upto (s : _root_.Go.ChangeSpec) : _root_.Go.OpenSpec := { _root_.Go.OpenSpec.ofChange s with cond := some uptoSmall }

/-- 'laws.FnExactFormatPart', WHERE WHAT IT READS IS OF BULK AT MOST 1048576: true; the input reads as it did. -/
def fnExactFormatPartUptoRow : OpenClaim := { program := "ytcdmjckkencgoaagreatdoor", sum := "39108e274478b9991cf7e89b7f67050112d4db1596d9aa507fe8180525ba0499", func := "loop.example/mailwire/laws.FnExactFormatPart", spec := "fnExactFormatPart", inPlace := ["internal/bytealg.IndexByteString", "internal/bytealg.IndexString", "internal/abi.NoEscape"], unfollowed := true, recurses := true, named := ["unicode/utf8.first", "unicode/utf8.acceptRanges", "internal/bytealg.MaxLen", "loop.example/mailwire/impl.atomMarks"], loops := true, apart := false, laid := [("unicode/utf8.acceptRanges", laid_unicode_utf8_acceptRanges), ("loop.example/mailwire/impl.atomMarks", laid_loop_example_mailwire_impl_atomMarks), ("unicode/utf8.first", laid_unicode_utf8_first)], narrowed := true }
def FnExactFormatPartUptoSaid : Prop := fnExactFormatPartUptoRow.holds Tryz.pinned (OpenSpec.upto fnExactFormatPartSpec)

/-- 'laws.FnExactParsePart', WHERE WHAT IT READS IS OF BULK AT MOST 1048576: true; the input reads as it did. -/
def fnExactParsePartUptoRow : OpenClaim := { program := "ytcdmjckkencgoaagreatdoor", sum := "39108e274478b9991cf7e89b7f67050112d4db1596d9aa507fe8180525ba0499", func := "loop.example/mailwire/laws.FnExactParsePart", spec := "fnExactParsePart", inPlace := ["internal/abi.NoEscape", "internal/bytealg.MakeNoZero", "internal/bytealg.IndexByteString", "internal/bytealg.IndexString"], unfollowed := true, recurses := true, named := ["internal/bytealg.MaxLen", "unicode/utf8.first", "unicode/utf8.acceptRanges", "loop.example/mailwire/impl.atomMarks"], apart := false, laid := [("unicode/utf8.acceptRanges", laid_unicode_utf8_acceptRanges), ("loop.example/mailwire/impl.atomMarks", laid_loop_example_mailwire_impl_atomMarks), ("unicode/utf8.first", laid_unicode_utf8_first)], narrowed := true }
def FnExactParsePartUptoSaid : Prop := fnExactParsePartUptoRow.holds Tryz.pinned (OpenSpec.upto fnExactParsePartSpec)

/-- 'laws.FnExactPartAt', WHERE WHAT IT READS IS OF BULK AT MOST 1048576: true; the input reads as it did. -/
def fnExactPartAtUptoRow : OpenClaim := { program := "ytcdmjckkencgoaagreatdoor", sum := "39108e274478b9991cf7e89b7f67050112d4db1596d9aa507fe8180525ba0499", func := "loop.example/mailwire/laws.FnExactPartAt", spec := "fnExactPartAt", inPlace := ["internal/bytealg.IndexByteString", "internal/bytealg.IndexString", "internal/abi.NoEscape"], unfollowed := true, recurses := true, named := ["unicode/utf8.first", "unicode/utf8.acceptRanges", "internal/bytealg.MaxLen", "loop.example/mailwire/impl.atomMarks"], loops := true, apart := false, laid := [("unicode/utf8.acceptRanges", laid_unicode_utf8_acceptRanges), ("loop.example/mailwire/impl.atomMarks", laid_loop_example_mailwire_impl_atomMarks), ("unicode/utf8.first", laid_unicode_utf8_first)], narrowed := true }
def FnExactPartAtUptoSaid : Prop := fnExactPartAtUptoRow.holds Tryz.pinned (OpenSpec.upto fnExactPartAtSpec)

/-- 'laws.FnExactBodyBytes', WHERE WHAT IT READS IS OF BULK AT MOST 1048576: true; the input reads as it did. -/
def fnExactBodyBytesUptoRow : OpenClaim := { program := "ytcdmjckkencgoaagreatdoor", sum := "39108e274478b9991cf7e89b7f67050112d4db1596d9aa507fe8180525ba0499", func := "loop.example/mailwire/laws.FnExactBodyBytes", spec := "fnExactBodyBytes", inPlace := ["internal/bytealg.IndexByteString", "internal/bytealg.IndexString", "internal/abi.NoEscape", "internal/bytealg.MakeNoZero"], unfollowed := true, recurses := true, named := ["loop.example/mailwire/impl.codeNames", "unicode/utf8.first", "unicode/utf8.acceptRanges", "internal/bytealg.MaxLen", "loop.example/mailwire/impl.atomMarks"], loops := true, apart := false, laid := [("unicode/utf8.acceptRanges", laid_unicode_utf8_acceptRanges), ("loop.example/mailwire/impl.atomMarks", laid_loop_example_mailwire_impl_atomMarks), ("loop.example/mailwire/impl.codeNames", laid_loop_example_mailwire_impl_codeNames), ("unicode/utf8.first", laid_unicode_utf8_first)], narrowed := true }
def FnExactBodyBytesUptoSaid : Prop := fnExactBodyBytesUptoRow.holds Tryz.pinned (OpenSpec.upto fnExactBodyBytesSpec)

end Rows
end Go.Proofs.YtcdmjckkencgoaaGreatDoor
