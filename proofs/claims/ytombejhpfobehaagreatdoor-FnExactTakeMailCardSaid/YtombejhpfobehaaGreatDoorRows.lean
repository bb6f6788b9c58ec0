/-
  NARROWER THAN 'FOR EVERY INPUT', by the rows' own cells (each row's printed sentence says how): FnExactAddBox: laid · FnExactTakeMail: laid · FnExactDeliverMail: laid · FnExactTraceMail: laid · FnExactSayLine: laid · FnExactSayAll: laid.
  DERIVED. THE GIVEN ROWS OF THIS SEAT. 6 by the template 'for every input the law returns true; each argument reads behind the call as it read before'; 0 by the template 'total and deterministic' (their statements: YtombejhpfobehaaGreatDoorTotals.lean).
  GIVEN WITH THE SEED: the statements are not yours to turn. If you find one false, say at which input.
  Laid BY PROGRAM, IN A SANDBOX (cutbox-rows.mjs): the forced cells as the released guide's own fill.sh prints them over the translation b11949d749becf28… (all of the seat's roots in one cut). By AI agents, Wed Nov 11 2026. No macro, syntax, notation, axiom, sorry.
-/
import Derived.Test.YtombejhpfobehaaGreatDoorChecked
import GoSem.PinnedTables
import GoSem.Claim
import GoSem.ClaimJoined
import GoSem.ClaimMapViews
import Derived.JoinedTies
import Derived.KernelRfl
namespace Go.Proofs.YtombejhpfobehaaGreatDoor
/- THE CELL 'sum', in the pinned program and in every row, IS THE sha256 OF THE DUMP (.gsa) THAT YtombejhpfobehaaGreatDoorProg.lean LOADS. Nothing in Lean hashes anything: it is a label: what it is worth is what the hold of that sum in a sandbox is worth. -/
noncomputable def Tryz.pinned : Pinned := { name := "ytombejhpfobehaagreatdoor", sum := "b11949d749becf281a839d39dd21d055e98d0af707d60ae547e2162a86311575", checked := Tryz.checked }
namespace Rows
def none {H : Type} : Left H := { results := [], args := [] }

/- WHAT THE LISTED PACKAGE-LEVEL VARIABLES READ AS WHEN THE CALL BEGINS. Each datum BY PROGRAM (the guide's laid-datum.mjs) off the statement by which the dump's own 'gosem.cut.vars' lays the variable. In a bare row this is a premise. The card (YtombejhpfobehaaGreatDoorCards.lean) ties it to the program's text. -/
def laid_unicode_utf8_acceptRanges {H : Type} : DataW H := .agg [.agg [.lit (.int .u8 128), .lit (.int .u8 191)], .agg [.lit (.int .u8 160), .lit (.int .u8 191)], .agg [.lit (.int .u8 128), .lit (.int .u8 159)], .agg [.lit (.int .u8 144), .lit (.int .u8 191)], .agg [.lit (.int .u8 128), .lit (.int .u8 143)], .agg [.lit (.int .u8 0), .lit (.int .u8 0)], .agg [.lit (.int .u8 0), .lit (.int .u8 0)], .agg [.lit (.int .u8 0), .lit (.int .u8 0)], .agg [.lit (.int .u8 0), .lit (.int .u8 0)], .agg [.lit (.int .u8 0), .lit (.int .u8 0)], .agg [.lit (.int .u8 0), .lit (.int .u8 0)], .agg [.lit (.int .u8 0), .lit (.int .u8 0)], .agg [.lit (.int .u8 0), .lit (.int .u8 0)], .agg [.lit (.int .u8 0), .lit (.int .u8 0)], .agg [.lit (.int .u8 0), .lit (.int .u8 0)], .agg [.lit (.int .u8 0), .lit (.int .u8 0)]]
def laid_loop_example_mailwire_impl_atomMarks {H : Type} : DataW H := .agg [.agg [.lit (.int .u8 33), .lit (.int .u8 33)], .agg [.lit (.int .u8 35), .lit (.int .u8 39)], .agg [.lit (.int .u8 42), .lit (.int .u8 43)], .agg [.lit (.int .u8 45), .lit (.int .u8 45)], .agg [.lit (.int .u8 47), .lit (.int .u8 47)], .agg [.lit (.int .u8 61), .lit (.int .u8 61)], .agg [.lit (.int .u8 63), .lit (.int .u8 63)], .agg [.lit (.int .u8 94), .lit (.int .u8 96)], .agg [.lit (.int .u8 123), .lit (.int .u8 126)]]
/-- One of Go's own tables, pinned by name: the form's constant. -/
def laid_unicode_utf8_first : DataW Unit := Go.Pinned.utf8First
def laid_math_bits_deBruijn32tab {H : Type} : DataW H := .agg [.lit (.int .u8 0), .lit (.int .u8 1), .lit (.int .u8 28), .lit (.int .u8 2), .lit (.int .u8 29), .lit (.int .u8 14), .lit (.int .u8 24), .lit (.int .u8 3), .lit (.int .u8 30), .lit (.int .u8 22), .lit (.int .u8 20), .lit (.int .u8 15), .lit (.int .u8 25), .lit (.int .u8 17), .lit (.int .u8 4), .lit (.int .u8 8), .lit (.int .u8 31), .lit (.int .u8 27), .lit (.int .u8 13), .lit (.int .u8 23), .lit (.int .u8 21), .lit (.int .u8 19), .lit (.int .u8 16), .lit (.int .u8 7), .lit (.int .u8 26), .lit (.int .u8 12), .lit (.int .u8 18), .lit (.int .u8 6), .lit (.int .u8 11), .lit (.int .u8 5), .lit (.int .u8 10), .lit (.int .u8 9)]
def laid_math_bits_deBruijn64tab {H : Type} : DataW H := .agg [.lit (.int .u8 0), .lit (.int .u8 1), .lit (.int .u8 56), .lit (.int .u8 2), .lit (.int .u8 57), .lit (.int .u8 49), .lit (.int .u8 28), .lit (.int .u8 3), .lit (.int .u8 61), .lit (.int .u8 58), .lit (.int .u8 42), .lit (.int .u8 50), .lit (.int .u8 38), .lit (.int .u8 29), .lit (.int .u8 17), .lit (.int .u8 4), .lit (.int .u8 62), .lit (.int .u8 47), .lit (.int .u8 59), .lit (.int .u8 36), .lit (.int .u8 45), .lit (.int .u8 43), .lit (.int .u8 51), .lit (.int .u8 22), .lit (.int .u8 53), .lit (.int .u8 39), .lit (.int .u8 33), .lit (.int .u8 30), .lit (.int .u8 24), .lit (.int .u8 18), .lit (.int .u8 12), .lit (.int .u8 5), .lit (.int .u8 63), .lit (.int .u8 55), .lit (.int .u8 48), .lit (.int .u8 27), .lit (.int .u8 60), .lit (.int .u8 41), .lit (.int .u8 37), .lit (.int .u8 16), .lit (.int .u8 46), .lit (.int .u8 35), .lit (.int .u8 44), .lit (.int .u8 21), .lit (.int .u8 52), .lit (.int .u8 32), .lit (.int .u8 23), .lit (.int .u8 11), .lit (.int .u8 54), .lit (.int .u8 26), .lit (.int .u8 40), .lit (.int .u8 15), .lit (.int .u8 34), .lit (.int .u8 20), .lit (.int .u8 31), .lit (.int .u8 10), .lit (.int .u8 25), .lit (.int .u8 14), .lit (.int .u8 19), .lit (.int .u8 9), .lit (.int .u8 13), .lit (.int .u8 8), .lit (.int .u8 7), .lit (.int .u8 6)]
def laid_internal_strconv_uint64pow10 {H : Type} : DataW H := .agg [.lit (.int .u64 1), .lit (.int .u64 10), .lit (.int .u64 100), .lit (.int .u64 1000), .lit (.int .u64 10000), .lit (.int .u64 100000), .lit (.int .u64 1000000), .lit (.int .u64 10000000), .lit (.int .u64 100000000), .lit (.int .u64 1000000000), .lit (.int .u64 10000000000), .lit (.int .u64 100000000000), .lit (.int .u64 1000000000000), .lit (.int .u64 10000000000000), .lit (.int .u64 100000000000000), .lit (.int .u64 1000000000000000), .lit (.int .u64 10000000000000000), .lit (.int .u64 100000000000000000), .lit (.int .u64 1000000000000000000), .lit (.int .u64 10000000000000000000)]
def laid_loop_example_mailwire_impl_monthNames {H : Type} : DataW H := .agg [.lit (.string [74, 97, 110]), .lit (.string [70, 101, 98]), .lit (.string [77, 97, 114]), .lit (.string [65, 112, 114]), .lit (.string [77, 97, 121]), .lit (.string [74, 117, 110]), .lit (.string [74, 117, 108]), .lit (.string [65, 117, 103]), .lit (.string [83, 101, 112]), .lit (.string [79, 99, 116]), .lit (.string [78, 111, 118]), .lit (.string [68, 101, 99])]
def laid_loop_example_mailwire_impl_weekdayNames {H : Type} : DataW H := .agg [.lit (.string [84, 104, 117]), .lit (.string [70, 114, 105]), .lit (.string [83, 97, 116]), .lit (.string [83, 117, 110]), .lit (.string [77, 111, 110]), .lit (.string [84, 117, 101]), .lit (.string [87, 101, 100])]

/-- 'laws.FnExactAddBox': WHATEVER THE INPUT: true; the input reads as it did. -/
def fnExactAddBoxSpec : ChangeSpec := { name := "fnExactAddBox", vars := ["loop.example/mailwire/impl.atomMarks"], fn := fun _ => fun
  | [d1, d2, g1] => { results := [.lit (.bool true)], args := [d1, d2], vars := [g1] }
  | _ => none }
def fnExactAddBoxRow : OpenClaim := { program := "ytombejhpfobehaagreatdoor", sum := "b11949d749becf281a839d39dd21d055e98d0af707d60ae547e2162a86311575", func := "loop.example/mailwire/laws.FnExactAddBox", spec := "fnExactAddBox", inPlace := ["internal/bytealg.IndexByteString", "internal/bytealg.IndexString", "internal/bytealg.CountString", "internal/bytealg.abigen_runtime_cmpstring", "slices.overlaps[loop.example/mailwire/impl.Box]"], unfollowed := true, recurses := true, named := ["internal/bytealg.MaxLen", "unicode/utf8.first", "unicode/utf8.acceptRanges", "loop.example/mailwire/impl.atomMarks"], apart := false, laid := [("unicode/utf8.acceptRanges", laid_unicode_utf8_acceptRanges), ("loop.example/mailwire/impl.atomMarks", laid_loop_example_mailwire_impl_atomMarks), ("unicode/utf8.first", laid_unicode_utf8_first)] }
def FnExactAddBoxSaid : Prop := fnExactAddBoxRow.holds Tryz.pinned (OpenSpec.ofChange fnExactAddBoxSpec)

/-- ITS FALSE NEIGHBOUR: 'it returns false'. Refute it at one input. -/
def fnExactAddBoxWrong : ChangeSpec := { name := "fnExactAddBox", vars := ["loop.example/mailwire/impl.atomMarks"], fn := fun _ => fun
  | [d1, d2, g1] => { results := [.lit (.bool false)], args := [d1, d2], vars := [g1] }
  | _ => none }
def FnExactAddBoxWrongFalsely : Prop := fnExactAddBoxRow.holds Tryz.pinned (OpenSpec.ofChange fnExactAddBoxWrong)

/-- 'laws.FnExactTakeMail': WHATEVER THE INPUT: true; the input reads as it did. -/
def fnExactTakeMailSpec : ChangeSpec := { name := "fnExactTakeMail", vars := ["loop.example/mailwire/impl.atomMarks"], fn := fun _ => fun
  | [d1, d2, g1] => { results := [.lit (.bool true)], args := [d1, d2], vars := [g1] }
  | _ => none }
def fnExactTakeMailRow : OpenClaim := { program := "ytombejhpfobehaagreatdoor", sum := "b11949d749becf281a839d39dd21d055e98d0af707d60ae547e2162a86311575", func := "loop.example/mailwire/laws.FnExactTakeMail", spec := "fnExactTakeMail", inPlace := ["internal/bytealg.IndexByteString", "internal/bytealg.IndexString", "internal/bytealg.CountString", "internal/bytealg.abigen_runtime_cmpstring"], unfollowed := true, recurses := true, named := ["internal/bytealg.MaxLen", "unicode/utf8.first", "unicode/utf8.acceptRanges", "loop.example/mailwire/impl.atomMarks"], apart := false, laid := [("unicode/utf8.acceptRanges", laid_unicode_utf8_acceptRanges), ("loop.example/mailwire/impl.atomMarks", laid_loop_example_mailwire_impl_atomMarks), ("unicode/utf8.first", laid_unicode_utf8_first)] }
def FnExactTakeMailSaid : Prop := fnExactTakeMailRow.holds Tryz.pinned (OpenSpec.ofChange fnExactTakeMailSpec)

/-- ITS FALSE NEIGHBOUR: 'it returns false'. Refute it at one input. -/
def fnExactTakeMailWrong : ChangeSpec := { name := "fnExactTakeMail", vars := ["loop.example/mailwire/impl.atomMarks"], fn := fun _ => fun
  | [d1, d2, g1] => { results := [.lit (.bool false)], args := [d1, d2], vars := [g1] }
  | _ => none }
def FnExactTakeMailWrongFalsely : Prop := fnExactTakeMailRow.holds Tryz.pinned (OpenSpec.ofChange fnExactTakeMailWrong)

/-- 'laws.FnExactDeliverMail': WHATEVER THE INPUT: true; the input reads as it did. -/
def fnExactDeliverMailSpec : ChangeSpec := { name := "fnExactDeliverMail", vars := ["loop.example/mailwire/impl.atomMarks"], fn := fun _ => fun
  | [d1, d2, g1] => { results := [.lit (.bool true)], args := [d1, d2], vars := [g1] }
  | _ => none }
def fnExactDeliverMailRow : OpenClaim := { program := "ytombejhpfobehaagreatdoor", sum := "b11949d749becf281a839d39dd21d055e98d0af707d60ae547e2162a86311575", func := "loop.example/mailwire/laws.FnExactDeliverMail", spec := "fnExactDeliverMail", inPlace := ["internal/bytealg.IndexByteString", "internal/bytealg.IndexString", "internal/bytealg.CountString", "internal/bytealg.abigen_runtime_cmpstring"], unfollowed := true, recurses := true, named := ["internal/bytealg.MaxLen", "unicode/utf8.first", "unicode/utf8.acceptRanges", "loop.example/mailwire/impl.atomMarks"], apart := false, laid := [("unicode/utf8.acceptRanges", laid_unicode_utf8_acceptRanges), ("loop.example/mailwire/impl.atomMarks", laid_loop_example_mailwire_impl_atomMarks), ("unicode/utf8.first", laid_unicode_utf8_first)] }
def FnExactDeliverMailSaid : Prop := fnExactDeliverMailRow.holds Tryz.pinned (OpenSpec.ofChange fnExactDeliverMailSpec)

/-- ITS FALSE NEIGHBOUR: 'it returns false'. Refute it at one input. -/
def fnExactDeliverMailWrong : ChangeSpec := { name := "fnExactDeliverMail", vars := ["loop.example/mailwire/impl.atomMarks"], fn := fun _ => fun
  | [d1, d2, g1] => { results := [.lit (.bool false)], args := [d1, d2], vars := [g1] }
  | _ => none }
def FnExactDeliverMailWrongFalsely : Prop := fnExactDeliverMailRow.holds Tryz.pinned (OpenSpec.ofChange fnExactDeliverMailWrong)

/-- 'laws.FnExactTraceMail': WHATEVER THE INPUT: true; the input reads as it did. -/
def fnExactTraceMailSpec : ChangeSpec := { name := "fnExactTraceMail", vars := ["loop.example/mailwire/impl.atomMarks", "loop.example/mailwire/impl.monthNames", "loop.example/mailwire/impl.weekdayNames"], fn := fun _ => fun
  | [d1, d2, d3, g1, g2, g3] => { results := [.lit (.bool true)], args := [d1, d2, d3], vars := [g1, g2, g3] }
  | _ => none }
def fnExactTraceMailRow : OpenClaim := { program := "ytombejhpfobehaagreatdoor", sum := "b11949d749becf281a839d39dd21d055e98d0af707d60ae547e2162a86311575", func := "loop.example/mailwire/laws.FnExactTraceMail", spec := "fnExactTraceMail", inPlace := ["internal/bytealg.IndexByteString", "internal/bytealg.IndexString", "internal/bytealg.CountString", "slices.overlaps[string]"], unfollowed := true, recurses := true, named := ["internal/bytealg.MaxLen", "unicode/utf8.first", "unicode/utf8.acceptRanges", "loop.example/mailwire/impl.atomMarks", "loop.example/mailwire/impl.monthNames", "internal/strconv.uint64pow10", "math/bits.deBruijn32tab", "math/bits.deBruijn64tab", "loop.example/mailwire/impl.weekdayNames"], apart := false, laid := [("math/bits.deBruijn32tab", laid_math_bits_deBruijn32tab), ("math/bits.deBruijn64tab", laid_math_bits_deBruijn64tab), ("internal/strconv.uint64pow10", laid_internal_strconv_uint64pow10), ("unicode/utf8.acceptRanges", laid_unicode_utf8_acceptRanges), ("loop.example/mailwire/impl.atomMarks", laid_loop_example_mailwire_impl_atomMarks), ("loop.example/mailwire/impl.monthNames", laid_loop_example_mailwire_impl_monthNames), ("loop.example/mailwire/impl.weekdayNames", laid_loop_example_mailwire_impl_weekdayNames), ("unicode/utf8.first", laid_unicode_utf8_first)] }
def FnExactTraceMailSaid : Prop := fnExactTraceMailRow.holds Tryz.pinned (OpenSpec.ofChange fnExactTraceMailSpec)

/-- ITS FALSE NEIGHBOUR: 'it returns false'. Refute it at one input. -/
def fnExactTraceMailWrong : ChangeSpec := { name := "fnExactTraceMail", vars := ["loop.example/mailwire/impl.atomMarks", "loop.example/mailwire/impl.monthNames", "loop.example/mailwire/impl.weekdayNames"], fn := fun _ => fun
  | [d1, d2, d3, g1, g2, g3] => { results := [.lit (.bool false)], args := [d1, d2, d3], vars := [g1, g2, g3] }
  | _ => none }
def FnExactTraceMailWrongFalsely : Prop := fnExactTraceMailRow.holds Tryz.pinned (OpenSpec.ofChange fnExactTraceMailWrong)

/-- 'laws.FnExactSayLine': WHATEVER THE INPUT: true; the input reads as it did. -/
def fnExactSayLineSpec : ChangeSpec := { name := "fnExactSayLine", vars := ["loop.example/mailwire/impl.atomMarks"], fn := fun _ => fun
  | [d1, d2, g1] => { results := [.lit (.bool true)], args := [d1, d2], vars := [g1] }
  | _ => none }
def fnExactSayLineRow : OpenClaim := { program := "ytombejhpfobehaagreatdoor", sum := "b11949d749becf281a839d39dd21d055e98d0af707d60ae547e2162a86311575", func := "loop.example/mailwire/laws.FnExactSayLine", spec := "fnExactSayLine", inPlace := ["internal/bytealg.CountString", "internal/bytealg.IndexByteString", "internal/bytealg.IndexString", "internal/abi.NoEscape"], unfollowed := true, recurses := true, named := ["unicode/utf8.first", "unicode/utf8.acceptRanges", "internal/bytealg.MaxLen", "loop.example/mailwire/impl.atomMarks"], apart := false, laid := [("unicode/utf8.acceptRanges", laid_unicode_utf8_acceptRanges), ("loop.example/mailwire/impl.atomMarks", laid_loop_example_mailwire_impl_atomMarks), ("unicode/utf8.first", laid_unicode_utf8_first)] }
def FnExactSayLineSaid : Prop := fnExactSayLineRow.holds Tryz.pinned (OpenSpec.ofChange fnExactSayLineSpec)

/-- ITS FALSE NEIGHBOUR: 'it returns false'. Refute it at one input. -/
def fnExactSayLineWrong : ChangeSpec := { name := "fnExactSayLine", vars := ["loop.example/mailwire/impl.atomMarks"], fn := fun _ => fun
  | [d1, d2, g1] => { results := [.lit (.bool false)], args := [d1, d2], vars := [g1] }
  | _ => none }
def FnExactSayLineWrongFalsely : Prop := fnExactSayLineRow.holds Tryz.pinned (OpenSpec.ofChange fnExactSayLineWrong)

/-- 'laws.FnExactSayAll': WHATEVER THE INPUT: true; the input reads as it did. -/
def fnExactSayAllSpec : ChangeSpec := { name := "fnExactSayAll", vars := ["loop.example/mailwire/impl.atomMarks"], fn := fun _ => fun
  | [d1, d2, g1] => { results := [.lit (.bool true)], args := [d1, d2], vars := [g1] }
  | _ => none }
def fnExactSayAllRow : OpenClaim := { program := "ytombejhpfobehaagreatdoor", sum := "b11949d749becf281a839d39dd21d055e98d0af707d60ae547e2162a86311575", func := "loop.example/mailwire/laws.FnExactSayAll", spec := "fnExactSayAll", inPlace := ["internal/bytealg.CountString", "internal/bytealg.IndexByteString", "internal/bytealg.IndexString", "internal/abi.NoEscape"], unfollowed := true, recurses := true, named := ["unicode/utf8.first", "unicode/utf8.acceptRanges", "internal/bytealg.MaxLen", "loop.example/mailwire/impl.atomMarks"], apart := false, laid := [("unicode/utf8.acceptRanges", laid_unicode_utf8_acceptRanges), ("loop.example/mailwire/impl.atomMarks", laid_loop_example_mailwire_impl_atomMarks), ("unicode/utf8.first", laid_unicode_utf8_first)] }
def FnExactSayAllSaid : Prop := fnExactSayAllRow.holds Tryz.pinned (OpenSpec.ofChange fnExactSayAllSpec)

/-- ITS FALSE NEIGHBOUR: 'it returns false'. Refute it at one input. -/
def fnExactSayAllWrong : ChangeSpec := { name := "fnExactSayAll", vars := ["loop.example/mailwire/impl.atomMarks"], fn := fun _ => fun
  | [d1, d2, g1] => { results := [.lit (.bool false)], args := [d1, d2], vars := [g1] }
  | _ => none }
def FnExactSayAllWrongFalsely : Prop := fnExactSayAllRow.holds Tryz.pinned (OpenSpec.ofChange fnExactSayAllWrong)

/- THE SECOND FORM. 'bulk': how many values and letters a reading holds, each counted each time it is reached (what is shared counts as often as it is met; a slice's spare places count too). A statement '..UptoSaid' is the law's where the arguments, and the package variables that the reading takes, are together of bulk at most 1048576: NARROWER than '..Said'. Prove '..Said' where nothing that the law and all that it calls make is longer than what came in: it says more and counts as full. Else prove '..UptoSaid'. A law counts once. -/
mutual
def uptoBulk {H : Type} : DataW H → Nat
  | .lit (.string bytes) => bytes.length + 1
  | .lit _ => 1
  | .nil => 1
  | .ptr d => uptoBulk d + 1
  | .slice elems spare => uptoBulkAll elems + uptoBulkAll spare + 1
  | .agg parts => uptoBulkAll parts + 1
  | .iface _ d => uptoBulk d + 1
  | .map entries => uptoBulkEntries entries + 1
  | .held _ => 1
def uptoBulkAll {H : Type} : List (DataW H) → Nat
  | [] => 0
  | d :: r => uptoBulk d + uptoBulkAll r
def uptoBulkEntries {H : Type} : List (Lit × DataW H) → Nat
  | [] => 0
  | x :: r => uptoBulkEntry x + uptoBulkEntries r
def uptoBulkEntry {H : Type} : Lit × DataW H → Nat
  | (.string bytes, d) => bytes.length + uptoBulk d + 1
  | (_, d) => uptoBulk d + 1
 end
def uptoSmall : (H : Type) → List (DataW H) → Bool := fun _ ds => decide (uptoBulkAll ds ≤ 1048576)
def OpenSpec.upto (s : _root_.Go.ChangeSpec) : _root_.Go.OpenSpec := { _root_.Go.OpenSpec.ofChange s with cond := some uptoSmall }

/-- 'laws.FnExactAddBox', WHERE WHAT IT READS IS OF BULK AT MOST 1048576: true; the input reads as it did. -/
def fnExactAddBoxUptoRow : OpenClaim := { program := "ytombejhpfobehaagreatdoor", sum := "b11949d749becf281a839d39dd21d055e98d0af707d60ae547e2162a86311575", func := "loop.example/mailwire/laws.FnExactAddBox", spec := "fnExactAddBox", inPlace := ["internal/bytealg.IndexByteString", "internal/bytealg.IndexString", "internal/bytealg.CountString", "internal/bytealg.abigen_runtime_cmpstring", "slices.overlaps[loop.example/mailwire/impl.Box]"], unfollowed := true, recurses := true, named := ["internal/bytealg.MaxLen", "unicode/utf8.first", "unicode/utf8.acceptRanges", "loop.example/mailwire/impl.atomMarks"], apart := false, laid := [("unicode/utf8.acceptRanges", laid_unicode_utf8_acceptRanges), ("loop.example/mailwire/impl.atomMarks", laid_loop_example_mailwire_impl_atomMarks), ("unicode/utf8.first", laid_unicode_utf8_first)], narrowed := true }
def FnExactAddBoxUptoSaid : Prop := fnExactAddBoxUptoRow.holds Tryz.pinned (OpenSpec.upto fnExactAddBoxSpec)

/-- 'laws.FnExactTakeMail', WHERE WHAT IT READS IS OF BULK AT MOST 1048576: true; the input reads as it did. -/
def fnExactTakeMailUptoRow : OpenClaim := { program := "ytombejhpfobehaagreatdoor", sum := "b11949d749becf281a839d39dd21d055e98d0af707d60ae547e2162a86311575", func := "loop.example/mailwire/laws.FnExactTakeMail", spec := "fnExactTakeMail", inPlace := ["internal/bytealg.IndexByteString", "internal/bytealg.IndexString", "internal/bytealg.CountString", "internal/bytealg.abigen_runtime_cmpstring"], unfollowed := true, recurses := true, named := ["internal/bytealg.MaxLen", "unicode/utf8.first", "unicode/utf8.acceptRanges", "loop.example/mailwire/impl.atomMarks"], apart := false, laid := [("unicode/utf8.acceptRanges", laid_unicode_utf8_acceptRanges), ("loop.example/mailwire/impl.atomMarks", laid_loop_example_mailwire_impl_atomMarks), ("unicode/utf8.first", laid_unicode_utf8_first)], narrowed := true }
def FnExactTakeMailUptoSaid : Prop := fnExactTakeMailUptoRow.holds Tryz.pinned (OpenSpec.upto fnExactTakeMailSpec)

/-- 'laws.FnExactDeliverMail', WHERE WHAT IT READS IS OF BULK AT MOST 1048576: true; the input reads as it did. -/
def fnExactDeliverMailUptoRow : OpenClaim := { program := "ytombejhpfobehaagreatdoor", sum := "b11949d749becf281a839d39dd21d055e98d0af707d60ae547e2162a86311575", func := "loop.example/mailwire/laws.FnExactDeliverMail", spec := "fnExactDeliverMail", inPlace := ["internal/bytealg.IndexByteString", "internal/bytealg.IndexString", "internal/bytealg.CountString", "internal/bytealg.abigen_runtime_cmpstring"], unfollowed := true, recurses := true, named := ["internal/bytealg.MaxLen", "unicode/utf8.first", "unicode/utf8.acceptRanges", "loop.example/mailwire/impl.atomMarks"], apart := false, laid := [("unicode/utf8.acceptRanges", laid_unicode_utf8_acceptRanges), ("loop.example/mailwire/impl.atomMarks", laid_loop_example_mailwire_impl_atomMarks), ("unicode/utf8.first", laid_unicode_utf8_first)], narrowed := true }
def FnExactDeliverMailUptoSaid : Prop := fnExactDeliverMailUptoRow.holds Tryz.pinned (OpenSpec.upto fnExactDeliverMailSpec)

/-- 'laws.FnExactTraceMail', WHERE WHAT IT READS IS OF BULK AT MOST 1048576: true; the input reads as it did. -/
def fnExactTraceMailUptoRow : OpenClaim := { program := "ytombejhpfobehaagreatdoor", sum := "b11949d749becf281a839d39dd21d055e98d0af707d60ae547e2162a86311575", func := "loop.example/mailwire/laws.FnExactTraceMail", spec := "fnExactTraceMail", inPlace := ["internal/bytealg.IndexByteString", "internal/bytealg.IndexString", "internal/bytealg.CountString", "slices.overlaps[string]"], unfollowed := true, recurses := true, named := ["internal/bytealg.MaxLen", "unicode/utf8.first", "unicode/utf8.acceptRanges", "loop.example/mailwire/impl.atomMarks", "loop.example/mailwire/impl.monthNames", "internal/strconv.uint64pow10", "math/bits.deBruijn32tab", "math/bits.deBruijn64tab", "loop.example/mailwire/impl.weekdayNames"], apart := false, laid := [("math/bits.deBruijn32tab", laid_math_bits_deBruijn32tab), ("math/bits.deBruijn64tab", laid_math_bits_deBruijn64tab), ("internal/strconv.uint64pow10", laid_internal_strconv_uint64pow10), ("unicode/utf8.acceptRanges", laid_unicode_utf8_acceptRanges), ("loop.example/mailwire/impl.atomMarks", laid_loop_example_mailwire_impl_atomMarks), ("loop.example/mailwire/impl.monthNames", laid_loop_example_mailwire_impl_monthNames), ("loop.example/mailwire/impl.weekdayNames", laid_loop_example_mailwire_impl_weekdayNames), ("unicode/utf8.first", laid_unicode_utf8_first)], narrowed := true }
def FnExactTraceMailUptoSaid : Prop := fnExactTraceMailUptoRow.holds Tryz.pinned (OpenSpec.upto fnExactTraceMailSpec)

/-- 'laws.FnExactSayLine', WHERE WHAT IT READS IS OF BULK AT MOST 1048576: true; the input reads as it did. -/
def fnExactSayLineUptoRow : OpenClaim := { program := "ytombejhpfobehaagreatdoor", sum := "b11949d749becf281a839d39dd21d055e98d0af707d60ae547e2162a86311575", func := "loop.example/mailwire/laws.FnExactSayLine", spec := "fnExactSayLine", inPlace := ["internal/bytealg.CountString", "internal/bytealg.IndexByteString", "internal/bytealg.IndexString", "internal/abi.NoEscape"], unfollowed := true, recurses := true, named := ["unicode/utf8.first", "unicode/utf8.acceptRanges", "internal/bytealg.MaxLen", "loop.example/mailwire/impl.atomMarks"], apart := false, laid := [("unicode/utf8.acceptRanges", laid_unicode_utf8_acceptRanges), ("loop.example/mailwire/impl.atomMarks", laid_loop_example_mailwire_impl_atomMarks), ("unicode/utf8.first", laid_unicode_utf8_first)], narrowed := true }
def FnExactSayLineUptoSaid : Prop := fnExactSayLineUptoRow.holds Tryz.pinned (OpenSpec.upto fnExactSayLineSpec)

/-- 'laws.FnExactSayAll', WHERE WHAT IT READS IS OF BULK AT MOST 1048576: true; the input reads as it did. -/
def fnExactSayAllUptoRow : OpenClaim := { program := "ytombejhpfobehaagreatdoor", sum := "b11949d749becf281a839d39dd21d055e98d0af707d60ae547e2162a86311575", func := "loop.example/mailwire/laws.FnExactSayAll", spec := "fnExactSayAll", inPlace := ["internal/bytealg.CountString", "internal/bytealg.IndexByteString", "internal/bytealg.IndexString", "internal/abi.NoEscape"], unfollowed := true, recurses := true, named := ["unicode/utf8.first", "unicode/utf8.acceptRanges", "internal/bytealg.MaxLen", "loop.example/mailwire/impl.atomMarks"], apart := false, laid := [("unicode/utf8.acceptRanges", laid_unicode_utf8_acceptRanges), ("loop.example/mailwire/impl.atomMarks", laid_loop_example_mailwire_impl_atomMarks), ("unicode/utf8.first", laid_unicode_utf8_first)], narrowed := true }
def FnExactSayAllUptoSaid : Prop := fnExactSayAllUptoRow.holds Tryz.pinned (OpenSpec.upto fnExactSayAllSpec)

end Rows
end Go.Proofs.YtombejhpfobehaaGreatDoor
