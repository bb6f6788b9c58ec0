/-
  NARROWER THAN 'FOR EVERY INPUT', by the rows' own cells (each row's printed sentence says how): FnNormalMail: laid · FnSplitMail: laid · FnDeliverMail: laid · FnTakeMail: laid · FnCountHops: laid · FnBoxesSame: laid · FnCountHeld: laid · FnDeliverTwice: laid · FnNormalSplit: laid.
  DERIVED. THE GIVEN ROWS OF THIS SEAT. 9 by the template 'for every input the law returns true; each argument reads behind the call as it read before'; 0 by the template 'total and deterministic' (their statements: YtccendchnndaiaaDoorTotals.lean).
  GIVEN WITH THE SEED: the statements are not yours to turn. If you find one false, say at which input.
  Laid BY PROGRAM, IN A SANDBOX (cutbox-rows.mjs): the forced cells as the released guide's own fill.sh prints them over the translation 938aa908ea1be80b… (all of the seat's roots in one cut). By AI agents, Wed Nov 11 2026. No macro, syntax, notation, axiom, sorry.
-/
import Derived.Test.YtccendchnndaiaaDoorChecked
import GoSem.PinnedTables
import GoSem.Claim
import GoSem.ClaimJoined
import GoSem.ClaimMapViews
import Derived.JoinedTies
import Derived.KernelRfl
namespace Go.Proofs.YtccendchnndaiaaDoor
/- THE CELL 'sum', in the pinned program and in every row, IS THE sha256 OF THE DUMP (.gsa) THAT YtccendchnndaiaaDoorProg.lean LOADS. Nothing in Lean hashes anything: it is a label: what it is worth is what the hold of that sum in a sandbox is worth. -/
noncomputable def Tryd.pinned : Pinned := { name := "ytccendchnndaiaadoor", sum := "938aa908ea1be80b4f3923a52b21a5c71ce13b68838c04fc1fa1e1ed6f14d972", checked := Tryd.checked }
namespace Rows
def none {H : Type} : Left H := { results := [], args := [] }

/- WHAT THE LISTED PACKAGE-LEVEL VARIABLES READ AS WHEN THE CALL BEGINS. Each datum BY PROGRAM (the guide's laid-datum.mjs) off the statement by which the dump's own 'gosem.cut.vars' lays the variable. In a bare row this is a premise. The card (YtccendchnndaiaaDoorCards.lean) ties it to the program's text. -/
def laid_unicode_utf8_acceptRanges {H : Type} : DataW H := .agg [.agg [.lit (.int .u8 128), .lit (.int .u8 191)], .agg [.lit (.int .u8 160), .lit (.int .u8 191)], .agg [.lit (.int .u8 128), .lit (.int .u8 159)], .agg [.lit (.int .u8 144), .lit (.int .u8 191)], .agg [.lit (.int .u8 128), .lit (.int .u8 143)], .agg [.lit (.int .u8 0), .lit (.int .u8 0)], .agg [.lit (.int .u8 0), .lit (.int .u8 0)], .agg [.lit (.int .u8 0), .lit (.int .u8 0)], .agg [.lit (.int .u8 0), .lit (.int .u8 0)], .agg [.lit (.int .u8 0), .lit (.int .u8 0)], .agg [.lit (.int .u8 0), .lit (.int .u8 0)], .agg [.lit (.int .u8 0), .lit (.int .u8 0)], .agg [.lit (.int .u8 0), .lit (.int .u8 0)], .agg [.lit (.int .u8 0), .lit (.int .u8 0)], .agg [.lit (.int .u8 0), .lit (.int .u8 0)], .agg [.lit (.int .u8 0), .lit (.int .u8 0)]]
def laid_loop_example_mailwire_impl_atomMarks {H : Type} : DataW H := .agg [.agg [.lit (.int .u8 33), .lit (.int .u8 33)], .agg [.lit (.int .u8 35), .lit (.int .u8 39)], .agg [.lit (.int .u8 42), .lit (.int .u8 43)], .agg [.lit (.int .u8 45), .lit (.int .u8 45)], .agg [.lit (.int .u8 47), .lit (.int .u8 47)], .agg [.lit (.int .u8 61), .lit (.int .u8 61)], .agg [.lit (.int .u8 63), .lit (.int .u8 63)], .agg [.lit (.int .u8 94), .lit (.int .u8 96)], .agg [.lit (.int .u8 123), .lit (.int .u8 126)]]
/-- One of Go's own tables, pinned by name: the form's constant. -/
def laid_unicode_utf8_first : DataW Unit := Go.Pinned.utf8First

/-- 'laws.FnNormalMail': WHATEVER THE INPUT: true; the input reads as it did. -/
def fnNormalMailSpec : ChangeSpec := { name := "fnNormalMail", vars := ["loop.example/mailwire/impl.atomMarks"], fn := fun _ => fun
  | [d, g1] => { results := [.lit (.bool true)], args := [d], vars := [g1] }
  | _ => none }
def fnNormalMailRow : OpenClaim := { program := "ytccendchnndaiaadoor", sum := "938aa908ea1be80b4f3923a52b21a5c71ce13b68838c04fc1fa1e1ed6f14d972", func := "loop.example/mailwire/laws.FnNormalMail", spec := "fnNormalMail", inPlace := ["internal/bytealg.IndexByteString", "internal/bytealg.IndexString", "internal/bytealg.CountString"], unfollowed := true, recurses := true, named := ["internal/bytealg.MaxLen", "unicode/utf8.first", "unicode/utf8.acceptRanges", "loop.example/mailwire/impl.atomMarks"], apart := false, laid := [("unicode/utf8.acceptRanges", laid_unicode_utf8_acceptRanges), ("loop.example/mailwire/impl.atomMarks", laid_loop_example_mailwire_impl_atomMarks), ("unicode/utf8.first", laid_unicode_utf8_first)] }
def FnNormalMailSaid : Prop := fnNormalMailRow.holds Tryd.pinned (OpenSpec.ofChange fnNormalMailSpec)

/-- ITS FALSE NEIGHBOUR: 'it returns false'. Refute it at one input. -/
def fnNormalMailWrong : ChangeSpec := { name := "fnNormalMail", vars := ["loop.example/mailwire/impl.atomMarks"], fn := fun _ => fun
  | [d, g1] => { results := [.lit (.bool false)], args := [d], vars := [g1] }
  | _ => none }
def FnNormalMailWrongFalsely : Prop := fnNormalMailRow.holds Tryd.pinned (OpenSpec.ofChange fnNormalMailWrong)

/-- 'laws.FnSplitMail': WHATEVER THE INPUT: true; the input reads as it did. -/
def fnSplitMailSpec : ChangeSpec := { name := "fnSplitMail", vars := ["loop.example/mailwire/impl.atomMarks"], fn := fun _ => fun
  | [d, g1] => { results := [.lit (.bool true)], args := [d], vars := [g1] }
  | _ => none }
def fnSplitMailRow : OpenClaim := { program := "ytccendchnndaiaadoor", sum := "938aa908ea1be80b4f3923a52b21a5c71ce13b68838c04fc1fa1e1ed6f14d972", func := "loop.example/mailwire/laws.FnSplitMail", spec := "fnSplitMail", inPlace := ["internal/bytealg.IndexByteString", "internal/bytealg.IndexString", "internal/bytealg.CountString"], unfollowed := true, recurses := true, named := ["internal/bytealg.MaxLen", "unicode/utf8.first", "unicode/utf8.acceptRanges", "loop.example/mailwire/impl.atomMarks"], apart := false, laid := [("unicode/utf8.acceptRanges", laid_unicode_utf8_acceptRanges), ("loop.example/mailwire/impl.atomMarks", laid_loop_example_mailwire_impl_atomMarks), ("unicode/utf8.first", laid_unicode_utf8_first)] }
def FnSplitMailSaid : Prop := fnSplitMailRow.holds Tryd.pinned (OpenSpec.ofChange fnSplitMailSpec)

/-- ITS FALSE NEIGHBOUR: 'it returns false'. Refute it at one input. -/
def fnSplitMailWrong : ChangeSpec := { name := "fnSplitMail", vars := ["loop.example/mailwire/impl.atomMarks"], fn := fun _ => fun
  | [d, g1] => { results := [.lit (.bool false)], args := [d], vars := [g1] }
  | _ => none }
def FnSplitMailWrongFalsely : Prop := fnSplitMailRow.holds Tryd.pinned (OpenSpec.ofChange fnSplitMailWrong)

/-- 'laws.FnDeliverMail': WHATEVER THE INPUT: true; the input reads as it did. -/
def fnDeliverMailSpec : ChangeSpec := { name := "fnDeliverMail", vars := ["loop.example/mailwire/impl.atomMarks"], fn := fun _ => fun
  | [d, g1] => { results := [.lit (.bool true)], args := [d], vars := [g1] }
  | _ => none }
def fnDeliverMailRow : OpenClaim := { program := "ytccendchnndaiaadoor", sum := "938aa908ea1be80b4f3923a52b21a5c71ce13b68838c04fc1fa1e1ed6f14d972", func := "loop.example/mailwire/laws.FnDeliverMail", spec := "fnDeliverMail", inPlace := ["internal/bytealg.IndexByteString", "internal/bytealg.IndexString", "internal/bytealg.CountString", "internal/bytealg.abigen_runtime_cmpstring"], unfollowed := true, recurses := true, named := ["internal/bytealg.MaxLen", "unicode/utf8.first", "unicode/utf8.acceptRanges", "loop.example/mailwire/impl.atomMarks"], apart := false, laid := [("unicode/utf8.acceptRanges", laid_unicode_utf8_acceptRanges), ("loop.example/mailwire/impl.atomMarks", laid_loop_example_mailwire_impl_atomMarks), ("unicode/utf8.first", laid_unicode_utf8_first)] }
def FnDeliverMailSaid : Prop := fnDeliverMailRow.holds Tryd.pinned (OpenSpec.ofChange fnDeliverMailSpec)

/-- ITS FALSE NEIGHBOUR: 'it returns false'. Refute it at one input. -/
def fnDeliverMailWrong : ChangeSpec := { name := "fnDeliverMail", vars := ["loop.example/mailwire/impl.atomMarks"], fn := fun _ => fun
  | [d, g1] => { results := [.lit (.bool false)], args := [d], vars := [g1] }
  | _ => none }
def FnDeliverMailWrongFalsely : Prop := fnDeliverMailRow.holds Tryd.pinned (OpenSpec.ofChange fnDeliverMailWrong)

/-- 'laws.FnTakeMail': WHATEVER THE INPUT: true; the input reads as it did. -/
def fnTakeMailSpec : ChangeSpec := { name := "fnTakeMail", vars := ["loop.example/mailwire/impl.atomMarks"], fn := fun _ => fun
  | [d, g1] => { results := [.lit (.bool true)], args := [d], vars := [g1] }
  | _ => none }
def fnTakeMailRow : OpenClaim := { program := "ytccendchnndaiaadoor", sum := "938aa908ea1be80b4f3923a52b21a5c71ce13b68838c04fc1fa1e1ed6f14d972", func := "loop.example/mailwire/laws.FnTakeMail", spec := "fnTakeMail", inPlace := ["internal/bytealg.IndexByteString", "internal/bytealg.IndexString", "internal/bytealg.CountString", "internal/bytealg.abigen_runtime_cmpstring"], unfollowed := true, recurses := true, named := ["internal/bytealg.MaxLen", "unicode/utf8.first", "unicode/utf8.acceptRanges", "loop.example/mailwire/impl.atomMarks"], apart := false, laid := [("unicode/utf8.acceptRanges", laid_unicode_utf8_acceptRanges), ("loop.example/mailwire/impl.atomMarks", laid_loop_example_mailwire_impl_atomMarks), ("unicode/utf8.first", laid_unicode_utf8_first)] }
def FnTakeMailSaid : Prop := fnTakeMailRow.holds Tryd.pinned (OpenSpec.ofChange fnTakeMailSpec)

/-- ITS FALSE NEIGHBOUR: 'it returns false'. Refute it at one input. -/
def fnTakeMailWrong : ChangeSpec := { name := "fnTakeMail", vars := ["loop.example/mailwire/impl.atomMarks"], fn := fun _ => fun
  | [d, g1] => { results := [.lit (.bool false)], args := [d], vars := [g1] }
  | _ => none }
def FnTakeMailWrongFalsely : Prop := fnTakeMailRow.holds Tryd.pinned (OpenSpec.ofChange fnTakeMailWrong)

/-- 'laws.FnCountHops': WHATEVER THE INPUT: true; the input reads as it did. -/
def fnCountHopsSpec : ChangeSpec := { name := "fnCountHops", vars := ["loop.example/mailwire/impl.atomMarks"], fn := fun _ => fun
  | [d, g1] => { results := [.lit (.bool true)], args := [d], vars := [g1] }
  | _ => none }
def fnCountHopsRow : OpenClaim := { program := "ytccendchnndaiaadoor", sum := "938aa908ea1be80b4f3923a52b21a5c71ce13b68838c04fc1fa1e1ed6f14d972", func := "loop.example/mailwire/laws.FnCountHops", spec := "fnCountHops", inPlace := ["internal/bytealg.IndexByteString", "internal/bytealg.IndexString", "internal/bytealg.CountString"], unfollowed := true, recurses := true, named := ["internal/bytealg.MaxLen", "unicode/utf8.first", "unicode/utf8.acceptRanges", "loop.example/mailwire/impl.atomMarks"], apart := false, laid := [("unicode/utf8.acceptRanges", laid_unicode_utf8_acceptRanges), ("loop.example/mailwire/impl.atomMarks", laid_loop_example_mailwire_impl_atomMarks), ("unicode/utf8.first", laid_unicode_utf8_first)] }
def FnCountHopsSaid : Prop := fnCountHopsRow.holds Tryd.pinned (OpenSpec.ofChange fnCountHopsSpec)

/-- ITS FALSE NEIGHBOUR: 'it returns false'. Refute it at one input. -/
def fnCountHopsWrong : ChangeSpec := { name := "fnCountHops", vars := ["loop.example/mailwire/impl.atomMarks"], fn := fun _ => fun
  | [d, g1] => { results := [.lit (.bool false)], args := [d], vars := [g1] }
  | _ => none }
def FnCountHopsWrongFalsely : Prop := fnCountHopsRow.holds Tryd.pinned (OpenSpec.ofChange fnCountHopsWrong)

/-- 'laws.FnBoxesSame': WHATEVER THE INPUT: true; the input reads as it did. -/
def fnBoxesSameSpec : ChangeSpec := { name := "fnBoxesSame", vars := ["loop.example/mailwire/impl.atomMarks"], fn := fun _ => fun
  | [d, g1] => { results := [.lit (.bool true)], args := [d], vars := [g1] }
  | _ => none }
def fnBoxesSameRow : OpenClaim := { program := "ytccendchnndaiaadoor", sum := "938aa908ea1be80b4f3923a52b21a5c71ce13b68838c04fc1fa1e1ed6f14d972", func := "loop.example/mailwire/laws.FnBoxesSame", spec := "fnBoxesSame", inPlace := ["internal/bytealg.IndexByteString", "internal/bytealg.IndexString", "internal/bytealg.CountString"], unfollowed := true, recurses := true, named := ["internal/bytealg.MaxLen", "unicode/utf8.first", "unicode/utf8.acceptRanges", "loop.example/mailwire/impl.atomMarks"], apart := false, laid := [("unicode/utf8.acceptRanges", laid_unicode_utf8_acceptRanges), ("loop.example/mailwire/impl.atomMarks", laid_loop_example_mailwire_impl_atomMarks), ("unicode/utf8.first", laid_unicode_utf8_first)] }
def FnBoxesSameSaid : Prop := fnBoxesSameRow.holds Tryd.pinned (OpenSpec.ofChange fnBoxesSameSpec)

/-- ITS FALSE NEIGHBOUR: 'it returns false'. Refute it at one input. -/
def fnBoxesSameWrong : ChangeSpec := { name := "fnBoxesSame", vars := ["loop.example/mailwire/impl.atomMarks"], fn := fun _ => fun
  | [d, g1] => { results := [.lit (.bool false)], args := [d], vars := [g1] }
  | _ => none }
def FnBoxesSameWrongFalsely : Prop := fnBoxesSameRow.holds Tryd.pinned (OpenSpec.ofChange fnBoxesSameWrong)

/-- 'laws.FnCountHeld': WHATEVER THE INPUT: true; the input reads as it did. -/
def fnCountHeldSpec : ChangeSpec := { name := "fnCountHeld", vars := ["loop.example/mailwire/impl.atomMarks"], fn := fun _ => fun
  | [d, g1] => { results := [.lit (.bool true)], args := [d], vars := [g1] }
  | _ => none }
def fnCountHeldRow : OpenClaim := { program := "ytccendchnndaiaadoor", sum := "938aa908ea1be80b4f3923a52b21a5c71ce13b68838c04fc1fa1e1ed6f14d972", func := "loop.example/mailwire/laws.FnCountHeld", spec := "fnCountHeld", inPlace := ["internal/bytealg.IndexByteString", "internal/bytealg.IndexString", "internal/bytealg.CountString", "internal/bytealg.abigen_runtime_cmpstring"], unfollowed := true, recurses := true, named := ["internal/bytealg.MaxLen", "unicode/utf8.first", "unicode/utf8.acceptRanges", "loop.example/mailwire/impl.atomMarks"], apart := false, laid := [("unicode/utf8.acceptRanges", laid_unicode_utf8_acceptRanges), ("loop.example/mailwire/impl.atomMarks", laid_loop_example_mailwire_impl_atomMarks), ("unicode/utf8.first", laid_unicode_utf8_first)] }
def FnCountHeldSaid : Prop := fnCountHeldRow.holds Tryd.pinned (OpenSpec.ofChange fnCountHeldSpec)

/-- ITS FALSE NEIGHBOUR: 'it returns false'. Refute it at one input. -/
def fnCountHeldWrong : ChangeSpec := { name := "fnCountHeld", vars := ["loop.example/mailwire/impl.atomMarks"], fn := fun _ => fun
  | [d, g1] => { results := [.lit (.bool false)], args := [d], vars := [g1] }
  | _ => none }
def FnCountHeldWrongFalsely : Prop := fnCountHeldRow.holds Tryd.pinned (OpenSpec.ofChange fnCountHeldWrong)

/-- 'laws.FnDeliverTwice': WHATEVER THE INPUT: true; the input reads as it did. -/
def fnDeliverTwiceSpec : ChangeSpec := { name := "fnDeliverTwice", vars := ["loop.example/mailwire/impl.atomMarks"], fn := fun _ => fun
  | [d, g1] => { results := [.lit (.bool true)], args := [d], vars := [g1] }
  | _ => none }
def fnDeliverTwiceRow : OpenClaim := { program := "ytccendchnndaiaadoor", sum := "938aa908ea1be80b4f3923a52b21a5c71ce13b68838c04fc1fa1e1ed6f14d972", func := "loop.example/mailwire/laws.FnDeliverTwice", spec := "fnDeliverTwice", inPlace := ["internal/bytealg.IndexByteString", "internal/bytealg.IndexString", "internal/bytealg.CountString", "internal/bytealg.abigen_runtime_cmpstring"], unfollowed := true, recurses := true, named := ["internal/bytealg.MaxLen", "unicode/utf8.first", "unicode/utf8.acceptRanges", "loop.example/mailwire/impl.atomMarks"], apart := false, laid := [("unicode/utf8.acceptRanges", laid_unicode_utf8_acceptRanges), ("loop.example/mailwire/impl.atomMarks", laid_loop_example_mailwire_impl_atomMarks), ("unicode/utf8.first", laid_unicode_utf8_first)] }
def FnDeliverTwiceSaid : Prop := fnDeliverTwiceRow.holds Tryd.pinned (OpenSpec.ofChange fnDeliverTwiceSpec)

/-- ITS FALSE NEIGHBOUR: 'it returns false'. Refute it at one input. -/
def fnDeliverTwiceWrong : ChangeSpec := { name := "fnDeliverTwice", vars := ["loop.example/mailwire/impl.atomMarks"], fn := fun _ => fun
  | [d, g1] => { results := [.lit (.bool false)], args := [d], vars := [g1] }
  | _ => none }
def FnDeliverTwiceWrongFalsely : Prop := fnDeliverTwiceRow.holds Tryd.pinned (OpenSpec.ofChange fnDeliverTwiceWrong)

/-- 'laws.FnNormalSplit': WHATEVER THE INPUT: true; the input reads as it did. -/
def fnNormalSplitSpec : ChangeSpec := { name := "fnNormalSplit", vars := ["loop.example/mailwire/impl.atomMarks"], fn := fun _ => fun
  | [d, g1] => { results := [.lit (.bool true)], args := [d], vars := [g1] }
  | _ => none }
def fnNormalSplitRow : OpenClaim := { program := "ytccendchnndaiaadoor", sum := "938aa908ea1be80b4f3923a52b21a5c71ce13b68838c04fc1fa1e1ed6f14d972", func := "loop.example/mailwire/laws.FnNormalSplit", spec := "fnNormalSplit", inPlace := ["internal/bytealg.IndexByteString", "internal/bytealg.IndexString", "internal/bytealg.CountString"], unfollowed := true, recurses := true, named := ["internal/bytealg.MaxLen", "unicode/utf8.first", "unicode/utf8.acceptRanges", "loop.example/mailwire/impl.atomMarks"], apart := false, laid := [("unicode/utf8.acceptRanges", laid_unicode_utf8_acceptRanges), ("loop.example/mailwire/impl.atomMarks", laid_loop_example_mailwire_impl_atomMarks), ("unicode/utf8.first", laid_unicode_utf8_first)] }
def FnNormalSplitSaid : Prop := fnNormalSplitRow.holds Tryd.pinned (OpenSpec.ofChange fnNormalSplitSpec)

/-- ITS FALSE NEIGHBOUR: 'it returns false'. Refute it at one input. -/
def fnNormalSplitWrong : ChangeSpec := { name := "fnNormalSplit", vars := ["loop.example/mailwire/impl.atomMarks"], fn := fun _ => fun
  | [d, g1] => { results := [.lit (.bool false)], args := [d], vars := [g1] }
  | _ => none }
def FnNormalSplitWrongFalsely : Prop := fnNormalSplitRow.holds Tryd.pinned (OpenSpec.ofChange fnNormalSplitWrong)

/- THE SECOND FORM. 'bulk': how many values and letters a reading holds, each counted each time it is reached (what is shared counts as often as it is met; a slice's spare places count too). A statement '..UptoSaid' is the law's where the arguments, and the package variables that the reading takes, are together of bulk at most 1048576: NARROWER than '..Said'. Prove '..Said' where nothing that the law and all that it calls make is longer than what came in: it says more and counts as full. Else prove '..UptoSaid'. A law counts once. -/
mutual
def uptoBulk {H : Type} : DataW H → Nat
  | .lit (.string bytes) => bytes.length + 1
  | .lit _ => 1
  | .nil => 1
  | .ptr d => uptoBulk d + 1
  | .slice elems spare => uptoBulkAll elems + uptoBulkAll spare + 1
  | .agg parts => uptoBulkAll parts + 1
  | .iface _ d => uptoBulk d + 1
  | .map entries => uptoBulkEntries entries + 1
  | .held _ => 1
def uptoBulkAll {H : Type} : List (DataW H) → Nat
  | [] => 0
  | d :: r => uptoBulk d + uptoBulkAll r
def uptoBulkEntries {H : Type} : List (Lit × DataW H) → Nat
  | [] => 0
  | x :: r => uptoBulkEntry x + uptoBulkEntries r
def uptoBulkEntry {H : Type} : Lit × DataW H → Nat
  | (.string bytes, d) => bytes.length + uptoBulk d + 1
  | (_, d) => uptoBulk d + 1
 end
def uptoSmall : (H : Type) → List (DataW H) → Bool := fun _ ds => decide (uptoBulkAll ds ≤ 1048576)
def OpenSpec.upto (s : _root_.Go.ChangeSpec) : _root_.Go.OpenSpec := { _root_.Go.OpenSpec.ofChange s with cond := some uptoSmall }

/-- 'laws.FnNormalMail', WHERE WHAT IT READS IS OF BULK AT MOST 1048576: true; the input reads as it did. -/
def fnNormalMailUptoRow : OpenClaim := { program := "ytccendchnndaiaadoor", sum := "938aa908ea1be80b4f3923a52b21a5c71ce13b68838c04fc1fa1e1ed6f14d972", func := "loop.example/mailwire/laws.FnNormalMail", spec := "fnNormalMail", inPlace := ["internal/bytealg.IndexByteString", "internal/bytealg.IndexString", "internal/bytealg.CountString"], unfollowed := true, recurses := true, named := ["internal/bytealg.MaxLen", "unicode/utf8.first", "unicode/utf8.acceptRanges", "loop.example/mailwire/impl.atomMarks"], apart := false, laid := [("unicode/utf8.acceptRanges", laid_unicode_utf8_acceptRanges), ("loop.example/mailwire/impl.atomMarks", laid_loop_example_mailwire_impl_atomMarks), ("unicode/utf8.first", laid_unicode_utf8_first)], narrowed := true }
def FnNormalMailUptoSaid : Prop := fnNormalMailUptoRow.holds Tryd.pinned (OpenSpec.upto fnNormalMailSpec)

/-- 'laws.FnSplitMail', WHERE WHAT IT READS IS OF BULK AT MOST 1048576: true; the input reads as it did. -/
def fnSplitMailUptoRow : OpenClaim := { program := "ytccendchnndaiaadoor", sum := "938aa908ea1be80b4f3923a52b21a5c71ce13b68838c04fc1fa1e1ed6f14d972", func := "loop.example/mailwire/laws.FnSplitMail", spec := "fnSplitMail", inPlace := ["internal/bytealg.IndexByteString", "internal/bytealg.IndexString", "internal/bytealg.CountString"], unfollowed := true, recurses := true, named := ["internal/bytealg.MaxLen", "unicode/utf8.first", "unicode/utf8.acceptRanges", "loop.example/mailwire/impl.atomMarks"], apart := false, laid := [("unicode/utf8.acceptRanges", laid_unicode_utf8_acceptRanges), ("loop.example/mailwire/impl.atomMarks", laid_loop_example_mailwire_impl_atomMarks), ("unicode/utf8.first", laid_unicode_utf8_first)], narrowed := true }
def FnSplitMailUptoSaid : Prop := fnSplitMailUptoRow.holds Tryd.pinned (OpenSpec.upto fnSplitMailSpec)

/-- 'laws.FnDeliverMail', WHERE WHAT IT READS IS OF BULK AT MOST 1048576: true; the input reads as it did. -/
def fnDeliverMailUptoRow : OpenClaim := { program := "ytccendchnndaiaadoor", sum := "938aa908ea1be80b4f3923a52b21a5c71ce13b68838c04fc1fa1e1ed6f14d972", func := "loop.example/mailwire/laws.FnDeliverMail", spec := "fnDeliverMail", inPlace := ["internal/bytealg.IndexByteString", "internal/bytealg.IndexString", "internal/bytealg.CountString", "internal/bytealg.abigen_runtime_cmpstring"], unfollowed := true, recurses := true, named := ["internal/bytealg.MaxLen", "unicode/utf8.first", "unicode/utf8.acceptRanges", "loop.example/mailwire/impl.atomMarks"], apart := false, laid := [("unicode/utf8.acceptRanges", laid_unicode_utf8_acceptRanges), ("loop.example/mailwire/impl.atomMarks", laid_loop_example_mailwire_impl_atomMarks), ("unicode/utf8.first", laid_unicode_utf8_first)], narrowed := true }
def FnDeliverMailUptoSaid : Prop := fnDeliverMailUptoRow.holds Tryd.pinned (OpenSpec.upto fnDeliverMailSpec)

/-- 'laws.FnTakeMail', WHERE WHAT IT READS IS OF BULK AT MOST 1048576: true; the input reads as it did. -/
def fnTakeMailUptoRow : OpenClaim := { program := "ytccendchnndaiaadoor", sum := "938aa908ea1be80b4f3923a52b21a5c71ce13b68838c04fc1fa1e1ed6f14d972", func := "loop.example/mailwire/laws.FnTakeMail", spec := "fnTakeMail", inPlace := ["internal/bytealg.IndexByteString", "internal/bytealg.IndexString", "internal/bytealg.CountString", "internal/bytealg.abigen_runtime_cmpstring"], unfollowed := true, recurses := true, named := ["internal/bytealg.MaxLen", "unicode/utf8.first", "unicode/utf8.acceptRanges", "loop.example/mailwire/impl.atomMarks"], apart := false, laid := [("unicode/utf8.acceptRanges", laid_unicode_utf8_acceptRanges), ("loop.example/mailwire/impl.atomMarks", laid_loop_example_mailwire_impl_atomMarks), ("unicode/utf8.first", laid_unicode_utf8_first)], narrowed := true }
def FnTakeMailUptoSaid : Prop := fnTakeMailUptoRow.holds Tryd.pinned (OpenSpec.upto fnTakeMailSpec)

/-- 'laws.FnCountHops', WHERE WHAT IT READS IS OF BULK AT MOST 1048576: true; the input reads as it did. -/
def fnCountHopsUptoRow : OpenClaim := { program := "ytccendchnndaiaadoor", sum := "938aa908ea1be80b4f3923a52b21a5c71ce13b68838c04fc1fa1e1ed6f14d972", func := "loop.example/mailwire/laws.FnCountHops", spec := "fnCountHops", inPlace := ["internal/bytealg.IndexByteString", "internal/bytealg.IndexString", "internal/bytealg.CountString"], unfollowed := true, recurses := true, named := ["internal/bytealg.MaxLen", "unicode/utf8.first", "unicode/utf8.acceptRanges", "loop.example/mailwire/impl.atomMarks"], apart := false, laid := [("unicode/utf8.acceptRanges", laid_unicode_utf8_acceptRanges), ("loop.example/mailwire/impl.atomMarks", laid_loop_example_mailwire_impl_atomMarks), ("unicode/utf8.first", laid_unicode_utf8_first)], narrowed := true }
def FnCountHopsUptoSaid : Prop := fnCountHopsUptoRow.holds Tryd.pinned (OpenSpec.upto fnCountHopsSpec)

/-- 'laws.FnBoxesSame', WHERE WHAT IT READS IS OF BULK AT MOST 1048576: true; the input reads as it did. -/
def fnBoxesSameUptoRow : OpenClaim := { program := "ytccendchnndaiaadoor", sum := "938aa908ea1be80b4f3923a52b21a5c71ce13b68838c04fc1fa1e1ed6f14d972", func := "loop.example/mailwire/laws.FnBoxesSame", spec := "fnBoxesSame", inPlace := ["internal/bytealg.IndexByteString", "internal/bytealg.IndexString", "internal/bytealg.CountString"], unfollowed := true, recurses := true, named := ["internal/bytealg.MaxLen", "unicode/utf8.first", "unicode/utf8.acceptRanges", "loop.example/mailwire/impl.atomMarks"], apart := false, laid := [("unicode/utf8.acceptRanges", laid_unicode_utf8_acceptRanges), ("loop.example/mailwire/impl.atomMarks", laid_loop_example_mailwire_impl_atomMarks), ("unicode/utf8.first", laid_unicode_utf8_first)], narrowed := true }
def FnBoxesSameUptoSaid : Prop := fnBoxesSameUptoRow.holds Tryd.pinned (OpenSpec.upto fnBoxesSameSpec)

/-- 'laws.FnCountHeld', WHERE WHAT IT READS IS OF BULK AT MOST 1048576: true; the input reads as it did. -/
def fnCountHeldUptoRow : OpenClaim := { program := "ytccendchnndaiaadoor", sum := "938aa908ea1be80b4f3923a52b21a5c71ce13b68838c04fc1fa1e1ed6f14d972", func := "loop.example/mailwire/laws.FnCountHeld", spec := "fnCountHeld", inPlace := ["internal/bytealg.IndexByteString", "internal/bytealg.IndexString", "internal/bytealg.CountString", "internal/bytealg.abigen_runtime_cmpstring"], unfollowed := true, recurses := true, named := ["internal/bytealg.MaxLen", "unicode/utf8.first", "unicode/utf8.acceptRanges", "loop.example/mailwire/impl.atomMarks"], apart := false, laid := [("unicode/utf8.acceptRanges", laid_unicode_utf8_acceptRanges), ("loop.example/mailwire/impl.atomMarks", laid_loop_example_mailwire_impl_atomMarks), ("unicode/utf8.first", laid_unicode_utf8_first)], narrowed := true }
def FnCountHeldUptoSaid : Prop := fnCountHeldUptoRow.holds Tryd.pinned (OpenSpec.upto fnCountHeldSpec)

/-- 'laws.FnDeliverTwice', WHERE WHAT IT READS IS OF BULK AT MOST 1048576: true; the input reads as it did. -/
def fnDeliverTwiceUptoRow : OpenClaim := { program := "ytccendchnndaiaadoor", sum := "938aa908ea1be80b4f3923a52b21a5c71ce13b68838c04fc1fa1e1ed6f14d972", func := "loop.example/mailwire/laws.FnDeliverTwice", spec := "fnDeliverTwice", inPlace := ["internal/bytealg.IndexByteString", "internal/bytealg.IndexString", "internal/bytealg.CountString", "internal/bytealg.abigen_runtime_cmpstring"], unfollowed := true, recurses := true, named := ["internal/bytealg.MaxLen", "unicode/utf8.first", "unicode/utf8.acceptRanges", "loop.example/mailwire/impl.atomMarks"], apart := false, laid := [("unicode/utf8.acceptRanges", laid_unicode_utf8_acceptRanges), ("loop.example/mailwire/impl.atomMarks", laid_loop_example_mailwire_impl_atomMarks), ("unicode/utf8.first", laid_unicode_utf8_first)], narrowed := true }
def FnDeliverTwiceUptoSaid : Prop := fnDeliverTwiceUptoRow.holds Tryd.pinned (OpenSpec.upto fnDeliverTwiceSpec)

/-- 'laws.FnNormalSplit', WHERE WHAT IT READS IS OF BULK AT MOST 1048576: true; the input reads as it did. -/
def fnNormalSplitUptoRow : OpenClaim := { program := "ytccendchnndaiaadoor", sum := "938aa908ea1be80b4f3923a52b21a5c71ce13b68838c04fc1fa1e1ed6f14d972", func := "loop.example/mailwire/laws.FnNormalSplit", spec := "fnNormalSplit", inPlace := ["internal/bytealg.IndexByteString", "internal/bytealg.IndexString", "internal/bytealg.CountString"], unfollowed := true, recurses := true, named := ["internal/bytealg.MaxLen", "unicode/utf8.first", "unicode/utf8.acceptRanges", "loop.example/mailwire/impl.atomMarks"], apart := false, laid := [("unicode/utf8.acceptRanges", laid_unicode_utf8_acceptRanges), ("loop.example/mailwire/impl.atomMarks", laid_loop_example_mailwire_impl_atomMarks), ("unicode/utf8.first", laid_unicode_utf8_first)], narrowed := true }
def FnNormalSplitUptoSaid : Prop := fnNormalSplitUptoRow.holds Tryd.pinned (OpenSpec.upto fnNormalSplitSpec)

end Rows
end Go.Proofs.YtccendchnndaiaaDoor
