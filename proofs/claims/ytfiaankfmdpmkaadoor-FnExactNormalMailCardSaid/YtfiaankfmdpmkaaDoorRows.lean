/-
  NARROWER THAN 'FOR EVERY INPUT', by the rows' own cells (each row's printed sentence says how): FnExactBoxesValid: laid · FnExactCountHeld: laid · FnExactCountHops: laid · FnExactNormalMail: laid · FnExactSplitMail: laid.
  DERIVED. THE GIVEN ROWS OF THIS SEAT. 5 by the template 'for every input the law returns true; each argument reads behind the call as it read before'; 0 by the template 'total and deterministic' (their statements: YtfiaankfmdpmkaaDoorTotals.lean).
  GIVEN WITH THE SEED: the statements are not yours to turn. If you find one false, say at which input.
  Laid BY PROGRAM, IN A SANDBOX (cutbox-rows.mjs): the forced cells as the released guide's own fill.sh prints them over the translation 554826fab8bd2f79… (all of the seat's roots in one cut). By AI agents, Wed Nov 11 2026. No macro, syntax, notation, axiom, sorry.
-/
import Derived.Test.YtfiaankfmdpmkaaDoorChecked
import GoSem.PinnedTables
import GoSem.Claim
import GoSem.ClaimJoined
import GoSem.ClaimMapViews
import Derived.JoinedTies
import Derived.KernelRfl
namespace Go.Proofs.YtfiaankfmdpmkaaDoor
/- THE CELL 'sum', in the pinned program and in every row, IS THE sha256 OF THE DUMP (.gsa) THAT YtfiaankfmdpmkaaDoorProg.lean LOADS. Nothing in Lean hashes anything: it is a label: what it is worth is what the hold of that sum in a sandbox is worth. -/
noncomputable def Tryd.pinned : Pinned := { name := "ytfiaankfmdpmkaadoor", sum := "554826fab8bd2f79e62c35d02d5b8d3c4fcd0d49c9bd36e1261ac7714f17e98e", checked := Tryd.checked }
namespace Rows
def none {H : Type} : Left H := { results := [], args := [] }

/- WHAT THE LISTED PACKAGE-LEVEL VARIABLES READ AS WHEN THE CALL BEGINS. Each datum BY PROGRAM (the guide's laid-datum.mjs) off the statement by which the dump's own 'gosem.cut.vars' lays the variable. In a bare row this is a premise. The card (YtfiaankfmdpmkaaDoorCards.lean) ties it to the program's text. -/
def laid_unicode_utf8_acceptRanges {H : Type} : DataW H := .agg [.agg [.lit (.int .u8 128), .lit (.int .u8 191)], .agg [.lit (.int .u8 160), .lit (.int .u8 191)], .agg [.lit (.int .u8 128), .lit (.int .u8 159)], .agg [.lit (.int .u8 144), .lit (.int .u8 191)], .agg [.lit (.int .u8 128), .lit (.int .u8 143)], .agg [.lit (.int .u8 0), .lit (.int .u8 0)], .agg [.lit (.int .u8 0), .lit (.int .u8 0)], .agg [.lit (.int .u8 0), .lit (.int .u8 0)], .agg [.lit (.int .u8 0), .lit (.int .u8 0)], .agg [.lit (.int .u8 0), .lit (.int .u8 0)], .agg [.lit (.int .u8 0), .lit (.int .u8 0)], .agg [.lit (.int .u8 0), .lit (.int .u8 0)], .agg [.lit (.int .u8 0), .lit (.int .u8 0)], .agg [.lit (.int .u8 0), .lit (.int .u8 0)], .agg [.lit (.int .u8 0), .lit (.int .u8 0)], .agg [.lit (.int .u8 0), .lit (.int .u8 0)]]
def laid_loop_example_mailwire_impl_atomMarks {H : Type} : DataW H := .agg [.agg [.lit (.int .u8 33), .lit (.int .u8 33)], .agg [.lit (.int .u8 35), .lit (.int .u8 39)], .agg [.lit (.int .u8 42), .lit (.int .u8 43)], .agg [.lit (.int .u8 45), .lit (.int .u8 45)], .agg [.lit (.int .u8 47), .lit (.int .u8 47)], .agg [.lit (.int .u8 61), .lit (.int .u8 61)], .agg [.lit (.int .u8 63), .lit (.int .u8 63)], .agg [.lit (.int .u8 94), .lit (.int .u8 96)], .agg [.lit (.int .u8 123), .lit (.int .u8 126)]]
/-- One of Go's own tables, pinned by name: the form's constant. -/
def laid_unicode_utf8_first : DataW Unit := Go.Pinned.utf8First

/-- 'laws.FnExactBoxesValid': WHATEVER THE INPUT: true; the input reads as it did. -/
def fnExactBoxesValidSpec : ChangeSpec := { name := "fnExactBoxesValid", vars := ["loop.example/mailwire/impl.atomMarks"], fn := fun _ => fun
  | [d, g1] => { results := [.lit (.bool true)], args := [d], vars := [g1] }
  | _ => none }
def fnExactBoxesValidRow : OpenClaim := { program := "ytfiaankfmdpmkaadoor", sum := "554826fab8bd2f79e62c35d02d5b8d3c4fcd0d49c9bd36e1261ac7714f17e98e", func := "loop.example/mailwire/laws.FnExactBoxesValid", spec := "fnExactBoxesValid", inPlace := ["internal/bytealg.IndexByteString", "internal/bytealg.IndexString", "internal/bytealg.CountString"], unfollowed := true, recurses := true, named := ["internal/bytealg.MaxLen", "unicode/utf8.first", "unicode/utf8.acceptRanges", "loop.example/mailwire/impl.atomMarks"], apart := false, laid := [("unicode/utf8.acceptRanges", laid_unicode_utf8_acceptRanges), ("loop.example/mailwire/impl.atomMarks", laid_loop_example_mailwire_impl_atomMarks), ("unicode/utf8.first", laid_unicode_utf8_first)] }
def FnExactBoxesValidSaid : Prop := fnExactBoxesValidRow.holds Tryd.pinned (OpenSpec.ofChange fnExactBoxesValidSpec)

/-- ITS FALSE NEIGHBOUR: 'it returns false'. Refute it at one input. -/
def fnExactBoxesValidWrong : ChangeSpec := { name := "fnExactBoxesValid", vars := ["loop.example/mailwire/impl.atomMarks"], fn := fun _ => fun
  | [d, g1] => { results := [.lit (.bool false)], args := [d], vars := [g1] }
  | _ => none }
def FnExactBoxesValidWrongFalsely : Prop := fnExactBoxesValidRow.holds Tryd.pinned (OpenSpec.ofChange fnExactBoxesValidWrong)

/-- 'laws.FnExactCountHeld': WHATEVER THE INPUT: true; the input reads as it did. -/
def fnExactCountHeldSpec : ChangeSpec := { name := "fnExactCountHeld", vars := ["loop.example/mailwire/impl.atomMarks"], fn := fun _ => fun
  | [d, g1] => { results := [.lit (.bool true)], args := [d], vars := [g1] }
  | _ => none }
def fnExactCountHeldRow : OpenClaim := { program := "ytfiaankfmdpmkaadoor", sum := "554826fab8bd2f79e62c35d02d5b8d3c4fcd0d49c9bd36e1261ac7714f17e98e", func := "loop.example/mailwire/laws.FnExactCountHeld", spec := "fnExactCountHeld", inPlace := ["internal/bytealg.IndexByteString", "internal/bytealg.IndexString", "internal/bytealg.CountString"], unfollowed := true, recurses := true, named := ["internal/bytealg.MaxLen", "unicode/utf8.first", "unicode/utf8.acceptRanges", "loop.example/mailwire/impl.atomMarks"], apart := false, laid := [("unicode/utf8.acceptRanges", laid_unicode_utf8_acceptRanges), ("loop.example/mailwire/impl.atomMarks", laid_loop_example_mailwire_impl_atomMarks), ("unicode/utf8.first", laid_unicode_utf8_first)] }
def FnExactCountHeldSaid : Prop := fnExactCountHeldRow.holds Tryd.pinned (OpenSpec.ofChange fnExactCountHeldSpec)

/-- ITS FALSE NEIGHBOUR: 'it returns false'. Refute it at one input. -/
def fnExactCountHeldWrong : ChangeSpec := { name := "fnExactCountHeld", vars := ["loop.example/mailwire/impl.atomMarks"], fn := fun _ => fun
  | [d, g1] => { results := [.lit (.bool false)], args := [d], vars := [g1] }
  | _ => none }
def FnExactCountHeldWrongFalsely : Prop := fnExactCountHeldRow.holds Tryd.pinned (OpenSpec.ofChange fnExactCountHeldWrong)

/-- 'laws.FnExactCountHops': WHATEVER THE INPUT: true; the input reads as it did. -/
def fnExactCountHopsSpec : ChangeSpec := { name := "fnExactCountHops", vars := ["loop.example/mailwire/impl.atomMarks"], fn := fun _ => fun
  | [d, g1] => { results := [.lit (.bool true)], args := [d], vars := [g1] }
  | _ => none }
def fnExactCountHopsRow : OpenClaim := { program := "ytfiaankfmdpmkaadoor", sum := "554826fab8bd2f79e62c35d02d5b8d3c4fcd0d49c9bd36e1261ac7714f17e98e", func := "loop.example/mailwire/laws.FnExactCountHops", spec := "fnExactCountHops", inPlace := ["internal/bytealg.IndexByteString", "internal/bytealg.IndexString", "internal/bytealg.CountString"], unfollowed := true, recurses := true, named := ["internal/bytealg.MaxLen", "unicode/utf8.first", "unicode/utf8.acceptRanges", "loop.example/mailwire/impl.atomMarks"], apart := false, laid := [("unicode/utf8.acceptRanges", laid_unicode_utf8_acceptRanges), ("loop.example/mailwire/impl.atomMarks", laid_loop_example_mailwire_impl_atomMarks), ("unicode/utf8.first", laid_unicode_utf8_first)] }
def FnExactCountHopsSaid : Prop := fnExactCountHopsRow.holds Tryd.pinned (OpenSpec.ofChange fnExactCountHopsSpec)

/-- ITS FALSE NEIGHBOUR: 'it returns false'. Refute it at one input. -/
def fnExactCountHopsWrong : ChangeSpec := { name := "fnExactCountHops", vars := ["loop.example/mailwire/impl.atomMarks"], fn := fun _ => fun
  | [d, g1] => { results := [.lit (.bool false)], args := [d], vars := [g1] }
  | _ => none }
def FnExactCountHopsWrongFalsely : Prop := fnExactCountHopsRow.holds Tryd.pinned (OpenSpec.ofChange fnExactCountHopsWrong)

/-- 'laws.FnExactNormalMail': WHATEVER THE INPUT: true; the input reads as it did. -/
def fnExactNormalMailSpec : ChangeSpec := { name := "fnExactNormalMail", vars := ["loop.example/mailwire/impl.atomMarks"], fn := fun _ => fun
  | [d, g1] => { results := [.lit (.bool true)], args := [d], vars := [g1] }
  | _ => none }
def fnExactNormalMailRow : OpenClaim := { program := "ytfiaankfmdpmkaadoor", sum := "554826fab8bd2f79e62c35d02d5b8d3c4fcd0d49c9bd36e1261ac7714f17e98e", func := "loop.example/mailwire/laws.FnExactNormalMail", spec := "fnExactNormalMail", inPlace := ["internal/bytealg.IndexByteString", "internal/bytealg.IndexString", "internal/bytealg.CountString"], unfollowed := true, recurses := true, named := ["internal/bytealg.MaxLen", "unicode/utf8.first", "unicode/utf8.acceptRanges", "loop.example/mailwire/impl.atomMarks"], apart := false, laid := [("unicode/utf8.acceptRanges", laid_unicode_utf8_acceptRanges), ("loop.example/mailwire/impl.atomMarks", laid_loop_example_mailwire_impl_atomMarks), ("unicode/utf8.first", laid_unicode_utf8_first)] }
def FnExactNormalMailSaid : Prop := fnExactNormalMailRow.holds Tryd.pinned (OpenSpec.ofChange fnExactNormalMailSpec)

/-- ITS FALSE NEIGHBOUR: 'it returns false'. Refute it at one input. -/
def fnExactNormalMailWrong : ChangeSpec := { name := "fnExactNormalMail", vars := ["loop.example/mailwire/impl.atomMarks"], fn := fun _ => fun
  | [d, g1] => { results := [.lit (.bool false)], args := [d], vars := [g1] }
  | _ => none }
def FnExactNormalMailWrongFalsely : Prop := fnExactNormalMailRow.holds Tryd.pinned (OpenSpec.ofChange fnExactNormalMailWrong)

/-- 'laws.FnExactSplitMail': WHATEVER THE INPUT: true; the input reads as it did. -/
def fnExactSplitMailSpec : ChangeSpec := { name := "fnExactSplitMail", vars := ["loop.example/mailwire/impl.atomMarks"], fn := fun _ => fun
  | [d, g1] => { results := [.lit (.bool true)], args := [d], vars := [g1] }
  | _ => none }
def fnExactSplitMailRow : OpenClaim := { program := "ytfiaankfmdpmkaadoor", sum := "554826fab8bd2f79e62c35d02d5b8d3c4fcd0d49c9bd36e1261ac7714f17e98e", func := "loop.example/mailwire/laws.FnExactSplitMail", spec := "fnExactSplitMail", inPlace := ["internal/bytealg.IndexByteString", "internal/bytealg.IndexString", "internal/bytealg.CountString"], unfollowed := true, recurses := true, named := ["internal/bytealg.MaxLen", "unicode/utf8.first", "unicode/utf8.acceptRanges", "loop.example/mailwire/impl.atomMarks"], apart := false, laid := [("unicode/utf8.acceptRanges", laid_unicode_utf8_acceptRanges), ("loop.example/mailwire/impl.atomMarks", laid_loop_example_mailwire_impl_atomMarks), ("unicode/utf8.first", laid_unicode_utf8_first)] }
def FnExactSplitMailSaid : Prop := fnExactSplitMailRow.holds Tryd.pinned (OpenSpec.ofChange fnExactSplitMailSpec)

/-- ITS FALSE NEIGHBOUR: 'it returns false'. Refute it at one input. -/
def fnExactSplitMailWrong : ChangeSpec := { name := "fnExactSplitMail", vars := ["loop.example/mailwire/impl.atomMarks"], fn := fun _ => fun
  | [d, g1] => { results := [.lit (.bool false)], args := [d], vars := [g1] }
  | _ => none }
def FnExactSplitMailWrongFalsely : Prop := fnExactSplitMailRow.holds Tryd.pinned (OpenSpec.ofChange fnExactSplitMailWrong)

/- THE SECOND FORM. 'bulk': how many values and letters a reading holds, each counted each time it is reached (what is shared counts as often as it is met; a slice's spare places count too). A statement '..UptoSaid' is the law's where the arguments, and the package variables that the reading takes, are together of bulk at most 1048576: NARROWER than '..Said'. Prove '..Said' where nothing that the law and all that it calls make is longer than what came in: it says more and counts as full. Else prove '..UptoSaid'. A law counts once. -/
mutual
def uptoBulk {H : Type} : DataW H → Nat
  | .lit (.string bytes) => bytes.length + 1
  | .lit _ => 1
  | .nil => 1
  | .ptr d => uptoBulk d + 1
  | .slice elems spare => uptoBulkAll elems + uptoBulkAll spare + 1
  | .agg parts => uptoBulkAll parts + 1
  | .iface _ d => uptoBulk d + 1
  | .map entries => uptoBulkEntries entries + 1
  | .held _ => 1
def uptoBulkAll {H : Type} : List (DataW H) → Nat
  | [] => 0
  | d :: r => uptoBulk d + uptoBulkAll r
def uptoBulkEntries {H : Type} : List (Lit × DataW H) → Nat
  | [] => 0
  | x :: r => uptoBulkEntry x + uptoBulkEntries r
def uptoBulkEntry {H : Type} : Lit × DataW H → Nat
  | (.string bytes, d) => bytes.length + uptoBulk d + 1
  | (_, d) => uptoBulk d + 1
 end
def uptoSmall : (H : Type) → List (DataW H) → Bool := fun _ ds => decide (uptoBulkAll ds ≤ 1048576)
def OpenSpec.upto (s : _root_.Go.ChangeSpec) : _root_.Go.OpenSpec := { _root_.Go.OpenSpec.ofChange s with cond := some uptoSmall }

/-- 'laws.FnExactBoxesValid', WHERE WHAT IT READS IS OF BULK AT MOST 1048576: true; the input reads as it did. -/
def fnExactBoxesValidUptoRow : OpenClaim := { program := "ytfiaankfmdpmkaadoor", sum := "554826fab8bd2f79e62c35d02d5b8d3c4fcd0d49c9bd36e1261ac7714f17e98e", func := "loop.example/mailwire/laws.FnExactBoxesValid", spec := "fnExactBoxesValid", inPlace := ["internal/bytealg.IndexByteString", "internal/bytealg.IndexString", "internal/bytealg.CountString"], unfollowed := true, recurses := true, named := ["internal/bytealg.MaxLen", "unicode/utf8.first", "unicode/utf8.acceptRanges", "loop.example/mailwire/impl.atomMarks"], apart := false, laid := [("unicode/utf8.acceptRanges", laid_unicode_utf8_acceptRanges), ("loop.example/mailwire/impl.atomMarks", laid_loop_example_mailwire_impl_atomMarks), ("unicode/utf8.first", laid_unicode_utf8_first)], narrowed := true }
def FnExactBoxesValidUptoSaid : Prop := fnExactBoxesValidUptoRow.holds Tryd.pinned (OpenSpec.upto fnExactBoxesValidSpec)

/-- 'laws.FnExactCountHeld', WHERE WHAT IT READS IS OF BULK AT MOST 1048576: true; the input reads as it did. -/
def fnExactCountHeldUptoRow : OpenClaim := { program := "ytfiaankfmdpmkaadoor", sum := "554826fab8bd2f79e62c35d02d5b8d3c4fcd0d49c9bd36e1261ac7714f17e98e", func := "loop.example/mailwire/laws.FnExactCountHeld", spec := "fnExactCountHeld", inPlace := ["internal/bytealg.IndexByteString", "internal/bytealg.IndexString", "internal/bytealg.CountString"], unfollowed := true, recurses := true, named := ["internal/bytealg.MaxLen", "unicode/utf8.first", "unicode/utf8.acceptRanges", "loop.example/mailwire/impl.atomMarks"], apart := false, laid := [("unicode/utf8.acceptRanges", laid_unicode_utf8_acceptRanges), ("loop.example/mailwire/impl.atomMarks", laid_loop_example_mailwire_impl_atomMarks), ("unicode/utf8.first", laid_unicode_utf8_first)], narrowed := true }
def FnExactCountHeldUptoSaid : Prop := fnExactCountHeldUptoRow.holds Tryd.pinned (OpenSpec.upto fnExactCountHeldSpec)

/-- 'laws.FnExactCountHops', WHERE WHAT IT READS IS OF BULK AT MOST 1048576: true; the input reads as it did. -/
def fnExactCountHopsUptoRow : OpenClaim := { program := "ytfiaankfmdpmkaadoor", sum := "554826fab8bd2f79e62c35d02d5b8d3c4fcd0d49c9bd36e1261ac7714f17e98e", func := "loop.example/mailwire/laws.FnExactCountHops", spec := "fnExactCountHops", inPlace := ["internal/bytealg.IndexByteString", "internal/bytealg.IndexString", "internal/bytealg.CountString"], unfollowed := true, recurses := true, named := ["internal/bytealg.MaxLen", "unicode/utf8.first", "unicode/utf8.acceptRanges", "loop.example/mailwire/impl.atomMarks"], apart := false, laid := [("unicode/utf8.acceptRanges", laid_unicode_utf8_acceptRanges), ("loop.example/mailwire/impl.atomMarks", laid_loop_example_mailwire_impl_atomMarks), ("unicode/utf8.first", laid_unicode_utf8_first)], narrowed := true }
def FnExactCountHopsUptoSaid : Prop := fnExactCountHopsUptoRow.holds Tryd.pinned (OpenSpec.upto fnExactCountHopsSpec)

/-- 'laws.FnExactNormalMail', WHERE WHAT IT READS IS OF BULK AT MOST 1048576: true; the input reads as it did. -/
def fnExactNormalMailUptoRow : OpenClaim := { program := "ytfiaankfmdpmkaadoor", sum := "554826fab8bd2f79e62c35d02d5b8d3c4fcd0d49c9bd36e1261ac7714f17e98e", func := "loop.example/mailwire/laws.FnExactNormalMail", spec := "fnExactNormalMail", inPlace := ["internal/bytealg.IndexByteString", "internal/bytealg.IndexString", "internal/bytealg.CountString"], unfollowed := true, recurses := true, named := ["internal/bytealg.MaxLen", "unicode/utf8.first", "unicode/utf8.acceptRanges", "loop.example/mailwire/impl.atomMarks"], apart := false, laid := [("unicode/utf8.acceptRanges", laid_unicode_utf8_acceptRanges), ("loop.example/mailwire/impl.atomMarks", laid_loop_example_mailwire_impl_atomMarks), ("unicode/utf8.first", laid_unicode_utf8_first)], narrowed := true }
def FnExactNormalMailUptoSaid : Prop := fnExactNormalMailUptoRow.holds Tryd.pinned (OpenSpec.upto fnExactNormalMailSpec)

/-- 'laws.FnExactSplitMail', WHERE WHAT IT READS IS OF BULK AT MOST 1048576: true; the input reads as it did. -/
def fnExactSplitMailUptoRow : OpenClaim := { program := "ytfiaankfmdpmkaadoor", sum := "554826fab8bd2f79e62c35d02d5b8d3c4fcd0d49c9bd36e1261ac7714f17e98e", func := "loop.example/mailwire/laws.FnExactSplitMail", spec := "fnExactSplitMail", inPlace := ["internal/bytealg.IndexByteString", "internal/bytealg.IndexString", "internal/bytealg.CountString"], unfollowed := true, recurses := true, named := ["internal/bytealg.MaxLen", "unicode/utf8.first", "unicode/utf8.acceptRanges", "loop.example/mailwire/impl.atomMarks"], apart := false, laid := [("unicode/utf8.acceptRanges", laid_unicode_utf8_acceptRanges), ("loop.example/mailwire/impl.atomMarks", laid_loop_example_mailwire_impl_atomMarks), ("unicode/utf8.first", laid_unicode_utf8_first)], narrowed := true }
def FnExactSplitMailUptoSaid : Prop := fnExactSplitMailUptoRow.holds Tryd.pinned (OpenSpec.upto fnExactSplitMailSpec)

end Rows
end Go.Proofs.YtfiaankfmdpmkaaDoor
