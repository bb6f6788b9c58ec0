/-
  NARROWER THAN 'FOR EVERY INPUT', by the rows' own cells (each row's printed sentence says how): FnTakeMail: laid · FnAddOrder: laid · FnTakeOrder: laid · FnBoxesPart: laid · FnBoxesSame: laid · FnCountHeld: laid.
  DERIVED. THE GIVEN ROWS OF THIS SEAT. 6 by the template 'for every input the law returns true; each argument reads behind the call as it read before'; 0 by the template 'total and deterministic' (their statements: YtbfjbabpeigloabDoorTotals.lean).
  GIVEN WITH THE SEED: the statements are not yours to turn. If you find one false, say at which input.
  Laid BY PROGRAM, IN A SANDBOX (cutbox-rows.mjs): the forced cells as the released guide's own fill.sh prints them over the translation 9c96d313767bbab7… (all of the seat's roots in one cut). By AI agents, Wed Nov 11 2026. No macro, syntax, notation, axiom, sorry.
-/
import Derived.Test.YtbfjbabpeigloabDoorChecked
import GoSem.PinnedTables
import GoSem.Claim
import GoSem.ClaimJoined
import GoSem.ClaimMapViews
import Derived.JoinedTies
import Derived.KernelRfl
namespace Go.Proofs.YtbfjbabpeigloabDoor
/- THE CELL 'sum', in the pinned program and in every row, IS THE sha256 OF THE DUMP (.gsa) THAT YtbfjbabpeigloabDoorProg.lean LOADS. Nothing in Lean hashes anything: it is a label: what it is worth is what the hold of that sum in a sandbox is worth. -/
noncomputable def Tryd.pinned : Pinned := { name := "ytbfjbabpeigloabdoor", sum := "9c96d313767bbab76ba098fd2967f1be9c64f36298891af89129cc29cf30f2a1", checked := Tryd.checked }
namespace Rows
def none {H : Type} : Left H := { results := [], args := [] }

/- WHAT THE LISTED PACKAGE-LEVEL VARIABLES READ AS WHEN THE CALL BEGINS. Each datum BY PROGRAM (the guide's laid-datum.mjs) off the statement by which the dump's own 'gosem.cut.vars' lays the variable. In a bare row this is a premise. The card (YtbfjbabpeigloabDoorCards.lean) ties it to the program's text. -/
def laid_unicode_utf8_acceptRanges {H : Type} : DataW H := .agg [.agg [.lit (.int .u8 128), .lit (.int .u8 191)], .agg [.lit (.int .u8 160), .lit (.int .u8 191)], .agg [.lit (.int .u8 128), .lit (.int .u8 159)], .agg [.lit (.int .u8 144), .lit (.int .u8 191)], .agg [.lit (.int .u8 128), .lit (.int .u8 143)], .agg [.lit (.int .u8 0), .lit (.int .u8 0)], .agg [.lit (.int .u8 0), .lit (.int .u8 0)], .agg [.lit (.int .u8 0), .lit (.int .u8 0)], .agg [.lit (.int .u8 0), .lit (.int .u8 0)], .agg [.lit (.int .u8 0), .lit (.int .u8 0)], .agg [.lit (.int .u8 0), .lit (.int .u8 0)], .agg [.lit (.int .u8 0), .lit (.int .u8 0)], .agg [.lit (.int .u8 0), .lit (.int .u8 0)], .agg [.lit (.int .u8 0), .lit (.int .u8 0)], .agg [.lit (.int .u8 0), .lit (.int .u8 0)], .agg [.lit (.int .u8 0), .lit (.int .u8 0)]]
def laid_loop_example_mailwire_impl_atomMarks {H : Type} : DataW H := .agg [.agg [.lit (.int .u8 33), .lit (.int .u8 33)], .agg [.lit (.int .u8 35), .lit (.int .u8 39)], .agg [.lit (.int .u8 42), .lit (.int .u8 43)], .agg [.lit (.int .u8 45), .lit (.int .u8 45)], .agg [.lit (.int .u8 47), .lit (.int .u8 47)], .agg [.lit (.int .u8 61), .lit (.int .u8 61)], .agg [.lit (.int .u8 63), .lit (.int .u8 63)], .agg [.lit (.int .u8 94), .lit (.int .u8 96)], .agg [.lit (.int .u8 123), .lit (.int .u8 126)]]
/-- One of Go's own tables, pinned by name: the form's constant. -/
def laid_unicode_utf8_first : DataW Unit := Go.Pinned.utf8First

/-- 'laws.FnTakeMail': WHATEVER THE INPUT: true; the input reads as it did. -/
def fnTakeMailSpec : ChangeSpec := { name := "fnTakeMail", vars := ["loop.example/mailwire/impl.atomMarks"], fn := fun _ => fun
  | [d, g1] => { results := [.lit (.bool true)], args := [d], vars := [g1] }
  | _ => none }
def fnTakeMailRow : OpenClaim := { program := "ytbfjbabpeigloabdoor", sum := "9c96d313767bbab76ba098fd2967f1be9c64f36298891af89129cc29cf30f2a1", func := "loop.example/mailwire/laws.FnTakeMail", spec := "fnTakeMail", inPlace := ["internal/bytealg.IndexByteString", "internal/bytealg.IndexString", "internal/bytealg.CountString", "internal/bytealg.abigen_runtime_cmpstring"], unfollowed := true, recurses := true, named := ["internal/bytealg.MaxLen", "unicode/utf8.first", "unicode/utf8.acceptRanges", "loop.example/mailwire/impl.atomMarks"], apart := false, laid := [("unicode/utf8.acceptRanges", laid_unicode_utf8_acceptRanges), ("loop.example/mailwire/impl.atomMarks", laid_loop_example_mailwire_impl_atomMarks), ("unicode/utf8.first", laid_unicode_utf8_first)] }
def FnTakeMailSaid : Prop := fnTakeMailRow.holds Tryd.pinned (OpenSpec.ofChange fnTakeMailSpec)

/-- ITS FALSE NEIGHBOUR: 'it returns false'. Refute it at one input. -/
def fnTakeMailWrong : ChangeSpec := { name := "fnTakeMail", vars := ["loop.example/mailwire/impl.atomMarks"], fn := fun _ => fun
  | [d, g1] => { results := [.lit (.bool false)], args := [d], vars := [g1] }
  | _ => none }
def FnTakeMailWrongFalsely : Prop := fnTakeMailRow.holds Tryd.pinned (OpenSpec.ofChange fnTakeMailWrong)

/-- 'laws.FnAddOrder': WHATEVER THE INPUT: true; the input reads as it did. -/
def fnAddOrderSpec : ChangeSpec := { name := "fnAddOrder", vars := ["loop.example/mailwire/impl.atomMarks"], fn := fun _ => fun
  | [d, g1] => { results := [.lit (.bool true)], args := [d], vars := [g1] }
  | _ => none }
def fnAddOrderRow : OpenClaim := { program := "ytbfjbabpeigloabdoor", sum := "9c96d313767bbab76ba098fd2967f1be9c64f36298891af89129cc29cf30f2a1", func := "loop.example/mailwire/laws.FnAddOrder", spec := "fnAddOrder", inPlace := ["internal/bytealg.IndexByteString", "internal/bytealg.IndexString", "internal/bytealg.CountString", "internal/bytealg.abigen_runtime_cmpstring", "slices.overlaps[loop.example/mailwire/impl.Box]"], unfollowed := true, recurses := true, named := ["internal/bytealg.MaxLen", "unicode/utf8.first", "unicode/utf8.acceptRanges", "loop.example/mailwire/impl.atomMarks"], apart := false, laid := [("unicode/utf8.acceptRanges", laid_unicode_utf8_acceptRanges), ("loop.example/mailwire/impl.atomMarks", laid_loop_example_mailwire_impl_atomMarks), ("unicode/utf8.first", laid_unicode_utf8_first)] }
def FnAddOrderSaid : Prop := fnAddOrderRow.holds Tryd.pinned (OpenSpec.ofChange fnAddOrderSpec)

/-- ITS FALSE NEIGHBOUR: 'it returns false'. Refute it at one input. -/
def fnAddOrderWrong : ChangeSpec := { name := "fnAddOrder", vars := ["loop.example/mailwire/impl.atomMarks"], fn := fun _ => fun
  | [d, g1] => { results := [.lit (.bool false)], args := [d], vars := [g1] }
  | _ => none }
def FnAddOrderWrongFalsely : Prop := fnAddOrderRow.holds Tryd.pinned (OpenSpec.ofChange fnAddOrderWrong)

/-- 'laws.FnTakeOrder': WHATEVER THE INPUT: true; the input reads as it did. -/
def fnTakeOrderSpec : ChangeSpec := { name := "fnTakeOrder", vars := ["loop.example/mailwire/impl.atomMarks"], fn := fun _ => fun
  | [d, g1] => { results := [.lit (.bool true)], args := [d], vars := [g1] }
  | _ => none }
def fnTakeOrderRow : OpenClaim := { program := "ytbfjbabpeigloabdoor", sum := "9c96d313767bbab76ba098fd2967f1be9c64f36298891af89129cc29cf30f2a1", func := "loop.example/mailwire/laws.FnTakeOrder", spec := "fnTakeOrder", inPlace := ["internal/bytealg.IndexByteString", "internal/bytealg.IndexString", "internal/bytealg.CountString", "internal/bytealg.abigen_runtime_cmpstring"], unfollowed := true, recurses := true, named := ["internal/bytealg.MaxLen", "unicode/utf8.first", "unicode/utf8.acceptRanges", "loop.example/mailwire/impl.atomMarks"], apart := false, laid := [("unicode/utf8.acceptRanges", laid_unicode_utf8_acceptRanges), ("loop.example/mailwire/impl.atomMarks", laid_loop_example_mailwire_impl_atomMarks), ("unicode/utf8.first", laid_unicode_utf8_first)] }
def FnTakeOrderSaid : Prop := fnTakeOrderRow.holds Tryd.pinned (OpenSpec.ofChange fnTakeOrderSpec)

/-- ITS FALSE NEIGHBOUR: 'it returns false'. Refute it at one input. -/
def fnTakeOrderWrong : ChangeSpec := { name := "fnTakeOrder", vars := ["loop.example/mailwire/impl.atomMarks"], fn := fun _ => fun
  | [d, g1] => { results := [.lit (.bool false)], args := [d], vars := [g1] }
  | _ => none }
def FnTakeOrderWrongFalsely : Prop := fnTakeOrderRow.holds Tryd.pinned (OpenSpec.ofChange fnTakeOrderWrong)

/-- 'laws.FnBoxesPart': WHATEVER THE INPUT: true; the input reads as it did. -/
def fnBoxesPartSpec : ChangeSpec := { name := "fnBoxesPart", vars := ["loop.example/mailwire/impl.atomMarks"], fn := fun _ => fun
  | [d, g1] => { results := [.lit (.bool true)], args := [d], vars := [g1] }
  | _ => none }
def fnBoxesPartRow : OpenClaim := { program := "ytbfjbabpeigloabdoor", sum := "9c96d313767bbab76ba098fd2967f1be9c64f36298891af89129cc29cf30f2a1", func := "loop.example/mailwire/laws.FnBoxesPart", spec := "fnBoxesPart", inPlace := ["internal/bytealg.IndexByteString", "internal/bytealg.IndexString", "internal/bytealg.CountString"], unfollowed := true, recurses := true, named := ["internal/bytealg.MaxLen", "unicode/utf8.first", "unicode/utf8.acceptRanges", "loop.example/mailwire/impl.atomMarks"], apart := false, laid := [("unicode/utf8.acceptRanges", laid_unicode_utf8_acceptRanges), ("loop.example/mailwire/impl.atomMarks", laid_loop_example_mailwire_impl_atomMarks), ("unicode/utf8.first", laid_unicode_utf8_first)] }
def FnBoxesPartSaid : Prop := fnBoxesPartRow.holds Tryd.pinned (OpenSpec.ofChange fnBoxesPartSpec)

/-- ITS FALSE NEIGHBOUR: 'it returns false'. Refute it at one input. -/
def fnBoxesPartWrong : ChangeSpec := { name := "fnBoxesPart", vars := ["loop.example/mailwire/impl.atomMarks"], fn := fun _ => fun
  | [d, g1] => { results := [.lit (.bool false)], args := [d], vars := [g1] }
  | _ => none }
def FnBoxesPartWrongFalsely : Prop := fnBoxesPartRow.holds Tryd.pinned (OpenSpec.ofChange fnBoxesPartWrong)

/-- 'laws.FnBoxesSame': WHATEVER THE INPUT: true; the input reads as it did. -/
def fnBoxesSameSpec : ChangeSpec := { name := "fnBoxesSame", vars := ["loop.example/mailwire/impl.atomMarks"], fn := fun _ => fun
  | [d, g1] => { results := [.lit (.bool true)], args := [d], vars := [g1] }
  | _ => none }
def fnBoxesSameRow : OpenClaim := { program := "ytbfjbabpeigloabdoor", sum := "9c96d313767bbab76ba098fd2967f1be9c64f36298891af89129cc29cf30f2a1", func := "loop.example/mailwire/laws.FnBoxesSame", spec := "fnBoxesSame", inPlace := ["internal/bytealg.IndexByteString", "internal/bytealg.IndexString", "internal/bytealg.CountString"], unfollowed := true, recurses := true, named := ["internal/bytealg.MaxLen", "unicode/utf8.first", "unicode/utf8.acceptRanges", "loop.example/mailwire/impl.atomMarks"], apart := false, laid := [("unicode/utf8.acceptRanges", laid_unicode_utf8_acceptRanges), ("loop.example/mailwire/impl.atomMarks", laid_loop_example_mailwire_impl_atomMarks), ("unicode/utf8.first", laid_unicode_utf8_first)] }
def FnBoxesSameSaid : Prop := fnBoxesSameRow.holds Tryd.pinned (OpenSpec.ofChange fnBoxesSameSpec)

/-- ITS FALSE NEIGHBOUR: 'it returns false'. Refute it at one input. -/
def fnBoxesSameWrong : ChangeSpec := { name := "fnBoxesSame", vars := ["loop.example/mailwire/impl.atomMarks"], fn := fun _ => fun
  | [d, g1] => { results := [.lit (.bool false)], args := [d], vars := [g1] }
  | _ => none }
def FnBoxesSameWrongFalsely : Prop := fnBoxesSameRow.holds Tryd.pinned (OpenSpec.ofChange fnBoxesSameWrong)

/-- 'laws.FnCountHeld': WHATEVER THE INPUT: true; the input reads as it did. -/
def fnCountHeldSpec : ChangeSpec := { name := "fnCountHeld", vars := ["loop.example/mailwire/impl.atomMarks"], fn := fun _ => fun
  | [d, g1] => { results := [.lit (.bool true)], args := [d], vars := [g1] }
  | _ => none }
def fnCountHeldRow : OpenClaim := { program := "ytbfjbabpeigloabdoor", sum := "9c96d313767bbab76ba098fd2967f1be9c64f36298891af89129cc29cf30f2a1", func := "loop.example/mailwire/laws.FnCountHeld", spec := "fnCountHeld", inPlace := ["internal/bytealg.IndexByteString", "internal/bytealg.IndexString", "internal/bytealg.CountString", "internal/bytealg.abigen_runtime_cmpstring"], unfollowed := true, recurses := true, named := ["internal/bytealg.MaxLen", "unicode/utf8.first", "unicode/utf8.acceptRanges", "loop.example/mailwire/impl.atomMarks"], apart := false, laid := [("unicode/utf8.acceptRanges", laid_unicode_utf8_acceptRanges), ("loop.example/mailwire/impl.atomMarks", laid_loop_example_mailwire_impl_atomMarks), ("unicode/utf8.first", laid_unicode_utf8_first)] }
def FnCountHeldSaid : Prop := fnCountHeldRow.holds Tryd.pinned (OpenSpec.ofChange fnCountHeldSpec)

/-- ITS FALSE NEIGHBOUR: 'it returns false'. Refute it at one input. -/
def fnCountHeldWrong : ChangeSpec := { name := "fnCountHeld", vars := ["loop.example/mailwire/impl.atomMarks"], fn := fun _ => fun
  | [d, g1] => { results := [.lit (.bool false)], args := [d], vars := [g1] }
  | _ => none }
def FnCountHeldWrongFalsely : Prop := fnCountHeldRow.holds Tryd.pinned (OpenSpec.ofChange fnCountHeldWrong)

/- THE SECOND FORM. 'bulk': how many values and letters a reading holds, each counted each time it is reached (what is shared counts as often as it is met; a slice's spare places count too). A statement '..UptoSaid' is the law's where the arguments, and the package variables that the reading takes, are together of bulk at most 1048576: NARROWER than '..Said'. Prove '..Said' where nothing that the law and all that it calls make is longer than what came in: it says more and counts as full. Else prove '..UptoSaid'. A law counts once. -/
mutual
def uptoBulk {H : Type} : DataW H → Nat
  | .lit (.string bytes) => bytes.length + 1
  | .lit _ => 1
  | .nil => 1
  | .ptr d => uptoBulk d + 1
  | .slice elems spare => uptoBulkAll elems + uptoBulkAll spare + 1
  | .agg parts => uptoBulkAll parts + 1
  | .iface _ d => uptoBulk d + 1
  | .map entries => uptoBulkEntries entries + 1
  | .held _ => 1
def uptoBulkAll {H : Type} : List (DataW H) → Nat
  | [] => 0
  | d :: r => uptoBulk d + uptoBulkAll r
def uptoBulkEntries {H : Type} : List (Lit × DataW H) → Nat
  | [] => 0
  | x :: r => uptoBulkEntry x + uptoBulkEntries r
def uptoBulkEntry {H : Type} : Lit × DataW H → Nat
  | (.string bytes, d) => bytes.length + uptoBulk d + 1
  | (_, d) => uptoBulk d + 1
 end
def uptoSmall : (H : Type) → List (DataW H) → Bool := fun _ ds => decide (uptoBulkAll ds ≤ 1048576)
def OpenSpec.upto (s : _root_.Go.ChangeSpec) : _root_.Go.OpenSpec := { _root_.Go.OpenSpec.ofChange s with cond := some uptoSmall }

/-- 'laws.FnTakeMail', WHERE WHAT IT READS IS OF BULK AT MOST 1048576: true; the input reads as it did. -/
def fnTakeMailUptoRow : OpenClaim := { program := "ytbfjbabpeigloabdoor", sum := "9c96d313767bbab76ba098fd2967f1be9c64f36298891af89129cc29cf30f2a1", func := "loop.example/mailwire/laws.FnTakeMail", spec := "fnTakeMail", inPlace := ["internal/bytealg.IndexByteString", "internal/bytealg.IndexString", "internal/bytealg.CountString", "internal/bytealg.abigen_runtime_cmpstring"], unfollowed := true, recurses := true, named := ["internal/bytealg.MaxLen", "unicode/utf8.first", "unicode/utf8.acceptRanges", "loop.example/mailwire/impl.atomMarks"], apart := false, laid := [("unicode/utf8.acceptRanges", laid_unicode_utf8_acceptRanges), ("loop.example/mailwire/impl.atomMarks", laid_loop_example_mailwire_impl_atomMarks), ("unicode/utf8.first", laid_unicode_utf8_first)], narrowed := true }
def FnTakeMailUptoSaid : Prop := fnTakeMailUptoRow.holds Tryd.pinned (OpenSpec.upto fnTakeMailSpec)

/-- 'laws.FnAddOrder', WHERE WHAT IT READS IS OF BULK AT MOST 1048576: true; the input reads as it did. -/
def fnAddOrderUptoRow : OpenClaim := { program := "ytbfjbabpeigloabdoor", sum := "9c96d313767bbab76ba098fd2967f1be9c64f36298891af89129cc29cf30f2a1", func := "loop.example/mailwire/laws.FnAddOrder", spec := "fnAddOrder", inPlace := ["internal/bytealg.IndexByteString", "internal/bytealg.IndexString", "internal/bytealg.CountString", "internal/bytealg.abigen_runtime_cmpstring", "slices.overlaps[loop.example/mailwire/impl.Box]"], unfollowed := true, recurses := true, named := ["internal/bytealg.MaxLen", "unicode/utf8.first", "unicode/utf8.acceptRanges", "loop.example/mailwire/impl.atomMarks"], apart := false, laid := [("unicode/utf8.acceptRanges", laid_unicode_utf8_acceptRanges), ("loop.example/mailwire/impl.atomMarks", laid_loop_example_mailwire_impl_atomMarks), ("unicode/utf8.first", laid_unicode_utf8_first)], narrowed := true }
def FnAddOrderUptoSaid : Prop := fnAddOrderUptoRow.holds Tryd.pinned (OpenSpec.upto fnAddOrderSpec)

/-- 'laws.FnTakeOrder', WHERE WHAT IT READS IS OF BULK AT MOST 1048576: true; the input reads as it did. -/
def fnTakeOrderUptoRow : OpenClaim := { program := "ytbfjbabpeigloabdoor", sum := "9c96d313767bbab76ba098fd2967f1be9c64f36298891af89129cc29cf30f2a1", func := "loop.example/mailwire/laws.FnTakeOrder", spec := "fnTakeOrder", inPlace := ["internal/bytealg.IndexByteString", "internal/bytealg.IndexString", "internal/bytealg.CountString", "internal/bytealg.abigen_runtime_cmpstring"], unfollowed := true, recurses := true, named := ["internal/bytealg.MaxLen", "unicode/utf8.first", "unicode/utf8.acceptRanges", "loop.example/mailwire/impl.atomMarks"], apart := false, laid := [("unicode/utf8.acceptRanges", laid_unicode_utf8_acceptRanges), ("loop.example/mailwire/impl.atomMarks", laid_loop_example_mailwire_impl_atomMarks), ("unicode/utf8.first", laid_unicode_utf8_first)], narrowed := true }
def FnTakeOrderUptoSaid : Prop := fnTakeOrderUptoRow.holds Tryd.pinned (OpenSpec.upto fnTakeOrderSpec)

/-- 'laws.FnBoxesPart', WHERE WHAT IT READS IS OF BULK AT MOST 1048576: true; the input reads as it did. -/
def fnBoxesPartUptoRow : OpenClaim := { program := "ytbfjbabpeigloabdoor", sum := "9c96d313767bbab76ba098fd2967f1be9c64f36298891af89129cc29cf30f2a1", func := "loop.example/mailwire/laws.FnBoxesPart", spec := "fnBoxesPart", inPlace := ["internal/bytealg.IndexByteString", "internal/bytealg.IndexString", "internal/bytealg.CountString"], unfollowed := true, recurses := true, named := ["internal/bytealg.MaxLen", "unicode/utf8.first", "unicode/utf8.acceptRanges", "loop.example/mailwire/impl.atomMarks"], apart := false, laid := [("unicode/utf8.acceptRanges", laid_unicode_utf8_acceptRanges), ("loop.example/mailwire/impl.atomMarks", laid_loop_example_mailwire_impl_atomMarks), ("unicode/utf8.first", laid_unicode_utf8_first)], narrowed := true }
def FnBoxesPartUptoSaid : Prop := fnBoxesPartUptoRow.holds Tryd.pinned (OpenSpec.upto fnBoxesPartSpec)

/-- 'laws.FnBoxesSame', WHERE WHAT IT READS IS OF BULK AT MOST 1048576: true; the input reads as it did. -/
def fnBoxesSameUptoRow : OpenClaim := { program := "ytbfjbabpeigloabdoor", sum := "9c96d313767bbab76ba098fd2967f1be9c64f36298891af89129cc29cf30f2a1", func := "loop.example/mailwire/laws.FnBoxesSame", spec := "fnBoxesSame", inPlace := ["internal/bytealg.IndexByteString", "internal/bytealg.IndexString", "internal/bytealg.CountString"], unfollowed := true, recurses := true, named := ["internal/bytealg.MaxLen", "unicode/utf8.first", "unicode/utf8.acceptRanges", "loop.example/mailwire/impl.atomMarks"], apart := false, laid := [("unicode/utf8.acceptRanges", laid_unicode_utf8_acceptRanges), ("loop.example/mailwire/impl.atomMarks", laid_loop_example_mailwire_impl_atomMarks), ("unicode/utf8.first", laid_unicode_utf8_first)], narrowed := true }
def FnBoxesSameUptoSaid : Prop := fnBoxesSameUptoRow.holds Tryd.pinned (OpenSpec.upto fnBoxesSameSpec)

/-- 'laws.FnCountHeld', WHERE WHAT IT READS IS OF BULK AT MOST 1048576: true; the input reads as it did. -/
def fnCountHeldUptoRow : OpenClaim := { program := "ytbfjbabpeigloabdoor", sum := "9c96d313767bbab76ba098fd2967f1be9c64f36298891af89129cc29cf30f2a1", func := "loop.example/mailwire/laws.FnCountHeld", spec := "fnCountHeld", inPlace := ["internal/bytealg.IndexByteString", "internal/bytealg.IndexString", "internal/bytealg.CountString", "internal/bytealg.abigen_runtime_cmpstring"], unfollowed := true, recurses := true, named := ["internal/bytealg.MaxLen", "unicode/utf8.first", "unicode/utf8.acceptRanges", "loop.example/mailwire/impl.atomMarks"], apart := false, laid := [("unicode/utf8.acceptRanges", laid_unicode_utf8_acceptRanges), ("loop.example/mailwire/impl.atomMarks", laid_loop_example_mailwire_impl_atomMarks), ("unicode/utf8.first", laid_unicode_utf8_first)], narrowed := true }
def FnCountHeldUptoSaid : Prop := fnCountHeldUptoRow.holds Tryd.pinned (OpenSpec.upto fnCountHeldSpec)

end Rows
end Go.Proofs.YtbfjbabpeigloabDoor
