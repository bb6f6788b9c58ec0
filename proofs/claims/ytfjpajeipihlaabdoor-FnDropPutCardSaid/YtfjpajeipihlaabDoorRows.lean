/-
  NARROWER THAN 'FOR EVERY INPUT', by the rows' own cells (each row's printed sentence says how): FnDropPut: laid · FnExactFieldValid: laid · FnExactFoldField: laid · FnExactFoldFields: laid · FnExactReadFields: laid · FnExactPutField: laid.
  DERIVED. THE GIVEN ROWS OF THIS SEAT. 6 by the template 'for every input the law returns true; each argument reads behind the call as it read before'; 0 by the template 'total and deterministic' (their statements: YtfjpajeipihlaabDoorTotals.lean).
  GIVEN WITH THE SEED: the statements are not yours to turn. If you find one false, say at which input.
  Laid BY PROGRAM, IN A SANDBOX (cutbox-rows.mjs): the forced cells as the released guide's own fill.sh prints them over the translation 784349a8c92fdd06… (all of the seat's roots in one cut). By AI agents, Wed Nov 11 2026. No macro, syntax, notation, axiom, sorry.
-/
import Derived.Test.YtfjpajeipihlaabDoorChecked
import GoSem.PinnedTables
import GoSem.Claim
import GoSem.ClaimJoined
import GoSem.ClaimMapViews
import Derived.JoinedTies
import Derived.KernelRfl
namespace Go.Proofs.YtfjpajeipihlaabDoor
/- THE CELL 'sum', in the pinned program and in every row, IS THE sha256 OF THE DUMP (.gsa) THAT YtfjpajeipihlaabDoorProg.lean LOADS. Nothing in Lean hashes anything: it is a label: what it is worth is what the hold of that sum in a sandbox is worth. -/
noncomputable def Tryd.pinned : Pinned := { name := "ytfjpajeipihlaabdoor", sum := "784349a8c92fdd06b0960a98e2167fb6a7d3393e33ec80943e40b0d89329cac2", checked := Tryd.checked }
namespace Rows
def none {H : Type} : Left H := { results := [], args := [] }

/- WHAT THE LISTED PACKAGE-LEVEL VARIABLES READ AS WHEN THE CALL BEGINS. Each datum BY PROGRAM (the guide's laid-datum.mjs) off the statement by which the dump's own 'gosem.cut.vars' lays the variable. In a bare row this is a premise. The card (YtfjpajeipihlaabDoorCards.lean) ties it to the program's text. -/
def laid_unicode_utf8_acceptRanges {H : Type} : DataW H := .agg [.agg [.lit (.int .u8 128), .lit (.int .u8 191)], .agg [.lit (.int .u8 160), .lit (.int .u8 191)], .agg [.lit (.int .u8 128), .lit (.int .u8 159)], .agg [.lit (.int .u8 144), .lit (.int .u8 191)], .agg [.lit (.int .u8 128), .lit (.int .u8 143)], .agg [.lit (.int .u8 0), .lit (.int .u8 0)], .agg [.lit (.int .u8 0), .lit (.int .u8 0)], .agg [.lit (.int .u8 0), .lit (.int .u8 0)], .agg [.lit (.int .u8 0), .lit (.int .u8 0)], .agg [.lit (.int .u8 0), .lit (.int .u8 0)], .agg [.lit (.int .u8 0), .lit (.int .u8 0)], .agg [.lit (.int .u8 0), .lit (.int .u8 0)], .agg [.lit (.int .u8 0), .lit (.int .u8 0)], .agg [.lit (.int .u8 0), .lit (.int .u8 0)], .agg [.lit (.int .u8 0), .lit (.int .u8 0)], .agg [.lit (.int .u8 0), .lit (.int .u8 0)]]
/-- One of Go's own tables, pinned by name: the form's constant. -/
def laid_unicode_utf8_first : DataW Unit := Go.Pinned.utf8First

/-- 'laws.FnDropPut': WHATEVER THE INPUT: true; the input reads as it did. -/
def fnDropPutSpec : ChangeSpec := { name := "fnDropPut", fn := fun _ => fun
  | [d] => { results := [.lit (.bool true)], args := [d] }
  | _ => none }
def fnDropPutRow : OpenClaim := { program := "ytfjpajeipihlaabdoor", sum := "784349a8c92fdd06b0960a98e2167fb6a7d3393e33ec80943e40b0d89329cac2", func := "loop.example/mailwire/laws.FnDropPut", spec := "fnDropPut", inPlace := ["internal/bytealg.IndexByteString", "internal/bytealg.IndexString"], unfollowed := true, recurses := true, named := ["unicode/utf8.first", "unicode/utf8.acceptRanges", "internal/bytealg.MaxLen"], apart := false, laid := [("unicode/utf8.acceptRanges", laid_unicode_utf8_acceptRanges), ("unicode/utf8.first", laid_unicode_utf8_first)] }
def FnDropPutSaid : Prop := fnDropPutRow.holds Tryd.pinned (OpenSpec.ofChange fnDropPutSpec)

/-- ITS FALSE NEIGHBOUR: 'it returns false'. Refute it at one input. -/
def fnDropPutWrong : ChangeSpec := { name := "fnDropPut", fn := fun _ => fun
  | [d] => { results := [.lit (.bool false)], args := [d] }
  | _ => none }
def FnDropPutWrongFalsely : Prop := fnDropPutRow.holds Tryd.pinned (OpenSpec.ofChange fnDropPutWrong)

/-- 'laws.FnExactFieldValid': WHATEVER THE INPUT: true; the input reads as it did. -/
def fnExactFieldValidSpec : ChangeSpec := { name := "fnExactFieldValid", fn := fun _ => fun
  | [d] => { results := [.lit (.bool true)], args := [d] }
  | _ => none }
def fnExactFieldValidRow : OpenClaim := { program := "ytfjpajeipihlaabdoor", sum := "784349a8c92fdd06b0960a98e2167fb6a7d3393e33ec80943e40b0d89329cac2", func := "loop.example/mailwire/laws.FnExactFieldValid", spec := "fnExactFieldValid", inPlace := ["internal/bytealg.IndexByteString", "internal/bytealg.IndexString"], named := ["unicode/utf8.first", "unicode/utf8.acceptRanges", "internal/bytealg.MaxLen"], apart := false, laid := [("unicode/utf8.acceptRanges", laid_unicode_utf8_acceptRanges), ("unicode/utf8.first", laid_unicode_utf8_first)] }
def FnExactFieldValidSaid : Prop := fnExactFieldValidRow.holds Tryd.pinned (OpenSpec.ofChange fnExactFieldValidSpec)

/-- ITS FALSE NEIGHBOUR: 'it returns false'. Refute it at one input. -/
def fnExactFieldValidWrong : ChangeSpec := { name := "fnExactFieldValid", fn := fun _ => fun
  | [d] => { results := [.lit (.bool false)], args := [d] }
  | _ => none }
def FnExactFieldValidWrongFalsely : Prop := fnExactFieldValidRow.holds Tryd.pinned (OpenSpec.ofChange fnExactFieldValidWrong)

/-- 'laws.FnExactFoldField': WHATEVER THE INPUT: true; the input reads as it did. -/
def fnExactFoldFieldSpec : ChangeSpec := { name := "fnExactFoldField", fn := fun _ => fun
  | [d] => { results := [.lit (.bool true)], args := [d] }
  | _ => none }
def fnExactFoldFieldRow : OpenClaim := { program := "ytfjpajeipihlaabdoor", sum := "784349a8c92fdd06b0960a98e2167fb6a7d3393e33ec80943e40b0d89329cac2", func := "loop.example/mailwire/laws.FnExactFoldField", spec := "fnExactFoldField", inPlace := ["internal/bytealg.IndexByteString", "internal/bytealg.IndexString"], named := ["unicode/utf8.first", "unicode/utf8.acceptRanges", "internal/bytealg.MaxLen"], apart := false, laid := [("unicode/utf8.acceptRanges", laid_unicode_utf8_acceptRanges), ("unicode/utf8.first", laid_unicode_utf8_first)] }
def FnExactFoldFieldSaid : Prop := fnExactFoldFieldRow.holds Tryd.pinned (OpenSpec.ofChange fnExactFoldFieldSpec)

/-- ITS FALSE NEIGHBOUR: 'it returns false'. Refute it at one input. -/
def fnExactFoldFieldWrong : ChangeSpec := { name := "fnExactFoldField", fn := fun _ => fun
  | [d] => { results := [.lit (.bool false)], args := [d] }
  | _ => none }
def FnExactFoldFieldWrongFalsely : Prop := fnExactFoldFieldRow.holds Tryd.pinned (OpenSpec.ofChange fnExactFoldFieldWrong)

/-- 'laws.FnExactFoldFields': WHATEVER THE INPUT: true; the input reads as it did. -/
def fnExactFoldFieldsSpec : ChangeSpec := { name := "fnExactFoldFields", fn := fun _ => fun
  | [d] => { results := [.lit (.bool true)], args := [d] }
  | _ => none }
def fnExactFoldFieldsRow : OpenClaim := { program := "ytfjpajeipihlaabdoor", sum := "784349a8c92fdd06b0960a98e2167fb6a7d3393e33ec80943e40b0d89329cac2", func := "loop.example/mailwire/laws.FnExactFoldFields", spec := "fnExactFoldFields", inPlace := ["internal/bytealg.IndexByteString", "internal/bytealg.IndexString"], named := ["unicode/utf8.first", "unicode/utf8.acceptRanges", "internal/bytealg.MaxLen"], apart := false, laid := [("unicode/utf8.acceptRanges", laid_unicode_utf8_acceptRanges), ("unicode/utf8.first", laid_unicode_utf8_first)] }
def FnExactFoldFieldsSaid : Prop := fnExactFoldFieldsRow.holds Tryd.pinned (OpenSpec.ofChange fnExactFoldFieldsSpec)

/-- ITS FALSE NEIGHBOUR: 'it returns false'. Refute it at one input. -/
def fnExactFoldFieldsWrong : ChangeSpec := { name := "fnExactFoldFields", fn := fun _ => fun
  | [d] => { results := [.lit (.bool false)], args := [d] }
  | _ => none }
def FnExactFoldFieldsWrongFalsely : Prop := fnExactFoldFieldsRow.holds Tryd.pinned (OpenSpec.ofChange fnExactFoldFieldsWrong)

/-- 'laws.FnExactReadFields': WHATEVER THE INPUT: true; the input reads as it did. -/
def fnExactReadFieldsSpec : ChangeSpec := { name := "fnExactReadFields", fn := fun _ => fun
  | [d] => { results := [.lit (.bool true)], args := [d] }
  | _ => none }
def fnExactReadFieldsRow : OpenClaim := { program := "ytfjpajeipihlaabdoor", sum := "784349a8c92fdd06b0960a98e2167fb6a7d3393e33ec80943e40b0d89329cac2", func := "loop.example/mailwire/laws.FnExactReadFields", spec := "fnExactReadFields", inPlace := ["internal/abi.NoEscape", "internal/bytealg.MakeNoZero", "internal/bytealg.IndexByteString", "internal/bytealg.IndexString"], named := ["internal/bytealg.MaxLen", "unicode/utf8.first", "unicode/utf8.acceptRanges"], apart := false, laid := [("unicode/utf8.acceptRanges", laid_unicode_utf8_acceptRanges), ("unicode/utf8.first", laid_unicode_utf8_first)] }
def FnExactReadFieldsSaid : Prop := fnExactReadFieldsRow.holds Tryd.pinned (OpenSpec.ofChange fnExactReadFieldsSpec)

/-- ITS FALSE NEIGHBOUR: 'it returns false'. Refute it at one input. -/
def fnExactReadFieldsWrong : ChangeSpec := { name := "fnExactReadFields", fn := fun _ => fun
  | [d] => { results := [.lit (.bool false)], args := [d] }
  | _ => none }
def FnExactReadFieldsWrongFalsely : Prop := fnExactReadFieldsRow.holds Tryd.pinned (OpenSpec.ofChange fnExactReadFieldsWrong)

/-- 'laws.FnExactPutField': WHATEVER THE INPUT: true; the input reads as it did. -/
def fnExactPutFieldSpec : ChangeSpec := { name := "fnExactPutField", fn := fun _ => fun
  | [d1, d2] => { results := [.lit (.bool true)], args := [d1, d2] }
  | _ => none }
def fnExactPutFieldRow : OpenClaim := { program := "ytfjpajeipihlaabdoor", sum := "784349a8c92fdd06b0960a98e2167fb6a7d3393e33ec80943e40b0d89329cac2", func := "loop.example/mailwire/laws.FnExactPutField", spec := "fnExactPutField", inPlace := ["internal/bytealg.IndexByteString", "internal/bytealg.IndexString"], unfollowed := true, recurses := true, named := ["unicode/utf8.first", "unicode/utf8.acceptRanges", "internal/bytealg.MaxLen"], apart := false, laid := [("unicode/utf8.acceptRanges", laid_unicode_utf8_acceptRanges), ("unicode/utf8.first", laid_unicode_utf8_first)] }
def FnExactPutFieldSaid : Prop := fnExactPutFieldRow.holds Tryd.pinned (OpenSpec.ofChange fnExactPutFieldSpec)

/-- ITS FALSE NEIGHBOUR: 'it returns false'. Refute it at one input. -/
def fnExactPutFieldWrong : ChangeSpec := { name := "fnExactPutField", fn := fun _ => fun
  | [d1, d2] => { results := [.lit (.bool false)], args := [d1, d2] }
  | _ => none }
def FnExactPutFieldWrongFalsely : Prop := fnExactPutFieldRow.holds Tryd.pinned (OpenSpec.ofChange fnExactPutFieldWrong)

/- THE SECOND FORM. 'bulk': how many values and letters a reading holds, each counted each time it is reached (what is shared counts as often as it is met; a slice's spare places count too). A statement '..UptoSaid' is the law's where the arguments, and the package variables that the reading takes, are together of bulk at most 1048576: NARROWER than '..Said'. Prove '..Said' where nothing that the law and all that it calls make is longer than what came in: it says more and counts as full. Else prove '..UptoSaid'. A law counts once. -/
mutual
def uptoBulk {H : Type} : DataW H → Nat
  | .lit (.string bytes) => bytes.length + 1
  | .lit _ => 1
  | .nil => 1
  | .ptr d => uptoBulk d + 1
  | .slice elems spare => uptoBulkAll elems + uptoBulkAll spare + 1
  | .agg parts => uptoBulkAll parts + 1
  | .iface _ d => uptoBulk d + 1
  | .map entries => uptoBulkEntries entries + 1
  | .held _ => 1
def uptoBulkAll {H : Type} : List (DataW H) → Nat
  | [] => 0
  | d :: r => uptoBulk d + uptoBulkAll r
def uptoBulkEntries {H : Type} : List (Lit × DataW H) → Nat
  | [] => 0
  | x :: r => uptoBulkEntry x + uptoBulkEntries r
def uptoBulkEntry {H : Type} : Lit × DataW H → Nat
  | (.string bytes, d) => bytes.length + uptoBulk d + 1
  | (_, d) => uptoBulk d + 1
 end
def uptoSmall : (H : Type) → List (DataW H) → Bool := fun _ ds => decide (uptoBulkAll ds ≤ 1048576)
def OpenSpec.upto (s : _root_.Go.ChangeSpec) : _root_.Go.OpenSpec := { _root_.Go.OpenSpec.ofChange s with cond := some uptoSmall }

/-- 'laws.FnDropPut', WHERE WHAT IT READS IS OF BULK AT MOST 1048576: true; the input reads as it did. -/
def fnDropPutUptoRow : OpenClaim := { program := "ytfjpajeipihlaabdoor", sum := "784349a8c92fdd06b0960a98e2167fb6a7d3393e33ec80943e40b0d89329cac2", func := "loop.example/mailwire/laws.FnDropPut", spec := "fnDropPut", inPlace := ["internal/bytealg.IndexByteString", "internal/bytealg.IndexString"], unfollowed := true, recurses := true, named := ["unicode/utf8.first", "unicode/utf8.acceptRanges", "internal/bytealg.MaxLen"], apart := false, laid := [("unicode/utf8.acceptRanges", laid_unicode_utf8_acceptRanges), ("unicode/utf8.first", laid_unicode_utf8_first)], narrowed := true }
def FnDropPutUptoSaid : Prop := fnDropPutUptoRow.holds Tryd.pinned (OpenSpec.upto fnDropPutSpec)

/-- 'laws.FnExactFieldValid', WHERE WHAT IT READS IS OF BULK AT MOST 1048576: true; the input reads as it did. -/
def fnExactFieldValidUptoRow : OpenClaim := { program := "ytfjpajeipihlaabdoor", sum := "784349a8c92fdd06b0960a98e2167fb6a7d3393e33ec80943e40b0d89329cac2", func := "loop.example/mailwire/laws.FnExactFieldValid", spec := "fnExactFieldValid", inPlace := ["internal/bytealg.IndexByteString", "internal/bytealg.IndexString"], named := ["unicode/utf8.first", "unicode/utf8.acceptRanges", "internal/bytealg.MaxLen"], apart := false, laid := [("unicode/utf8.acceptRanges", laid_unicode_utf8_acceptRanges), ("unicode/utf8.first", laid_unicode_utf8_first)], narrowed := true }
def FnExactFieldValidUptoSaid : Prop := fnExactFieldValidUptoRow.holds Tryd.pinned (OpenSpec.upto fnExactFieldValidSpec)

/-- 'laws.FnExactFoldField', WHERE WHAT IT READS IS OF BULK AT MOST 1048576: true; the input reads as it did. -/
def fnExactFoldFieldUptoRow : OpenClaim := { program := "ytfjpajeipihlaabdoor", sum := "784349a8c92fdd06b0960a98e2167fb6a7d3393e33ec80943e40b0d89329cac2", func := "loop.example/mailwire/laws.FnExactFoldField", spec := "fnExactFoldField", inPlace := ["internal/bytealg.IndexByteString", "internal/bytealg.IndexString"], named := ["unicode/utf8.first", "unicode/utf8.acceptRanges", "internal/bytealg.MaxLen"], apart := false, laid := [("unicode/utf8.acceptRanges", laid_unicode_utf8_acceptRanges), ("unicode/utf8.first", laid_unicode_utf8_first)], narrowed := true }
def FnExactFoldFieldUptoSaid : Prop := fnExactFoldFieldUptoRow.holds Tryd.pinned (OpenSpec.upto fnExactFoldFieldSpec)

/-- 'laws.FnExactFoldFields', WHERE WHAT IT READS IS OF BULK AT MOST 1048576: true; the input reads as it did. -/
def fnExactFoldFieldsUptoRow : OpenClaim := { program := "ytfjpajeipihlaabdoor", sum := "784349a8c92fdd06b0960a98e2167fb6a7d3393e33ec80943e40b0d89329cac2", func := "loop.example/mailwire/laws.FnExactFoldFields", spec := "fnExactFoldFields", inPlace := ["internal/bytealg.IndexByteString", "internal/bytealg.IndexString"], named := ["unicode/utf8.first", "unicode/utf8.acceptRanges", "internal/bytealg.MaxLen"], apart := false, laid := [("unicode/utf8.acceptRanges", laid_unicode_utf8_acceptRanges), ("unicode/utf8.first", laid_unicode_utf8_first)], narrowed := true }
def FnExactFoldFieldsUptoSaid : Prop := fnExactFoldFieldsUptoRow.holds Tryd.pinned (OpenSpec.upto fnExactFoldFieldsSpec)

/-- 'laws.FnExactReadFields', WHERE WHAT IT READS IS OF BULK AT MOST 1048576: true; the input reads as it did. -/
def fnExactReadFieldsUptoRow : OpenClaim := { program := "ytfjpajeipihlaabdoor", sum := "784349a8c92fdd06b0960a98e2167fb6a7d3393e33ec80943e40b0d89329cac2", func := "loop.example/mailwire/laws.FnExactReadFields", spec := "fnExactReadFields", inPlace := ["internal/abi.NoEscape", "internal/bytealg.MakeNoZero", "internal/bytealg.IndexByteString", "internal/bytealg.IndexString"], named := ["internal/bytealg.MaxLen", "unicode/utf8.first", "unicode/utf8.acceptRanges"], apart := false, laid := [("unicode/utf8.acceptRanges", laid_unicode_utf8_acceptRanges), ("unicode/utf8.first", laid_unicode_utf8_first)], narrowed := true }
def FnExactReadFieldsUptoSaid : Prop := fnExactReadFieldsUptoRow.holds Tryd.pinned (OpenSpec.upto fnExactReadFieldsSpec)

/-- 'laws.FnExactPutField', WHERE WHAT IT READS IS OF BULK AT MOST 1048576: true; the input reads as it did. -/
def fnExactPutFieldUptoRow : OpenClaim := { program := "ytfjpajeipihlaabdoor", sum := "784349a8c92fdd06b0960a98e2167fb6a7d3393e33ec80943e40b0d89329cac2", func := "loop.example/mailwire/laws.FnExactPutField", spec := "fnExactPutField", inPlace := ["internal/bytealg.IndexByteString", "internal/bytealg.IndexString"], unfollowed := true, recurses := true, named := ["unicode/utf8.first", "unicode/utf8.acceptRanges", "internal/bytealg.MaxLen"], apart := false, laid := [("unicode/utf8.acceptRanges", laid_unicode_utf8_acceptRanges), ("unicode/utf8.first", laid_unicode_utf8_first)], narrowed := true }
def FnExactPutFieldUptoSaid : Prop := fnExactPutFieldUptoRow.holds Tryd.pinned (OpenSpec.upto fnExactPutFieldSpec)

end Rows
end Go.Proofs.YtfjpajeipihlaabDoor
