/-
  NARROWER THAN 'FOR EVERY INPUT', by the rows' own cells (each row's printed sentence says how): FnJoinSpaces: laid · FnExactAtomValid: laid · FnExactQuoteWord: laid · FnExactUnquoteWord: laid · FnExactSplitWords: laid · FnExactJoinWords: laid.
  DERIVED. THE GIVEN ROWS OF THIS SEAT. 6 by the template 'for every input the law returns true; each argument reads behind the call as it read before'; 0 by the template 'total and deterministic' (their statements: YtmkcjaceglkloabDoorTotals.lean).
  GIVEN WITH THE SEED: the statements are not yours to turn. If you find one false, say at which input.
  Laid BY PROGRAM, IN A SANDBOX (cutbox-rows.mjs): the forced cells as the released guide's own fill.sh prints them over the translation f5c8f25c3841fff2… (all of the seat's roots in one cut). By AI agents, Wed Nov 11 2026. No macro, syntax, notation, axiom, sorry.
-/
import Derived.Test.YtmkcjaceglkloabDoorChecked
import GoSem.Claim
import GoSem.ClaimJoined
import GoSem.ClaimMapViews
import Derived.JoinedTies
import Derived.KernelRfl
namespace Go.Proofs.YtmkcjaceglkloabDoor
/- THE CELL 'sum', in the pinned program and in every row, IS THE sha256 OF THE DUMP (.gsa) THAT YtmkcjaceglkloabDoorProg.lean LOADS. Nothing in Lean hashes anything: it is a label: what it is worth is what the hold of that sum in a sandbox is worth. -/
noncomputable def Tryd.pinned : Pinned := { name := "ytmkcjaceglkloabdoor", sum := "f5c8f25c3841fff2c11a8038b5bd99482d18d9e32efa46b3422e53bf93de48c1", checked := Tryd.checked }
namespace Rows
def none {H : Type} : Left H := { results := [], args := [] }

/- WHAT THE LISTED PACKAGE-LEVEL VARIABLES READ AS WHEN THE CALL BEGINS. Each datum BY PROGRAM (the guide's laid-datum.mjs) off the statement by which the dump's own 'gosem.cut.vars' lays the variable. In a bare row this is a premise. The card (YtmkcjaceglkloabDoorCards.lean) ties it to the program's text. -/
def laid_loop_example_mailwire_impl_atomMarks {H : Type} : DataW H := .agg [.agg [.lit (.int .u8 33), .lit (.int .u8 33)], .agg [.lit (.int .u8 35), .lit (.int .u8 39)], .agg [.lit (.int .u8 42), .lit (.int .u8 43)], .agg [.lit (.int .u8 45), .lit (.int .u8 45)], .agg [.lit (.int .u8 47), .lit (.int .u8 47)], .agg [.lit (.int .u8 61), .lit (.int .u8 61)], .agg [.lit (.int .u8 63), .lit (.int .u8 63)], .agg [.lit (.int .u8 94), .lit (.int .u8 96)], .agg [.lit (.int .u8 123), .lit (.int .u8 126)]]

/-- 'laws.FnJoinSpaces': WHATEVER THE INPUT: true; the input reads as it did. -/
def fnJoinSpacesSpec : ChangeSpec := { name := "fnJoinSpaces", vars := ["loop.example/mailwire/impl.atomMarks"], fn := fun _ => fun
  | [d, g1] => { results := [.lit (.bool true)], args := [d], vars := [g1] }
  | _ => none }
def fnJoinSpacesRow : OpenClaim := { program := "ytmkcjaceglkloabdoor", sum := "f5c8f25c3841fff2c11a8038b5bd99482d18d9e32efa46b3422e53bf93de48c1", func := "loop.example/mailwire/laws.FnJoinSpaces", spec := "fnJoinSpaces", inPlace := ["internal/abi.NoEscape"], named := ["loop.example/mailwire/impl.atomMarks"], apart := false, laid := [("loop.example/mailwire/impl.atomMarks", laid_loop_example_mailwire_impl_atomMarks)] }
def FnJoinSpacesSaid : Prop := fnJoinSpacesRow.holds Tryd.pinned (OpenSpec.ofChange fnJoinSpacesSpec)

/-- ITS FALSE NEIGHBOUR: 'it returns false'. Refute it at one input. -/
def fnJoinSpacesWrong : ChangeSpec := { name := "fnJoinSpaces", vars := ["loop.example/mailwire/impl.atomMarks"], fn := fun _ => fun
  | [d, g1] => { results := [.lit (.bool false)], args := [d], vars := [g1] }
  | _ => none }
def FnJoinSpacesWrongFalsely : Prop := fnJoinSpacesRow.holds Tryd.pinned (OpenSpec.ofChange fnJoinSpacesWrong)

/-- 'laws.FnExactAtomValid': WHATEVER THE INPUT: true; the input reads as it did. -/
def fnExactAtomValidSpec : ChangeSpec := { name := "fnExactAtomValid", vars := ["loop.example/mailwire/impl.atomMarks"], fn := fun _ => fun
  | [d, g1] => { results := [.lit (.bool true)], args := [d], vars := [g1] }
  | _ => none }
def fnExactAtomValidRow : OpenClaim := { program := "ytmkcjaceglkloabdoor", sum := "f5c8f25c3841fff2c11a8038b5bd99482d18d9e32efa46b3422e53bf93de48c1", func := "loop.example/mailwire/laws.FnExactAtomValid", spec := "fnExactAtomValid", named := ["loop.example/mailwire/impl.atomMarks"], apart := false, laid := [("loop.example/mailwire/impl.atomMarks", laid_loop_example_mailwire_impl_atomMarks)] }
def FnExactAtomValidSaid : Prop := fnExactAtomValidRow.holds Tryd.pinned (OpenSpec.ofChange fnExactAtomValidSpec)

/-- ITS FALSE NEIGHBOUR: 'it returns false'. Refute it at one input. -/
def fnExactAtomValidWrong : ChangeSpec := { name := "fnExactAtomValid", vars := ["loop.example/mailwire/impl.atomMarks"], fn := fun _ => fun
  | [d, g1] => { results := [.lit (.bool false)], args := [d], vars := [g1] }
  | _ => none }
def FnExactAtomValidWrongFalsely : Prop := fnExactAtomValidRow.holds Tryd.pinned (OpenSpec.ofChange fnExactAtomValidWrong)

/-- 'laws.FnExactQuoteWord': WHATEVER THE INPUT: true; the input reads as it did. -/
def fnExactQuoteWordSpec : ChangeSpec := { name := "fnExactQuoteWord", vars := ["loop.example/mailwire/impl.atomMarks"], fn := fun _ => fun
  | [d, g1] => { results := [.lit (.bool true)], args := [d], vars := [g1] }
  | _ => none }
def fnExactQuoteWordRow : OpenClaim := { program := "ytmkcjaceglkloabdoor", sum := "f5c8f25c3841fff2c11a8038b5bd99482d18d9e32efa46b3422e53bf93de48c1", func := "loop.example/mailwire/laws.FnExactQuoteWord", spec := "fnExactQuoteWord", inPlace := ["internal/abi.NoEscape"], named := ["loop.example/mailwire/impl.atomMarks"], apart := false, laid := [("loop.example/mailwire/impl.atomMarks", laid_loop_example_mailwire_impl_atomMarks)] }
def FnExactQuoteWordSaid : Prop := fnExactQuoteWordRow.holds Tryd.pinned (OpenSpec.ofChange fnExactQuoteWordSpec)

/-- ITS FALSE NEIGHBOUR: 'it returns false'. Refute it at one input. -/
def fnExactQuoteWordWrong : ChangeSpec := { name := "fnExactQuoteWord", vars := ["loop.example/mailwire/impl.atomMarks"], fn := fun _ => fun
  | [d, g1] => { results := [.lit (.bool false)], args := [d], vars := [g1] }
  | _ => none }
def FnExactQuoteWordWrongFalsely : Prop := fnExactQuoteWordRow.holds Tryd.pinned (OpenSpec.ofChange fnExactQuoteWordWrong)

/-- 'laws.FnExactUnquoteWord': WHATEVER THE INPUT: true; the input reads as it did. -/
def fnExactUnquoteWordSpec : ChangeSpec := { name := "fnExactUnquoteWord", vars := ["loop.example/mailwire/impl.atomMarks"], fn := fun _ => fun
  | [d, g1] => { results := [.lit (.bool true)], args := [d], vars := [g1] }
  | _ => none }
def fnExactUnquoteWordRow : OpenClaim := { program := "ytmkcjaceglkloabdoor", sum := "f5c8f25c3841fff2c11a8038b5bd99482d18d9e32efa46b3422e53bf93de48c1", func := "loop.example/mailwire/laws.FnExactUnquoteWord", spec := "fnExactUnquoteWord", inPlace := ["internal/abi.NoEscape"], named := ["loop.example/mailwire/impl.atomMarks"], apart := false, laid := [("loop.example/mailwire/impl.atomMarks", laid_loop_example_mailwire_impl_atomMarks)] }
def FnExactUnquoteWordSaid : Prop := fnExactUnquoteWordRow.holds Tryd.pinned (OpenSpec.ofChange fnExactUnquoteWordSpec)

/-- ITS FALSE NEIGHBOUR: 'it returns false'. Refute it at one input. -/
def fnExactUnquoteWordWrong : ChangeSpec := { name := "fnExactUnquoteWord", vars := ["loop.example/mailwire/impl.atomMarks"], fn := fun _ => fun
  | [d, g1] => { results := [.lit (.bool false)], args := [d], vars := [g1] }
  | _ => none }
def FnExactUnquoteWordWrongFalsely : Prop := fnExactUnquoteWordRow.holds Tryd.pinned (OpenSpec.ofChange fnExactUnquoteWordWrong)

/-- 'laws.FnExactSplitWords': WHATEVER THE INPUT: true; the input reads as it did. -/
def fnExactSplitWordsSpec : ChangeSpec := { name := "fnExactSplitWords", vars := ["loop.example/mailwire/impl.atomMarks"], fn := fun _ => fun
  | [d, g1] => { results := [.lit (.bool true)], args := [d], vars := [g1] }
  | _ => none }
def fnExactSplitWordsRow : OpenClaim := { program := "ytmkcjaceglkloabdoor", sum := "f5c8f25c3841fff2c11a8038b5bd99482d18d9e32efa46b3422e53bf93de48c1", func := "loop.example/mailwire/laws.FnExactSplitWords", spec := "fnExactSplitWords", inPlace := ["internal/abi.NoEscape"], named := ["loop.example/mailwire/impl.atomMarks"], apart := false, laid := [("loop.example/mailwire/impl.atomMarks", laid_loop_example_mailwire_impl_atomMarks)] }
def FnExactSplitWordsSaid : Prop := fnExactSplitWordsRow.holds Tryd.pinned (OpenSpec.ofChange fnExactSplitWordsSpec)

/-- ITS FALSE NEIGHBOUR: 'it returns false'. Refute it at one input. -/
def fnExactSplitWordsWrong : ChangeSpec := { name := "fnExactSplitWords", vars := ["loop.example/mailwire/impl.atomMarks"], fn := fun _ => fun
  | [d, g1] => { results := [.lit (.bool false)], args := [d], vars := [g1] }
  | _ => none }
def FnExactSplitWordsWrongFalsely : Prop := fnExactSplitWordsRow.holds Tryd.pinned (OpenSpec.ofChange fnExactSplitWordsWrong)

/-- 'laws.FnExactJoinWords': WHATEVER THE INPUT: true; the input reads as it did. -/
def fnExactJoinWordsSpec : ChangeSpec := { name := "fnExactJoinWords", vars := ["loop.example/mailwire/impl.atomMarks"], fn := fun _ => fun
  | [d, g1] => { results := [.lit (.bool true)], args := [d], vars := [g1] }
  | _ => none }
def fnExactJoinWordsRow : OpenClaim := { program := "ytmkcjaceglkloabdoor", sum := "f5c8f25c3841fff2c11a8038b5bd99482d18d9e32efa46b3422e53bf93de48c1", func := "loop.example/mailwire/laws.FnExactJoinWords", spec := "fnExactJoinWords", inPlace := ["internal/abi.NoEscape"], named := ["loop.example/mailwire/impl.atomMarks"], apart := false, laid := [("loop.example/mailwire/impl.atomMarks", laid_loop_example_mailwire_impl_atomMarks)] }
def FnExactJoinWordsSaid : Prop := fnExactJoinWordsRow.holds Tryd.pinned (OpenSpec.ofChange fnExactJoinWordsSpec)

/-- ITS FALSE NEIGHBOUR: 'it returns false'. Refute it at one input. -/
def fnExactJoinWordsWrong : ChangeSpec := { name := "fnExactJoinWords", vars := ["loop.example/mailwire/impl.atomMarks"], fn := fun _ => fun
  | [d, g1] => { results := [.lit (.bool false)], args := [d], vars := [g1] }
  | _ => none }
def FnExactJoinWordsWrongFalsely : Prop := fnExactJoinWordsRow.holds Tryd.pinned (OpenSpec.ofChange fnExactJoinWordsWrong)

/- THE SECOND FORM. 'bulk': how many values and letters a reading holds, each counted each time it is reached (what is shared counts as often as it is met; a slice's spare places count too). A statement '..UptoSaid' is the law's where the arguments, and the package variables that the reading takes, are together of bulk at most 1048576: NARROWER than '..Said'. Prove '..Said' where nothing that the law and all that it calls make is longer than what came in: it says more and counts as full. Else prove '..UptoSaid'. A law counts once. -/
mutual
def uptoBulk {H : Type} : DataW H → Nat
  | .lit (.string bytes) => bytes.length + 1
  | .lit _ => 1
  | .nil => 1
  | .ptr d => uptoBulk d + 1
  | .slice elems spare => uptoBulkAll elems + uptoBulkAll spare + 1
  | .agg parts => uptoBulkAll parts + 1
  | .iface _ d => uptoBulk d + 1
  | .map entries => uptoBulkEntries entries + 1
  | .held _ => 1
def uptoBulkAll {H : Type} : List (DataW H) → Nat
  | [] => 0
  | d :: r => uptoBulk d + uptoBulkAll r
def uptoBulkEntries {H : Type} : List (Lit × DataW H) → Nat
  | [] => 0
  | x :: r => uptoBulkEntry x + uptoBulkEntries r
def uptoBulkEntry {H : Type} : Lit × DataW H → Nat
  | (.string bytes, d) => bytes.length + uptoBulk d + 1
  | (_, d) => uptoBulk d + 1
 end
def uptoSmall : (H : Type) → List (DataW H) → Bool := fun _ ds => decide (uptoBulkAll ds ≤ 1048576)
def OpenSpec.upto (s : _root_.Go.ChangeSpec) : _root_.Go.OpenSpec := { _root_.Go.OpenSpec.ofChange s with cond := some uptoSmall }

/-- 'laws.FnJoinSpaces', WHERE WHAT IT READS IS OF BULK AT MOST 1048576: true; the input reads as it did. -/
def fnJoinSpacesUptoRow : OpenClaim := { program := "ytmkcjaceglkloabdoor", sum := "f5c8f25c3841fff2c11a8038b5bd99482d18d9e32efa46b3422e53bf93de48c1", func := "loop.example/mailwire/laws.FnJoinSpaces", spec := "fnJoinSpaces", inPlace := ["internal/abi.NoEscape"], named := ["loop.example/mailwire/impl.atomMarks"], apart := false, laid := [("loop.example/mailwire/impl.atomMarks", laid_loop_example_mailwire_impl_atomMarks)], narrowed := true }
def FnJoinSpacesUptoSaid : Prop := fnJoinSpacesUptoRow.holds Tryd.pinned (OpenSpec.upto fnJoinSpacesSpec)

/-- 'laws.FnExactAtomValid', WHERE WHAT IT READS IS OF BULK AT MOST 1048576: true; the input reads as it did. -/
def fnExactAtomValidUptoRow : OpenClaim := { program := "ytmkcjaceglkloabdoor", sum := "f5c8f25c3841fff2c11a8038b5bd99482d18d9e32efa46b3422e53bf93de48c1", func := "loop.example/mailwire/laws.FnExactAtomValid", spec := "fnExactAtomValid", named := ["loop.example/mailwire/impl.atomMarks"], apart := false, laid := [("loop.example/mailwire/impl.atomMarks", laid_loop_example_mailwire_impl_atomMarks)], narrowed := true }
def FnExactAtomValidUptoSaid : Prop := fnExactAtomValidUptoRow.holds Tryd.pinned (OpenSpec.upto fnExactAtomValidSpec)

/-- 'laws.FnExactQuoteWord', WHERE WHAT IT READS IS OF BULK AT MOST 1048576: true; the input reads as it did. -/
def fnExactQuoteWordUptoRow : OpenClaim := { program := "ytmkcjaceglkloabdoor", sum := "f5c8f25c3841fff2c11a8038b5bd99482d18d9e32efa46b3422e53bf93de48c1", func := "loop.example/mailwire/laws.FnExactQuoteWord", spec := "fnExactQuoteWord", inPlace := ["internal/abi.NoEscape"], named := ["loop.example/mailwire/impl.atomMarks"], apart := false, laid := [("loop.example/mailwire/impl.atomMarks", laid_loop_example_mailwire_impl_atomMarks)], narrowed := true }
def FnExactQuoteWordUptoSaid : Prop := fnExactQuoteWordUptoRow.holds Tryd.pinned (OpenSpec.upto fnExactQuoteWordSpec)

/-- 'laws.FnExactUnquoteWord', WHERE WHAT IT READS IS OF BULK AT MOST 1048576: true; the input reads as it did. -/
def fnExactUnquoteWordUptoRow : OpenClaim := { program := "ytmkcjaceglkloabdoor", sum := "f5c8f25c3841fff2c11a8038b5bd99482d18d9e32efa46b3422e53bf93de48c1", func := "loop.example/mailwire/laws.FnExactUnquoteWord", spec := "fnExactUnquoteWord", inPlace := ["internal/abi.NoEscape"], named := ["loop.example/mailwire/impl.atomMarks"], apart := false, laid := [("loop.example/mailwire/impl.atomMarks", laid_loop_example_mailwire_impl_atomMarks)], narrowed := true }
def FnExactUnquoteWordUptoSaid : Prop := fnExactUnquoteWordUptoRow.holds Tryd.pinned (OpenSpec.upto fnExactUnquoteWordSpec)

/-- 'laws.FnExactSplitWords', WHERE WHAT IT READS IS OF BULK AT MOST 1048576: true; the input reads as it did. -/
def fnExactSplitWordsUptoRow : OpenClaim := { program := "ytmkcjaceglkloabdoor", sum := "f5c8f25c3841fff2c11a8038b5bd99482d18d9e32efa46b3422e53bf93de48c1", func := "loop.example/mailwire/laws.FnExactSplitWords", spec := "fnExactSplitWords", inPlace := ["internal/abi.NoEscape"], named := ["loop.example/mailwire/impl.atomMarks"], apart := false, laid := [("loop.example/mailwire/impl.atomMarks", laid_loop_example_mailwire_impl_atomMarks)], narrowed := true }
def FnExactSplitWordsUptoSaid : Prop := fnExactSplitWordsUptoRow.holds Tryd.pinned (OpenSpec.upto fnExactSplitWordsSpec)

/-- 'laws.FnExactJoinWords', WHERE WHAT IT READS IS OF BULK AT MOST 1048576: true; the input reads as it did. -/
def fnExactJoinWordsUptoRow : OpenClaim := { program := "ytmkcjaceglkloabdoor", sum := "f5c8f25c3841fff2c11a8038b5bd99482d18d9e32efa46b3422e53bf93de48c1", func := "loop.example/mailwire/laws.FnExactJoinWords", spec := "fnExactJoinWords", inPlace := ["internal/abi.NoEscape"], named := ["loop.example/mailwire/impl.atomMarks"], apart := false, laid := [("loop.example/mailwire/impl.atomMarks", laid_loop_example_mailwire_impl_atomMarks)], narrowed := true }
def FnExactJoinWordsUptoSaid : Prop := fnExactJoinWordsUptoRow.holds Tryd.pinned (OpenSpec.upto fnExactJoinWordsSpec)

end Rows
end Go.Proofs.YtmkcjaceglkloabDoor
