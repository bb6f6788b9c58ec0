/-
  NARROWER THAN 'FOR EVERY INPUT', by the rows' own cells (each row's printed sentence says how): FnQuoteWord: laid · FnJoinWords: laid · FnSplitWords: laid · FnAtomValid: laid · FnQuoteAtom: laid · FnUnquote: laid · FnSplitOne: laid · FnAtomPart: laid · FnJoinSpaces: laid · FnExactAtomValid: laid · FnExactQuoteWord: laid · FnExactUnquoteWord: laid.
  DERIVED. THE GIVEN ROWS OF THIS SEAT. 12 by the template 'for every input the law returns true; each argument reads behind the call as it read before'; 0 by the template 'total and deterministic' (their statements: YtjnpkmenlecdmaaDoorTotals.lean).
  GIVEN WITH THE SEED: the statements are not yours to turn. If you find one false, say at which input.
  Laid BY PROGRAM, IN A SANDBOX (cutbox-rows.mjs): the forced cells as the released guide's own fill.sh prints them over the translation a46030a1ff3a96ff… (all of the seat's roots in one cut). By AI agents, Wed Nov 11 2026. No macro, syntax, notation, axiom, sorry.
-/
import Derived.Test.YtjnpkmenlecdmaaDoorChecked
import GoSem.Claim
import GoSem.ClaimJoined
import GoSem.ClaimMapViews
import Derived.JoinedTies
import Derived.KernelRfl
namespace Go.Proofs.YtjnpkmenlecdmaaDoor
/- THE CELL 'sum', in the pinned program and in every row, IS THE sha256 OF THE DUMP (.gsa) THAT YtjnpkmenlecdmaaDoorProg.lean LOADS. Nothing in Lean hashes anything: it is a label: what it is worth is what the hold of that sum in a sandbox is worth. -/
noncomputable def Tryd.pinned : Pinned := { name := "ytjnpkmenlecdmaadoor", sum := "a46030a1ff3a96ffa289a0dc67cfe9c5839a0995784568f266c08aa9cf33161f", checked := Tryd.checked }
namespace Rows
def none {H : Type} : Left H := { results := [], args := [] }

/- WHAT THE LISTED PACKAGE-LEVEL VARIABLES READ AS WHEN THE CALL BEGINS. Each datum BY PROGRAM (the guide's laid-datum.mjs) off the statement by which the dump's own 'gosem.cut.vars' lays the variable. In a bare row this is a premise. The card (YtjnpkmenlecdmaaDoorCards.lean) ties it to the program's text. -/
def laid_loop_example_mailwire_impl_atomMarks {H : Type} : DataW H := .agg [.agg [.lit (.int .u8 33), .lit (.int .u8 33)], .agg [.lit (.int .u8 35), .lit (.int .u8 39)], .agg [.lit (.int .u8 42), .lit (.int .u8 43)], .agg [.lit (.int .u8 45), .lit (.int .u8 45)], .agg [.lit (.int .u8 47), .lit (.int .u8 47)], .agg [.lit (.int .u8 61), .lit (.int .u8 61)], .agg [.lit (.int .u8 63), .lit (.int .u8 63)], .agg [.lit (.int .u8 94), .lit (.int .u8 96)], .agg [.lit (.int .u8 123), .lit (.int .u8 126)]]

/-- 'laws.FnQuoteWord': WHATEVER THE INPUT: true; the input reads as it did. -/
def fnQuoteWordSpec : ChangeSpec := { name := "fnQuoteWord", vars := ["loop.example/mailwire/impl.atomMarks"], fn := fun _ => fun
  | [d1, d2, g1] => { results := [.lit (.bool true)], args := [d1, d2], vars := [g1] }
  | _ => none }
def fnQuoteWordRow : OpenClaim := { program := "ytjnpkmenlecdmaadoor", sum := "a46030a1ff3a96ffa289a0dc67cfe9c5839a0995784568f266c08aa9cf33161f", func := "loop.example/mailwire/laws.FnQuoteWord", spec := "fnQuoteWord", inPlace := ["internal/abi.NoEscape"], named := ["loop.example/mailwire/impl.atomMarks"], apart := false, laid := [("loop.example/mailwire/impl.atomMarks", laid_loop_example_mailwire_impl_atomMarks)] }
def FnQuoteWordSaid : Prop := fnQuoteWordRow.holds Tryd.pinned (OpenSpec.ofChange fnQuoteWordSpec)

/-- ITS FALSE NEIGHBOUR: 'it returns false'. Refute it at one input. -/
def fnQuoteWordWrong : ChangeSpec := { name := "fnQuoteWord", vars := ["loop.example/mailwire/impl.atomMarks"], fn := fun _ => fun
  | [d1, d2, g1] => { results := [.lit (.bool false)], args := [d1, d2], vars := [g1] }
  | _ => none }
def FnQuoteWordWrongFalsely : Prop := fnQuoteWordRow.holds Tryd.pinned (OpenSpec.ofChange fnQuoteWordWrong)

/-- 'laws.FnJoinWords': WHATEVER THE INPUT: true; the input reads as it did. -/
def fnJoinWordsSpec : ChangeSpec := { name := "fnJoinWords", vars := ["loop.example/mailwire/impl.atomMarks"], fn := fun _ => fun
  | [d, g1] => { results := [.lit (.bool true)], args := [d], vars := [g1] }
  | _ => none }
def fnJoinWordsRow : OpenClaim := { program := "ytjnpkmenlecdmaadoor", sum := "a46030a1ff3a96ffa289a0dc67cfe9c5839a0995784568f266c08aa9cf33161f", func := "loop.example/mailwire/laws.FnJoinWords", spec := "fnJoinWords", inPlace := ["internal/abi.NoEscape"], named := ["loop.example/mailwire/impl.atomMarks"], apart := false, laid := [("loop.example/mailwire/impl.atomMarks", laid_loop_example_mailwire_impl_atomMarks)] }
def FnJoinWordsSaid : Prop := fnJoinWordsRow.holds Tryd.pinned (OpenSpec.ofChange fnJoinWordsSpec)

/-- ITS FALSE NEIGHBOUR: 'it returns false'. Refute it at one input. -/
def fnJoinWordsWrong : ChangeSpec := { name := "fnJoinWords", vars := ["loop.example/mailwire/impl.atomMarks"], fn := fun _ => fun
  | [d, g1] => { results := [.lit (.bool false)], args := [d], vars := [g1] }
  | _ => none }
def FnJoinWordsWrongFalsely : Prop := fnJoinWordsRow.holds Tryd.pinned (OpenSpec.ofChange fnJoinWordsWrong)

/-- 'laws.FnSplitWords': WHATEVER THE INPUT: true; the input reads as it did. -/
def fnSplitWordsSpec : ChangeSpec := { name := "fnSplitWords", vars := ["loop.example/mailwire/impl.atomMarks"], fn := fun _ => fun
  | [d, g1] => { results := [.lit (.bool true)], args := [d], vars := [g1] }
  | _ => none }
def fnSplitWordsRow : OpenClaim := { program := "ytjnpkmenlecdmaadoor", sum := "a46030a1ff3a96ffa289a0dc67cfe9c5839a0995784568f266c08aa9cf33161f", func := "loop.example/mailwire/laws.FnSplitWords", spec := "fnSplitWords", inPlace := ["internal/abi.NoEscape"], named := ["loop.example/mailwire/impl.atomMarks"], apart := false, laid := [("loop.example/mailwire/impl.atomMarks", laid_loop_example_mailwire_impl_atomMarks)] }
def FnSplitWordsSaid : Prop := fnSplitWordsRow.holds Tryd.pinned (OpenSpec.ofChange fnSplitWordsSpec)

/-- ITS FALSE NEIGHBOUR: 'it returns false'. Refute it at one input. -/
def fnSplitWordsWrong : ChangeSpec := { name := "fnSplitWords", vars := ["loop.example/mailwire/impl.atomMarks"], fn := fun _ => fun
  | [d, g1] => { results := [.lit (.bool false)], args := [d], vars := [g1] }
  | _ => none }
def FnSplitWordsWrongFalsely : Prop := fnSplitWordsRow.holds Tryd.pinned (OpenSpec.ofChange fnSplitWordsWrong)

/-- 'laws.FnAtomValid': WHATEVER THE INPUT: true; the input reads as it did. -/
def fnAtomValidSpec : ChangeSpec := { name := "fnAtomValid", vars := ["loop.example/mailwire/impl.atomMarks"], fn := fun _ => fun
  | [d, g1] => { results := [.lit (.bool true)], args := [d], vars := [g1] }
  | _ => none }
def fnAtomValidRow : OpenClaim := { program := "ytjnpkmenlecdmaadoor", sum := "a46030a1ff3a96ffa289a0dc67cfe9c5839a0995784568f266c08aa9cf33161f", func := "loop.example/mailwire/laws.FnAtomValid", spec := "fnAtomValid", inPlace := ["internal/abi.NoEscape"], named := ["loop.example/mailwire/impl.atomMarks"], apart := false, laid := [("loop.example/mailwire/impl.atomMarks", laid_loop_example_mailwire_impl_atomMarks)] }
def FnAtomValidSaid : Prop := fnAtomValidRow.holds Tryd.pinned (OpenSpec.ofChange fnAtomValidSpec)

/-- ITS FALSE NEIGHBOUR: 'it returns false'. Refute it at one input. -/
def fnAtomValidWrong : ChangeSpec := { name := "fnAtomValid", vars := ["loop.example/mailwire/impl.atomMarks"], fn := fun _ => fun
  | [d, g1] => { results := [.lit (.bool false)], args := [d], vars := [g1] }
  | _ => none }
def FnAtomValidWrongFalsely : Prop := fnAtomValidRow.holds Tryd.pinned (OpenSpec.ofChange fnAtomValidWrong)

/-- 'laws.FnQuoteAtom': WHATEVER THE INPUT: true; the input reads as it did. -/
def fnQuoteAtomSpec : ChangeSpec := { name := "fnQuoteAtom", vars := ["loop.example/mailwire/impl.atomMarks"], fn := fun _ => fun
  | [d, g1] => { results := [.lit (.bool true)], args := [d], vars := [g1] }
  | _ => none }
def fnQuoteAtomRow : OpenClaim := { program := "ytjnpkmenlecdmaadoor", sum := "a46030a1ff3a96ffa289a0dc67cfe9c5839a0995784568f266c08aa9cf33161f", func := "loop.example/mailwire/laws.FnQuoteAtom", spec := "fnQuoteAtom", inPlace := ["internal/abi.NoEscape"], named := ["loop.example/mailwire/impl.atomMarks"], apart := false, laid := [("loop.example/mailwire/impl.atomMarks", laid_loop_example_mailwire_impl_atomMarks)] }
def FnQuoteAtomSaid : Prop := fnQuoteAtomRow.holds Tryd.pinned (OpenSpec.ofChange fnQuoteAtomSpec)

/-- ITS FALSE NEIGHBOUR: 'it returns false'. Refute it at one input. -/
def fnQuoteAtomWrong : ChangeSpec := { name := "fnQuoteAtom", vars := ["loop.example/mailwire/impl.atomMarks"], fn := fun _ => fun
  | [d, g1] => { results := [.lit (.bool false)], args := [d], vars := [g1] }
  | _ => none }
def FnQuoteAtomWrongFalsely : Prop := fnQuoteAtomRow.holds Tryd.pinned (OpenSpec.ofChange fnQuoteAtomWrong)

/-- 'laws.FnUnquote': WHATEVER THE INPUT: true; the input reads as it did. -/
def fnUnquoteSpec : ChangeSpec := { name := "fnUnquote", vars := ["loop.example/mailwire/impl.atomMarks"], fn := fun _ => fun
  | [d, g1] => { results := [.lit (.bool true)], args := [d], vars := [g1] }
  | _ => none }
def fnUnquoteRow : OpenClaim := { program := "ytjnpkmenlecdmaadoor", sum := "a46030a1ff3a96ffa289a0dc67cfe9c5839a0995784568f266c08aa9cf33161f", func := "loop.example/mailwire/laws.FnUnquote", spec := "fnUnquote", inPlace := ["internal/abi.NoEscape"], named := ["loop.example/mailwire/impl.atomMarks"], apart := false, laid := [("loop.example/mailwire/impl.atomMarks", laid_loop_example_mailwire_impl_atomMarks)] }
def FnUnquoteSaid : Prop := fnUnquoteRow.holds Tryd.pinned (OpenSpec.ofChange fnUnquoteSpec)

/-- ITS FALSE NEIGHBOUR: 'it returns false'. Refute it at one input. -/
def fnUnquoteWrong : ChangeSpec := { name := "fnUnquote", vars := ["loop.example/mailwire/impl.atomMarks"], fn := fun _ => fun
  | [d, g1] => { results := [.lit (.bool false)], args := [d], vars := [g1] }
  | _ => none }
def FnUnquoteWrongFalsely : Prop := fnUnquoteRow.holds Tryd.pinned (OpenSpec.ofChange fnUnquoteWrong)

/-- 'laws.FnSplitOne': WHATEVER THE INPUT: true; the input reads as it did. -/
def fnSplitOneSpec : ChangeSpec := { name := "fnSplitOne", vars := ["loop.example/mailwire/impl.atomMarks"], fn := fun _ => fun
  | [d, g1] => { results := [.lit (.bool true)], args := [d], vars := [g1] }
  | _ => none }
def fnSplitOneRow : OpenClaim := { program := "ytjnpkmenlecdmaadoor", sum := "a46030a1ff3a96ffa289a0dc67cfe9c5839a0995784568f266c08aa9cf33161f", func := "loop.example/mailwire/laws.FnSplitOne", spec := "fnSplitOne", inPlace := ["internal/abi.NoEscape"], named := ["loop.example/mailwire/impl.atomMarks"], apart := false, laid := [("loop.example/mailwire/impl.atomMarks", laid_loop_example_mailwire_impl_atomMarks)] }
def FnSplitOneSaid : Prop := fnSplitOneRow.holds Tryd.pinned (OpenSpec.ofChange fnSplitOneSpec)

/-- ITS FALSE NEIGHBOUR: 'it returns false'. Refute it at one input. -/
def fnSplitOneWrong : ChangeSpec := { name := "fnSplitOne", vars := ["loop.example/mailwire/impl.atomMarks"], fn := fun _ => fun
  | [d, g1] => { results := [.lit (.bool false)], args := [d], vars := [g1] }
  | _ => none }
def FnSplitOneWrongFalsely : Prop := fnSplitOneRow.holds Tryd.pinned (OpenSpec.ofChange fnSplitOneWrong)

/-- 'laws.FnAtomPart': WHATEVER THE INPUT: true; the input reads as it did. -/
def fnAtomPartSpec : ChangeSpec := { name := "fnAtomPart", vars := ["loop.example/mailwire/impl.atomMarks"], fn := fun _ => fun
  | [d, g1] => { results := [.lit (.bool true)], args := [d], vars := [g1] }
  | _ => none }
def fnAtomPartRow : OpenClaim := { program := "ytjnpkmenlecdmaadoor", sum := "a46030a1ff3a96ffa289a0dc67cfe9c5839a0995784568f266c08aa9cf33161f", func := "loop.example/mailwire/laws.FnAtomPart", spec := "fnAtomPart", named := ["loop.example/mailwire/impl.atomMarks"], apart := false, laid := [("loop.example/mailwire/impl.atomMarks", laid_loop_example_mailwire_impl_atomMarks)] }
def FnAtomPartSaid : Prop := fnAtomPartRow.holds Tryd.pinned (OpenSpec.ofChange fnAtomPartSpec)

/-- ITS FALSE NEIGHBOUR: 'it returns false'. Refute it at one input. -/
def fnAtomPartWrong : ChangeSpec := { name := "fnAtomPart", vars := ["loop.example/mailwire/impl.atomMarks"], fn := fun _ => fun
  | [d, g1] => { results := [.lit (.bool false)], args := [d], vars := [g1] }
  | _ => none }
def FnAtomPartWrongFalsely : Prop := fnAtomPartRow.holds Tryd.pinned (OpenSpec.ofChange fnAtomPartWrong)

/-- 'laws.FnJoinSpaces': WHATEVER THE INPUT: true; the input reads as it did. -/
def fnJoinSpacesSpec : ChangeSpec := { name := "fnJoinSpaces", vars := ["loop.example/mailwire/impl.atomMarks"], fn := fun _ => fun
  | [d, g1] => { results := [.lit (.bool true)], args := [d], vars := [g1] }
  | _ => none }
def fnJoinSpacesRow : OpenClaim := { program := "ytjnpkmenlecdmaadoor", sum := "a46030a1ff3a96ffa289a0dc67cfe9c5839a0995784568f266c08aa9cf33161f", func := "loop.example/mailwire/laws.FnJoinSpaces", spec := "fnJoinSpaces", inPlace := ["internal/abi.NoEscape"], named := ["loop.example/mailwire/impl.atomMarks"], apart := false, laid := [("loop.example/mailwire/impl.atomMarks", laid_loop_example_mailwire_impl_atomMarks)] }
def FnJoinSpacesSaid : Prop := fnJoinSpacesRow.holds Tryd.pinned (OpenSpec.ofChange fnJoinSpacesSpec)

/-- ITS FALSE NEIGHBOUR: 'it returns false'. Refute it at one input. -/
def fnJoinSpacesWrong : ChangeSpec := { name := "fnJoinSpaces", vars := ["loop.example/mailwire/impl.atomMarks"], fn := fun _ => fun
  | [d, g1] => { results := [.lit (.bool false)], args := [d], vars := [g1] }
  | _ => none }
def FnJoinSpacesWrongFalsely : Prop := fnJoinSpacesRow.holds Tryd.pinned (OpenSpec.ofChange fnJoinSpacesWrong)

/-- 'laws.FnExactAtomValid': WHATEVER THE INPUT: true; the input reads as it did. -/
def fnExactAtomValidSpec : ChangeSpec := { name := "fnExactAtomValid", vars := ["loop.example/mailwire/impl.atomMarks"], fn := fun _ => fun
  | [d, g1] => { results := [.lit (.bool true)], args := [d], vars := [g1] }
  | _ => none }
def fnExactAtomValidRow : OpenClaim := { program := "ytjnpkmenlecdmaadoor", sum := "a46030a1ff3a96ffa289a0dc67cfe9c5839a0995784568f266c08aa9cf33161f", func := "loop.example/mailwire/laws.FnExactAtomValid", spec := "fnExactAtomValid", named := ["loop.example/mailwire/impl.atomMarks"], apart := false, laid := [("loop.example/mailwire/impl.atomMarks", laid_loop_example_mailwire_impl_atomMarks)] }
def FnExactAtomValidSaid : Prop := fnExactAtomValidRow.holds Tryd.pinned (OpenSpec.ofChange fnExactAtomValidSpec)

/-- ITS FALSE NEIGHBOUR: 'it returns false'. Refute it at one input. -/
def fnExactAtomValidWrong : ChangeSpec := { name := "fnExactAtomValid", vars := ["loop.example/mailwire/impl.atomMarks"], fn := fun _ => fun
  | [d, g1] => { results := [.lit (.bool false)], args := [d], vars := [g1] }
  | _ => none }
def FnExactAtomValidWrongFalsely : Prop := fnExactAtomValidRow.holds Tryd.pinned (OpenSpec.ofChange fnExactAtomValidWrong)

/-- 'laws.FnExactQuoteWord': WHATEVER THE INPUT: true; the input reads as it did. -/
def fnExactQuoteWordSpec : ChangeSpec := { name := "fnExactQuoteWord", vars := ["loop.example/mailwire/impl.atomMarks"], fn := fun _ => fun
  | [d, g1] => { results := [.lit (.bool true)], args := [d], vars := [g1] }
  | _ => none }
def fnExactQuoteWordRow : OpenClaim := { program := "ytjnpkmenlecdmaadoor", sum := "a46030a1ff3a96ffa289a0dc67cfe9c5839a0995784568f266c08aa9cf33161f", func := "loop.example/mailwire/laws.FnExactQuoteWord", spec := "fnExactQuoteWord", inPlace := ["internal/abi.NoEscape"], named := ["loop.example/mailwire/impl.atomMarks"], apart := false, laid := [("loop.example/mailwire/impl.atomMarks", laid_loop_example_mailwire_impl_atomMarks)] }
def FnExactQuoteWordSaid : Prop := fnExactQuoteWordRow.holds Tryd.pinned (OpenSpec.ofChange fnExactQuoteWordSpec)

/-- ITS FALSE NEIGHBOUR: 'it returns false'. Refute it at one input. -/
def fnExactQuoteWordWrong : ChangeSpec := { name := "fnExactQuoteWord", vars := ["loop.example/mailwire/impl.atomMarks"], fn := fun _ => fun
  | [d, g1] => { results := [.lit (.bool false)], args := [d], vars := [g1] }
  | _ => none }
def FnExactQuoteWordWrongFalsely : Prop := fnExactQuoteWordRow.holds Tryd.pinned (OpenSpec.ofChange fnExactQuoteWordWrong)

/-- 'laws.FnExactUnquoteWord': WHATEVER THE INPUT: true; the input reads as it did. -/
def fnExactUnquoteWordSpec : ChangeSpec := { name := "fnExactUnquoteWord", vars := ["loop.example/mailwire/impl.atomMarks"], fn := fun _ => fun
  | [d, g1] => { results := [.lit (.bool true)], args := [d], vars := [g1] }
  | _ => none }
def fnExactUnquoteWordRow : OpenClaim := { program := "ytjnpkmenlecdmaadoor", sum := "a46030a1ff3a96ffa289a0dc67cfe9c5839a0995784568f266c08aa9cf33161f", func := "loop.example/mailwire/laws.FnExactUnquoteWord", spec := "fnExactUnquoteWord", inPlace := ["internal/abi.NoEscape"], named := ["loop.example/mailwire/impl.atomMarks"], apart := false, laid := [("loop.example/mailwire/impl.atomMarks", laid_loop_example_mailwire_impl_atomMarks)] }
def FnExactUnquoteWordSaid : Prop := fnExactUnquoteWordRow.holds Tryd.pinned (OpenSpec.ofChange fnExactUnquoteWordSpec)

/-- ITS FALSE NEIGHBOUR: 'it returns false'. Refute it at one input. -/
def fnExactUnquoteWordWrong : ChangeSpec := { name := "fnExactUnquoteWord", vars := ["loop.example/mailwire/impl.atomMarks"], fn := fun _ => fun
  | [d, g1] => { results := [.lit (.bool false)], args := [d], vars := [g1] }
  | _ => none }
def FnExactUnquoteWordWrongFalsely : Prop := fnExactUnquoteWordRow.holds Tryd.pinned (OpenSpec.ofChange fnExactUnquoteWordWrong)

/- THE SECOND FORM. 'bulk': how many values and letters a reading holds, each counted each time it is reached (what is shared counts as often as it is met; a slice's spare places count too). A statement '..UptoSaid' is the law's where the arguments, and the package variables that the reading takes, are together of bulk at most 1048576: NARROWER than '..Said'. Prove '..Said' where nothing that the law and all that it calls make is longer than what came in: it says more and counts as full. Else prove '..UptoSaid'. A law counts once. -/
mutual
def uptoBulk {H : Type} : DataW H → Nat
  | .lit (.string bytes) => bytes.length + 1
  | .lit _ => 1
  | .nil => 1
  | .ptr d => uptoBulk d + 1
  | .slice elems spare => uptoBulkAll elems + uptoBulkAll spare + 1
  | .agg parts => uptoBulkAll parts + 1
  | .iface _ d => uptoBulk d + 1
  | .map entries => uptoBulkEntries entries + 1
  | .held _ => 1
def uptoBulkAll {H : Type} : List (DataW H) → Nat
  | [] => 0
  | d :: r => uptoBulk d + uptoBulkAll r
def uptoBulkEntries {H : Type} : List (Lit × DataW H) → Nat
  | [] => 0
  | x :: r => uptoBulkEntry x + uptoBulkEntries r
def uptoBulkEntry {H : Type} : Lit × DataW H → Nat
  | (.string bytes, d) => bytes.length + uptoBulk d + 1
  | (_, d) => uptoBulk d + 1
 end
def uptoSmall : (H : Type) → List (DataW H) → Bool := fun _ ds => decide (uptoBulkAll ds ≤ 1048576)
def OpenSpec.upto (s : _root_.Go.ChangeSpec) : _root_.Go.OpenSpec := { _root_.Go.OpenSpec.ofChange s with cond := some uptoSmall }

/-- 'laws.FnQuoteWord', WHERE WHAT IT READS IS OF BULK AT MOST 1048576: true; the input reads as it did. -/
def fnQuoteWordUptoRow : OpenClaim := { program := "ytjnpkmenlecdmaadoor", sum := "a46030a1ff3a96ffa289a0dc67cfe9c5839a0995784568f266c08aa9cf33161f", func := "loop.example/mailwire/laws.FnQuoteWord", spec := "fnQuoteWord", inPlace := ["internal/abi.NoEscape"], named := ["loop.example/mailwire/impl.atomMarks"], apart := false, laid := [("loop.example/mailwire/impl.atomMarks", laid_loop_example_mailwire_impl_atomMarks)], narrowed := true }
def FnQuoteWordUptoSaid : Prop := fnQuoteWordUptoRow.holds Tryd.pinned (OpenSpec.upto fnQuoteWordSpec)

/-- 'laws.FnJoinWords', WHERE WHAT IT READS IS OF BULK AT MOST 1048576: true; the input reads as it did. -/
def fnJoinWordsUptoRow : OpenClaim := { program := "ytjnpkmenlecdmaadoor", sum := "a46030a1ff3a96ffa289a0dc67cfe9c5839a0995784568f266c08aa9cf33161f", func := "loop.example/mailwire/laws.FnJoinWords", spec := "fnJoinWords", inPlace := ["internal/abi.NoEscape"], named := ["loop.example/mailwire/impl.atomMarks"], apart := false, laid := [("loop.example/mailwire/impl.atomMarks", laid_loop_example_mailwire_impl_atomMarks)], narrowed := true }
def FnJoinWordsUptoSaid : Prop := fnJoinWordsUptoRow.holds Tryd.pinned (OpenSpec.upto fnJoinWordsSpec)

/-- 'laws.FnSplitWords', WHERE WHAT IT READS IS OF BULK AT MOST 1048576: true; the input reads as it did. -/
def fnSplitWordsUptoRow : OpenClaim := { program := "ytjnpkmenlecdmaadoor", sum := "a46030a1ff3a96ffa289a0dc67cfe9c5839a0995784568f266c08aa9cf33161f", func := "loop.example/mailwire/laws.FnSplitWords", spec := "fnSplitWords", inPlace := ["internal/abi.NoEscape"], named := ["loop.example/mailwire/impl.atomMarks"], apart := false, laid := [("loop.example/mailwire/impl.atomMarks", laid_loop_example_mailwire_impl_atomMarks)], narrowed := true }
def FnSplitWordsUptoSaid : Prop := fnSplitWordsUptoRow.holds Tryd.pinned (OpenSpec.upto fnSplitWordsSpec)

/-- 'laws.FnAtomValid', WHERE WHAT IT READS IS OF BULK AT MOST 1048576: true; the input reads as it did. -/
def fnAtomValidUptoRow : OpenClaim := { program := "ytjnpkmenlecdmaadoor", sum := "a46030a1ff3a96ffa289a0dc67cfe9c5839a0995784568f266c08aa9cf33161f", func := "loop.example/mailwire/laws.FnAtomValid", spec := "fnAtomValid", inPlace := ["internal/abi.NoEscape"], named := ["loop.example/mailwire/impl.atomMarks"], apart := false, laid := [("loop.example/mailwire/impl.atomMarks", laid_loop_example_mailwire_impl_atomMarks)], narrowed := true }
def FnAtomValidUptoSaid : Prop := fnAtomValidUptoRow.holds Tryd.pinned (OpenSpec.upto fnAtomValidSpec)

/-- 'laws.FnQuoteAtom', WHERE WHAT IT READS IS OF BULK AT MOST 1048576: true; the input reads as it did. -/
def fnQuoteAtomUptoRow : OpenClaim := { program := "ytjnpkmenlecdmaadoor", sum := "a46030a1ff3a96ffa289a0dc67cfe9c5839a0995784568f266c08aa9cf33161f", func := "loop.example/mailwire/laws.FnQuoteAtom", spec := "fnQuoteAtom", inPlace := ["internal/abi.NoEscape"], named := ["loop.example/mailwire/impl.atomMarks"], apart := false, laid := [("loop.example/mailwire/impl.atomMarks", laid_loop_example_mailwire_impl_atomMarks)], narrowed := true }
def FnQuoteAtomUptoSaid : Prop := fnQuoteAtomUptoRow.holds Tryd.pinned (OpenSpec.upto fnQuoteAtomSpec)

/-- 'laws.FnUnquote', WHERE WHAT IT READS IS OF BULK AT MOST 1048576: true; the input reads as it did. -/
def fnUnquoteUptoRow : OpenClaim := { program := "ytjnpkmenlecdmaadoor", sum := "a46030a1ff3a96ffa289a0dc67cfe9c5839a0995784568f266c08aa9cf33161f", func := "loop.example/mailwire/laws.FnUnquote", spec := "fnUnquote", inPlace := ["internal/abi.NoEscape"], named := ["loop.example/mailwire/impl.atomMarks"], apart := false, laid := [("loop.example/mailwire/impl.atomMarks", laid_loop_example_mailwire_impl_atomMarks)], narrowed := true }
def FnUnquoteUptoSaid : Prop := fnUnquoteUptoRow.holds Tryd.pinned (OpenSpec.upto fnUnquoteSpec)

/-- 'laws.FnSplitOne', WHERE WHAT IT READS IS OF BULK AT MOST 1048576: true; the input reads as it did. -/
def fnSplitOneUptoRow : OpenClaim := { program := "ytjnpkmenlecdmaadoor", sum := "a46030a1ff3a96ffa289a0dc67cfe9c5839a0995784568f266c08aa9cf33161f", func := "loop.example/mailwire/laws.FnSplitOne", spec := "fnSplitOne", inPlace := ["internal/abi.NoEscape"], named := ["loop.example/mailwire/impl.atomMarks"], apart := false, laid := [("loop.example/mailwire/impl.atomMarks", laid_loop_example_mailwire_impl_atomMarks)], narrowed := true }
def FnSplitOneUptoSaid : Prop := fnSplitOneUptoRow.holds Tryd.pinned (OpenSpec.upto fnSplitOneSpec)

/-- 'laws.FnAtomPart', WHERE WHAT IT READS IS OF BULK AT MOST 1048576: true; the input reads as it did. -/
def fnAtomPartUptoRow : OpenClaim := { program := "ytjnpkmenlecdmaadoor", sum := "a46030a1ff3a96ffa289a0dc67cfe9c5839a0995784568f266c08aa9cf33161f", func := "loop.example/mailwire/laws.FnAtomPart", spec := "fnAtomPart", named := ["loop.example/mailwire/impl.atomMarks"], apart := false, laid := [("loop.example/mailwire/impl.atomMarks", laid_loop_example_mailwire_impl_atomMarks)], narrowed := true }
def FnAtomPartUptoSaid : Prop := fnAtomPartUptoRow.holds Tryd.pinned (OpenSpec.upto fnAtomPartSpec)

/-- 'laws.FnJoinSpaces', WHERE WHAT IT READS IS OF BULK AT MOST 1048576: true; the input reads as it did. -/
def fnJoinSpacesUptoRow : OpenClaim := { program := "ytjnpkmenlecdmaadoor", sum := "a46030a1ff3a96ffa289a0dc67cfe9c5839a0995784568f266c08aa9cf33161f", func := "loop.example/mailwire/laws.FnJoinSpaces", spec := "fnJoinSpaces", inPlace := ["internal/abi.NoEscape"], named := ["loop.example/mailwire/impl.atomMarks"], apart := false, laid := [("loop.example/mailwire/impl.atomMarks", laid_loop_example_mailwire_impl_atomMarks)], narrowed := true }
def FnJoinSpacesUptoSaid : Prop := fnJoinSpacesUptoRow.holds Tryd.pinned (OpenSpec.upto fnJoinSpacesSpec)

/-- 'laws.FnExactAtomValid', WHERE WHAT IT READS IS OF BULK AT MOST 1048576: true; the input reads as it did. -/
def fnExactAtomValidUptoRow : OpenClaim := { program := "ytjnpkmenlecdmaadoor", sum := "a46030a1ff3a96ffa289a0dc67cfe9c5839a0995784568f266c08aa9cf33161f", func := "loop.example/mailwire/laws.FnExactAtomValid", spec := "fnExactAtomValid", named := ["loop.example/mailwire/impl.atomMarks"], apart := false, laid := [("loop.example/mailwire/impl.atomMarks", laid_loop_example_mailwire_impl_atomMarks)], narrowed := true }
def FnExactAtomValidUptoSaid : Prop := fnExactAtomValidUptoRow.holds Tryd.pinned (OpenSpec.upto fnExactAtomValidSpec)

/-- 'laws.FnExactQuoteWord', WHERE WHAT IT READS IS OF BULK AT MOST 1048576: true; the input reads as it did. -/
def fnExactQuoteWordUptoRow : OpenClaim := { program := "ytjnpkmenlecdmaadoor", sum := "a46030a1ff3a96ffa289a0dc67cfe9c5839a0995784568f266c08aa9cf33161f", func := "loop.example/mailwire/laws.FnExactQuoteWord", spec := "fnExactQuoteWord", inPlace := ["internal/abi.NoEscape"], named := ["loop.example/mailwire/impl.atomMarks"], apart := false, laid := [("loop.example/mailwire/impl.atomMarks", laid_loop_example_mailwire_impl_atomMarks)], narrowed := true }
def FnExactQuoteWordUptoSaid : Prop := fnExactQuoteWordUptoRow.holds Tryd.pinned (OpenSpec.upto fnExactQuoteWordSpec)

/-- 'laws.FnExactUnquoteWord', WHERE WHAT IT READS IS OF BULK AT MOST 1048576: true; the input reads as it did. -/
def fnExactUnquoteWordUptoRow : OpenClaim := { program := "ytjnpkmenlecdmaadoor", sum := "a46030a1ff3a96ffa289a0dc67cfe9c5839a0995784568f266c08aa9cf33161f", func := "loop.example/mailwire/laws.FnExactUnquoteWord", spec := "fnExactUnquoteWord", inPlace := ["internal/abi.NoEscape"], named := ["loop.example/mailwire/impl.atomMarks"], apart := false, laid := [("loop.example/mailwire/impl.atomMarks", laid_loop_example_mailwire_impl_atomMarks)], narrowed := true }
def FnExactUnquoteWordUptoSaid : Prop := fnExactUnquoteWordUptoRow.holds Tryd.pinned (OpenSpec.upto fnExactUnquoteWordSpec)

end Rows
end Go.Proofs.YtjnpkmenlecdmaaDoor
