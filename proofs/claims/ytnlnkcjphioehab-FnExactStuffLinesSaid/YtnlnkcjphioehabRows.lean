/-
  No cell of these rows narrows 'for every input' (looked for: loops, veiled, ifaces, maps, wideKeys, modest, calm, conditions, laid).
  DERIVED. THE GIVEN ROWS OF THIS SEAT. 5 by the template 'for every input the law returns true; each argument reads behind the call as it read before'; 0 by the template 'total and deterministic' (their statements: YtnlnkcjphioehabTotals.lean).
  GIVEN WITH THE SEED: the statements are not yours to turn. If you find one false, say at which input.
  Laid BY PROGRAM, IN A SANDBOX (cutbox-rows.mjs): the forced cells as the released guide's own fill.sh prints them over the translation 0320f3ffcb884979… (all of the seat's roots in one cut). By AI agents, Wed Nov 11 2026. No macro, syntax, notation, axiom, sorry.
-/
import Derived.Test.YtnlnkcjphioehabChecked
import GoSem.Claim
import GoSem.ClaimJoined
import GoSem.ClaimMapViews
import Derived.JoinedTies
import Derived.KernelRfl
namespace Go.Proofs.Ytnlnkcjphioehab
/- THE CELL 'sum', in the pinned program and in every row, IS THE sha256 OF THE DUMP (.gsa) THAT YtnlnkcjphioehabProg.lean LOADS. Nothing in Lean hashes anything: it is a label: what it is worth is what the hold of that sum in a sandbox is worth. -/
noncomputable def Try.pinned : Pinned := { name := "ytnlnkcjphioehab", sum := "0320f3ffcb88497921bfb98d95fd8d1463b81177457ea35a1aa01f4f3bd42516", checked := Try.checked }
namespace Rows
def none {H : Type} : Left H := { results := [], args := [] }

/-- 'laws.FnExactStuffLines': WHATEVER THE INPUT: true; the input reads as it did. -/
def fnExactStuffLinesSpec : ChangeSpec := { name := "fnExactStuffLines", fn := fun _ => fun
  | [d] => { results := [.lit (.bool true)], args := [d] }
  | _ => none }
def fnExactStuffLinesRow : OpenClaim := { program := "ytnlnkcjphioehab", sum := "0320f3ffcb88497921bfb98d95fd8d1463b81177457ea35a1aa01f4f3bd42516", func := "loop.example/mailwire/laws.FnExactStuffLines", spec := "fnExactStuffLines", inPlace := ["internal/abi.NoEscape"], apart := false }
def FnExactStuffLinesSaid : Prop := fnExactStuffLinesRow.holds Try.pinned (OpenSpec.ofChange fnExactStuffLinesSpec)

/-- ITS FALSE NEIGHBOUR: 'it returns false'. Refute it at one input. -/
def fnExactStuffLinesWrong : ChangeSpec := { name := "fnExactStuffLines", fn := fun _ => fun
  | [d] => { results := [.lit (.bool false)], args := [d] }
  | _ => none }
def FnExactStuffLinesWrongFalsely : Prop := fnExactStuffLinesRow.holds Try.pinned (OpenSpec.ofChange fnExactStuffLinesWrong)

/-- 'laws.FnExactUnstuffText': WHATEVER THE INPUT: true; the input reads as it did. -/
def fnExactUnstuffTextSpec : ChangeSpec := { name := "fnExactUnstuffText", fn := fun _ => fun
  | [d] => { results := [.lit (.bool true)], args := [d] }
  | _ => none }
def fnExactUnstuffTextRow : OpenClaim := { program := "ytnlnkcjphioehab", sum := "0320f3ffcb88497921bfb98d95fd8d1463b81177457ea35a1aa01f4f3bd42516", func := "loop.example/mailwire/laws.FnExactUnstuffText", spec := "fnExactUnstuffText", inPlace := ["internal/bytealg.IndexByteString", "internal/bytealg.IndexString"], named := ["internal/bytealg.MaxLen"], apart := false }
def FnExactUnstuffTextSaid : Prop := fnExactUnstuffTextRow.holds Try.pinned (OpenSpec.ofChange fnExactUnstuffTextSpec)

/-- ITS FALSE NEIGHBOUR: 'it returns false'. Refute it at one input. -/
def fnExactUnstuffTextWrong : ChangeSpec := { name := "fnExactUnstuffText", fn := fun _ => fun
  | [d] => { results := [.lit (.bool false)], args := [d] }
  | _ => none }
def FnExactUnstuffTextWrongFalsely : Prop := fnExactUnstuffTextRow.holds Try.pinned (OpenSpec.ofChange fnExactUnstuffTextWrong)

/-- 'laws.FnExactNormalText': WHATEVER THE INPUT: true; the input reads as it did. -/
def fnExactNormalTextSpec : ChangeSpec := { name := "fnExactNormalText", fn := fun _ => fun
  | [d] => { results := [.lit (.bool true)], args := [d] }
  | _ => none }
def fnExactNormalTextRow : OpenClaim := { program := "ytnlnkcjphioehab", sum := "0320f3ffcb88497921bfb98d95fd8d1463b81177457ea35a1aa01f4f3bd42516", func := "loop.example/mailwire/laws.FnExactNormalText", spec := "fnExactNormalText", inPlace := ["internal/abi.NoEscape"], apart := false }
def FnExactNormalTextSaid : Prop := fnExactNormalTextRow.holds Try.pinned (OpenSpec.ofChange fnExactNormalTextSpec)

/-- ITS FALSE NEIGHBOUR: 'it returns false'. Refute it at one input. -/
def fnExactNormalTextWrong : ChangeSpec := { name := "fnExactNormalText", fn := fun _ => fun
  | [d] => { results := [.lit (.bool false)], args := [d] }
  | _ => none }
def FnExactNormalTextWrongFalsely : Prop := fnExactNormalTextRow.holds Try.pinned (OpenSpec.ofChange fnExactNormalTextWrong)

/-- 'laws.FnExactCountBare': WHATEVER THE INPUT: true; the input reads as it did. -/
def fnExactCountBareSpec : ChangeSpec := { name := "fnExactCountBare", fn := fun _ => fun
  | [d] => { results := [.lit (.bool true)], args := [d] }
  | _ => none }
def fnExactCountBareRow : OpenClaim := { program := "ytnlnkcjphioehab", sum := "0320f3ffcb88497921bfb98d95fd8d1463b81177457ea35a1aa01f4f3bd42516", func := "loop.example/mailwire/laws.FnExactCountBare", spec := "fnExactCountBare", apart := false }
def FnExactCountBareSaid : Prop := fnExactCountBareRow.holds Try.pinned (OpenSpec.ofChange fnExactCountBareSpec)

/-- ITS FALSE NEIGHBOUR: 'it returns false'. Refute it at one input. -/
def fnExactCountBareWrong : ChangeSpec := { name := "fnExactCountBare", fn := fun _ => fun
  | [d] => { results := [.lit (.bool false)], args := [d] }
  | _ => none }
def FnExactCountBareWrongFalsely : Prop := fnExactCountBareRow.holds Try.pinned (OpenSpec.ofChange fnExactCountBareWrong)

/-- 'laws.FnExactSplitWire': WHATEVER THE INPUT: true; the input reads as it did. -/
def fnExactSplitWireSpec : ChangeSpec := { name := "fnExactSplitWire", fn := fun _ => fun
  | [d] => { results := [.lit (.bool true)], args := [d] }
  | _ => none }
def fnExactSplitWireRow : OpenClaim := { program := "ytnlnkcjphioehab", sum := "0320f3ffcb88497921bfb98d95fd8d1463b81177457ea35a1aa01f4f3bd42516", func := "loop.example/mailwire/laws.FnExactSplitWire", spec := "fnExactSplitWire", inPlace := ["internal/bytealg.IndexByteString", "internal/bytealg.IndexString"], named := ["internal/bytealg.MaxLen"], apart := false }
def FnExactSplitWireSaid : Prop := fnExactSplitWireRow.holds Try.pinned (OpenSpec.ofChange fnExactSplitWireSpec)

/-- ITS FALSE NEIGHBOUR: 'it returns false'. Refute it at one input. -/
def fnExactSplitWireWrong : ChangeSpec := { name := "fnExactSplitWire", fn := fun _ => fun
  | [d] => { results := [.lit (.bool false)], args := [d] }
  | _ => none }
def FnExactSplitWireWrongFalsely : Prop := fnExactSplitWireRow.holds Try.pinned (OpenSpec.ofChange fnExactSplitWireWrong)

/- THE SECOND FORM. 'bulk': how many values and letters a reading holds, each counted each time it is reached (what is shared counts as often as it is met; a slice's spare places count too). A statement '..UptoSaid' is the law's where the arguments, and the package variables that the reading takes, are together of bulk at most 1048576: NARROWER than '..Said'. Prove '..Said' where nothing that the law and all that it calls make is longer than what came in: it says more and counts as full. Else prove '..UptoSaid'. A law counts once. -/
mutual
def uptoBulk {H : Type} : DataW H → Nat
  | .lit (.string bytes) => bytes.length + 1
  | .lit _ => 1
  | .nil => 1
  | .ptr d => uptoBulk d + 1
  | .slice elems spare => uptoBulkAll elems + uptoBulkAll spare + 1
  | .agg parts => uptoBulkAll parts + 1
  | .iface _ d => uptoBulk d + 1
  | .map entries => uptoBulkEntries entries + 1
  | .held _ => 1
def uptoBulkAll {H : Type} : List (DataW H) → Nat
  | [] => 0
  | d :: r => uptoBulk d + uptoBulkAll r
def uptoBulkEntries {H : Type} : List (Lit × DataW H) → Nat
  | [] => 0
  | x :: r => uptoBulkEntry x + uptoBulkEntries r
def uptoBulkEntry {H : Type} : Lit × DataW H → Nat
  | (.string bytes, d) => bytes.length + uptoBulk d + 1
  | (_, d) => uptoBulk d + 1
 end
def uptoSmall : (H : Type) → List (DataW H) → Bool := fun _ ds => decide (uptoBulkAll ds ≤ 1048576)
def OpenSpec.upto (s : _root_.Go.ChangeSpec) : _root_.Go.OpenSpec := { _root_.Go.OpenSpec.ofChange s with cond := some uptoSmall }

/-- 'laws.FnExactStuffLines', WHERE WHAT IT READS IS OF BULK AT MOST 1048576: true; the input reads as it did. -/
def fnExactStuffLinesUptoRow : OpenClaim := { program := "ytnlnkcjphioehab", sum := "0320f3ffcb88497921bfb98d95fd8d1463b81177457ea35a1aa01f4f3bd42516", func := "loop.example/mailwire/laws.FnExactStuffLines", spec := "fnExactStuffLines", inPlace := ["internal/abi.NoEscape"], apart := false, narrowed := true }
def FnExactStuffLinesUptoSaid : Prop := fnExactStuffLinesUptoRow.holds Try.pinned (OpenSpec.upto fnExactStuffLinesSpec)

/-- 'laws.FnExactUnstuffText', WHERE WHAT IT READS IS OF BULK AT MOST 1048576: true; the input reads as it did. -/
def fnExactUnstuffTextUptoRow : OpenClaim := { program := "ytnlnkcjphioehab", sum := "0320f3ffcb88497921bfb98d95fd8d1463b81177457ea35a1aa01f4f3bd42516", func := "loop.example/mailwire/laws.FnExactUnstuffText", spec := "fnExactUnstuffText", inPlace := ["internal/bytealg.IndexByteString", "internal/bytealg.IndexString"], named := ["internal/bytealg.MaxLen"], apart := false, narrowed := true }
def FnExactUnstuffTextUptoSaid : Prop := fnExactUnstuffTextUptoRow.holds Try.pinned (OpenSpec.upto fnExactUnstuffTextSpec)

/-- 'laws.FnExactNormalText', WHERE WHAT IT READS IS OF BULK AT MOST 1048576: true; the input reads as it did. -/
def fnExactNormalTextUptoRow : OpenClaim := { program := "ytnlnkcjphioehab", sum := "0320f3ffcb88497921bfb98d95fd8d1463b81177457ea35a1aa01f4f3bd42516", func := "loop.example/mailwire/laws.FnExactNormalText", spec := "fnExactNormalText", inPlace := ["internal/abi.NoEscape"], apart := false, narrowed := true }
def FnExactNormalTextUptoSaid : Prop := fnExactNormalTextUptoRow.holds Try.pinned (OpenSpec.upto fnExactNormalTextSpec)

/-- 'laws.FnExactCountBare', WHERE WHAT IT READS IS OF BULK AT MOST 1048576: true; the input reads as it did. -/
def fnExactCountBareUptoRow : OpenClaim := { program := "ytnlnkcjphioehab", sum := "0320f3ffcb88497921bfb98d95fd8d1463b81177457ea35a1aa01f4f3bd42516", func := "loop.example/mailwire/laws.FnExactCountBare", spec := "fnExactCountBare", apart := false, narrowed := true }
def FnExactCountBareUptoSaid : Prop := fnExactCountBareUptoRow.holds Try.pinned (OpenSpec.upto fnExactCountBareSpec)

/-- 'laws.FnExactSplitWire', WHERE WHAT IT READS IS OF BULK AT MOST 1048576: true; the input reads as it did. -/
def fnExactSplitWireUptoRow : OpenClaim := { program := "ytnlnkcjphioehab", sum := "0320f3ffcb88497921bfb98d95fd8d1463b81177457ea35a1aa01f4f3bd42516", func := "loop.example/mailwire/laws.FnExactSplitWire", spec := "fnExactSplitWire", inPlace := ["internal/bytealg.IndexByteString", "internal/bytealg.IndexString"], named := ["internal/bytealg.MaxLen"], apart := false, narrowed := true }
def FnExactSplitWireUptoSaid : Prop := fnExactSplitWireUptoRow.holds Try.pinned (OpenSpec.upto fnExactSplitWireSpec)

end Rows
end Go.Proofs.Ytnlnkcjphioehab
