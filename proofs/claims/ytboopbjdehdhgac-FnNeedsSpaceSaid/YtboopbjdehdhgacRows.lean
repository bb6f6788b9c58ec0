/-
  No cell of these rows narrows 'for every input' (looked for: loops, veiled, ifaces, maps, wideKeys, modest, calm, conditions, laid).
  DERIVED. THE GIVEN ROWS OF THIS SEAT. 4 by the template 'for every input the law returns true; each argument reads behind the call as it read before'; 0 by the template 'total and deterministic' (their statements: YtboopbjdehdhgacTotals.lean).
  GIVEN WITH THE SEED: the statements are not yours to turn. If you find one false, say at which input.
  Laid BY PROGRAM, IN A SANDBOX (cutbox-rows.mjs): the forced cells as the released guide's own fill.sh prints them over the translation 8602cd49f9e4a5d2… (all of the seat's roots in one cut). By AI agents, Wed Nov 11 2026. No macro, syntax, notation, axiom, sorry.
-/
import Derived.Test.YtboopbjdehdhgacChecked
import GoSem.Claim
import GoSem.ClaimJoined
import GoSem.ClaimMapViews
import Derived.JoinedTies
import Derived.KernelRfl
namespace Go.Proofs.Ytboopbjdehdhgac
/- THE CELL 'sum', in the pinned program and in every row, IS THE sha256 OF THE DUMP (.gsa) THAT YtboopbjdehdhgacProg.lean LOADS. Nothing in Lean hashes anything: it is a label: what it is worth is what the hold of that sum in a sandbox is worth. -/
noncomputable def Try.pinned : Pinned := { name := "ytboopbjdehdhgac", sum := "8602cd49f9e4a5d2d3c987115073badfeb9068ed75dda1ec0d16e2c7196cb71c", checked := Try.checked }
namespace Rows
def none {H : Type} : Left H := { results := [], args := [] }

/-- 'laws.FnNeedsSpace': WHATEVER THE INPUT: true; the input reads as it did. -/
def fnNeedsSpaceSpec : ChangeSpec := { name := "fnNeedsSpace", fn := fun _ => fun
  | [d] => { results := [.lit (.bool true)], args := [d] }
  | _ => none }
def fnNeedsSpaceRow : OpenClaim := { program := "ytboopbjdehdhgac", sum := "8602cd49f9e4a5d2d3c987115073badfeb9068ed75dda1ec0d16e2c7196cb71c", func := "loop.example/mailwire/laws.FnNeedsSpace", spec := "fnNeedsSpace", inPlace := ["internal/bytealg.IndexByteString", "internal/bytealg.IndexString"], named := ["internal/bytealg.MaxLen"], apart := false }
def FnNeedsSpaceSaid : Prop := fnNeedsSpaceRow.holds Try.pinned (OpenSpec.ofChange fnNeedsSpaceSpec)

/-- ITS FALSE NEIGHBOUR: 'it returns false'. Refute it at one input. -/
def fnNeedsSpaceWrong : ChangeSpec := { name := "fnNeedsSpace", fn := fun _ => fun
  | [d] => { results := [.lit (.bool false)], args := [d] }
  | _ => none }
def FnNeedsSpaceWrongFalsely : Prop := fnNeedsSpaceRow.holds Try.pinned (OpenSpec.ofChange fnNeedsSpaceWrong)

/-- 'laws.FnExactNeedsCode': WHATEVER THE INPUT: true; the input reads as it did. -/
def fnExactNeedsCodeSpec : ChangeSpec := { name := "fnExactNeedsCode", fn := fun _ => fun
  | [d] => { results := [.lit (.bool true)], args := [d] }
  | _ => none }
def fnExactNeedsCodeRow : OpenClaim := { program := "ytboopbjdehdhgac", sum := "8602cd49f9e4a5d2d3c987115073badfeb9068ed75dda1ec0d16e2c7196cb71c", func := "loop.example/mailwire/laws.FnExactNeedsCode", spec := "fnExactNeedsCode", inPlace := ["internal/bytealg.IndexByteString", "internal/bytealg.IndexString"], named := ["internal/bytealg.MaxLen"], apart := false }
def FnExactNeedsCodeSaid : Prop := fnExactNeedsCodeRow.holds Try.pinned (OpenSpec.ofChange fnExactNeedsCodeSpec)

/-- ITS FALSE NEIGHBOUR: 'it returns false'. Refute it at one input. -/
def fnExactNeedsCodeWrong : ChangeSpec := { name := "fnExactNeedsCode", fn := fun _ => fun
  | [d] => { results := [.lit (.bool false)], args := [d] }
  | _ => none }
def FnExactNeedsCodeWrongFalsely : Prop := fnExactNeedsCodeRow.holds Try.pinned (OpenSpec.ofChange fnExactNeedsCodeWrong)

/-- 'laws.FnExactCodeWord': WHATEVER THE INPUT: true; the input reads as it did. -/
def fnExactCodeWordSpec : ChangeSpec := { name := "fnExactCodeWord", fn := fun _ => fun
  | [d] => { results := [.lit (.bool true)], args := [d] }
  | _ => none }
def fnExactCodeWordRow : OpenClaim := { program := "ytboopbjdehdhgac", sum := "8602cd49f9e4a5d2d3c987115073badfeb9068ed75dda1ec0d16e2c7196cb71c", func := "loop.example/mailwire/laws.FnExactCodeWord", spec := "fnExactCodeWord", inPlace := ["internal/abi.NoEscape"], apart := false }
def FnExactCodeWordSaid : Prop := fnExactCodeWordRow.holds Try.pinned (OpenSpec.ofChange fnExactCodeWordSpec)

/-- ITS FALSE NEIGHBOUR: 'it returns false'. Refute it at one input. -/
def fnExactCodeWordWrong : ChangeSpec := { name := "fnExactCodeWord", fn := fun _ => fun
  | [d] => { results := [.lit (.bool false)], args := [d] }
  | _ => none }
def FnExactCodeWordWrongFalsely : Prop := fnExactCodeWordRow.holds Try.pinned (OpenSpec.ofChange fnExactCodeWordWrong)

/-- 'laws.FnExactEncodeName': WHATEVER THE INPUT: true; the input reads as it did. -/
def fnExactEncodeNameSpec : ChangeSpec := { name := "fnExactEncodeName", fn := fun _ => fun
  | [d] => { results := [.lit (.bool true)], args := [d] }
  | _ => none }
def fnExactEncodeNameRow : OpenClaim := { program := "ytboopbjdehdhgac", sum := "8602cd49f9e4a5d2d3c987115073badfeb9068ed75dda1ec0d16e2c7196cb71c", func := "loop.example/mailwire/laws.FnExactEncodeName", spec := "fnExactEncodeName", inPlace := ["internal/bytealg.IndexByteString", "internal/bytealg.IndexString", "internal/abi.NoEscape", "internal/bytealg.MakeNoZero"], named := ["internal/bytealg.MaxLen"], apart := false }
def FnExactEncodeNameSaid : Prop := fnExactEncodeNameRow.holds Try.pinned (OpenSpec.ofChange fnExactEncodeNameSpec)

/-- ITS FALSE NEIGHBOUR: 'it returns false'. Refute it at one input. -/
def fnExactEncodeNameWrong : ChangeSpec := { name := "fnExactEncodeName", fn := fun _ => fun
  | [d] => { results := [.lit (.bool false)], args := [d] }
  | _ => none }
def FnExactEncodeNameWrongFalsely : Prop := fnExactEncodeNameRow.holds Try.pinned (OpenSpec.ofChange fnExactEncodeNameWrong)

/- THE SECOND FORM. 'bulk': how many values and letters a reading holds, each counted each time it is reached (what is shared counts as often as it is met; a slice's spare places count too). A statement '..UptoSaid' is the law's where the arguments, and the package variables that the reading takes, are together of bulk at most 1048576: NARROWER than '..Said'. Prove '..Said' where nothing that the law and all that it calls make is longer than what came in: it says more and counts as full. Else prove '..UptoSaid'. A law counts once. -/
mutual
def uptoBulk {H : Type} : DataW H → Nat
  | .lit (.string bytes) => bytes.length + 1
  | .lit _ => 1
  | .nil => 1
  | .ptr d => uptoBulk d + 1
  | .slice elems spare => uptoBulkAll elems + uptoBulkAll spare + 1
  | .agg parts => uptoBulkAll parts + 1
  | .iface _ d => uptoBulk d + 1
  | .map entries => uptoBulkEntries entries + 1
  | .held _ => 1
def uptoBulkAll {H : Type} : List (DataW H) → Nat
  | [] => 0
  | d :: r => uptoBulk d + uptoBulkAll r
def uptoBulkEntries {H : Type} : List (Lit × DataW H) → Nat
  | [] => 0
  | x :: r => uptoBulkEntry x + uptoBulkEntries r
def uptoBulkEntry {H : Type} : Lit × DataW H → Nat
  | (.string bytes, d) => bytes.length + uptoBulk d + 1
  | (_, d) => uptoBulk d + 1
 end
def uptoSmall : (H : Type) → List (DataW H) → Bool := fun _ ds => decide (uptoBulkAll ds ≤ 1048576)
def OpenSpec.upto (s : _root_.Go.ChangeSpec) : _root_.Go.OpenSpec := { _root_.Go.OpenSpec.ofChange s with cond := some uptoSmall }

/-- 'laws.FnNeedsSpace', WHERE WHAT IT READS IS OF BULK AT MOST 1048576: true; the input reads as it did. -/
def fnNeedsSpaceUptoRow : OpenClaim := { program := "ytboopbjdehdhgac", sum := "8602cd49f9e4a5d2d3c987115073badfeb9068ed75dda1ec0d16e2c7196cb71c", func := "loop.example/mailwire/laws.FnNeedsSpace", spec := "fnNeedsSpace", inPlace := ["internal/bytealg.IndexByteString", "internal/bytealg.IndexString"], named := ["internal/bytealg.MaxLen"], apart := false, narrowed := true }
def FnNeedsSpaceUptoSaid : Prop := fnNeedsSpaceUptoRow.holds Try.pinned (OpenSpec.upto fnNeedsSpaceSpec)

/-- 'laws.FnExactNeedsCode', WHERE WHAT IT READS IS OF BULK AT MOST 1048576: true; the input reads as it did. -/
def fnExactNeedsCodeUptoRow : OpenClaim := { program := "ytboopbjdehdhgac", sum := "8602cd49f9e4a5d2d3c987115073badfeb9068ed75dda1ec0d16e2c7196cb71c", func := "loop.example/mailwire/laws.FnExactNeedsCode", spec := "fnExactNeedsCode", inPlace := ["internal/bytealg.IndexByteString", "internal/bytealg.IndexString"], named := ["internal/bytealg.MaxLen"], apart := false, narrowed := true }
def FnExactNeedsCodeUptoSaid : Prop := fnExactNeedsCodeUptoRow.holds Try.pinned (OpenSpec.upto fnExactNeedsCodeSpec)

/-- 'laws.FnExactCodeWord', WHERE WHAT IT READS IS OF BULK AT MOST 1048576: true; the input reads as it did. -/
def fnExactCodeWordUptoRow : OpenClaim := { program := "ytboopbjdehdhgac", sum := "8602cd49f9e4a5d2d3c987115073badfeb9068ed75dda1ec0d16e2c7196cb71c", func := "loop.example/mailwire/laws.FnExactCodeWord", spec := "fnExactCodeWord", inPlace := ["internal/abi.NoEscape"], apart := false, narrowed := true }
def FnExactCodeWordUptoSaid : Prop := fnExactCodeWordUptoRow.holds Try.pinned (OpenSpec.upto fnExactCodeWordSpec)

/-- 'laws.FnExactEncodeName', WHERE WHAT IT READS IS OF BULK AT MOST 1048576: true; the input reads as it did. -/
def fnExactEncodeNameUptoRow : OpenClaim := { program := "ytboopbjdehdhgac", sum := "8602cd49f9e4a5d2d3c987115073badfeb9068ed75dda1ec0d16e2c7196cb71c", func := "loop.example/mailwire/laws.FnExactEncodeName", spec := "fnExactEncodeName", inPlace := ["internal/bytealg.IndexByteString", "internal/bytealg.IndexString", "internal/abi.NoEscape", "internal/bytealg.MakeNoZero"], named := ["internal/bytealg.MaxLen"], apart := false, narrowed := true }
def FnExactEncodeNameUptoSaid : Prop := fnExactEncodeNameUptoRow.holds Try.pinned (OpenSpec.upto fnExactEncodeNameSpec)

end Rows
end Go.Proofs.Ytboopbjdehdhgac
