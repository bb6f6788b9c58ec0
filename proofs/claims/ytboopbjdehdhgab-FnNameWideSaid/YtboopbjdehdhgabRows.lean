/-
  No cell of these rows narrows 'for every input' (looked for: loops, veiled, ifaces, maps, wideKeys, modest, calm, conditions, laid).
  DERIVED. THE GIVEN ROWS OF THIS SEAT. 3 by the template 'for every input the law returns true; each argument reads behind the call as it read before'; 0 by the template 'total and deterministic' (their statements: YtboopbjdehdhgabTotals.lean).
  GIVEN WITH THE SEED: the statements are not yours to turn. If you find one false, say at which input.
  Laid BY PROGRAM, IN A SANDBOX (cutbox-rows.mjs): the forced cells as the released guide's own fill.sh prints them over the translation 3fa821dd51191b8a… (all of the seat's roots in one cut). By AI agents, Wed Nov 11 2026. No macro, syntax, notation, axiom, sorry.
-/
import Derived.Test.YtboopbjdehdhgabChecked
import GoSem.Claim
import GoSem.ClaimJoined
import GoSem.ClaimMapViews
import Derived.JoinedTies
import Derived.KernelRfl
namespace Go.Proofs.Ytboopbjdehdhgab
/- THE CELL 'sum', in the pinned program and in every row, IS THE sha256 OF THE DUMP (.gsa) THAT YtboopbjdehdhgabProg.lean LOADS. Nothing in Lean hashes anything: it is a label: what it is worth is what the hold of that sum in a sandbox is worth. -/
noncomputable def Try.pinned : Pinned := { name := "ytboopbjdehdhgab", sum := "3fa821dd51191b8a1d0db9b8f7eabd914c7ce30dc5c9d468f53f26764dce93b9", checked := Try.checked }
namespace Rows
def none {H : Type} : Left H := { results := [], args := [] }

/-- 'laws.FnCodeSize': WHATEVER THE INPUT: true; the input reads as it did. -/
def fnCodeSizeSpec : ChangeSpec := { name := "fnCodeSize", fn := fun _ => fun
  | [d] => { results := [.lit (.bool true)], args := [d] }
  | _ => none }
def fnCodeSizeRow : OpenClaim := { program := "ytboopbjdehdhgab", sum := "3fa821dd51191b8a1d0db9b8f7eabd914c7ce30dc5c9d468f53f26764dce93b9", func := "loop.example/mailwire/laws.FnCodeSize", spec := "fnCodeSize", inPlace := ["internal/abi.NoEscape"], apart := false }
def FnCodeSizeSaid : Prop := fnCodeSizeRow.holds Try.pinned (OpenSpec.ofChange fnCodeSizeSpec)

/-- ITS FALSE NEIGHBOUR: 'it returns false'. Refute it at one input. -/
def fnCodeSizeWrong : ChangeSpec := { name := "fnCodeSize", fn := fun _ => fun
  | [d] => { results := [.lit (.bool false)], args := [d] }
  | _ => none }
def FnCodeSizeWrongFalsely : Prop := fnCodeSizeRow.holds Try.pinned (OpenSpec.ofChange fnCodeSizeWrong)

/-- 'laws.FnCodePart': WHATEVER THE INPUT: true; the input reads as it did. -/
def fnCodePartSpec : ChangeSpec := { name := "fnCodePart", fn := fun _ => fun
  | [d] => { results := [.lit (.bool true)], args := [d] }
  | _ => none }
def fnCodePartRow : OpenClaim := { program := "ytboopbjdehdhgab", sum := "3fa821dd51191b8a1d0db9b8f7eabd914c7ce30dc5c9d468f53f26764dce93b9", func := "loop.example/mailwire/laws.FnCodePart", spec := "fnCodePart", inPlace := ["internal/abi.NoEscape"], apart := false }
def FnCodePartSaid : Prop := fnCodePartRow.holds Try.pinned (OpenSpec.ofChange fnCodePartSpec)

/-- ITS FALSE NEIGHBOUR: 'it returns false'. Refute it at one input. -/
def fnCodePartWrong : ChangeSpec := { name := "fnCodePart", fn := fun _ => fun
  | [d] => { results := [.lit (.bool false)], args := [d] }
  | _ => none }
def FnCodePartWrongFalsely : Prop := fnCodePartRow.holds Try.pinned (OpenSpec.ofChange fnCodePartWrong)

/-- 'laws.FnNameWide': WHATEVER THE INPUT: true; the input reads as it did. -/
def fnNameWideSpec : ChangeSpec := { name := "fnNameWide", fn := fun _ => fun
  | [d] => { results := [.lit (.bool true)], args := [d] }
  | _ => none }
def fnNameWideRow : OpenClaim := { program := "ytboopbjdehdhgab", sum := "3fa821dd51191b8a1d0db9b8f7eabd914c7ce30dc5c9d468f53f26764dce93b9", func := "loop.example/mailwire/laws.FnNameWide", spec := "fnNameWide", inPlace := ["internal/bytealg.IndexByteString", "internal/bytealg.IndexString", "internal/abi.NoEscape", "internal/bytealg.MakeNoZero"], named := ["internal/bytealg.MaxLen"], apart := false }
def FnNameWideSaid : Prop := fnNameWideRow.holds Try.pinned (OpenSpec.ofChange fnNameWideSpec)

/-- ITS FALSE NEIGHBOUR: 'it returns false'. Refute it at one input. -/
def fnNameWideWrong : ChangeSpec := { name := "fnNameWide", fn := fun _ => fun
  | [d] => { results := [.lit (.bool false)], args := [d] }
  | _ => none }
def FnNameWideWrongFalsely : Prop := fnNameWideRow.holds Try.pinned (OpenSpec.ofChange fnNameWideWrong)

/- THE SECOND FORM. 'bulk': how many values and letters a reading holds, each counted each time it is reached (what is shared counts as often as it is met; a slice's spare places count too). A statement '..UptoSaid' is the law's where the arguments, and the package variables that the reading takes, are together of bulk at most 1048576: NARROWER than '..Said'. Prove '..Said' where nothing that the law and all that it calls make is longer than what came in: it says more and counts as full. Else prove '..UptoSaid'. A law counts once. -/
mutual
def uptoBulk {H : Type} : DataW H → Nat
  | .lit (.string bytes) => bytes.length + 1
  | .lit _ => 1
  | .nil => 1
  | .ptr d => uptoBulk d + 1
  | .slice elems spare => uptoBulkAll elems + uptoBulkAll spare + 1
  | .agg parts => uptoBulkAll parts + 1
  | .iface _ d => uptoBulk d + 1
  | .map entries => uptoBulkEntries entries + 1
  | .held _ => 1
def uptoBulkAll {H : Type} : List (DataW H) → Nat
  | [] => 0
  | d :: r => uptoBulk d + uptoBulkAll r
def uptoBulkEntries {H : Type} : List (Lit × DataW H) → Nat
  | [] => 0
  | x :: r => uptoBulkEntry x + uptoBulkEntries r
def uptoBulkEntry {H : Type} : Lit × DataW H → Nat
  | (.string bytes, d) => bytes.length + uptoBulk d + 1
  | (_, d) => uptoBulk d + 1
 end
def uptoSmall : (H : Type) → List (DataW H) → Bool := fun _ ds => decide (uptoBulkAll ds ≤ 1048576)
def OpenSpec.upto (s : _root_.Go.ChangeSpec) : _root_.Go.OpenSpec := { _root_.Go.OpenSpec.ofChange s with cond := some uptoSmall }

/-- 'laws.FnCodeSize', WHERE WHAT IT READS IS OF BULK AT MOST 1048576: true; the input reads as it did. -/
def fnCodeSizeUptoRow : OpenClaim := { program := "ytboopbjdehdhgab", sum := "3fa821dd51191b8a1d0db9b8f7eabd914c7ce30dc5c9d468f53f26764dce93b9", func := "loop.example/mailwire/laws.FnCodeSize", spec := "fnCodeSize", inPlace := ["internal/abi.NoEscape"], apart := false, narrowed := true }
def FnCodeSizeUptoSaid : Prop := fnCodeSizeUptoRow.holds Try.pinned (OpenSpec.upto fnCodeSizeSpec)

/-- 'laws.FnCodePart', WHERE WHAT IT READS IS OF BULK AT MOST 1048576: true; the input reads as it did. -/
def fnCodePartUptoRow : OpenClaim := { program := "ytboopbjdehdhgab", sum := "3fa821dd51191b8a1d0db9b8f7eabd914c7ce30dc5c9d468f53f26764dce93b9", func := "loop.example/mailwire/laws.FnCodePart", spec := "fnCodePart", inPlace := ["internal/abi.NoEscape"], apart := false, narrowed := true }
def FnCodePartUptoSaid : Prop := fnCodePartUptoRow.holds Try.pinned (OpenSpec.upto fnCodePartSpec)

/-- 'laws.FnNameWide', WHERE WHAT IT READS IS OF BULK AT MOST 1048576: true; the input reads as it did. -/
def fnNameWideUptoRow : OpenClaim := { program := "ytboopbjdehdhgab", sum := "3fa821dd51191b8a1d0db9b8f7eabd914c7ce30dc5c9d468f53f26764dce93b9", func := "loop.example/mailwire/laws.FnNameWide", spec := "fnNameWide", inPlace := ["internal/bytealg.IndexByteString", "internal/bytealg.IndexString", "internal/abi.NoEscape", "internal/bytealg.MakeNoZero"], named := ["internal/bytealg.MaxLen"], apart := false, narrowed := true }
def FnNameWideUptoSaid : Prop := fnNameWideUptoRow.holds Try.pinned (OpenSpec.upto fnNameWideSpec)

end Rows
end Go.Proofs.Ytboopbjdehdhgab
