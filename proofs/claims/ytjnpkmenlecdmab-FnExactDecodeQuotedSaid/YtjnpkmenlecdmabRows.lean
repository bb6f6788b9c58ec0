/-
  No cell of these rows narrows 'for every input' (looked for: loops, veiled, ifaces, maps, wideKeys, modest, calm, conditions, laid).
  DERIVED. THE GIVEN ROWS OF THIS SEAT. 3 by the template 'for every input the law returns true; each argument reads behind the call as it read before'; 0 by the template 'total and deterministic' (their statements: YtjnpkmenlecdmabTotals.lean).
  GIVEN WITH THE SEED: the statements are not yours to turn. If you find one false, say at which input.
  Laid BY PROGRAM, IN A SANDBOX (cutbox-rows.mjs): the forced cells as the released guide's own fill.sh prints them over the translation 8b7d47892fd947bc… (all of the seat's roots in one cut). By AI agents, Wed Nov 11 2026. No macro, syntax, notation, axiom, sorry.
-/
import Derived.Test.YtjnpkmenlecdmabChecked
import GoSem.Claim
import GoSem.ClaimJoined
import GoSem.ClaimMapViews
import Derived.JoinedTies
import Derived.KernelRfl
namespace Go.Proofs.Ytjnpkmenlecdmab
/- THE CELL 'sum', in the pinned program and in every row, IS THE sha256 OF THE DUMP (.gsa) THAT YtjnpkmenlecdmabProg.lean LOADS. Nothing in Lean hashes anything: it is a label: what it is worth is what the hold of that sum in a sandbox is worth. -/
noncomputable def Try.pinned : Pinned := { name := "ytjnpkmenlecdmab", sum := "8b7d47892fd947bced5de8027085f85bc844d7b36504db10b06fd452a97be661", checked := Try.checked }
namespace Rows
def none {H : Type} : Left H := { results := [], args := [] }

/-- 'laws.FnQuotedSoft': WHATEVER THE INPUT: true; the input reads as it did. -/
def fnQuotedSoftSpec : ChangeSpec := { name := "fnQuotedSoft", fn := fun _ => fun
  | [d] => { results := [.lit (.bool true)], args := [d] }
  | _ => none }
def fnQuotedSoftRow : OpenClaim := { program := "ytjnpkmenlecdmab", sum := "8b7d47892fd947bced5de8027085f85bc844d7b36504db10b06fd452a97be661", func := "loop.example/mailwire/laws.FnQuotedSoft", spec := "fnQuotedSoft", inPlace := ["internal/abi.NoEscape", "internal/bytealg.IndexByteString"], apart := false }
def FnQuotedSoftSaid : Prop := fnQuotedSoftRow.holds Try.pinned (OpenSpec.ofChange fnQuotedSoftSpec)

/-- ITS FALSE NEIGHBOUR: 'it returns false'. Refute it at one input. -/
def fnQuotedSoftWrong : ChangeSpec := { name := "fnQuotedSoft", fn := fun _ => fun
  | [d] => { results := [.lit (.bool false)], args := [d] }
  | _ => none }
def FnQuotedSoftWrongFalsely : Prop := fnQuotedSoftRow.holds Try.pinned (OpenSpec.ofChange fnQuotedSoftWrong)

/-- 'laws.FnExactDecodeQuoted': WHATEVER THE INPUT: true; the input reads as it did. -/
def fnExactDecodeQuotedSpec : ChangeSpec := { name := "fnExactDecodeQuoted", fn := fun _ => fun
  | [d] => { results := [.lit (.bool true)], args := [d] }
  | _ => none }
def fnExactDecodeQuotedRow : OpenClaim := { program := "ytjnpkmenlecdmab", sum := "8b7d47892fd947bced5de8027085f85bc844d7b36504db10b06fd452a97be661", func := "loop.example/mailwire/laws.FnExactDecodeQuoted", spec := "fnExactDecodeQuoted", inPlace := ["internal/abi.NoEscape", "internal/bytealg.IndexByteString"], apart := false }
def FnExactDecodeQuotedSaid : Prop := fnExactDecodeQuotedRow.holds Try.pinned (OpenSpec.ofChange fnExactDecodeQuotedSpec)

/-- ITS FALSE NEIGHBOUR: 'it returns false'. Refute it at one input. -/
def fnExactDecodeQuotedWrong : ChangeSpec := { name := "fnExactDecodeQuoted", fn := fun _ => fun
  | [d] => { results := [.lit (.bool false)], args := [d] }
  | _ => none }
def FnExactDecodeQuotedWrongFalsely : Prop := fnExactDecodeQuotedRow.holds Try.pinned (OpenSpec.ofChange fnExactDecodeQuotedWrong)

/-- 'laws.FnExactDecodeBytes': WHATEVER THE INPUT: true; the input reads as it did. -/
def fnExactDecodeBytesSpec : ChangeSpec := { name := "fnExactDecodeBytes", fn := fun _ => fun
  | [d1, d2] => { results := [.lit (.bool true)], args := [d1, d2] }
  | _ => none }
def fnExactDecodeBytesRow : OpenClaim := { program := "ytjnpkmenlecdmab", sum := "8b7d47892fd947bced5de8027085f85bc844d7b36504db10b06fd452a97be661", func := "loop.example/mailwire/laws.FnExactDecodeBytes", spec := "fnExactDecodeBytes", inPlace := ["internal/abi.NoEscape", "internal/bytealg.MakeNoZero", "internal/bytealg.IndexByteString"], apart := false }
def FnExactDecodeBytesSaid : Prop := fnExactDecodeBytesRow.holds Try.pinned (OpenSpec.ofChange fnExactDecodeBytesSpec)

/-- ITS FALSE NEIGHBOUR: 'it returns false'. Refute it at one input. -/
def fnExactDecodeBytesWrong : ChangeSpec := { name := "fnExactDecodeBytes", fn := fun _ => fun
  | [d1, d2] => { results := [.lit (.bool false)], args := [d1, d2] }
  | _ => none }
def FnExactDecodeBytesWrongFalsely : Prop := fnExactDecodeBytesRow.holds Try.pinned (OpenSpec.ofChange fnExactDecodeBytesWrong)

/- THE SECOND FORM. 'bulk': how many values and letters a reading holds, each counted each time it is reached (what is shared counts as often as it is met; a slice's spare places count too). A statement '..UptoSaid' is the law's where the arguments, and the package variables that the reading takes, are together of bulk at most 1048576: NARROWER than '..Said'. Prove '..Said' where nothing that the law and all that it calls make is longer than what came in: it says more and counts as full. Else prove '..UptoSaid'. A law counts once. -/
mutual
def uptoBulk {H : Type} : DataW H → Nat
  | .lit (.string bytes) => bytes.length + 1
  | .lit _ => 1
  | .nil => 1
  | .ptr d => uptoBulk d + 1
  | .slice elems spare => uptoBulkAll elems + uptoBulkAll spare + 1
  | .agg parts => uptoBulkAll parts + 1
  | .iface _ d => uptoBulk d + 1
  | .map entries => uptoBulkEntries entries + 1
  | .held _ => 1
def uptoBulkAll {H : Type} : List (DataW H) → Nat
  | [] => 0
  | d :: r => uptoBulk d + uptoBulkAll r
def uptoBulkEntries {H : Type} : List (Lit × DataW H) → Nat
  | [] => 0
  | x :: r => uptoBulkEntry x + uptoBulkEntries r
def uptoBulkEntry {H : Type} : Lit × DataW H → Nat
  | (.string bytes, d) => bytes.length + uptoBulk d + 1
  | (_, d) => uptoBulk d + 1
 end
def uptoSmall : (H : Type) → List (DataW H) → Bool := fun _ ds => decide (uptoBulkAll ds ≤ 1048576)
def OpenSpec.upto (s : _root_.Go.ChangeSpec) : _root_.Go.OpenSpec := { _root_.Go.OpenSpec.ofChange s with cond := some uptoSmall }

/-- 'laws.FnQuotedSoft', WHERE WHAT IT READS IS OF BULK AT MOST 1048576: true; the input reads as it did. -/
def fnQuotedSoftUptoRow : OpenClaim := { program := "ytjnpkmenlecdmab", sum := "8b7d47892fd947bced5de8027085f85bc844d7b36504db10b06fd452a97be661", func := "loop.example/mailwire/laws.FnQuotedSoft", spec := "fnQuotedSoft", inPlace := ["internal/abi.NoEscape", "internal/bytealg.IndexByteString"], apart := false, narrowed := true }
def FnQuotedSoftUptoSaid : Prop := fnQuotedSoftUptoRow.holds Try.pinned (OpenSpec.upto fnQuotedSoftSpec)

/-- 'laws.FnExactDecodeQuoted', WHERE WHAT IT READS IS OF BULK AT MOST 1048576: true; the input reads as it did. -/
def fnExactDecodeQuotedUptoRow : OpenClaim := { program := "ytjnpkmenlecdmab", sum := "8b7d47892fd947bced5de8027085f85bc844d7b36504db10b06fd452a97be661", func := "loop.example/mailwire/laws.FnExactDecodeQuoted", spec := "fnExactDecodeQuoted", inPlace := ["internal/abi.NoEscape", "internal/bytealg.IndexByteString"], apart := false, narrowed := true }
def FnExactDecodeQuotedUptoSaid : Prop := fnExactDecodeQuotedUptoRow.holds Try.pinned (OpenSpec.upto fnExactDecodeQuotedSpec)

/-- 'laws.FnExactDecodeBytes', WHERE WHAT IT READS IS OF BULK AT MOST 1048576: true; the input reads as it did. -/
def fnExactDecodeBytesUptoRow : OpenClaim := { program := "ytjnpkmenlecdmab", sum := "8b7d47892fd947bced5de8027085f85bc844d7b36504db10b06fd452a97be661", func := "loop.example/mailwire/laws.FnExactDecodeBytes", spec := "fnExactDecodeBytes", inPlace := ["internal/abi.NoEscape", "internal/bytealg.MakeNoZero", "internal/bytealg.IndexByteString"], apart := false, narrowed := true }
def FnExactDecodeBytesUptoSaid : Prop := fnExactDecodeBytesUptoRow.holds Try.pinned (OpenSpec.upto fnExactDecodeBytesSpec)

end Rows
end Go.Proofs.Ytjnpkmenlecdmab
