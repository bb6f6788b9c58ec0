/-
  No cell of these rows narrows 'for every input' (looked for: loops, veiled, ifaces, maps, wideKeys, modest, calm, conditions, laid).
  DERIVED. THE GIVEN ROWS OF THIS SEAT. 5 by the template 'for every input the law returns true; each argument reads behind the call as it read before'; 0 by the template 'total and deterministic' (their statements: YtdaoeoociamdnaaTotals.lean).
  GIVEN WITH THE SEED: the statements are not yours to turn. If you find one false, say at which input.
  Laid BY PROGRAM, IN A SANDBOX (cutbox-rows.mjs): the forced cells as the released guide's own fill.sh prints them over the translation be19b827f29e134f… (all of the seat's roots in one cut). By AI agents, Wed Nov 11 2026. No macro, syntax, notation, axiom, sorry.
-/
import Derived.Test.YtdaoeoociamdnaaChecked
import GoSem.Claim
import GoSem.ClaimJoined
import GoSem.ClaimMapViews
import Derived.JoinedTies
import Derived.KernelRfl
namespace Go.Proofs.Ytdaoeoociamdnaa
/- THE CELL 'sum', in the pinned program and in every row, IS THE sha256 OF THE DUMP (.gsa) THAT YtdaoeoociamdnaaProg.lean LOADS. Nothing in Lean hashes anything: it is a label: what it is worth is what the hold of that sum in a sandbox is worth. -/
noncomputable def Try.pinned : Pinned := { name := "ytdaoeoociamdnaa", sum := "be19b827f29e134f9276d534c5afe539585ee873a4ebd80e3b9dd0ad902590dd", checked := Try.checked }
namespace Rows
def none {H : Type} : Left H := { results := [], args := [] }

/-- 'laws.FnBaseBytes': WHATEVER THE INPUT: true; the input reads as it did. -/
def fnBaseBytesSpec : ChangeSpec := { name := "fnBaseBytes", fn := fun _ => fun
  | [d1, d2] => { results := [.lit (.bool true)], args := [d1, d2] }
  | _ => none }
def fnBaseBytesRow : OpenClaim := { program := "ytdaoeoociamdnaa", sum := "be19b827f29e134f9276d534c5afe539585ee873a4ebd80e3b9dd0ad902590dd", func := "loop.example/mailwire/laws.FnBaseBytes", spec := "fnBaseBytes", inPlace := ["internal/abi.NoEscape", "internal/bytealg.IndexByteString"], apart := false }
def FnBaseBytesSaid : Prop := fnBaseBytesRow.holds Try.pinned (OpenSpec.ofChange fnBaseBytesSpec)

/-- ITS FALSE NEIGHBOUR: 'it returns false'. Refute it at one input. -/
def fnBaseBytesWrong : ChangeSpec := { name := "fnBaseBytes", fn := fun _ => fun
  | [d1, d2] => { results := [.lit (.bool false)], args := [d1, d2] }
  | _ => none }
def FnBaseBytesWrongFalsely : Prop := fnBaseBytesRow.holds Try.pinned (OpenSpec.ofChange fnBaseBytesWrong)

/-- 'laws.FnBaseSize': WHATEVER THE INPUT: true; the input reads as it did. -/
def fnBaseSizeSpec : ChangeSpec := { name := "fnBaseSize", fn := fun _ => fun
  | [d] => { results := [.lit (.bool true)], args := [d] }
  | _ => none }
def fnBaseSizeRow : OpenClaim := { program := "ytdaoeoociamdnaa", sum := "be19b827f29e134f9276d534c5afe539585ee873a4ebd80e3b9dd0ad902590dd", func := "loop.example/mailwire/laws.FnBaseSize", spec := "fnBaseSize", inPlace := ["internal/abi.NoEscape"], apart := false }
def FnBaseSizeSaid : Prop := fnBaseSizeRow.holds Try.pinned (OpenSpec.ofChange fnBaseSizeSpec)

/-- ITS FALSE NEIGHBOUR: 'it returns false'. Refute it at one input. -/
def fnBaseSizeWrong : ChangeSpec := { name := "fnBaseSize", fn := fun _ => fun
  | [d] => { results := [.lit (.bool false)], args := [d] }
  | _ => none }
def FnBaseSizeWrongFalsely : Prop := fnBaseSizeRow.holds Try.pinned (OpenSpec.ofChange fnBaseSizeWrong)

/-- 'laws.FnBaseLines': WHATEVER THE INPUT: true; the input reads as it did. -/
def fnBaseLinesSpec : ChangeSpec := { name := "fnBaseLines", fn := fun _ => fun
  | [d] => { results := [.lit (.bool true)], args := [d] }
  | _ => none }
def fnBaseLinesRow : OpenClaim := { program := "ytdaoeoociamdnaa", sum := "be19b827f29e134f9276d534c5afe539585ee873a4ebd80e3b9dd0ad902590dd", func := "loop.example/mailwire/laws.FnBaseLines", spec := "fnBaseLines", inPlace := ["internal/abi.NoEscape", "internal/bytealg.IndexByteString"], apart := false }
def FnBaseLinesSaid : Prop := fnBaseLinesRow.holds Try.pinned (OpenSpec.ofChange fnBaseLinesSpec)

/-- ITS FALSE NEIGHBOUR: 'it returns false'. Refute it at one input. -/
def fnBaseLinesWrong : ChangeSpec := { name := "fnBaseLines", fn := fun _ => fun
  | [d] => { results := [.lit (.bool false)], args := [d] }
  | _ => none }
def FnBaseLinesWrongFalsely : Prop := fnBaseLinesRow.holds Try.pinned (OpenSpec.ofChange fnBaseLinesWrong)

/-- 'laws.FnBaseWidth': WHATEVER THE INPUT: true; the input reads as it did. -/
def fnBaseWidthSpec : ChangeSpec := { name := "fnBaseWidth", fn := fun _ => fun
  | [d] => { results := [.lit (.bool true)], args := [d] }
  | _ => none }
def fnBaseWidthRow : OpenClaim := { program := "ytdaoeoociamdnaa", sum := "be19b827f29e134f9276d534c5afe539585ee873a4ebd80e3b9dd0ad902590dd", func := "loop.example/mailwire/laws.FnBaseWidth", spec := "fnBaseWidth", inPlace := ["internal/abi.NoEscape"], apart := false }
def FnBaseWidthSaid : Prop := fnBaseWidthRow.holds Try.pinned (OpenSpec.ofChange fnBaseWidthSpec)

/-- ITS FALSE NEIGHBOUR: 'it returns false'. Refute it at one input. -/
def fnBaseWidthWrong : ChangeSpec := { name := "fnBaseWidth", fn := fun _ => fun
  | [d] => { results := [.lit (.bool false)], args := [d] }
  | _ => none }
def FnBaseWidthWrongFalsely : Prop := fnBaseWidthRow.holds Try.pinned (OpenSpec.ofChange fnBaseWidthWrong)

/-- 'laws.FnQuotedSoft': WHATEVER THE INPUT: true; the input reads as it did. -/
def fnQuotedSoftSpec : ChangeSpec := { name := "fnQuotedSoft", fn := fun _ => fun
  | [d] => { results := [.lit (.bool true)], args := [d] }
  | _ => none }
def fnQuotedSoftRow : OpenClaim := { program := "ytdaoeoociamdnaa", sum := "be19b827f29e134f9276d534c5afe539585ee873a4ebd80e3b9dd0ad902590dd", func := "loop.example/mailwire/laws.FnQuotedSoft", spec := "fnQuotedSoft", inPlace := ["internal/abi.NoEscape", "internal/bytealg.IndexByteString"], apart := false }
def FnQuotedSoftSaid : Prop := fnQuotedSoftRow.holds Try.pinned (OpenSpec.ofChange fnQuotedSoftSpec)

/-- ITS FALSE NEIGHBOUR: 'it returns false'. Refute it at one input. -/
def fnQuotedSoftWrong : ChangeSpec := { name := "fnQuotedSoft", fn := fun _ => fun
  | [d] => { results := [.lit (.bool false)], args := [d] }
  | _ => none }
def FnQuotedSoftWrongFalsely : Prop := fnQuotedSoftRow.holds Try.pinned (OpenSpec.ofChange fnQuotedSoftWrong)

/- THE SECOND FORM. 'bulk': how many values and letters a reading holds, each counted each time it is reached (what is shared counts as often as it is met; a slice's spare places count too). A statement '..UptoSaid' is the law's where the arguments, and the package variables that the reading takes, are together of bulk at most 1048576: NARROWER than '..Said'. Prove '..Said' where nothing that the law and all that it calls make is longer than what came in: it says more and counts as full. Else prove '..UptoSaid'. A law counts once. -/
mutual
def uptoBulk {H : Type} : DataW H → Nat
  | .lit (.string bytes) => bytes.length + 1
  | .lit _ => 1
  | .nil => 1
  | .ptr d => uptoBulk d + 1
  | .slice elems spare => uptoBulkAll elems + uptoBulkAll spare + 1
  | .agg parts => uptoBulkAll parts + 1
  | .iface _ d => uptoBulk d + 1
  | .map entries => uptoBulkEntries entries + 1
  | .held _ => 1
def uptoBulkAll {H : Type} : List (DataW H) → Nat
  | [] => 0
  | d :: r => uptoBulk d + uptoBulkAll r
def uptoBulkEntries {H : Type} : List (Lit × DataW H) → Nat
  | [] => 0
  | x :: r => uptoBulkEntry x + uptoBulkEntries r
def uptoBulkEntry {H : Type} : Lit × DataW H → Nat
  | (.string bytes, d) => bytes.length + uptoBulk d + 1
  | (_, d) => uptoBulk d + 1
 end
def uptoSmall : (H : Type) → List (DataW H) → Bool := fun _ ds => decide (uptoBulkAll ds ≤ 1048576)
def OpenSpec.upto (s : _root_.Go.ChangeSpec) : _root_.Go.OpenSpec := { _root_.Go.OpenSpec.ofChange s with cond := some uptoSmall }

/-- 'laws.FnBaseBytes', WHERE WHAT IT READS IS OF BULK AT MOST 1048576: true; the input reads as it did. -/
def fnBaseBytesUptoRow : OpenClaim := { program := "ytdaoeoociamdnaa", sum := "be19b827f29e134f9276d534c5afe539585ee873a4ebd80e3b9dd0ad902590dd", func := "loop.example/mailwire/laws.FnBaseBytes", spec := "fnBaseBytes", inPlace := ["internal/abi.NoEscape", "internal/bytealg.IndexByteString"], apart := false, narrowed := true }
def FnBaseBytesUptoSaid : Prop := fnBaseBytesUptoRow.holds Try.pinned (OpenSpec.upto fnBaseBytesSpec)

/-- 'laws.FnBaseSize', WHERE WHAT IT READS IS OF BULK AT MOST 1048576: true; the input reads as it did. -/
def fnBaseSizeUptoRow : OpenClaim := { program := "ytdaoeoociamdnaa", sum := "be19b827f29e134f9276d534c5afe539585ee873a4ebd80e3b9dd0ad902590dd", func := "loop.example/mailwire/laws.FnBaseSize", spec := "fnBaseSize", inPlace := ["internal/abi.NoEscape"], apart := false, narrowed := true }
def FnBaseSizeUptoSaid : Prop := fnBaseSizeUptoRow.holds Try.pinned (OpenSpec.upto fnBaseSizeSpec)

/-- 'laws.FnBaseLines', WHERE WHAT IT READS IS OF BULK AT MOST 1048576: true; the input reads as it did. -/
def fnBaseLinesUptoRow : OpenClaim := { program := "ytdaoeoociamdnaa", sum := "be19b827f29e134f9276d534c5afe539585ee873a4ebd80e3b9dd0ad902590dd", func := "loop.example/mailwire/laws.FnBaseLines", spec := "fnBaseLines", inPlace := ["internal/abi.NoEscape", "internal/bytealg.IndexByteString"], apart := false, narrowed := true }
def FnBaseLinesUptoSaid : Prop := fnBaseLinesUptoRow.holds Try.pinned (OpenSpec.upto fnBaseLinesSpec)

/-- 'laws.FnBaseWidth', WHERE WHAT IT READS IS OF BULK AT MOST 1048576: true; the input reads as it did. -/
def fnBaseWidthUptoRow : OpenClaim := { program := "ytdaoeoociamdnaa", sum := "be19b827f29e134f9276d534c5afe539585ee873a4ebd80e3b9dd0ad902590dd", func := "loop.example/mailwire/laws.FnBaseWidth", spec := "fnBaseWidth", inPlace := ["internal/abi.NoEscape"], apart := false, narrowed := true }
def FnBaseWidthUptoSaid : Prop := fnBaseWidthUptoRow.holds Try.pinned (OpenSpec.upto fnBaseWidthSpec)

/-- 'laws.FnQuotedSoft', WHERE WHAT IT READS IS OF BULK AT MOST 1048576: true; the input reads as it did. -/
def fnQuotedSoftUptoRow : OpenClaim := { program := "ytdaoeoociamdnaa", sum := "be19b827f29e134f9276d534c5afe539585ee873a4ebd80e3b9dd0ad902590dd", func := "loop.example/mailwire/laws.FnQuotedSoft", spec := "fnQuotedSoft", inPlace := ["internal/abi.NoEscape", "internal/bytealg.IndexByteString"], apart := false, narrowed := true }
def FnQuotedSoftUptoSaid : Prop := fnQuotedSoftUptoRow.holds Try.pinned (OpenSpec.upto fnQuotedSoftSpec)

end Rows
end Go.Proofs.Ytdaoeoociamdnaa
