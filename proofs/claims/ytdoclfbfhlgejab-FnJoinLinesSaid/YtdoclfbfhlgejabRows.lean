/-
  No cell of these rows narrows 'for every input' (looked for: loops, veiled, ifaces, maps, wideKeys, modest, calm, conditions, laid).
  DERIVED. THE GIVEN ROWS OF THIS SEAT. 3 by the template 'for every input the law returns true; each argument reads behind the call as it read before'; 0 by the template 'total and deterministic' (their statements: YtdoclfbfhlgejabTotals.lean).
  GIVEN WITH THE SEED: the statements are not yours to turn. If you find one false, say at which input.
  Laid BY PROGRAM, IN A SANDBOX (cutbox-rows.mjs): the forced cells as the released guide's own fill.sh prints them over the translation 355576f08c2e4bf2… (all of the seat's roots in one cut). By AI agents, Wed Nov 11 2026. No macro, syntax, notation, axiom, sorry.
-/
import Derived.Test.YtdoclfbfhlgejabChecked
import GoSem.Claim
import GoSem.ClaimJoined
import GoSem.ClaimMapViews
import Derived.JoinedTies
import Derived.KernelRfl
namespace Go.Proofs.Ytdoclfbfhlgejab
/- THE CELL 'sum', in the pinned program and in every row, IS THE sha256 OF THE DUMP (.gsa) THAT YtdoclfbfhlgejabProg.lean LOADS. Nothing in Lean hashes anything: it is a label: what it is worth is what the hold of that sum in a sandbox is worth. -/
noncomputable def Try.pinned : Pinned := { name := "ytdoclfbfhlgejab", sum := "355576f08c2e4bf23c7573a233353a871a4fde3800e36b71b4b4d03dfb21c635", checked := Try.checked }
namespace Rows
def none {H : Type} : Left H := { results := [], args := [] }

/-- 'laws.FnSplitBefore': WHATEVER THE INPUT: true; the input reads as it did. -/
def fnSplitBeforeSpec : ChangeSpec := { name := "fnSplitBefore", fn := fun _ => fun
  | [d] => { results := [.lit (.bool true)], args := [d] }
  | _ => none }
def fnSplitBeforeRow : OpenClaim := { program := "ytdoclfbfhlgejab", sum := "355576f08c2e4bf23c7573a233353a871a4fde3800e36b71b4b4d03dfb21c635", func := "loop.example/mailwire/laws.FnSplitBefore", spec := "fnSplitBefore", apart := false }
def FnSplitBeforeSaid : Prop := fnSplitBeforeRow.holds Try.pinned (OpenSpec.ofChange fnSplitBeforeSpec)

/-- ITS FALSE NEIGHBOUR: 'it returns false'. Refute it at one input. -/
def fnSplitBeforeWrong : ChangeSpec := { name := "fnSplitBefore", fn := fun _ => fun
  | [d] => { results := [.lit (.bool false)], args := [d] }
  | _ => none }
def FnSplitBeforeWrongFalsely : Prop := fnSplitBeforeRow.holds Try.pinned (OpenSpec.ofChange fnSplitBeforeWrong)

/-- 'laws.FnSplitLines': WHATEVER THE INPUT: true; the input reads as it did. -/
def fnSplitLinesSpec : ChangeSpec := { name := "fnSplitLines", fn := fun _ => fun
  | [d] => { results := [.lit (.bool true)], args := [d] }
  | _ => none }
def fnSplitLinesRow : OpenClaim := { program := "ytdoclfbfhlgejab", sum := "355576f08c2e4bf23c7573a233353a871a4fde3800e36b71b4b4d03dfb21c635", func := "loop.example/mailwire/laws.FnSplitLines", spec := "fnSplitLines", apart := false }
def FnSplitLinesSaid : Prop := fnSplitLinesRow.holds Try.pinned (OpenSpec.ofChange fnSplitLinesSpec)

/-- ITS FALSE NEIGHBOUR: 'it returns false'. Refute it at one input. -/
def fnSplitLinesWrong : ChangeSpec := { name := "fnSplitLines", fn := fun _ => fun
  | [d] => { results := [.lit (.bool false)], args := [d] }
  | _ => none }
def FnSplitLinesWrongFalsely : Prop := fnSplitLinesRow.holds Try.pinned (OpenSpec.ofChange fnSplitLinesWrong)

/-- 'laws.FnJoinLines': WHATEVER THE INPUT: true; the input reads as it did. -/
def fnJoinLinesSpec : ChangeSpec := { name := "fnJoinLines", fn := fun _ => fun
  | [d] => { results := [.lit (.bool true)], args := [d] }
  | _ => none }
def fnJoinLinesRow : OpenClaim := { program := "ytdoclfbfhlgejab", sum := "355576f08c2e4bf23c7573a233353a871a4fde3800e36b71b4b4d03dfb21c635", func := "loop.example/mailwire/laws.FnJoinLines", spec := "fnJoinLines", apart := false }
def FnJoinLinesSaid : Prop := fnJoinLinesRow.holds Try.pinned (OpenSpec.ofChange fnJoinLinesSpec)

/-- ITS FALSE NEIGHBOUR: 'it returns false'. Refute it at one input. -/
def fnJoinLinesWrong : ChangeSpec := { name := "fnJoinLines", fn := fun _ => fun
  | [d] => { results := [.lit (.bool false)], args := [d] }
  | _ => none }
def FnJoinLinesWrongFalsely : Prop := fnJoinLinesRow.holds Try.pinned (OpenSpec.ofChange fnJoinLinesWrong)

/- THE SECOND FORM. 'bulk': how many values and letters a reading holds, each counted each time it is reached (what is shared counts as often as it is met; a slice's spare places count too). A statement '..UptoSaid' is the law's where the arguments, and the package variables that the reading takes, are together of bulk at most 1048576: NARROWER than '..Said'. Prove '..Said' where nothing that the law and all that it calls make is longer than what came in: it says more and counts as full. Else prove '..UptoSaid'. A law counts once. -/
mutual
def uptoBulk {H : Type} : DataW H → Nat
  | .lit (.string bytes) => bytes.length + 1
  | .lit _ => 1
  | .nil => 1
  | .ptr d => uptoBulk d + 1
  | .slice elems spare => uptoBulkAll elems + uptoBulkAll spare + 1
  | .agg parts => uptoBulkAll parts + 1
  | .iface _ d => uptoBulk d + 1
  | .map entries => uptoBulkEntries entries + 1
  | .held _ => 1
def uptoBulkAll {H : Type} : List (DataW H) → Nat
  | [] => 0
  | d :: r => uptoBulk d + uptoBulkAll r
def uptoBulkEntries {H : Type} : List (Lit × DataW H) → Nat
  | [] => 0
  | x :: r => uptoBulkEntry x + uptoBulkEntries r
def uptoBulkEntry {H : Type} : Lit × DataW H → Nat
  | (.string bytes, d) => bytes.length + uptoBulk d + 1
  | (_, d) => uptoBulk d + 1
 end
def uptoSmall : (H : Type) → List (DataW H) → Bool := fun _ ds => decide (uptoBulkAll ds ≤ 1048576)
def OpenSpec.upto (s : _root_.Go.ChangeSpec) : _root_.Go.OpenSpec := { _root_.Go.OpenSpec.ofChange s with cond := some uptoSmall }

/-- 'laws.FnSplitBefore', WHERE WHAT IT READS IS OF BULK AT MOST 1048576: true; the input reads as it did. -/
def fnSplitBeforeUptoRow : OpenClaim := { program := "ytdoclfbfhlgejab", sum := "355576f08c2e4bf23c7573a233353a871a4fde3800e36b71b4b4d03dfb21c635", func := "loop.example/mailwire/laws.FnSplitBefore", spec := "fnSplitBefore", apart := false, narrowed := true }
def FnSplitBeforeUptoSaid : Prop := fnSplitBeforeUptoRow.holds Try.pinned (OpenSpec.upto fnSplitBeforeSpec)

/-- 'laws.FnSplitLines', WHERE WHAT IT READS IS OF BULK AT MOST 1048576: true; the input reads as it did. -/
def fnSplitLinesUptoRow : OpenClaim := { program := "ytdoclfbfhlgejab", sum := "355576f08c2e4bf23c7573a233353a871a4fde3800e36b71b4b4d03dfb21c635", func := "loop.example/mailwire/laws.FnSplitLines", spec := "fnSplitLines", apart := false, narrowed := true }
def FnSplitLinesUptoSaid : Prop := fnSplitLinesUptoRow.holds Try.pinned (OpenSpec.upto fnSplitLinesSpec)

/-- 'laws.FnJoinLines', WHERE WHAT IT READS IS OF BULK AT MOST 1048576: true; the input reads as it did. -/
def fnJoinLinesUptoRow : OpenClaim := { program := "ytdoclfbfhlgejab", sum := "355576f08c2e4bf23c7573a233353a871a4fde3800e36b71b4b4d03dfb21c635", func := "loop.example/mailwire/laws.FnJoinLines", spec := "fnJoinLines", apart := false, narrowed := true }
def FnJoinLinesUptoSaid : Prop := fnJoinLinesUptoRow.holds Try.pinned (OpenSpec.upto fnJoinLinesSpec)

end Rows
end Go.Proofs.Ytdoclfbfhlgejab
