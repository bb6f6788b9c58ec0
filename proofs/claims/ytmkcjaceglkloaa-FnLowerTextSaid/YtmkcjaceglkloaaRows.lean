/-
  No cell of these rows narrows 'for every input' (looked for: loops, veiled, ifaces, maps, wideKeys, modest, calm, conditions, laid).
  DERIVED. THE GIVEN ROWS OF THIS SEAT. 3 by the template 'for every input the law returns true; each argument reads behind the call as it read before'; 0 by the template 'total and deterministic' (their statements: YtmkcjaceglkloaaTotals.lean).
  GIVEN WITH THE SEED: the statements are not yours to turn. If you find one false, say at which input.
  Laid BY PROGRAM, IN A SANDBOX (cutbox-rows.mjs): the forced cells as the released guide's own fill.sh prints them over the translation 08443b22bbe9f004… (all of the seat's roots in one cut). By AI agents, Wed Nov 11 2026. No macro, syntax, notation, axiom, sorry.
-/
import Derived.Test.YtmkcjaceglkloaaChecked
import GoSem.Claim
import GoSem.ClaimJoined
import GoSem.ClaimMapViews
import Derived.JoinedTies
import Derived.KernelRfl
namespace Go.Proofs.Ytmkcjaceglkloaa
/- THE CELL 'sum', in the pinned program and in every row, IS THE sha256 OF THE DUMP (.gsa) THAT YtmkcjaceglkloaaProg.lean LOADS. Nothing in Lean hashes anything: it is a label: what it is worth is what the hold of that sum in a sandbox is worth. -/
noncomputable def Try.pinned : Pinned := { name := "ytmkcjaceglkloaa", sum := "08443b22bbe9f0040e00875145ccb475b3f72ffebfb61fe03b108666ce51995e", checked := Try.checked }
namespace Rows
def none {H : Type} : Left H := { results := [], args := [] }

/-- 'laws.FnLowerText': WHATEVER THE INPUT: true; the input reads as it did. -/
def fnLowerTextSpec : ChangeSpec := { name := "fnLowerText", fn := fun _ => fun
  | [d] => { results := [.lit (.bool true)], args := [d] }
  | _ => none }
def fnLowerTextRow : OpenClaim := { program := "ytmkcjaceglkloaa", sum := "08443b22bbe9f0040e00875145ccb475b3f72ffebfb61fe03b108666ce51995e", func := "loop.example/mailwire/laws.FnLowerText", spec := "fnLowerText", apart := false }
def FnLowerTextSaid : Prop := fnLowerTextRow.holds Try.pinned (OpenSpec.ofChange fnLowerTextSpec)

/-- ITS FALSE NEIGHBOUR: 'it returns false'. Refute it at one input. -/
def fnLowerTextWrong : ChangeSpec := { name := "fnLowerText", fn := fun _ => fun
  | [d] => { results := [.lit (.bool false)], args := [d] }
  | _ => none }
def FnLowerTextWrongFalsely : Prop := fnLowerTextRow.holds Try.pinned (OpenSpec.ofChange fnLowerTextWrong)

/-- 'laws.FnSameText': WHATEVER THE INPUT: true; the input reads as it did. -/
def fnSameTextSpec : ChangeSpec := { name := "fnSameText", fn := fun _ => fun
  | [d] => { results := [.lit (.bool true)], args := [d] }
  | _ => none }
def fnSameTextRow : OpenClaim := { program := "ytmkcjaceglkloaa", sum := "08443b22bbe9f0040e00875145ccb475b3f72ffebfb61fe03b108666ce51995e", func := "loop.example/mailwire/laws.FnSameText", spec := "fnSameText", apart := false }
def FnSameTextSaid : Prop := fnSameTextRow.holds Try.pinned (OpenSpec.ofChange fnSameTextSpec)

/-- ITS FALSE NEIGHBOUR: 'it returns false'. Refute it at one input. -/
def fnSameTextWrong : ChangeSpec := { name := "fnSameText", fn := fun _ => fun
  | [d] => { results := [.lit (.bool false)], args := [d] }
  | _ => none }
def FnSameTextWrongFalsely : Prop := fnSameTextRow.holds Try.pinned (OpenSpec.ofChange fnSameTextWrong)

/-- 'laws.FnTextPart': WHATEVER THE INPUT: true; the input reads as it did. -/
def fnTextPartSpec : ChangeSpec := { name := "fnTextPart", fn := fun _ => fun
  | [d] => { results := [.lit (.bool true)], args := [d] }
  | _ => none }
def fnTextPartRow : OpenClaim := { program := "ytmkcjaceglkloaa", sum := "08443b22bbe9f0040e00875145ccb475b3f72ffebfb61fe03b108666ce51995e", func := "loop.example/mailwire/laws.FnTextPart", spec := "fnTextPart", apart := false }
def FnTextPartSaid : Prop := fnTextPartRow.holds Try.pinned (OpenSpec.ofChange fnTextPartSpec)

/-- ITS FALSE NEIGHBOUR: 'it returns false'. Refute it at one input. -/
def fnTextPartWrong : ChangeSpec := { name := "fnTextPart", fn := fun _ => fun
  | [d] => { results := [.lit (.bool false)], args := [d] }
  | _ => none }
def FnTextPartWrongFalsely : Prop := fnTextPartRow.holds Try.pinned (OpenSpec.ofChange fnTextPartWrong)

/- THE SECOND FORM. 'bulk': how many values and letters a reading holds, each counted each time it is reached (what is shared counts as often as it is met; a slice's spare places count too). A statement '..UptoSaid' is the law's where the arguments, and the package variables that the reading takes, are together of bulk at most 1048576: NARROWER than '..Said'. Prove '..Said' where nothing that the law and all that it calls make is longer than what came in: it says more and counts as full. Else prove '..UptoSaid'. A law counts once. -/
mutual
def uptoBulk {H : Type} : DataW H → Nat
  | .lit (.string bytes) => bytes.length + 1
  | .lit _ => 1
  | .nil => 1
  | .ptr d => uptoBulk d + 1
  | .slice elems spare => uptoBulkAll elems + uptoBulkAll spare + 1
  | .agg parts => uptoBulkAll parts + 1
  | .iface _ d => uptoBulk d + 1
  | .map entries => uptoBulkEntries entries + 1
  | .held _ => 1
def uptoBulkAll {H : Type} : List (DataW H) → Nat
  | [] => 0
  | d :: r => uptoBulk d + uptoBulkAll r
def uptoBulkEntries {H : Type} : List (Lit × DataW H) → Nat
  | [] => 0
  | x :: r => uptoBulkEntry x + uptoBulkEntries r
def uptoBulkEntry {H : Type} : Lit × DataW H → Nat
  | (.string bytes, d) => bytes.length + uptoBulk d + 1
  | (_, d) => uptoBulk d + 1
 end
def uptoSmall : (H : Type) → List (DataW H) → Bool := fun _ ds => decide (uptoBulkAll ds ≤ 1048576)
def OpenSpec.upto (s : _root_.Go.ChangeSpec) : _root_.Go.OpenSpec := { _root_.Go.OpenSpec.ofChange s with cond := some uptoSmall }

/-- 'laws.FnLowerText', WHERE WHAT IT READS IS OF BULK AT MOST 1048576: true; the input reads as it did. -/
def fnLowerTextUptoRow : OpenClaim := { program := "ytmkcjaceglkloaa", sum := "08443b22bbe9f0040e00875145ccb475b3f72ffebfb61fe03b108666ce51995e", func := "loop.example/mailwire/laws.FnLowerText", spec := "fnLowerText", apart := false, narrowed := true }
def FnLowerTextUptoSaid : Prop := fnLowerTextUptoRow.holds Try.pinned (OpenSpec.upto fnLowerTextSpec)

/-- 'laws.FnSameText', WHERE WHAT IT READS IS OF BULK AT MOST 1048576: true; the input reads as it did. -/
def fnSameTextUptoRow : OpenClaim := { program := "ytmkcjaceglkloaa", sum := "08443b22bbe9f0040e00875145ccb475b3f72ffebfb61fe03b108666ce51995e", func := "loop.example/mailwire/laws.FnSameText", spec := "fnSameText", apart := false, narrowed := true }
def FnSameTextUptoSaid : Prop := fnSameTextUptoRow.holds Try.pinned (OpenSpec.upto fnSameTextSpec)

/-- 'laws.FnTextPart', WHERE WHAT IT READS IS OF BULK AT MOST 1048576: true; the input reads as it did. -/
def fnTextPartUptoRow : OpenClaim := { program := "ytmkcjaceglkloaa", sum := "08443b22bbe9f0040e00875145ccb475b3f72ffebfb61fe03b108666ce51995e", func := "loop.example/mailwire/laws.FnTextPart", spec := "fnTextPart", apart := false, narrowed := true }
def FnTextPartUptoSaid : Prop := fnTextPartUptoRow.holds Try.pinned (OpenSpec.upto fnTextPartSpec)

end Rows
end Go.Proofs.Ytmkcjaceglkloaa
