/-
  No cell of these rows narrows 'for every input' (looked for: loops, veiled, ifaces, maps, wideKeys, modest, calm, conditions, laid).
  DERIVED. THE GIVEN ROWS OF THIS SEAT. 4 by the template 'for every input the law returns true; each argument reads behind the call as it read before'; 0 by the template 'total and deterministic' (their statements: YtmkcjaceglkloabTotals.lean).
  GIVEN WITH THE SEED: the statements are not yours to turn. If you find one false, say at which input.
  Laid BY PROGRAM, IN A SANDBOX (cutbox-rows.mjs): the forced cells as the released guide's own fill.sh prints them over the translation dc13ec0f40ae8226… (all of the seat's roots in one cut). By AI agents, Wed Nov 11 2026. No macro, syntax, notation, axiom, sorry.
-/
import Derived.Test.YtmkcjaceglkloabChecked
import GoSem.Claim
import GoSem.ClaimJoined
import GoSem.ClaimMapViews
import Derived.JoinedTies
import Derived.KernelRfl
namespace Go.Proofs.Ytmkcjaceglkloab
/- THE CELL 'sum', in the pinned program and in every row, IS THE sha256 OF THE DUMP (.gsa) THAT YtmkcjaceglkloabProg.lean LOADS. Nothing in Lean hashes anything: it is a label: what it is worth is what the hold of that sum in a sandbox is worth. -/
noncomputable def Try.pinned : Pinned := { name := "ytmkcjaceglkloab", sum := "dc13ec0f40ae82263eeb31c1b52d096b226cdb47a15df93e22b75a8bb62f50a5", checked := Try.checked }
namespace Rows
def none {H : Type} : Left H := { results := [], args := [] }

/-- 'laws.FnLowerBytes': WHATEVER THE INPUT: true; the input reads as it did. -/
def fnLowerBytesSpec : ChangeSpec := { name := "fnLowerBytes", fn := fun _ => fun
  | [d] => { results := [.lit (.bool true)], args := [d] }
  | _ => none }
def fnLowerBytesRow : OpenClaim := { program := "ytmkcjaceglkloab", sum := "dc13ec0f40ae82263eeb31c1b52d096b226cdb47a15df93e22b75a8bb62f50a5", func := "loop.example/mailwire/laws.FnLowerBytes", spec := "fnLowerBytes", apart := false }
def FnLowerBytesSaid : Prop := fnLowerBytesRow.holds Try.pinned (OpenSpec.ofChange fnLowerBytesSpec)

/-- ITS FALSE NEIGHBOUR: 'it returns false'. Refute it at one input. -/
def fnLowerBytesWrong : ChangeSpec := { name := "fnLowerBytes", fn := fun _ => fun
  | [d] => { results := [.lit (.bool false)], args := [d] }
  | _ => none }
def FnLowerBytesWrongFalsely : Prop := fnLowerBytesRow.holds Try.pinned (OpenSpec.ofChange fnLowerBytesWrong)

/-- 'laws.FnExactTextValid': WHATEVER THE INPUT: true; the input reads as it did. -/
def fnExactTextValidSpec : ChangeSpec := { name := "fnExactTextValid", fn := fun _ => fun
  | [d] => { results := [.lit (.bool true)], args := [d] }
  | _ => none }
def fnExactTextValidRow : OpenClaim := { program := "ytmkcjaceglkloab", sum := "dc13ec0f40ae82263eeb31c1b52d096b226cdb47a15df93e22b75a8bb62f50a5", func := "loop.example/mailwire/laws.FnExactTextValid", spec := "fnExactTextValid", apart := false }
def FnExactTextValidSaid : Prop := fnExactTextValidRow.holds Try.pinned (OpenSpec.ofChange fnExactTextValidSpec)

/-- ITS FALSE NEIGHBOUR: 'it returns false'. Refute it at one input. -/
def fnExactTextValidWrong : ChangeSpec := { name := "fnExactTextValid", fn := fun _ => fun
  | [d] => { results := [.lit (.bool false)], args := [d] }
  | _ => none }
def FnExactTextValidWrongFalsely : Prop := fnExactTextValidRow.holds Try.pinned (OpenSpec.ofChange fnExactTextValidWrong)

/-- 'laws.FnExactLowerText': WHATEVER THE INPUT: true; the input reads as it did. -/
def fnExactLowerTextSpec : ChangeSpec := { name := "fnExactLowerText", fn := fun _ => fun
  | [d] => { results := [.lit (.bool true)], args := [d] }
  | _ => none }
def fnExactLowerTextRow : OpenClaim := { program := "ytmkcjaceglkloab", sum := "dc13ec0f40ae82263eeb31c1b52d096b226cdb47a15df93e22b75a8bb62f50a5", func := "loop.example/mailwire/laws.FnExactLowerText", spec := "fnExactLowerText", apart := false }
def FnExactLowerTextSaid : Prop := fnExactLowerTextRow.holds Try.pinned (OpenSpec.ofChange fnExactLowerTextSpec)

/-- ITS FALSE NEIGHBOUR: 'it returns false'. Refute it at one input. -/
def fnExactLowerTextWrong : ChangeSpec := { name := "fnExactLowerText", fn := fun _ => fun
  | [d] => { results := [.lit (.bool false)], args := [d] }
  | _ => none }
def FnExactLowerTextWrongFalsely : Prop := fnExactLowerTextRow.holds Try.pinned (OpenSpec.ofChange fnExactLowerTextWrong)

/-- 'laws.FnExactSameText': WHATEVER THE INPUT: true; the input reads as it did. -/
def fnExactSameTextSpec : ChangeSpec := { name := "fnExactSameText", fn := fun _ => fun
  | [d1, d2] => { results := [.lit (.bool true)], args := [d1, d2] }
  | _ => none }
def fnExactSameTextRow : OpenClaim := { program := "ytmkcjaceglkloab", sum := "dc13ec0f40ae82263eeb31c1b52d096b226cdb47a15df93e22b75a8bb62f50a5", func := "loop.example/mailwire/laws.FnExactSameText", spec := "fnExactSameText", apart := false }
def FnExactSameTextSaid : Prop := fnExactSameTextRow.holds Try.pinned (OpenSpec.ofChange fnExactSameTextSpec)

/-- ITS FALSE NEIGHBOUR: 'it returns false'. Refute it at one input. -/
def fnExactSameTextWrong : ChangeSpec := { name := "fnExactSameText", fn := fun _ => fun
  | [d1, d2] => { results := [.lit (.bool false)], args := [d1, d2] }
  | _ => none }
def FnExactSameTextWrongFalsely : Prop := fnExactSameTextRow.holds Try.pinned (OpenSpec.ofChange fnExactSameTextWrong)

/- THE SECOND FORM. 'bulk': how many values and letters a reading holds, each counted each time it is reached (what is shared counts as often as it is met; a slice's spare places count too). A statement '..UptoSaid' is the law's where the arguments, and the package variables that the reading takes, are together of bulk at most 1048576: NARROWER than '..Said'. Prove '..Said' where nothing that the law and all that it calls make is longer than what came in: it says more and counts as full. Else prove '..UptoSaid'. A law counts once. -/
mutual
def uptoBulk {H : Type} : DataW H → Nat
  | .lit (.string bytes) => bytes.length + 1
  | .lit _ => 1
  | .nil => 1
  | .ptr d => uptoBulk d + 1
  | .slice elems spare => uptoBulkAll elems + uptoBulkAll spare + 1
  | .agg parts => uptoBulkAll parts + 1
  | .iface _ d => uptoBulk d + 1
  | .map entries => uptoBulkEntries entries + 1
  | .held _ => 1
def uptoBulkAll {H : Type} : List (DataW H) → Nat
  | [] => 0
  | d :: r => uptoBulk d + uptoBulkAll r
def uptoBulkEntries {H : Type} : List (Lit × DataW H) → Nat
  | [] => 0
  | x :: r => uptoBulkEntry x + uptoBulkEntries r
def uptoBulkEntry {H : Type} : Lit × DataW H → Nat
  | (.string bytes, d) => bytes.length + uptoBulk d + 1
  | (_, d) => uptoBulk d + 1
 end
def uptoSmall : (H : Type) → List (DataW H) → Bool := fun _ ds => decide (uptoBulkAll ds ≤ 1048576)
def OpenSpec.upto (s : _root_.Go.ChangeSpec) : _root_.Go.OpenSpec := { _root_.Go.OpenSpec.ofChange s with cond := some uptoSmall }

/-- 'laws.FnLowerBytes', WHERE WHAT IT READS IS OF BULK AT MOST 1048576: true; the input reads as it did. -/
def fnLowerBytesUptoRow : OpenClaim := { program := "ytmkcjaceglkloab", sum := "dc13ec0f40ae82263eeb31c1b52d096b226cdb47a15df93e22b75a8bb62f50a5", func := "loop.example/mailwire/laws.FnLowerBytes", spec := "fnLowerBytes", apart := false, narrowed := true }
def FnLowerBytesUptoSaid : Prop := fnLowerBytesUptoRow.holds Try.pinned (OpenSpec.upto fnLowerBytesSpec)

/-- 'laws.FnExactTextValid', WHERE WHAT IT READS IS OF BULK AT MOST 1048576: true; the input reads as it did. -/
def fnExactTextValidUptoRow : OpenClaim := { program := "ytmkcjaceglkloab", sum := "dc13ec0f40ae82263eeb31c1b52d096b226cdb47a15df93e22b75a8bb62f50a5", func := "loop.example/mailwire/laws.FnExactTextValid", spec := "fnExactTextValid", apart := false, narrowed := true }
def FnExactTextValidUptoSaid : Prop := fnExactTextValidUptoRow.holds Try.pinned (OpenSpec.upto fnExactTextValidSpec)

/-- 'laws.FnExactLowerText', WHERE WHAT IT READS IS OF BULK AT MOST 1048576: true; the input reads as it did. -/
def fnExactLowerTextUptoRow : OpenClaim := { program := "ytmkcjaceglkloab", sum := "dc13ec0f40ae82263eeb31c1b52d096b226cdb47a15df93e22b75a8bb62f50a5", func := "loop.example/mailwire/laws.FnExactLowerText", spec := "fnExactLowerText", apart := false, narrowed := true }
def FnExactLowerTextUptoSaid : Prop := fnExactLowerTextUptoRow.holds Try.pinned (OpenSpec.upto fnExactLowerTextSpec)

/-- 'laws.FnExactSameText', WHERE WHAT IT READS IS OF BULK AT MOST 1048576: true; the input reads as it did. -/
def fnExactSameTextUptoRow : OpenClaim := { program := "ytmkcjaceglkloab", sum := "dc13ec0f40ae82263eeb31c1b52d096b226cdb47a15df93e22b75a8bb62f50a5", func := "loop.example/mailwire/laws.FnExactSameText", spec := "fnExactSameText", apart := false, narrowed := true }
def FnExactSameTextUptoSaid : Prop := fnExactSameTextUptoRow.holds Try.pinned (OpenSpec.upto fnExactSameTextSpec)

end Rows
end Go.Proofs.Ytmkcjaceglkloab
