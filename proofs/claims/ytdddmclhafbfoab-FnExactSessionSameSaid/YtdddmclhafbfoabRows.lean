/-
  No cell of these rows narrows 'for every input' (looked for: loops, veiled, ifaces, maps, wideKeys, modest, calm, conditions, laid).
  DERIVED. THE GIVEN ROWS OF THIS SEAT. 3 by the template 'for every input the law returns true; each argument reads behind the call as it read before'; 0 by the template 'total and deterministic' (their statements: YtdddmclhafbfoabTotals.lean).
  GIVEN WITH THE SEED: the statements are not yours to turn. If you find one false, say at which input.
  Laid BY PROGRAM, IN A SANDBOX (cutbox-rows.mjs): the forced cells as the released guide's own fill.sh prints them over the translation 4b6fe510ef148951… (all of the seat's roots in one cut). By AI agents, Wed Nov 11 2026. No macro, syntax, notation, axiom, sorry.
-/
import Derived.Test.YtdddmclhafbfoabChecked
import GoSem.Claim
import GoSem.ClaimJoined
import GoSem.ClaimMapViews
import Derived.JoinedTies
import Derived.KernelRfl
namespace Go.Proofs.Ytdddmclhafbfoab
/- THE CELL 'sum', in the pinned program and in every row, IS THE sha256 OF THE DUMP (.gsa) THAT YtdddmclhafbfoabProg.lean LOADS. Nothing in Lean hashes anything: it is a label: what it is worth is what the hold of that sum in a sandbox is worth. -/
noncomputable def Try.pinned : Pinned := { name := "ytdddmclhafbfoab", sum := "4b6fe510ef1489515db8901ab5bac34e9a7aecba1020935959cc8f02f2b95626", checked := Try.checked }
namespace Rows
def none {H : Type} : Left H := { results := [], args := [] }

/-- 'laws.FnExactMailSame': WHATEVER THE INPUT: true; the input reads as it did. -/
def fnExactMailSameSpec : ChangeSpec := { name := "fnExactMailSame", fn := fun _ => fun
  | [d1, d2] => { results := [.lit (.bool true)], args := [d1, d2] }
  | _ => none }
def fnExactMailSameRow : OpenClaim := { program := "ytdddmclhafbfoab", sum := "4b6fe510ef1489515db8901ab5bac34e9a7aecba1020935959cc8f02f2b95626", func := "loop.example/mailwire/laws.FnExactMailSame", spec := "fnExactMailSame", apart := false }
def FnExactMailSameSaid : Prop := fnExactMailSameRow.holds Try.pinned (OpenSpec.ofChange fnExactMailSameSpec)

/-- ITS FALSE NEIGHBOUR: 'it returns false'. Refute it at one input. -/
def fnExactMailSameWrong : ChangeSpec := { name := "fnExactMailSame", fn := fun _ => fun
  | [d1, d2] => { results := [.lit (.bool false)], args := [d1, d2] }
  | _ => none }
def FnExactMailSameWrongFalsely : Prop := fnExactMailSameRow.holds Try.pinned (OpenSpec.ofChange fnExactMailSameWrong)

/-- 'laws.FnExactSessionSame': WHATEVER THE INPUT: true; the input reads as it did. -/
def fnExactSessionSameSpec : ChangeSpec := { name := "fnExactSessionSame", fn := fun _ => fun
  | [d1, d2] => { results := [.lit (.bool true)], args := [d1, d2] }
  | _ => none }
def fnExactSessionSameRow : OpenClaim := { program := "ytdddmclhafbfoab", sum := "4b6fe510ef1489515db8901ab5bac34e9a7aecba1020935959cc8f02f2b95626", func := "loop.example/mailwire/laws.FnExactSessionSame", spec := "fnExactSessionSame", unfollowed := true, recurses := true, apart := false }
def FnExactSessionSameSaid : Prop := fnExactSessionSameRow.holds Try.pinned (OpenSpec.ofChange fnExactSessionSameSpec)

/-- ITS FALSE NEIGHBOUR: 'it returns false'. Refute it at one input. -/
def fnExactSessionSameWrong : ChangeSpec := { name := "fnExactSessionSame", fn := fun _ => fun
  | [d1, d2] => { results := [.lit (.bool false)], args := [d1, d2] }
  | _ => none }
def FnExactSessionSameWrongFalsely : Prop := fnExactSessionSameRow.holds Try.pinned (OpenSpec.ofChange fnExactSessionSameWrong)

/-- 'laws.FnExactReplyText': WHATEVER THE INPUT: true; the input reads as it did. -/
def fnExactReplyTextSpec : ChangeSpec := { name := "fnExactReplyText", fn := fun _ => fun
  | [d] => { results := [.lit (.bool true)], args := [d] }
  | _ => none }
def fnExactReplyTextRow : OpenClaim := { program := "ytdddmclhafbfoab", sum := "4b6fe510ef1489515db8901ab5bac34e9a7aecba1020935959cc8f02f2b95626", func := "loop.example/mailwire/laws.FnExactReplyText", spec := "fnExactReplyText", apart := false }
def FnExactReplyTextSaid : Prop := fnExactReplyTextRow.holds Try.pinned (OpenSpec.ofChange fnExactReplyTextSpec)

/-- ITS FALSE NEIGHBOUR: 'it returns false'. Refute it at one input. -/
def fnExactReplyTextWrong : ChangeSpec := { name := "fnExactReplyText", fn := fun _ => fun
  | [d] => { results := [.lit (.bool false)], args := [d] }
  | _ => none }
def FnExactReplyTextWrongFalsely : Prop := fnExactReplyTextRow.holds Try.pinned (OpenSpec.ofChange fnExactReplyTextWrong)

/- THE SECOND FORM. 'bulk': how many values and letters a reading holds, each counted each time it is reached (what is shared counts as often as it is met; a slice's spare places count too). A statement '..UptoSaid' is the law's where the arguments, and the package variables that the reading takes, are together of bulk at most 1048576: NARROWER than '..Said'. Prove '..Said' where nothing that the law and all that it calls make is longer than what came in: it says more and counts as full. Else prove '..UptoSaid'. A law counts once. -/
mutual
def uptoBulk {H : Type} : DataW H → Nat
  | .lit (.string bytes) => bytes.length + 1
  | .lit _ => 1
  | .nil => 1
  | .ptr d => uptoBulk d + 1
  | .slice elems spare => uptoBulkAll elems + uptoBulkAll spare + 1
  | .agg parts => uptoBulkAll parts + 1
  | .iface _ d => uptoBulk d + 1
  | .map entries => uptoBulkEntries entries + 1
  | .held _ => 1
def uptoBulkAll {H : Type} : List (DataW H) → Nat
  | [] => 0
  | d :: r => uptoBulk d + uptoBulkAll r
def uptoBulkEntries {H : Type} : List (Lit × DataW H) → Nat
  | [] => 0
  | x :: r => uptoBulkEntry x + uptoBulkEntries r
def uptoBulkEntry {H : Type} : Lit × DataW H → Nat
  | (.string bytes, d) => bytes.length + uptoBulk d + 1
  | (_, d) => uptoBulk d + 1
 end
def uptoSmall : (H : Type) → List (DataW H) → Bool := fun _ ds => decide (uptoBulkAll ds ≤ 1048576)
def OpenSpec.upto (s : _root_.Go.ChangeSpec) : _root_.Go.OpenSpec := { _root_.Go.OpenSpec.ofChange s with cond := some uptoSmall }

/-- 'laws.FnExactMailSame', WHERE WHAT IT READS IS OF BULK AT MOST 1048576: true; the input reads as it did. -/
def fnExactMailSameUptoRow : OpenClaim := { program := "ytdddmclhafbfoab", sum := "4b6fe510ef1489515db8901ab5bac34e9a7aecba1020935959cc8f02f2b95626", func := "loop.example/mailwire/laws.FnExactMailSame", spec := "fnExactMailSame", apart := false, narrowed := true }
def FnExactMailSameUptoSaid : Prop := fnExactMailSameUptoRow.holds Try.pinned (OpenSpec.upto fnExactMailSameSpec)

/-- 'laws.FnExactSessionSame', WHERE WHAT IT READS IS OF BULK AT MOST 1048576: true; the input reads as it did. -/
def fnExactSessionSameUptoRow : OpenClaim := { program := "ytdddmclhafbfoab", sum := "4b6fe510ef1489515db8901ab5bac34e9a7aecba1020935959cc8f02f2b95626", func := "loop.example/mailwire/laws.FnExactSessionSame", spec := "fnExactSessionSame", unfollowed := true, recurses := true, apart := false, narrowed := true }
def FnExactSessionSameUptoSaid : Prop := fnExactSessionSameUptoRow.holds Try.pinned (OpenSpec.upto fnExactSessionSameSpec)

/-- 'laws.FnExactReplyText', WHERE WHAT IT READS IS OF BULK AT MOST 1048576: true; the input reads as it did. -/
def fnExactReplyTextUptoRow : OpenClaim := { program := "ytdddmclhafbfoab", sum := "4b6fe510ef1489515db8901ab5bac34e9a7aecba1020935959cc8f02f2b95626", func := "loop.example/mailwire/laws.FnExactReplyText", spec := "fnExactReplyText", apart := false, narrowed := true }
def FnExactReplyTextUptoSaid : Prop := fnExactReplyTextUptoRow.holds Try.pinned (OpenSpec.upto fnExactReplyTextSpec)

end Rows
end Go.Proofs.Ytdddmclhafbfoab
