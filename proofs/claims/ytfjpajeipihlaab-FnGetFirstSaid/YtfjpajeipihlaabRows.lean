/-
  No cell of these rows narrows 'for every input' (looked for: loops, veiled, ifaces, maps, wideKeys, modest, calm, conditions, laid).
  DERIVED. THE GIVEN ROWS OF THIS SEAT. 8 by the template 'for every input the law returns true; each argument reads behind the call as it read before'; 0 by the template 'total and deterministic' (their statements: YtfjpajeipihlaabTotals.lean).
  GIVEN WITH THE SEED: the statements are not yours to turn. If you find one false, say at which input.
  Laid BY PROGRAM, IN A SANDBOX (cutbox-rows.mjs): the forced cells as the released guide's own fill.sh prints them over the translation f2f2771a8737c2cc… (all of the seat's roots in one cut). By AI agents, Wed Nov 11 2026. No macro, syntax, notation, axiom, sorry.
-/
import Derived.Test.YtfjpajeipihlaabChecked
import GoSem.Claim
import GoSem.ClaimJoined
import GoSem.ClaimMapViews
import Derived.JoinedTies
import Derived.KernelRfl
namespace Go.Proofs.Ytfjpajeipihlaab
/- THE CELL 'sum', in the pinned program and in every row, IS THE sha256 OF THE DUMP (.gsa) THAT YtfjpajeipihlaabProg.lean LOADS. Nothing in Lean hashes anything: it is a label: what it is worth is what the hold of that sum in a sandbox is worth. -/
noncomputable def Try.pinned : Pinned := { name := "ytfjpajeipihlaab", sum := "f2f2771a8737c2ccba5bcdee37d5377da3cf7f9d4f38f222c397542210e18a46", checked := Try.checked }
namespace Rows
def none {H : Type} : Left H := { results := [], args := [] }

/-- 'laws.FnCountNames': WHATEVER THE INPUT: true; the input reads as it did. -/
def fnCountNamesSpec : ChangeSpec := { name := "fnCountNames", fn := fun _ => fun
  | [d] => { results := [.lit (.bool true)], args := [d] }
  | _ => none }
def fnCountNamesRow : OpenClaim := { program := "ytfjpajeipihlaab", sum := "f2f2771a8737c2ccba5bcdee37d5377da3cf7f9d4f38f222c397542210e18a46", func := "loop.example/mailwire/laws.FnCountNames", spec := "fnCountNames", plainKeys := false, apart := false }
def FnCountNamesSaid : Prop := fnCountNamesRow.holds Try.pinned (OpenSpec.ofChange fnCountNamesSpec)

/-- ITS FALSE NEIGHBOUR: 'it returns false'. Refute it at one input. -/
def fnCountNamesWrong : ChangeSpec := { name := "fnCountNames", fn := fun _ => fun
  | [d] => { results := [.lit (.bool false)], args := [d] }
  | _ => none }
def FnCountNamesWrongFalsely : Prop := fnCountNamesRow.holds Try.pinned (OpenSpec.ofChange fnCountNamesWrong)

/-- 'laws.FnGetFirst': WHATEVER THE INPUT: true; the input reads as it did. -/
def fnGetFirstSpec : ChangeSpec := { name := "fnGetFirst", fn := fun _ => fun
  | [d] => { results := [.lit (.bool true)], args := [d] }
  | _ => none }
def fnGetFirstRow : OpenClaim := { program := "ytfjpajeipihlaab", sum := "f2f2771a8737c2ccba5bcdee37d5377da3cf7f9d4f38f222c397542210e18a46", func := "loop.example/mailwire/laws.FnGetFirst", spec := "fnGetFirst", unfollowed := true, recurses := true, plainKeys := false, apart := false }
def FnGetFirstSaid : Prop := fnGetFirstRow.holds Try.pinned (OpenSpec.ofChange fnGetFirstSpec)

/-- ITS FALSE NEIGHBOUR: 'it returns false'. Refute it at one input. -/
def fnGetFirstWrong : ChangeSpec := { name := "fnGetFirst", fn := fun _ => fun
  | [d] => { results := [.lit (.bool false)], args := [d] }
  | _ => none }
def FnGetFirstWrongFalsely : Prop := fnGetFirstRow.holds Try.pinned (OpenSpec.ofChange fnGetFirstWrong)

/-- 'laws.FnExactDropRepeated': WHATEVER THE INPUT: true; the input reads as it did. -/
def fnExactDropRepeatedSpec : ChangeSpec := { name := "fnExactDropRepeated", fn := fun _ => fun
  | [d] => { results := [.lit (.bool true)], args := [d] }
  | _ => none }
def fnExactDropRepeatedRow : OpenClaim := { program := "ytfjpajeipihlaab", sum := "f2f2771a8737c2ccba5bcdee37d5377da3cf7f9d4f38f222c397542210e18a46", func := "loop.example/mailwire/laws.FnExactDropRepeated", spec := "fnExactDropRepeated", plainKeys := false, apart := false }
def FnExactDropRepeatedSaid : Prop := fnExactDropRepeatedRow.holds Try.pinned (OpenSpec.ofChange fnExactDropRepeatedSpec)

/-- ITS FALSE NEIGHBOUR: 'it returns false'. Refute it at one input. -/
def fnExactDropRepeatedWrong : ChangeSpec := { name := "fnExactDropRepeated", fn := fun _ => fun
  | [d] => { results := [.lit (.bool false)], args := [d] }
  | _ => none }
def FnExactDropRepeatedWrongFalsely : Prop := fnExactDropRepeatedRow.holds Try.pinned (OpenSpec.ofChange fnExactDropRepeatedWrong)

/-- 'laws.FnExactDomainsOf': WHATEVER THE INPUT: true; the input reads as it did. -/
def fnExactDomainsOfSpec : ChangeSpec := { name := "fnExactDomainsOf", fn := fun _ => fun
  | [d] => { results := [.lit (.bool true)], args := [d] }
  | _ => none }
def fnExactDomainsOfRow : OpenClaim := { program := "ytfjpajeipihlaab", sum := "f2f2771a8737c2ccba5bcdee37d5377da3cf7f9d4f38f222c397542210e18a46", func := "loop.example/mailwire/laws.FnExactDomainsOf", spec := "fnExactDomainsOf", recurses := true, plainKeys := false, apart := false }
def FnExactDomainsOfSaid : Prop := fnExactDomainsOfRow.holds Try.pinned (OpenSpec.ofChange fnExactDomainsOfSpec)

/-- ITS FALSE NEIGHBOUR: 'it returns false'. Refute it at one input. -/
def fnExactDomainsOfWrong : ChangeSpec := { name := "fnExactDomainsOf", fn := fun _ => fun
  | [d] => { results := [.lit (.bool false)], args := [d] }
  | _ => none }
def FnExactDomainsOfWrongFalsely : Prop := fnExactDomainsOfRow.holds Try.pinned (OpenSpec.ofChange fnExactDomainsOfWrong)

/-- 'laws.FnExactFieldsSame': WHATEVER THE INPUT: true; the input reads as it did. -/
def fnExactFieldsSameSpec : ChangeSpec := { name := "fnExactFieldsSame", fn := fun _ => fun
  | [d1, d2] => { results := [.lit (.bool true)], args := [d1, d2] }
  | _ => none }
def fnExactFieldsSameRow : OpenClaim := { program := "ytfjpajeipihlaab", sum := "f2f2771a8737c2ccba5bcdee37d5377da3cf7f9d4f38f222c397542210e18a46", func := "loop.example/mailwire/laws.FnExactFieldsSame", spec := "fnExactFieldsSame", plainKeys := false, apart := false }
def FnExactFieldsSameSaid : Prop := fnExactFieldsSameRow.holds Try.pinned (OpenSpec.ofChange fnExactFieldsSameSpec)

/-- ITS FALSE NEIGHBOUR: 'it returns false'. Refute it at one input. -/
def fnExactFieldsSameWrong : ChangeSpec := { name := "fnExactFieldsSame", fn := fun _ => fun
  | [d1, d2] => { results := [.lit (.bool false)], args := [d1, d2] }
  | _ => none }
def FnExactFieldsSameWrongFalsely : Prop := fnExactFieldsSameRow.holds Try.pinned (OpenSpec.ofChange fnExactFieldsSameWrong)

/-- 'laws.FnExactGetField': WHATEVER THE INPUT: true; the input reads as it did. -/
def fnExactGetFieldSpec : ChangeSpec := { name := "fnExactGetField", fn := fun _ => fun
  | [d1, d2] => { results := [.lit (.bool true)], args := [d1, d2] }
  | _ => none }
def fnExactGetFieldRow : OpenClaim := { program := "ytfjpajeipihlaab", sum := "f2f2771a8737c2ccba5bcdee37d5377da3cf7f9d4f38f222c397542210e18a46", func := "loop.example/mailwire/laws.FnExactGetField", spec := "fnExactGetField", unfollowed := true, recurses := true, plainKeys := false, apart := false }
def FnExactGetFieldSaid : Prop := fnExactGetFieldRow.holds Try.pinned (OpenSpec.ofChange fnExactGetFieldSpec)

/-- ITS FALSE NEIGHBOUR: 'it returns false'. Refute it at one input. -/
def fnExactGetFieldWrong : ChangeSpec := { name := "fnExactGetField", fn := fun _ => fun
  | [d1, d2] => { results := [.lit (.bool false)], args := [d1, d2] }
  | _ => none }
def FnExactGetFieldWrongFalsely : Prop := fnExactGetFieldRow.holds Try.pinned (OpenSpec.ofChange fnExactGetFieldWrong)

/-- 'laws.FnExactDropField': WHATEVER THE INPUT: true; the input reads as it did. -/
def fnExactDropFieldSpec : ChangeSpec := { name := "fnExactDropField", fn := fun _ => fun
  | [d1, d2] => { results := [.lit (.bool true)], args := [d1, d2] }
  | _ => none }
def fnExactDropFieldRow : OpenClaim := { program := "ytfjpajeipihlaab", sum := "f2f2771a8737c2ccba5bcdee37d5377da3cf7f9d4f38f222c397542210e18a46", func := "loop.example/mailwire/laws.FnExactDropField", spec := "fnExactDropField", plainKeys := false, apart := false }
def FnExactDropFieldSaid : Prop := fnExactDropFieldRow.holds Try.pinned (OpenSpec.ofChange fnExactDropFieldSpec)

/-- ITS FALSE NEIGHBOUR: 'it returns false'. Refute it at one input. -/
def fnExactDropFieldWrong : ChangeSpec := { name := "fnExactDropField", fn := fun _ => fun
  | [d1, d2] => { results := [.lit (.bool false)], args := [d1, d2] }
  | _ => none }
def FnExactDropFieldWrongFalsely : Prop := fnExactDropFieldRow.holds Try.pinned (OpenSpec.ofChange fnExactDropFieldWrong)

/-- 'laws.FnExactCountField': WHATEVER THE INPUT: true; the input reads as it did. -/
def fnExactCountFieldSpec : ChangeSpec := { name := "fnExactCountField", fn := fun _ => fun
  | [d1, d2] => { results := [.lit (.bool true)], args := [d1, d2] }
  | _ => none }
def fnExactCountFieldRow : OpenClaim := { program := "ytfjpajeipihlaab", sum := "f2f2771a8737c2ccba5bcdee37d5377da3cf7f9d4f38f222c397542210e18a46", func := "loop.example/mailwire/laws.FnExactCountField", spec := "fnExactCountField", plainKeys := false, apart := false }
def FnExactCountFieldSaid : Prop := fnExactCountFieldRow.holds Try.pinned (OpenSpec.ofChange fnExactCountFieldSpec)

/-- ITS FALSE NEIGHBOUR: 'it returns false'. Refute it at one input. -/
def fnExactCountFieldWrong : ChangeSpec := { name := "fnExactCountField", fn := fun _ => fun
  | [d1, d2] => { results := [.lit (.bool false)], args := [d1, d2] }
  | _ => none }
def FnExactCountFieldWrongFalsely : Prop := fnExactCountFieldRow.holds Try.pinned (OpenSpec.ofChange fnExactCountFieldWrong)

/- THE SECOND FORM. 'bulk': how many values and letters a reading holds, each counted each time it is reached (what is shared counts as often as it is met; a slice's spare places count too). A statement '..UptoSaid' is the law's where the arguments, and the package variables that the reading takes, are together of bulk at most 1048576: NARROWER than '..Said'. Prove '..Said' where nothing that the law and all that it calls make is longer than what came in: it says more and counts as full. Else prove '..UptoSaid'. A law counts once. -/
mutual
def uptoBulk {H : Type} : DataW H → Nat
  | .lit (.string bytes) => bytes.length + 1
  | .lit _ => 1
  | .nil => 1
  | .ptr d => uptoBulk d + 1
  | .slice elems spare => uptoBulkAll elems + uptoBulkAll spare + 1
  | .agg parts => uptoBulkAll parts + 1
  | .iface _ d => uptoBulk d + 1
  | .map entries => uptoBulkEntries entries + 1
  | .held _ => 1
def uptoBulkAll {H : Type} : List (DataW H) → Nat
  | [] => 0
  | d :: r => uptoBulk d + uptoBulkAll r
def uptoBulkEntries {H : Type} : List (Lit × DataW H) → Nat
  | [] => 0
  | x :: r => uptoBulkEntry x + uptoBulkEntries r
def uptoBulkEntry {H : Type} : Lit × DataW H → Nat
  | (.string bytes, d) => bytes.length + uptoBulk d + 1
  | (_, d) => uptoBulk d + 1
 end
def uptoSmall : (H : Type) → List (DataW H) → Bool := fun _ ds => decide (uptoBulkAll ds ≤ 1048576)
def OpenSpec.upto (s : _root_.Go.ChangeSpec) : _root_.Go.OpenSpec := { _root_.Go.OpenSpec.ofChange s with cond := some uptoSmall }

/-- 'laws.FnCountNames', WHERE WHAT IT READS IS OF BULK AT MOST 1048576: true; the input reads as it did. -/
def fnCountNamesUptoRow : OpenClaim := { program := "ytfjpajeipihlaab", sum := "f2f2771a8737c2ccba5bcdee37d5377da3cf7f9d4f38f222c397542210e18a46", func := "loop.example/mailwire/laws.FnCountNames", spec := "fnCountNames", plainKeys := false, apart := false, narrowed := true }
def FnCountNamesUptoSaid : Prop := fnCountNamesUptoRow.holds Try.pinned (OpenSpec.upto fnCountNamesSpec)

/-- 'laws.FnGetFirst', WHERE WHAT IT READS IS OF BULK AT MOST 1048576: true; the input reads as it did. -/
def fnGetFirstUptoRow : OpenClaim := { program := "ytfjpajeipihlaab", sum := "f2f2771a8737c2ccba5bcdee37d5377da3cf7f9d4f38f222c397542210e18a46", func := "loop.example/mailwire/laws.FnGetFirst", spec := "fnGetFirst", unfollowed := true, recurses := true, plainKeys := false, apart := false, narrowed := true }
def FnGetFirstUptoSaid : Prop := fnGetFirstUptoRow.holds Try.pinned (OpenSpec.upto fnGetFirstSpec)

/-- 'laws.FnExactDropRepeated', WHERE WHAT IT READS IS OF BULK AT MOST 1048576: true; the input reads as it did. -/
def fnExactDropRepeatedUptoRow : OpenClaim := { program := "ytfjpajeipihlaab", sum := "f2f2771a8737c2ccba5bcdee37d5377da3cf7f9d4f38f222c397542210e18a46", func := "loop.example/mailwire/laws.FnExactDropRepeated", spec := "fnExactDropRepeated", plainKeys := false, apart := false, narrowed := true }
def FnExactDropRepeatedUptoSaid : Prop := fnExactDropRepeatedUptoRow.holds Try.pinned (OpenSpec.upto fnExactDropRepeatedSpec)

/-- 'laws.FnExactDomainsOf', WHERE WHAT IT READS IS OF BULK AT MOST 1048576: true; the input reads as it did. -/
def fnExactDomainsOfUptoRow : OpenClaim := { program := "ytfjpajeipihlaab", sum := "f2f2771a8737c2ccba5bcdee37d5377da3cf7f9d4f38f222c397542210e18a46", func := "loop.example/mailwire/laws.FnExactDomainsOf", spec := "fnExactDomainsOf", recurses := true, plainKeys := false, apart := false, narrowed := true }
def FnExactDomainsOfUptoSaid : Prop := fnExactDomainsOfUptoRow.holds Try.pinned (OpenSpec.upto fnExactDomainsOfSpec)

/-- 'laws.FnExactFieldsSame', WHERE WHAT IT READS IS OF BULK AT MOST 1048576: true; the input reads as it did. -/
def fnExactFieldsSameUptoRow : OpenClaim := { program := "ytfjpajeipihlaab", sum := "f2f2771a8737c2ccba5bcdee37d5377da3cf7f9d4f38f222c397542210e18a46", func := "loop.example/mailwire/laws.FnExactFieldsSame", spec := "fnExactFieldsSame", plainKeys := false, apart := false, narrowed := true }
def FnExactFieldsSameUptoSaid : Prop := fnExactFieldsSameUptoRow.holds Try.pinned (OpenSpec.upto fnExactFieldsSameSpec)

/-- 'laws.FnExactGetField', WHERE WHAT IT READS IS OF BULK AT MOST 1048576: true; the input reads as it did. -/
def fnExactGetFieldUptoRow : OpenClaim := { program := "ytfjpajeipihlaab", sum := "f2f2771a8737c2ccba5bcdee37d5377da3cf7f9d4f38f222c397542210e18a46", func := "loop.example/mailwire/laws.FnExactGetField", spec := "fnExactGetField", unfollowed := true, recurses := true, plainKeys := false, apart := false, narrowed := true }
def FnExactGetFieldUptoSaid : Prop := fnExactGetFieldUptoRow.holds Try.pinned (OpenSpec.upto fnExactGetFieldSpec)

/-- 'laws.FnExactDropField', WHERE WHAT IT READS IS OF BULK AT MOST 1048576: true; the input reads as it did. -/
def fnExactDropFieldUptoRow : OpenClaim := { program := "ytfjpajeipihlaab", sum := "f2f2771a8737c2ccba5bcdee37d5377da3cf7f9d4f38f222c397542210e18a46", func := "loop.example/mailwire/laws.FnExactDropField", spec := "fnExactDropField", plainKeys := false, apart := false, narrowed := true }
def FnExactDropFieldUptoSaid : Prop := fnExactDropFieldUptoRow.holds Try.pinned (OpenSpec.upto fnExactDropFieldSpec)

/-- 'laws.FnExactCountField', WHERE WHAT IT READS IS OF BULK AT MOST 1048576: true; the input reads as it did. -/
def fnExactCountFieldUptoRow : OpenClaim := { program := "ytfjpajeipihlaab", sum := "f2f2771a8737c2ccba5bcdee37d5377da3cf7f9d4f38f222c397542210e18a46", func := "loop.example/mailwire/laws.FnExactCountField", spec := "fnExactCountField", plainKeys := false, apart := false, narrowed := true }
def FnExactCountFieldUptoSaid : Prop := fnExactCountFieldUptoRow.holds Try.pinned (OpenSpec.upto fnExactCountFieldSpec)

end Rows
end Go.Proofs.Ytfjpajeipihlaab
