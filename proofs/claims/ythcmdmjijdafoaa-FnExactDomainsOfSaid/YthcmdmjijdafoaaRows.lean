/-
  No cell of these rows narrows 'for every input' (looked for: loops, veiled, ifaces, maps, wideKeys, modest, calm, conditions, laid).
  DERIVED. THE GIVEN ROWS OF THIS SEAT. 5 by the template 'for every input the law returns true; each argument reads behind the call as it read before'; 0 by the template 'total and deterministic' (their statements: YthcmdmjijdafoaaTotals.lean).
  GIVEN WITH THE SEED: the statements are not yours to turn. If you find one false, say at which input.
  Laid BY PROGRAM, IN A SANDBOX (cutbox-rows.mjs): the forced cells as the released guide's own fill.sh prints them over the translation 089c2cf49af2fbdc… (all of the seat's roots in one cut). By AI agents, Wed Nov 11 2026. No macro, syntax, notation, axiom, sorry.
-/
import Derived.Test.YthcmdmjijdafoaaChecked
import GoSem.Claim
import GoSem.ClaimJoined
import GoSem.ClaimMapViews
import Derived.JoinedTies
import Derived.KernelRfl
namespace Go.Proofs.Ythcmdmjijdafoaa
/- THE CELL 'sum', in the pinned program and in every row, IS THE sha256 OF THE DUMP (.gsa) THAT YthcmdmjijdafoaaProg.lean LOADS. Nothing in Lean hashes anything: it is a label: what it is worth is what the hold of that sum in a sandbox is worth. -/
noncomputable def Try.pinned : Pinned := { name := "ythcmdmjijdafoaa", sum := "089c2cf49af2fbdcae54e7f5068ff9980191e773f23530347fbe27d7596edad1", checked := Try.checked }
namespace Rows
def none {H : Type} : Left H := { results := [], args := [] }

/-- 'laws.FnDropRepeated': WHATEVER THE INPUT: true; the input reads as it did. -/
def fnDropRepeatedSpec : ChangeSpec := { name := "fnDropRepeated", fn := fun _ => fun
  | [d] => { results := [.lit (.bool true)], args := [d] }
  | _ => none }
def fnDropRepeatedRow : OpenClaim := { program := "ythcmdmjijdafoaa", sum := "089c2cf49af2fbdcae54e7f5068ff9980191e773f23530347fbe27d7596edad1", func := "loop.example/mailwire/laws.FnDropRepeated", spec := "fnDropRepeated", plainKeys := false, apart := false }
def FnDropRepeatedSaid : Prop := fnDropRepeatedRow.holds Try.pinned (OpenSpec.ofChange fnDropRepeatedSpec)

/-- ITS FALSE NEIGHBOUR: 'it returns false'. Refute it at one input. -/
def fnDropRepeatedWrong : ChangeSpec := { name := "fnDropRepeated", fn := fun _ => fun
  | [d] => { results := [.lit (.bool false)], args := [d] }
  | _ => none }
def FnDropRepeatedWrongFalsely : Prop := fnDropRepeatedRow.holds Try.pinned (OpenSpec.ofChange fnDropRepeatedWrong)

/-- 'laws.FnDomainsOf': WHATEVER THE INPUT: true; the input reads as it did. -/
def fnDomainsOfSpec : ChangeSpec := { name := "fnDomainsOf", fn := fun _ => fun
  | [d] => { results := [.lit (.bool true)], args := [d] }
  | _ => none }
def fnDomainsOfRow : OpenClaim := { program := "ythcmdmjijdafoaa", sum := "089c2cf49af2fbdcae54e7f5068ff9980191e773f23530347fbe27d7596edad1", func := "loop.example/mailwire/laws.FnDomainsOf", spec := "fnDomainsOf", recurses := true, plainKeys := false, apart := false }
def FnDomainsOfSaid : Prop := fnDomainsOfRow.holds Try.pinned (OpenSpec.ofChange fnDomainsOfSpec)

/-- ITS FALSE NEIGHBOUR: 'it returns false'. Refute it at one input. -/
def fnDomainsOfWrong : ChangeSpec := { name := "fnDomainsOf", fn := fun _ => fun
  | [d] => { results := [.lit (.bool false)], args := [d] }
  | _ => none }
def FnDomainsOfWrongFalsely : Prop := fnDomainsOfRow.holds Try.pinned (OpenSpec.ofChange fnDomainsOfWrong)

/-- 'laws.FnDomainsParts': WHATEVER THE INPUT: true; the input reads as it did. -/
def fnDomainsPartsSpec : ChangeSpec := { name := "fnDomainsParts", fn := fun _ => fun
  | [d] => { results := [.lit (.bool true)], args := [d] }
  | _ => none }
def fnDomainsPartsRow : OpenClaim := { program := "ythcmdmjijdafoaa", sum := "089c2cf49af2fbdcae54e7f5068ff9980191e773f23530347fbe27d7596edad1", func := "loop.example/mailwire/laws.FnDomainsParts", spec := "fnDomainsParts", recurses := true, plainKeys := false, apart := false }
def FnDomainsPartsSaid : Prop := fnDomainsPartsRow.holds Try.pinned (OpenSpec.ofChange fnDomainsPartsSpec)

/-- ITS FALSE NEIGHBOUR: 'it returns false'. Refute it at one input. -/
def fnDomainsPartsWrong : ChangeSpec := { name := "fnDomainsParts", fn := fun _ => fun
  | [d] => { results := [.lit (.bool false)], args := [d] }
  | _ => none }
def FnDomainsPartsWrongFalsely : Prop := fnDomainsPartsRow.holds Try.pinned (OpenSpec.ofChange fnDomainsPartsWrong)

/-- 'laws.FnExactDropRepeated': WHATEVER THE INPUT: true; the input reads as it did. -/
def fnExactDropRepeatedSpec : ChangeSpec := { name := "fnExactDropRepeated", fn := fun _ => fun
  | [d] => { results := [.lit (.bool true)], args := [d] }
  | _ => none }
def fnExactDropRepeatedRow : OpenClaim := { program := "ythcmdmjijdafoaa", sum := "089c2cf49af2fbdcae54e7f5068ff9980191e773f23530347fbe27d7596edad1", func := "loop.example/mailwire/laws.FnExactDropRepeated", spec := "fnExactDropRepeated", plainKeys := false, apart := false }
def FnExactDropRepeatedSaid : Prop := fnExactDropRepeatedRow.holds Try.pinned (OpenSpec.ofChange fnExactDropRepeatedSpec)

/-- ITS FALSE NEIGHBOUR: 'it returns false'. Refute it at one input. -/
def fnExactDropRepeatedWrong : ChangeSpec := { name := "fnExactDropRepeated", fn := fun _ => fun
  | [d] => { results := [.lit (.bool false)], args := [d] }
  | _ => none }
def FnExactDropRepeatedWrongFalsely : Prop := fnExactDropRepeatedRow.holds Try.pinned (OpenSpec.ofChange fnExactDropRepeatedWrong)

/-- 'laws.FnExactDomainsOf': WHATEVER THE INPUT: true; the input reads as it did. -/
def fnExactDomainsOfSpec : ChangeSpec := { name := "fnExactDomainsOf", fn := fun _ => fun
  | [d] => { results := [.lit (.bool true)], args := [d] }
  | _ => none }
def fnExactDomainsOfRow : OpenClaim := { program := "ythcmdmjijdafoaa", sum := "089c2cf49af2fbdcae54e7f5068ff9980191e773f23530347fbe27d7596edad1", func := "loop.example/mailwire/laws.FnExactDomainsOf", spec := "fnExactDomainsOf", recurses := true, plainKeys := false, apart := false }
def FnExactDomainsOfSaid : Prop := fnExactDomainsOfRow.holds Try.pinned (OpenSpec.ofChange fnExactDomainsOfSpec)

/-- ITS FALSE NEIGHBOUR: 'it returns false'. Refute it at one input. -/
def fnExactDomainsOfWrong : ChangeSpec := { name := "fnExactDomainsOf", fn := fun _ => fun
  | [d] => { results := [.lit (.bool false)], args := [d] }
  | _ => none }
def FnExactDomainsOfWrongFalsely : Prop := fnExactDomainsOfRow.holds Try.pinned (OpenSpec.ofChange fnExactDomainsOfWrong)

/- THE SECOND FORM. 'bulk': how many values and letters a reading holds, each counted each time it is reached (what is shared counts as often as it is met; a slice's spare places count too). A statement '..UptoSaid' is the law's where the arguments, and the package variables that the reading takes, are together of bulk at most 1048576: NARROWER than '..Said'. Prove '..Said' where nothing that the law and all that it calls make is longer than what came in: it says more and counts as full. Else prove '..UptoSaid'. A law counts once. -/
mutual
def uptoBulk {H : Type} : DataW H → Nat
  | .lit (.string bytes) => bytes.length + 1
  | .lit _ => 1
  | .nil => 1
  | .ptr d => uptoBulk d + 1
  | .slice elems spare => uptoBulkAll elems + uptoBulkAll spare + 1
  | .agg parts => uptoBulkAll parts + 1
  | .iface _ d => uptoBulk d + 1
  | .map entries => uptoBulkEntries entries + 1
  | .held _ => 1
def uptoBulkAll {H : Type} : List (DataW H) → Nat
  | [] => 0
  | d :: r => uptoBulk d + uptoBulkAll r
def uptoBulkEntries {H : Type} : List (Lit × DataW H) → Nat
  | [] => 0
  | x :: r => uptoBulkEntry x + uptoBulkEntries r
def uptoBulkEntry {H : Type} : Lit × DataW H → Nat
  | (.string bytes, d) => bytes.length + uptoBulk d + 1
  | (_, d) => uptoBulk d + 1
 end
def uptoSmall : (H : Type) → List (DataW H) → Bool := fun _ ds => decide (uptoBulkAll ds ≤ 1048576)
def OpenSpec.upto (s : _root_.Go.ChangeSpec) : _root_.Go.OpenSpec := { _root_.Go.OpenSpec.ofChange s with cond := some uptoSmall }

/-- 'laws.FnDropRepeated', WHERE WHAT IT READS IS OF BULK AT MOST 1048576: true; the input reads as it did. -/
def fnDropRepeatedUptoRow : OpenClaim := { program := "ythcmdmjijdafoaa", sum := "089c2cf49af2fbdcae54e7f5068ff9980191e773f23530347fbe27d7596edad1", func := "loop.example/mailwire/laws.FnDropRepeated", spec := "fnDropRepeated", plainKeys := false, apart := false, narrowed := true }
def FnDropRepeatedUptoSaid : Prop := fnDropRepeatedUptoRow.holds Try.pinned (OpenSpec.upto fnDropRepeatedSpec)

/-- 'laws.FnDomainsOf', WHERE WHAT IT READS IS OF BULK AT MOST 1048576: true; the input reads as it did. -/
def fnDomainsOfUptoRow : OpenClaim := { program := "ythcmdmjijdafoaa", sum := "089c2cf49af2fbdcae54e7f5068ff9980191e773f23530347fbe27d7596edad1", func := "loop.example/mailwire/laws.FnDomainsOf", spec := "fnDomainsOf", recurses := true, plainKeys := false, apart := false, narrowed := true }
def FnDomainsOfUptoSaid : Prop := fnDomainsOfUptoRow.holds Try.pinned (OpenSpec.upto fnDomainsOfSpec)

/-- 'laws.FnDomainsParts', WHERE WHAT IT READS IS OF BULK AT MOST 1048576: true; the input reads as it did. -/
def fnDomainsPartsUptoRow : OpenClaim := { program := "ythcmdmjijdafoaa", sum := "089c2cf49af2fbdcae54e7f5068ff9980191e773f23530347fbe27d7596edad1", func := "loop.example/mailwire/laws.FnDomainsParts", spec := "fnDomainsParts", recurses := true, plainKeys := false, apart := false, narrowed := true }
def FnDomainsPartsUptoSaid : Prop := fnDomainsPartsUptoRow.holds Try.pinned (OpenSpec.upto fnDomainsPartsSpec)

/-- 'laws.FnExactDropRepeated', WHERE WHAT IT READS IS OF BULK AT MOST 1048576: true; the input reads as it did. -/
def fnExactDropRepeatedUptoRow : OpenClaim := { program := "ythcmdmjijdafoaa", sum := "089c2cf49af2fbdcae54e7f5068ff9980191e773f23530347fbe27d7596edad1", func := "loop.example/mailwire/laws.FnExactDropRepeated", spec := "fnExactDropRepeated", plainKeys := false, apart := false, narrowed := true }
def FnExactDropRepeatedUptoSaid : Prop := fnExactDropRepeatedUptoRow.holds Try.pinned (OpenSpec.upto fnExactDropRepeatedSpec)

/-- 'laws.FnExactDomainsOf', WHERE WHAT IT READS IS OF BULK AT MOST 1048576: true; the input reads as it did. -/
def fnExactDomainsOfUptoRow : OpenClaim := { program := "ythcmdmjijdafoaa", sum := "089c2cf49af2fbdcae54e7f5068ff9980191e773f23530347fbe27d7596edad1", func := "loop.example/mailwire/laws.FnExactDomainsOf", spec := "fnExactDomainsOf", recurses := true, plainKeys := false, apart := false, narrowed := true }
def FnExactDomainsOfUptoSaid : Prop := fnExactDomainsOfUptoRow.holds Try.pinned (OpenSpec.upto fnExactDomainsOfSpec)

end Rows
end Go.Proofs.Ythcmdmjijdafoaa
