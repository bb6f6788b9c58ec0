/-
  No cell of these rows narrows 'for every input' (looked for: loops, veiled, ifaces, maps, wideKeys, modest, calm, conditions, laid).
  DERIVED. THE GIVEN ROWS OF THIS SEAT. 8 by the template 'for every input the law returns true; each argument reads behind the call as it read before'; 0 by the template 'total and deterministic' (their statements: YtejplhhlecnagaaTotals.lean).
  GIVEN WITH THE SEED: the statements are not yours to turn. If you find one false, say at which input.
  Laid BY PROGRAM, IN A SANDBOX (cutbox-rows.mjs): the forced cells as the released guide's own fill.sh prints them over the translation 194b218049c8dfa8… (all of the seat's roots in one cut). By AI agents, Wed Nov 11 2026. No macro, syntax, notation, axiom, sorry.
-/
import Derived.Test.YtejplhhlecnagaaChecked
import GoSem.Claim
import GoSem.ClaimJoined
import GoSem.ClaimMapViews
import Derived.JoinedTies
import Derived.KernelRfl
namespace Go.Proofs.Ytejplhhlecnagaa
/- THE CELL 'sum', in the pinned program and in every row, IS THE sha256 OF THE DUMP (.gsa) THAT YtejplhhlecnagaaProg.lean LOADS. Nothing in Lean hashes anything: it is a label: what it is worth is what the hold of that sum in a sandbox is worth. -/
noncomputable def Try.pinned : Pinned := { name := "ytejplhhlecnagaa", sum := "194b218049c8dfa844cf8c284d3227c54722a6c22177488fd8d4083a547b7751", checked := Try.checked }
namespace Rows
def none {H : Type} : Left H := { results := [], args := [] }

/-- 'laws.FnDateOf': WHATEVER THE INPUT: true; the input reads as it did. -/
def fnDateOfSpec : ChangeSpec := { name := "fnDateOf", fn := fun _ => fun
  | [d] => { results := [.lit (.bool true)], args := [d] }
  | _ => none }
def fnDateOfRow : OpenClaim := { program := "ytejplhhlecnagaa", sum := "194b218049c8dfa844cf8c284d3227c54722a6c22177488fd8d4083a547b7751", func := "loop.example/mailwire/laws.FnDateOf", spec := "fnDateOf", apart := false }
def FnDateOfSaid : Prop := fnDateOfRow.holds Try.pinned (OpenSpec.ofChange fnDateOfSpec)

/-- ITS FALSE NEIGHBOUR: 'it returns false'. Refute it at one input. -/
def fnDateOfWrong : ChangeSpec := { name := "fnDateOf", fn := fun _ => fun
  | [d] => { results := [.lit (.bool false)], args := [d] }
  | _ => none }
def FnDateOfWrongFalsely : Prop := fnDateOfRow.holds Try.pinned (OpenSpec.ofChange fnDateOfWrong)

/-- 'laws.FnSecondsOf': WHATEVER THE INPUT: true; the input reads as it did. -/
def fnSecondsOfSpec : ChangeSpec := { name := "fnSecondsOf", fn := fun _ => fun
  | [d] => { results := [.lit (.bool true)], args := [d] }
  | _ => none }
def fnSecondsOfRow : OpenClaim := { program := "ytejplhhlecnagaa", sum := "194b218049c8dfa844cf8c284d3227c54722a6c22177488fd8d4083a547b7751", func := "loop.example/mailwire/laws.FnSecondsOf", spec := "fnSecondsOf", apart := false }
def FnSecondsOfSaid : Prop := fnSecondsOfRow.holds Try.pinned (OpenSpec.ofChange fnSecondsOfSpec)

/-- ITS FALSE NEIGHBOUR: 'it returns false'. Refute it at one input. -/
def fnSecondsOfWrong : ChangeSpec := { name := "fnSecondsOf", fn := fun _ => fun
  | [d] => { results := [.lit (.bool false)], args := [d] }
  | _ => none }
def FnSecondsOfWrongFalsely : Prop := fnSecondsOfRow.holds Try.pinned (OpenSpec.ofChange fnSecondsOfWrong)

/-- 'laws.FnInZone': WHATEVER THE INPUT: true; the input reads as it did. -/
def fnInZoneSpec : ChangeSpec := { name := "fnInZone", fn := fun _ => fun
  | [d] => { results := [.lit (.bool true)], args := [d] }
  | _ => none }
def fnInZoneRow : OpenClaim := { program := "ytejplhhlecnagaa", sum := "194b218049c8dfa844cf8c284d3227c54722a6c22177488fd8d4083a547b7751", func := "loop.example/mailwire/laws.FnInZone", spec := "fnInZone", apart := false }
def FnInZoneSaid : Prop := fnInZoneRow.holds Try.pinned (OpenSpec.ofChange fnInZoneSpec)

/-- ITS FALSE NEIGHBOUR: 'it returns false'. Refute it at one input. -/
def fnInZoneWrong : ChangeSpec := { name := "fnInZone", fn := fun _ => fun
  | [d] => { results := [.lit (.bool false)], args := [d] }
  | _ => none }
def FnInZoneWrongFalsely : Prop := fnInZoneRow.holds Try.pinned (OpenSpec.ofChange fnInZoneWrong)

/-- 'laws.FnDaysOf': WHATEVER THE INPUT: true; the input reads as it did. -/
def fnDaysOfSpec : ChangeSpec := { name := "fnDaysOf", fn := fun _ => fun
  | [d] => { results := [.lit (.bool true)], args := [d] }
  | _ => none }
def fnDaysOfRow : OpenClaim := { program := "ytejplhhlecnagaa", sum := "194b218049c8dfa844cf8c284d3227c54722a6c22177488fd8d4083a547b7751", func := "loop.example/mailwire/laws.FnDaysOf", spec := "fnDaysOf", apart := false }
def FnDaysOfSaid : Prop := fnDaysOfRow.holds Try.pinned (OpenSpec.ofChange fnDaysOfSpec)

/-- ITS FALSE NEIGHBOUR: 'it returns false'. Refute it at one input. -/
def fnDaysOfWrong : ChangeSpec := { name := "fnDaysOf", fn := fun _ => fun
  | [d] => { results := [.lit (.bool false)], args := [d] }
  | _ => none }
def FnDaysOfWrongFalsely : Prop := fnDaysOfRow.holds Try.pinned (OpenSpec.ofChange fnDaysOfWrong)

/-- 'laws.FnDateNext': WHATEVER THE INPUT: true; the input reads as it did. -/
def fnDateNextSpec : ChangeSpec := { name := "fnDateNext", fn := fun _ => fun
  | [d] => { results := [.lit (.bool true)], args := [d] }
  | _ => none }
def fnDateNextRow : OpenClaim := { program := "ytejplhhlecnagaa", sum := "194b218049c8dfa844cf8c284d3227c54722a6c22177488fd8d4083a547b7751", func := "loop.example/mailwire/laws.FnDateNext", spec := "fnDateNext", apart := false }
def FnDateNextSaid : Prop := fnDateNextRow.holds Try.pinned (OpenSpec.ofChange fnDateNextSpec)

/-- ITS FALSE NEIGHBOUR: 'it returns false'. Refute it at one input. -/
def fnDateNextWrong : ChangeSpec := { name := "fnDateNext", fn := fun _ => fun
  | [d] => { results := [.lit (.bool false)], args := [d] }
  | _ => none }
def FnDateNextWrongFalsely : Prop := fnDateNextRow.holds Try.pinned (OpenSpec.ofChange fnDateNextWrong)

/-- 'laws.FnDateOrder': WHATEVER THE INPUT: true; the input reads as it did. -/
def fnDateOrderSpec : ChangeSpec := { name := "fnDateOrder", fn := fun _ => fun
  | [d] => { results := [.lit (.bool true)], args := [d] }
  | _ => none }
def fnDateOrderRow : OpenClaim := { program := "ytejplhhlecnagaa", sum := "194b218049c8dfa844cf8c284d3227c54722a6c22177488fd8d4083a547b7751", func := "loop.example/mailwire/laws.FnDateOrder", spec := "fnDateOrder", apart := false }
def FnDateOrderSaid : Prop := fnDateOrderRow.holds Try.pinned (OpenSpec.ofChange fnDateOrderSpec)

/-- ITS FALSE NEIGHBOUR: 'it returns false'. Refute it at one input. -/
def fnDateOrderWrong : ChangeSpec := { name := "fnDateOrder", fn := fun _ => fun
  | [d] => { results := [.lit (.bool false)], args := [d] }
  | _ => none }
def FnDateOrderWrongFalsely : Prop := fnDateOrderRow.holds Try.pinned (OpenSpec.ofChange fnDateOrderWrong)

/-- 'laws.FnYearDays': WHATEVER THE INPUT: true; the input reads as it did. -/
def fnYearDaysSpec : ChangeSpec := { name := "fnYearDays", fn := fun _ => fun
  | [d] => { results := [.lit (.bool true)], args := [d] }
  | _ => none }
def fnYearDaysRow : OpenClaim := { program := "ytejplhhlecnagaa", sum := "194b218049c8dfa844cf8c284d3227c54722a6c22177488fd8d4083a547b7751", func := "loop.example/mailwire/laws.FnYearDays", spec := "fnYearDays", apart := false }
def FnYearDaysSaid : Prop := fnYearDaysRow.holds Try.pinned (OpenSpec.ofChange fnYearDaysSpec)

/-- ITS FALSE NEIGHBOUR: 'it returns false'. Refute it at one input. -/
def fnYearDaysWrong : ChangeSpec := { name := "fnYearDays", fn := fun _ => fun
  | [d] => { results := [.lit (.bool false)], args := [d] }
  | _ => none }
def FnYearDaysWrongFalsely : Prop := fnYearDaysRow.holds Try.pinned (OpenSpec.ofChange fnYearDaysWrong)

/-- 'laws.FnZoneShift': WHATEVER THE INPUT: true; the input reads as it did. -/
def fnZoneShiftSpec : ChangeSpec := { name := "fnZoneShift", fn := fun _ => fun
  | [d] => { results := [.lit (.bool true)], args := [d] }
  | _ => none }
def fnZoneShiftRow : OpenClaim := { program := "ytejplhhlecnagaa", sum := "194b218049c8dfa844cf8c284d3227c54722a6c22177488fd8d4083a547b7751", func := "loop.example/mailwire/laws.FnZoneShift", spec := "fnZoneShift", apart := false }
def FnZoneShiftSaid : Prop := fnZoneShiftRow.holds Try.pinned (OpenSpec.ofChange fnZoneShiftSpec)

/-- ITS FALSE NEIGHBOUR: 'it returns false'. Refute it at one input. -/
def fnZoneShiftWrong : ChangeSpec := { name := "fnZoneShift", fn := fun _ => fun
  | [d] => { results := [.lit (.bool false)], args := [d] }
  | _ => none }
def FnZoneShiftWrongFalsely : Prop := fnZoneShiftRow.holds Try.pinned (OpenSpec.ofChange fnZoneShiftWrong)

/- THE SECOND FORM. 'bulk': how many values and letters a reading holds, each counted each time it is reached (what is shared counts as often as it is met; a slice's spare places count too). A statement '..UptoSaid' is the law's where the arguments, and the package variables that the reading takes, are together of bulk at most 1048576: NARROWER than '..Said'. Prove '..Said' where nothing that the law and all that it calls make is longer than what came in: it says more and counts as full. Else prove '..UptoSaid'. A law counts once. -/
mutual
def uptoBulk {H : Type} : DataW H → Nat
  | .lit (.string bytes) => bytes.length + 1
  | .lit _ => 1
  | .nil => 1
  | .ptr d => uptoBulk d + 1
  | .slice elems spare => uptoBulkAll elems + uptoBulkAll spare + 1
  | .agg parts => uptoBulkAll parts + 1
  | .iface _ d => uptoBulk d + 1
  | .map entries => uptoBulkEntries entries + 1
  | .held _ => 1
def uptoBulkAll {H : Type} : List (DataW H) → Nat
  | [] => 0
  | d :: r => uptoBulk d + uptoBulkAll r
def uptoBulkEntries {H : Type} : List (Lit × DataW H) → Nat
  | [] => 0
  | x :: r => uptoBulkEntry x + uptoBulkEntries r
def uptoBulkEntry {H : Type} : Lit × DataW H → Nat
  | (.string bytes, d) => bytes.length + uptoBulk d + 1
  | (_, d) => uptoBulk d + 1
 end
def uptoSmall : (H : Type) → List (DataW H) → Bool := fun _ ds => decide (uptoBulkAll ds ≤ 1048576)
def OpenSpec.upto (s : _root_.Go.ChangeSpec) : _root_.Go.OpenSpec := { _root_.Go.OpenSpec.ofChange s with cond := some uptoSmall }

/-- 'laws.FnDateOf', WHERE WHAT IT READS IS OF BULK AT MOST 1048576: true; the input reads as it did. -/
def fnDateOfUptoRow : OpenClaim := { program := "ytejplhhlecnagaa", sum := "194b218049c8dfa844cf8c284d3227c54722a6c22177488fd8d4083a547b7751", func := "loop.example/mailwire/laws.FnDateOf", spec := "fnDateOf", apart := false, narrowed := true }
def FnDateOfUptoSaid : Prop := fnDateOfUptoRow.holds Try.pinned (OpenSpec.upto fnDateOfSpec)

/-- 'laws.FnSecondsOf', WHERE WHAT IT READS IS OF BULK AT MOST 1048576: true; the input reads as it did. -/
def fnSecondsOfUptoRow : OpenClaim := { program := "ytejplhhlecnagaa", sum := "194b218049c8dfa844cf8c284d3227c54722a6c22177488fd8d4083a547b7751", func := "loop.example/mailwire/laws.FnSecondsOf", spec := "fnSecondsOf", apart := false, narrowed := true }
def FnSecondsOfUptoSaid : Prop := fnSecondsOfUptoRow.holds Try.pinned (OpenSpec.upto fnSecondsOfSpec)

/-- 'laws.FnInZone', WHERE WHAT IT READS IS OF BULK AT MOST 1048576: true; the input reads as it did. -/
def fnInZoneUptoRow : OpenClaim := { program := "ytejplhhlecnagaa", sum := "194b218049c8dfa844cf8c284d3227c54722a6c22177488fd8d4083a547b7751", func := "loop.example/mailwire/laws.FnInZone", spec := "fnInZone", apart := false, narrowed := true }
def FnInZoneUptoSaid : Prop := fnInZoneUptoRow.holds Try.pinned (OpenSpec.upto fnInZoneSpec)

/-- 'laws.FnDaysOf', WHERE WHAT IT READS IS OF BULK AT MOST 1048576: true; the input reads as it did. -/
def fnDaysOfUptoRow : OpenClaim := { program := "ytejplhhlecnagaa", sum := "194b218049c8dfa844cf8c284d3227c54722a6c22177488fd8d4083a547b7751", func := "loop.example/mailwire/laws.FnDaysOf", spec := "fnDaysOf", apart := false, narrowed := true }
def FnDaysOfUptoSaid : Prop := fnDaysOfUptoRow.holds Try.pinned (OpenSpec.upto fnDaysOfSpec)

/-- 'laws.FnDateNext', WHERE WHAT IT READS IS OF BULK AT MOST 1048576: true; the input reads as it did. -/
def fnDateNextUptoRow : OpenClaim := { program := "ytejplhhlecnagaa", sum := "194b218049c8dfa844cf8c284d3227c54722a6c22177488fd8d4083a547b7751", func := "loop.example/mailwire/laws.FnDateNext", spec := "fnDateNext", apart := false, narrowed := true }
def FnDateNextUptoSaid : Prop := fnDateNextUptoRow.holds Try.pinned (OpenSpec.upto fnDateNextSpec)

/-- 'laws.FnDateOrder', WHERE WHAT IT READS IS OF BULK AT MOST 1048576: true; the input reads as it did. -/
def fnDateOrderUptoRow : OpenClaim := { program := "ytejplhhlecnagaa", sum := "194b218049c8dfa844cf8c284d3227c54722a6c22177488fd8d4083a547b7751", func := "loop.example/mailwire/laws.FnDateOrder", spec := "fnDateOrder", apart := false, narrowed := true }
def FnDateOrderUptoSaid : Prop := fnDateOrderUptoRow.holds Try.pinned (OpenSpec.upto fnDateOrderSpec)

/-- 'laws.FnYearDays', WHERE WHAT IT READS IS OF BULK AT MOST 1048576: true; the input reads as it did. -/
def fnYearDaysUptoRow : OpenClaim := { program := "ytejplhhlecnagaa", sum := "194b218049c8dfa844cf8c284d3227c54722a6c22177488fd8d4083a547b7751", func := "loop.example/mailwire/laws.FnYearDays", spec := "fnYearDays", apart := false, narrowed := true }
def FnYearDaysUptoSaid : Prop := fnYearDaysUptoRow.holds Try.pinned (OpenSpec.upto fnYearDaysSpec)

/-- 'laws.FnZoneShift', WHERE WHAT IT READS IS OF BULK AT MOST 1048576: true; the input reads as it did. -/
def fnZoneShiftUptoRow : OpenClaim := { program := "ytejplhhlecnagaa", sum := "194b218049c8dfa844cf8c284d3227c54722a6c22177488fd8d4083a547b7751", func := "loop.example/mailwire/laws.FnZoneShift", spec := "fnZoneShift", apart := false, narrowed := true }
def FnZoneShiftUptoSaid : Prop := fnZoneShiftUptoRow.holds Try.pinned (OpenSpec.upto fnZoneShiftSpec)

end Rows
end Go.Proofs.Ytejplhhlecnagaa
