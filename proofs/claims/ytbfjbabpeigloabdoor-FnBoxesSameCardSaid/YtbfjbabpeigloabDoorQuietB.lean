/-
  Regions that draw their order and whose callees lay memory but turn nothing: one walk in the order of the text. No statement is proved here.
-/
import Derived.Test.YtbfjbabpeigloabDoorBase
import Derived.Deep.QuietTactic
import Derived.BigQuiet
namespace Go.Proofs.YtbfjbabpeigloabDoor
open Go.RowKit

/-- A world in which all that lay in W lies unturned. -/
structure BelowT (W : World) where
  val : World
  below : Below W.heap.size W val
instance (W : World) : Nonempty (BelowT W) := ⟨⟨W, Below.refl _ _⟩⟩
theorem wp_region_quietB {P : Program} {id : Nat} {Q : Exit → Act → World → Prop} {a : Act} {w W : World} {l : List Oper} (hm : P.follows .mixedOrders = true) (hB : Region.lexB .any l.toArray = true) (hb : Below W.heap.size W w)
    (h : wpQuiet P l.toArray (fun w' => ∃ x : BelowT W, w' = x.val) (fun a' => ∀ w', (∃ x : BelowT W, w' = x.val) → Q .normal a' w') l a) : (Code.region id l.toArray true).wp P Q a w :=
  wp_region_quiet (C := fun w' => ∃ x : BelowT W, w' = x.val) hm hB ⟨⟨w.drew, hb.drew⟩, rfl⟩ (by simpa using h)
theorem calls_belowT {P : Program} {f : FuncId} {args : Array Value} {W : World} {x : BelowT W} {v : Value}
    (h : Calls P f args x.val fun e w' => e = .returned v ∧ Below x.val.heap.size x.val w') : Calls P f args x.val fun e w'' => e = .returned v ∧ ∃ y : BelowT W, w'' = y.val :=
  h.mono fun _ w' ⟨he, hb⟩ => ⟨he, ⟨w', nx x.below hb⟩, rfl⟩
theorem calls_sameT {P : Program} {f : FuncId} {args : Array Value} {W : World} {x : BelowT W} {v : Value}
    (h : Calls P f args x.val fun e w' => e = .returned v ∧ w' = x.val) : Calls P f args x.val fun e w'' => e = .returned v ∧ ∃ y : BelowT W, w'' = y.val :=
  h.mono fun _ _ ⟨he, hw⟩ => ⟨he, x, hw⟩
end Go.Proofs.YtbfjbabpeigloabDoor
