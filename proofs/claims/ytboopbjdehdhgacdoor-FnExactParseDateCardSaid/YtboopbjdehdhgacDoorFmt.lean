/-
  Dates written as texts: what the program's functions return. No statement is proved here.
-/
import Derived.Test.YtboopbjdehdhgacDoorWday
import Derived.Test.YtboopbjdehdhgacDoorQuietB
import Derived.Test.YtboopbjdehdhgacDoorDateT
import Derived.Test.YtboopbjdehdhgacDoorShelf
import Derived.Shelf.Strconv.Itoa3
namespace Go.Proofs.YtboopbjdehdhgacDoor
open Go.RowKit Go.Sort

theorem below_grow (w : World) (k : Nat) (os : Array Obj) : Below w.heap.size w (grow (w.drewN k) os) :=
  ⟨rfl, rfl, rfl, by simp [grow, World.drewN], fun i hi => by simp [grow, World.drewN, Array.getElem?_append, hi]⟩
theorem str_app (l k : List UInt8) : str l ++ str k = str (l ++ k) := by
  apply bytes_ext; rw [str_list]; simp [str]
theorem lit_str (l : List UInt8) : (⟨l.toArray⟩ : ByteArray) = str l := rfl
/-- The table of the names of months. -/
def MTab (w : World) : Prop := ∀ j, j < 12 → w.cell? ⟨2, j, none⟩ = some (.string (str (moL.getD j [])))
theorem MTab.lt {w : World} (h : MTab w) : 2 < w.heap.size := lt_of_cell (h 0 (by omega))
theorem MTab.below {w w' : World} (h : MTab w) (b : Below w.heap.size w w') : MTab w' := fun j hj => by rw [below_at b h.lt]; exact h j hj
end Go.Proofs.YtboopbjdehdhgacDoor
