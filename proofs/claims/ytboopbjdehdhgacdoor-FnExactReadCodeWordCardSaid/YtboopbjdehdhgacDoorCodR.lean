/-
  Codes of bytes: letters read: what the program's functions return. No statement is proved here.
-/
import Derived.Test.YtboopbjdehdhgacDoorCodL
import Derived.Deep.QuietTactic
import Derived.BigQuiet
import Derived.Test.YtboopbjdehdhgacDoorShelf
namespace Go.Proofs.YtboopbjdehdhgacDoor
open Go.RowKit

def ixI (o : Option Nat) : Int := match o with | some v => (v : Int) | none => -1
/-- Bytes in a row of the call's own. -/
def OwnBy (B : Nat) (v : Value) (l : List UInt8) (w : World) : Prop := w.ownsRow B 5 1 v l.length (Lib.byteCells l)
theorem OwnBy.empty (w : World) : OwnBy w.heap.size (.slice (some ⟨w.heap.size, 0, none⟩) 0 0) [] (w.alloc (.cells #[] 5)) :=
  ⟨rfl, .inr ⟨w.heap.size, 0, #[], rfl, Nat.le_refl _, by show (w.heap.push _)[w.heap.size]? = _; simp, Nat.le_refl _, by unfold maxLen; omega, rfl, rfl⟩⟩
theorem conv_nilC (w : World) (src dst e : TypeId) (hs : Tryd.prog.underlying src = some (.slice e)) (he : Tryd.prog.underlying e = some (.int .u8)) (hd : Tryd.prog.underlying dst = some .string) :
    (convert src dst (.slice none 0 0)).run Tryd.prog w = .ok (.string (str [])) w := by
  rw [run_convert_bytes_string w src dst e none 0 0 hs he hd]
  rfl
theorem str_eq_s (l : List UInt8) (s : ByteArray) : ((str l).toList == s.toList) = decide (l = s.data.toList) := by
  rw [beq_dec, decide_eq_decide]
  exact ⟨fun h => by rw [← h, str_list], fun h => by rw [h, str_of]⟩
theorem OwnBy.drewN {B : Nat} {v : Value} {l : List UInt8} {w : World} (h : OwnBy B v l w) (m : Nat) : OwnBy B v l (w.drewN m) := h
theorem OwnBy.back {B : Nat} {v : Value} {l : List UInt8} {w : World} (h : OwnBy B v l w) (src dst e : TypeId) (hs : Tryd.prog.underlying src = some (.slice e)) (he : Tryd.prog.underlying e = some (.int .u8)) (hd : Tryd.prog.underlying dst = some .string) :
    (convert src dst v).run Tryd.prog w = .ok (.string (str l)) w := by
  have ho := h
  unfold OwnBy at ho
  rcases h.2 with ⟨hv, h0⟩ | ⟨g, cap, cur, hv, _⟩
  · subst hv
    have : l = [] := List.length_eq_zero_iff.1 h0
    subst this
    exact conv_nilC w src dst e hs he hd
  · subst hv
    exact run_convert_bytes_back (P := Tryd.prog) w src dst e ⟨g, 0, none⟩ cap l hs he hd (fun j hj => by
      have := ho.cells (g := g) rfl j (.int .u8 (l[j].toNat : Int)) (by simp [Lib.byteCells, hj])
      exact this)
end Go.Proofs.YtboopbjdehdhgacDoor
