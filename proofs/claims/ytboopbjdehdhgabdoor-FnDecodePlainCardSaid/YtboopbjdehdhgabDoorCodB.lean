/-
  Codes of bytes: letters: what the program's functions return. No statement is proved here.
-/
import Derived.Test.YtboopbjdehdhgabDoorCodN
import Derived.Test.YtboopbjdehdhgabDoorAddr
import Derived.Test.YtboopbjdehdhgabDoorBuilder
import Derived.Laws.AppendOwn
import Derived.Laws.OwnMore
import Derived.Laws.AppendOwnNone
import Derived.Laws.BitsLemmas
import Derived.Outline
namespace Go.Proofs.YtboopbjdehdhgabDoor
open Go.RowKit

theorem str_app (a b : List UInt8) : str a ++ str b = str (a ++ b) := by apply bytes_ext; rw [Joins.data_append, str_list, str_list, str_list]
theorem ext_tkC (l : List UInt8) (a : Nat) : (str l).extract 0 a = str (l.take a) := by rw [ext_take, str_list]
theorem ext_drC (l : List UInt8) (a : Nat) : (str l).extract a (str l).size = str (l.drop a) := by rw [ext_drop, str_list]
/-- Lines, and whether there are any. -/
def EncRet (o : Option (List (List UInt8))) (w : World) (e : Ending) (w' : World) : Prop := ∃ v, e = .returned (.tuple #[v, .bool o.isSome]) ∧ OwnL w.heap.size v (o.getD []) w' ∧ Below w.heap.size w w'
theorem encRet_none {o : Option (List (List UInt8))} {w w' : World} {v : Value} (h : o = none) (ho : OwnL w.heap.size v [] w') (hb : Below w.heap.size w w') : EncRet o w (.returned (.tuple #[v, .bool false])) w' := by subst h; exact ⟨v, rfl, ho, hb⟩
theorem encRet_some {o : Option (List (List UInt8))} {xs : List (List UInt8)} {w w' : World} {v : Value} (h : o = some xs) (ho : OwnL w.heap.size v xs w') (hb : Below w.heap.size w w') : EncRet o w (.returned (.tuple #[v, .bool true])) w' := by subst h; exact ⟨v, rfl, ho, hb⟩
/-- Bytes, and whether there are any. -/
def DecRet (o : Option (List UInt8)) (w : World) (e : Ending) (w' : World) : Prop := e = .returned (.tuple #[.string (str (o.getD [])), .bool o.isSome]) ∧ Below w.heap.size w w'
theorem decRet_none {o : Option (List UInt8)} {w w' : World} {x : ByteArray} (h : o = none) (hx : x = str []) (hb : Below w.heap.size w w') : DecRet o w (.returned (.tuple #[.string x, .bool false])) w' := by subst h hx; exact ⟨rfl, hb⟩
theorem decRet_some {o : Option (List UInt8)} {b : List UInt8} {w w' : World} {x : ByteArray} (h : o = some b) (hx : x = str b) (hb : Below w.heap.size w w') : DecRet o w (.returned (.tuple #[.string x, .bool true])) w' := by subst h hx; exact ⟨rfl, hb⟩
theorem take3 (s : ByteArray) (k e : Nat) (h : e = k + 3 ∨ (s.size ≤ k + 3 ∧ e = s.size)) : (s.extract k e).data.toList = (s.data.toList.drop k).take 3 := by
  rw [Lib.extract_data]
  rcases h with rfl | ⟨h, rfl⟩
  · congr 1; omega
  · rw [List.take_of_length_le (by rw [List.length_drop, size_list]; omega), List.take_of_length_le (by rw [List.length_drop, size_list]; omega)]
theorem b64_step (s : ByteArray) (k : Nat) (acc : List UInt8) (h : b64 s.data.toList = acc ++ b64 (s.data.toList.drop k)) (hk : k < s.size) : b64 s.data.toList = (acc ++ four ((s.data.toList.drop k).take 3)) ++ b64 (s.data.toList.drop (k + 3)) := by
  rw [h, b64_drop (s.data.toList.drop k) (by intro e; have := congrArg List.length e; rw [List.length_drop, size_list] at this; simp at this; omega), List.drop_drop, List.append_assoc]
/-- The number of the first k bytes of three. -/
def acc3 (g : List UInt8) : Nat → Nat
  | 0 => 0
  | k + 1 => acc3 g k * 256 + (g.getD k 0).toNat
theorem acc3_lt (g : List UInt8) : ∀ k, acc3 g k < 256 ^ k
  | 0 => by simp [acc3]
  | k + 1 => by
    have := acc3_lt g k
    have := (g.getD k 0).toNat_lt
    rw [acc3, Nat.pow_succ]; omega
theorem acc3_num (g : List UInt8) : acc3 g 3 = num3 g := by simp only [acc3, num3]; omega
theorem alpha_at {n : Nat} (h : n < 64) (h' : n < (ByteArray.mk #[65, 66, 67, 68, 69, 70, 71, 72, 73, 74, 75, 76, 77, 78, 79, 80, 81, 82, 83, 84, 85, 86, 87, 88, 89, 90, 97, 98, 99, 100, 101, 102, 103, 104, 105, 106, 107, 108, 109, 110, 111, 112, 113, 114, 115, 116, 117, 118, 119, 120, 121, 122, 48, 49, 50, 51, 52, 53, 54, 55, 56, 57, 43, 47]).size) : (ByteArray.mk #[65, 66, 67, 68, 69, 70, 71, 72, 73, 74, 75, 76, 77, 78, 79, 80, 81, 82, 83, 84, 85, 86, 87, 88, 89, 90, 97, 98, 99, 100, 101, 102, 103, 104, 105, 106, 107, 108, 109, 110, 111, 112, 113, 114, 115, 116, 117, 118, 119, 120, 121, 122, 48, 49, 50, 51, 52, 53, 54, 55, 56, 57, 43, 47])[n] = l64 n := by
  have hl : alphaL.length = 64 := rfl
  unfold l64
  rw [List.getD_eq_getElem?_getD, List.getElem?_eq_getElem (by rw [hl]; exact h)]
  rfl
/-- Four letters in a row: those before k are written. -/
def Four (F : Nat → UInt8) (R k : Nat) (w : World) : Prop := (∀ j, j < 4 → w.cell? ⟨R, j, none⟩ = some (.int .u8 ((if j < k then F j else 61).toNat : Int))) ∧ (∀ j, w.frozen? ⟨R, j, none⟩ = false)
theorem four_start (F : Nat → UInt8) (w : World) (t : TypeId) : Four F w.heap.size 0 (w.alloc (.cells #[.int .u8 61, .int .u8 61, .int .u8 61, .int .u8 61] t)) :=
  ⟨fun j hj => by
    rw [World.cell?_alloc_at _ _ _ _ rfl]
    rcases (by omega : j = 0 ∨ j = 1 ∨ j = 2 ∨ j = 3) with rfl | rfl | rfl | rfl <;> rfl, fun j => World.frozen?_alloc_at _ _ _ _ rfl⟩
theorem four_set {F : Nat → UInt8} {R k : Nat} {w : World} (h : Four F R k w) (hk : k < 4) (x : Int) (hx : x = ((F k).toNat : Int)) : Four F R (k + 1) (w.setCell ⟨R, k, none⟩ (.int .u8 x)) := by
  refine ⟨fun j hj => ?_, fun j => by rw [World.frozen?_setCell]; exact h.2 j⟩
  by_cases e : j = k
  · subst e; rw [cell_same (h.1 j hk), if_pos (by omega), hx]
  · rw [cell_off (fun he => e he.symm), h.1 j hj]
    by_cases e2 : j < k
    · rw [if_pos e2, if_pos (by omega)]
    · rw [if_neg e2, if_neg (by omega)]
theorem four_back {F : Nat → UInt8} {R k : Nat} {w : World} {g : List UInt8} (h : Four F R k w) (hF : ∀ j, j < 4 → F j = l64 (num3 g / 2 ^ (18 - 6 * j) % 64)) (h1 : 1 ≤ g.length) (hk : k = g.length + 1) (src dst e : TypeId) (hs : Tryd.prog.underlying src = some (.slice e)) (he : Tryd.prog.underlying e = some (.int .u8)) (hd : Tryd.prog.underlying dst = some .string) :
    (convert src dst (.slice (some ⟨R, 0, none⟩) 4 4)).run Tryd.prog w = .ok (.string (str (four g))) w := by
  have := run_convert_bytes_back (P := Tryd.prog) w src dst e ⟨R, 0, none⟩ 4 (four g) hs he hd (fun j hj => by
    rw [four_len] at hj
    rw [add0, h.1 j hj, hF j hj, hk]
    rcases (by omega : j = 0 ∨ j = 1 ∨ j = 2 ∨ j = 3) with rfl | rfl | rfl | rfl
    · rw [if_pos (by omega)]; rfl
    · rw [if_pos (by omega)]; rfl
    · by_cases h2 : 2 ≤ g.length
      · rw [if_pos (by omega)]; simp only [four, if_pos h2]; rfl
      · rw [if_neg (by omega)]; simp only [four, if_neg h2]; rfl
    · by_cases h2 : 3 ≤ g.length
      · rw [if_pos (by omega)]; simp only [four, if_pos h2]; simp
      · rw [if_neg (by omega)]; simp only [four, if_neg h2]; rfl)
  exact this
end Go.Proofs.YtboopbjdehdhgabDoor
