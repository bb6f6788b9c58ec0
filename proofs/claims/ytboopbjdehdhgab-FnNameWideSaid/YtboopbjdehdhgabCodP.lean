/-
  Codes of bytes: plain lines and all ways: what the program's functions return. No statement is proved here.
-/
import Derived.Test.YtboopbjdehdhgabCodE
import Derived.Test.YtboopbjdehdhgabCodV
import Derived.Lib.Join
import Derived.Outline
namespace Go.Proofs.Ytboopbjdehdhgab
open Go.RowKit

theorem joinC_any (a : Option Addr) (n c : Nat) (xs : List (List UInt8)) (sep : ByteArray) (w : World) (hr : RdL w a n xs) (hnc : n ≤ c) (hn : n ≤ 140737488355328) (hlen : (Lib.join xs sep.data.toList).length ≤ 140737488355328) :
    Calls Try.prog 22 #[.slice a n c, .string sep] w fun e w' => e = .returned (.string (str (Lib.join xs sep.data.toList))) ∧ Below w.heap.size w w' := by
  obtain ⟨hl, h0 | ⟨b, off, rfl, hb, hc⟩⟩ := hr
  · subst h0
    have : xs = [] := List.length_eq_zero_iff.1 hl
    subst this
    refine (Try.strings_Join_none a c sep w).mono ?_
    rintro e w' ⟨rfl, rfl⟩
    exact ⟨rfl, Below.refl _ _⟩
  · have hm : (xs.map str).map (·.data.toList) = xs := by rw [List.map_map]; conv => rhs; rw [← List.map_id xs]
                                                          exact List.map_congr_left fun x _ => str_list x
    have := Try.strings_Join b off c (xs.map str) sep w (fun j x hx => by
      rw [List.getElem?_map] at hx
      obtain ⟨y, hy, rfl⟩ := Option.map_eq_some_iff.1 hx
      obtain ⟨hj, hj2⟩ := List.getElem?_eq_some_iff.1 hy
      rw [hc j hj, hj2]) hb (by simp; omega) (by simp; omega) (by rw [hm]; exact hlen)
    rw [hm] at this
    rw [List.length_map, hl] at this
    exact this
theorem plOk_iff {l : List UInt8} : plOk l = true ↔ isText l = true ∧ l.length ≤ 40 := by unfold plOk; simp
end Go.Proofs.Ytboopbjdehdhgab
