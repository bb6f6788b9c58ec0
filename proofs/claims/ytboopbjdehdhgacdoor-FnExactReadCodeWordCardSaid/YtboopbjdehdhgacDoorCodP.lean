/-
  Codes of bytes: plain lines and all ways: what the program's functions return. No statement is proved here.
-/
import Derived.Test.YtboopbjdehdhgacDoorCodE
import Derived.Test.YtboopbjdehdhgacDoorCodV
import Derived.Test.YtboopbjdehdhgacDoorAddrS
import Derived.Outline
namespace Go.Proofs.YtboopbjdehdhgacDoor
open Go.RowKit

theorem splitOwnC_any (s : ByteArray) (c : UInt8) (w : World) (hmx : ∃ m, w.cell? ⟨4, 0, none⟩ = some (.int .i64 m)) (hs : s.size ≤ 1073741824) :
    Calls Tryd.prog 74 #[.string s, .string ⟨#[c]⟩] w fun e w' => e = .returned (.slice (some ⟨w.heap.size, 0, none⟩) (splitC c s.data.toList).length (splitC c s.data.toList).length) ∧ OwnL w.heap.size (.slice (some ⟨w.heap.size, 0, none⟩) (splitC c s.data.toList).length (splitC c s.data.toList).length) (splitC c s.data.toList) w' ∧ Below w.heap.size w w' := by
  obtain ⟨m, hm⟩ := hmx
  refine (Tryd.strings_Split s ⟨#[c]⟩ m w (by omega) hm (Nat.le_refl 1)).mono ?_
  rintro e w' ⟨rfl, rfl⟩
  have hd : (Lib.splitB ⟨#[c]⟩ 0 (Lib.countB s ⟨#[c]⟩) s).map (·.data.toList) = splitC c s.data.toList := by
    rw [Lib.splitB_data]
    have : Lib.countB s ⟨#[c]⟩ = s.data.toList.count c := Lib.count_one c s.data.toList
    rw [this]; exact splitK_C c _
  have hl : (Lib.splitB ⟨#[c]⟩ 0 (Lib.countB s ⟨#[c]⟩) s).length = Lib.countB s ⟨#[c]⟩ + 1 := Lib.splitB_all ⟨#[c]⟩ (Nat.le_refl 1) 0 _ s rfl
  have hn : (splitC c s.data.toList).length = Lib.countB s ⟨#[c]⟩ + 1 := by rw [← hd, List.length_map, hl]
  have hsm := (splitC_small c s.data.toList).1
  rw [size_list] at hsm
  refine ⟨by rw [hn], ⟨by simp, .inr ⟨w.heap.size, (splitC c s.data.toList).length, (List.map Value.string (Lib.splitB ⟨#[c]⟩ 0 (Lib.countB s ⟨#[c]⟩) s)).toArray, rfl, Nat.le_refl _, by show (w.heap.push _)[w.heap.size]? = _; simp, Nat.le_refl _, by unfold maxLen; omega, ?_, ?_⟩⟩, (Below.refl _ _).alloc (Nat.le_refl _) _⟩
  · simp [hl, hn]
  · rw [← hd]
    simp [strV, List.map_map, Function.comp_def, str_of]
    rw [List.take_of_length_le (by simp)]
theorem mx_below {w u : World} (h : ∃ m, w.cell? ⟨4, 0, none⟩ = some (.int .i64 m)) (b : Below w.heap.size w u) : ∃ m, u.cell? ⟨4, 0, none⟩ = some (.int .i64 m) := by
  obtain ⟨m, hm⟩ := h
  exact ⟨m, by rw [below_at b (lt_of_cell hm)]; exact hm⟩
theorem plOk_iff {l : List UInt8} : plOk l = true ↔ isText l = true ∧ l.length ≤ 40 := by unfold plOk; simp
end Go.Proofs.YtboopbjdehdhgacDoor
