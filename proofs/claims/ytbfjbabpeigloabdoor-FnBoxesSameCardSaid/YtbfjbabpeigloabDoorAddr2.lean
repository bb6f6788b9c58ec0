/-
  Addresses: whether one is valid, its text, cutting outside of quotes: what the program's functions return. No statement is proved here.
-/
import Derived.Test.YtbfjbabpeigloabDoorAddr
import Derived.Test.YtbfjbabpeigloabDoorAdrV
import Derived.Deep.QuietTactic
import Derived.BigQuiet
namespace Go.Proofs.YtbfjbabpeigloabDoor
open Go.RowKit

/-- What cutting leaves: what is before and behind the first mark outside of quotes, or all of it. -/
def CutRet (s : ByteArray) (c : UInt8) (w : World) (e : Ending) (w' : World) : Prop :=
  (∀ a d, cutU c s.data.toList = some (a, d) → e = .returned (.tuple #[.string (str a), .string (str d), .bool true])) ∧
  (cutU c s.data.toList = none → e = .returned (.tuple #[.string s, .string ⟨#[]⟩, .bool false])) ∧ Below w.heap.size w w'
theorem cutRet_some {s : ByteArray} {c : UInt8} {k : Nat} {w w' : World} {x y : ByteArray} (h : cutK c 0 s.data.toList = some k) (hx : x = s.extract 0 k) (hy : y = s.extract (k + 1) s.size) (hb : Below w.heap.size w w') : CutRet s c w (.returned (.tuple #[.string x, .string y, .bool true])) w' := by
  have hc : cutU c s.data.toList = some (s.data.toList.take k, s.data.toList.drop (k + 1)) := by unfold cutU; rw [h]; rfl
  refine ⟨fun a d h' => ?_, fun h' => ?_, hb⟩
  · rw [hc] at h'; injection h' with h'; injection h' with h1 h2; subst h1 h2; rw [hx, hy, ext_take, ext_drop]
  · rw [hc] at h'; cases h'
theorem cutRet_none {s : ByteArray} {c : UInt8} {w w' : World} (h : cutK c 0 s.data.toList = none) (hb : Below w.heap.size w w') : CutRet s c w (.returned (.tuple #[.string s, .string ⟨#[]⟩, .bool false])) w' := by
  have hc : cutU c s.data.toList = none := by unfold cutU; rw [h]; rfl
  refine ⟨fun a d h' => ?_, fun _ => rfl, hb⟩
  rw [hc] at h'; cases h'
/-- Cutting goes on at place k. -/
def cutsAt (c : UInt8) (s : ByteArray) (k : Nat) : Prop := cutK c 0 s.data.toList = (cutK c 0 (s.data.toList.drop k)).map (· + k)
theorem cutsAt_start (c : UInt8) (s : ByteArray) : cutsAt c s 0 := by unfold cutsAt; rw [List.drop_zero]; cases cutK c 0 s.data.toList <;> rfl
theorem cutsAt_hit {c : UInt8} {s : ByteArray} {k : Nat} (h : cutsAt c s k) (hk : k < s.size) (hc : s[k] = c) : cutK c 0 s.data.toList = some k := by
  unfold cutsAt at h; rw [h, drop_at s k hk, hc, cutK_hit]; simp
theorem cutsAt_skip {c : UInt8} {s : ByteArray} {k : Nat} (h : cutsAt c s k) (hk : k < s.size) (hc : s[k] ≠ c) (hq : s[k] ≠ 34) : cutsAt c s (k + 1) := by
  unfold cutsAt at h ⊢; rw [h, drop_at s k hk, cutK_skip _ hc hq, map_add]; exact map_to (by omega)
theorem cutsAt_end {c : UInt8} {s : ByteArray} {k : Nat} (h : cutsAt c s k) (hk : s.size ≤ k) : cutK c 0 s.data.toList = none := by
  unfold cutsAt at h; rw [h, drop_out s k hk, cutK_nil]; rfl
theorem cutsAt_stuck {c : UInt8} {s : ByteArray} {k : Nat} (hc34 : (34 : UInt8) ≠ c) (h : cutsAt c s k) (hk : k < s.size) (hq : s[k] = 34) (hr : readQ (s.data.toList.drop (k + 1)) = none) : cutK c 0 s.data.toList = none := by
  unfold cutsAt at h; rw [h, drop_at s k hk, hq, cutK_open _ hc34, cutK_quote, hr]; rfl
theorem cutsAt_quote {c : UInt8} {s : ByteArray} {k : Nat} {t r : List UInt8} (hc34 : (34 : UInt8) ≠ c) (h : cutsAt c s k) (hk : k < s.size) (hq : s[k] = 34) (hr : readQ (s.data.toList.drop (k + 1)) = some (t, r)) : cutsAt c s (s.size - r.length) ∧ k + 2 ≤ s.size - r.length := by
  have hb := readQ_bound _ _ _ hr
  have hd := readQ_rest _ _ _ hr
  rw [List.length_drop, size_list] at hb hd
  rw [List.drop_drop] at hd
  have e : k + 1 + (s.size - (k + 1) - r.length) = s.size - r.length := by omega
  rw [e] at hd
  refine ⟨?_, by omega⟩
  unfold cutsAt at h ⊢
  rw [h, drop_at s k hk, hq, cutK_open _ hc34, cutK_quote, hr, hd]
  show (((cutK c 0 r).map (· + ((s.data.toList.drop (k + 1)).length - r.length))).map (· + 1)).map (· + k) = _
  rw [map_add, map_add]
  exact map_to (by rw [List.length_drop, size_list]; omega)
end Go.Proofs.YtbfjbabpeigloabDoor
