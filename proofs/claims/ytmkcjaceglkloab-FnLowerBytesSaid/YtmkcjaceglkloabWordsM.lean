/-
  Words: the plain functions on lists of bytes that the program's functions of chapter 1 compute. No statement is proved here.
-/
import Derived.Test.YtmkcjaceglkloabBase
namespace Go.Proofs.Ytmkcjaceglkloab
open Go.RowKit

def okB (c : UInt8) : Bool := decide (32 ≤ c.toNat) && decide (c.toNat ≤ 126)
theorem okB_t {c : UInt8} (h : okB c = true) : ¬ ((c.toNat : Int) < 32) ∧ ¬ ((126 : Int) < (c.toNat : Int)) := by
  unfold okB at h; simp at h; omega
theorem okB_f {c : UInt8} (h : okB c = false) : ((c.toNat : Int) < 32) ∨ ((126 : Int) < (c.toNat : Int)) := by
  unfold okB at h; simp at h; omega
def isText (l : List UInt8) : Bool := decide (l.length ≤ 200) && l.all okB
theorem isText_long (s : ByteArray) (h : 200 < s.size) : isText s.data.toList = false := by
  unfold isText; have := size_list s; simp; omega
theorem isText_bad (s : ByteArray) (k : Nat) (hk : k < s.size) (h : okB s[k] = false) : isText s.data.toList = false := by
  have hm : s[k] ∈ s.data.toList := by simp [ByteArray.getElem_eq_getElem_data]
  unfold isText
  rw [Bool.and_eq_false_iff]; right
  rw [List.all_eq_false]; exact ⟨_, hm, by simp [h]⟩
theorem isText_good (s : ByteArray) (h0 : s.size ≤ 200) (h : ∀ j, (h' : j < s.size) → okB s[j] = true) : isText s.data.toList = true := by
  unfold isText
  have := size_list s
  rw [Bool.and_eq_true]; refine ⟨by simp; omega, ?_⟩
  rw [List.all_eq_true]; intro x hx
  obtain ⟨j, hj, rfl⟩ := List.getElem_of_mem hx
  exact h j hj
def capB (c : UInt8) : Bool := decide (65 ≤ c.toNat) && decide (c.toNat ≤ 90)
def lowB (c : UInt8) : UInt8 := if capB c then c + 32 else c
def low (l : List UInt8) : List UInt8 := l.map lowB
def lowS (s : ByteArray) : ByteArray := str (low s.data.toList)
theorem lowS_size (s : ByteArray) : (lowS s).size = s.size := by simp [lowS, low, str_size]
theorem lowS_at (s : ByteArray) (j : Nat) (h : j < s.size) : (lowS s)[j]'(by rw [lowS_size]; exact h) = lowB s[j] := by
  show (lowS s).data.toList[j]'(by rw [size_list, lowS_size]; exact h) = lowB (s.data.toList[j]'(by rw [size_list]; exact h))
  simp [lowS, low, str]
theorem lowS_list (s : ByteArray) : (lowS s).data.toList = low s.data.toList := str_list _
theorem capB_t {c : UInt8} (h : capB c = true) : (65 : Int) ≤ c.toNat ∧ (c.toNat : Int) ≤ 90 := by unfold capB at h; simp at h; omega
theorem capB_f {c : UInt8} (h : capB c = false) : (c.toNat : Int) < 65 ∨ (65 ≤ (c.toNat : Int) ∧ 90 < (c.toNat : Int)) := by unfold capB at h; simp at h; omega
theorem lowB_t {c : UInt8} (h : capB c = true) : (c.toNat : Int) + 32 = (lowB c).toNat := by
  have := capB_t h; unfold lowB; rw [if_pos h, UInt8.toNat_add]; simp; omega
theorem lowB_t' {c : UInt8} (h : capB c = true) : (c.toNat : Int) - 65 + 97 = (lowB c).toNat := by
  rw [← lowB_t h]; omega
theorem lowB_f {c : UInt8} (h : capB c = false) : lowB c = c := by
  unfold lowB; rw [if_neg (by simp [h])]
theorem lowB_low (c : UInt8) : lowB (lowB c) = lowB c := by
  cases h : capB c
  · rw [lowB_f h, lowB_f h]
  · have h2 := lowB_t h
    have h3 := capB_t h
    apply lowB_f; unfold capB; simp; omega
theorem low_low (l : List UInt8) : low (low l) = low l := by
  simp only [low, List.map_map]; exact List.map_congr_left (fun c _ => lowB_low c)
theorem lowS_lowS (s : ByteArray) : lowS (lowS s) = lowS s := by
  unfold lowS; rw [str_list, low_low]
/-- The cells of a row of bytes that is made small up to place k. -/
def lowCells (s : ByteArray) (b k : Nat) (wr : World) : Prop :=
  (∀ j, (h : j < s.size) → wr.cell? ⟨b, j, none⟩ = some (.int .u8 ((if j < k then lowB s[j] else s[j]).toNat : Int))) ∧ (∀ j, j < s.size → wr.frozen? ⟨b, j, none⟩ = false)
theorem lowCells_start (s : ByteArray) (w : World) (cap : Nat) (t : TypeId) : lowCells s w.heap.size 0 (w.alloc (.cells (bytesRow s cap) t ((bytesRow s cap).size, (bytesRow s cap).size + 1))) := by
  refine ⟨fun j h => ?_, fun j h => ?_⟩
  · rw [World.cell?_alloc_mark, bytesRow_at s cap j h]; simp; rfl
  · rw [World.frozen?_alloc_mark]; simp [bytesRow]; intro _; omega
theorem lowCells_drew {s : ByteArray} {b k : Nat} {w : World} (h : lowCells s b k w) : lowCells s b k w.drew := h
theorem lowCells_keep {s : ByteArray} {b k : Nat} {w : World} (h : lowCells s b k w) (hk : k < s.size) (hc : capB s[k] = false) : lowCells s b (k + 1) w := by
  refine ⟨fun j hj => ?_, h.2⟩
  rw [h.1 j hj]
  by_cases e : j = k
  · subst e; rw [if_neg (Nat.lt_irrefl _), if_pos (by omega), lowB_f hc]
  · by_cases e2 : j < k
    · rw [if_pos e2, if_pos (by omega)]
    · rw [if_neg e2, if_neg (by omega)]
theorem lowCells_set {s : ByteArray} {b k : Nat} {w : World} (h : lowCells s b k w) (hk : k < s.size) (v : Int) (hv : v = (lowB s[k]).toNat) : lowCells s b (k + 1) (w.setCell ⟨b, k, none⟩ (.int .u8 v)) := by
  refine ⟨fun j hj => ?_, fun j hj => ?_⟩
  · by_cases e : j = k
    · subst e; rw [cell_same (h.1 j hk), if_pos (by omega), hv]
    · rw [cell_off (fun he => e he.symm), h.1 j hj]
      by_cases e2 : j < k
      · rw [if_pos e2, if_pos (by omega)]
      · rw [if_neg e2, if_neg (by omega)]
  · rw [World.frozen?_setCell]; exact h.2 j hj
theorem lowCells_back {P : Program} {s : ByteArray} {b : Nat} {w : World} (h : lowCells s b s.size w) (src dst e : TypeId) (cap : Nat) (hs : P.underlying src = some (.slice e)) (he : P.underlying e = some (.int .u8)) (hd : P.underlying dst = some .string) :
    (convert src dst (.slice (some ⟨b, 0, none⟩) s.size cap)).run P w = .ok (.string (lowS s)) w := by
  have hl : ((lowS s).data.toList).length = s.size := lowS_size s
  have := run_convert_bytes_back (P := P) w src dst e ⟨b, 0, none⟩ cap (lowS s).data.toList hs he hd (fun j hj => by
    have hj' : j < s.size := by omega
    rw [add0, h.1 j hj', if_pos hj']
    simp [lowS, low, str]; rfl)
  rw [hl] at this
  rw [this]
end Go.Proofs.Ytmkcjaceglkloab
