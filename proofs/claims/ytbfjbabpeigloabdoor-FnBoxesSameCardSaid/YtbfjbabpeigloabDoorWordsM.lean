/-
  Words: the plain functions on lists of bytes that the program's functions of chapter 1 compute. No statement is proved here.
-/
import Derived.Test.YtbfjbabpeigloabDoorBase
namespace Go.Proofs.YtbfjbabpeigloabDoor
open Go.RowKit

def okB (c : UInt8) : Bool := decide (32 ≤ c.toNat) && decide (c.toNat ≤ 126)
theorem okB_t {c : UInt8} (h : okB c = true) : ¬ ((c.toNat : Int) < 32) ∧ ¬ ((126 : Int) < (c.toNat : Int)) := by
  unfold okB at h; simp at h; omega
theorem okB_f {c : UInt8} (h : okB c = false) : ((c.toNat : Int) < 32) ∨ ((126 : Int) < (c.toNat : Int)) := by
  unfold okB at h; simp at h; omega
def isText (l : List UInt8) : Bool := decide (l.length ≤ 200) && l.all okB
theorem isText_long (s : ByteArray) (h : 200 < s.size) : isText s.data.toList = false := by
  unfold isText; have := size_list s; simp; omega
theorem isText_bad (s : ByteArray) (k : Nat) (hk : k < s.size) (h : okB s[k] = false) : isText s.data.toList = false := by
  have hm : s[k] ∈ s.data.toList := by simp [ByteArray.getElem_eq_getElem_data]
  unfold isText
  rw [Bool.and_eq_false_iff]; right
  rw [List.all_eq_false]; exact ⟨_, hm, by simp [h]⟩
theorem isText_good (s : ByteArray) (h0 : s.size ≤ 200) (h : ∀ j, (h' : j < s.size) → okB s[j] = true) : isText s.data.toList = true := by
  unfold isText
  have := size_list s
  rw [Bool.and_eq_true]; refine ⟨by simp; omega, ?_⟩
  rw [List.all_eq_true]; intro x hx
  obtain ⟨j, hj, rfl⟩ := List.getElem_of_mem hx
  exact h j hj
def capB (c : UInt8) : Bool := decide (65 ≤ c.toNat) && decide (c.toNat ≤ 90)
def lowB (c : UInt8) : UInt8 := if capB c then c + 32 else c
def low (l : List UInt8) : List UInt8 := l.map lowB
def lowS (s : ByteArray) : ByteArray := str (low s.data.toList)
theorem lowS_size (s : ByteArray) : (lowS s).size = s.size := by simp [lowS, low, str_size]
theorem lowS_at (s : ByteArray) (j : Nat) (h : j < s.size) : (lowS s)[j]'(by rw [lowS_size]; exact h) = lowB s[j] := by
  show (lowS s).data.toList[j]'(by rw [size_list, lowS_size]; exact h) = lowB (s.data.toList[j]'(by rw [size_list]; exact h))
  simp [lowS, low, str]
theorem lowS_list (s : ByteArray) : (lowS s).data.toList = low s.data.toList := str_list _
theorem capB_t {c : UInt8} (h : capB c = true) : (65 : Int) ≤ c.toNat ∧ (c.toNat : Int) ≤ 90 := by unfold capB at h; simp at h; omega
theorem capB_f {c : UInt8} (h : capB c = false) : (c.toNat : Int) < 65 ∨ (65 ≤ (c.toNat : Int) ∧ 90 < (c.toNat : Int)) := by unfold capB at h; simp at h; omega
theorem lowB_t {c : UInt8} (h : capB c = true) : (c.toNat : Int) + 32 = (lowB c).toNat := by
  have := capB_t h; unfold lowB; rw [if_pos h, UInt8.toNat_add]; simp; omega
theorem lowB_t' {c : UInt8} (h : capB c = true) : (c.toNat : Int) - 65 + 97 = (lowB c).toNat := by
  rw [← lowB_t h]; omega
theorem lowB_f {c : UInt8} (h : capB c = false) : lowB c = c := by
  unfold lowB; rw [if_neg (by simp [h])]
theorem lowB_low (c : UInt8) : lowB (lowB c) = lowB c := by
  cases h : capB c
  · rw [lowB_f h, lowB_f h]
  · have h2 := lowB_t h
    have h3 := capB_t h
    apply lowB_f; unfold capB; simp; omega
theorem low_low (l : List UInt8) : low (low l) = low l := by
  simp only [low, List.map_map]; exact List.map_congr_left (fun c _ => lowB_low c)
theorem lowS_lowS (s : ByteArray) : lowS (lowS s) = lowS s := by
  unfold lowS; rw [str_list, low_low]
/-- The cells of a row of bytes that is made small up to place k. -/
def lowCells (s : ByteArray) (b k : Nat) (wr : World) : Prop :=
  (∀ j, (h : j < s.size) → wr.cell? ⟨b, j, none⟩ = some (.int .u8 ((if j < k then lowB s[j] else s[j]).toNat : Int))) ∧ (∀ j, j < s.size → wr.frozen? ⟨b, j, none⟩ = false)
theorem lowCells_start (s : ByteArray) (w : World) (cap : Nat) (t : TypeId) : lowCells s w.heap.size 0 (w.alloc (.cells (bytesRow s cap) t ((bytesRow s cap).size, (bytesRow s cap).size + 1))) := by
  refine ⟨fun j h => ?_, fun j h => ?_⟩
  · rw [World.cell?_alloc_mark, bytesRow_at s cap j h]; simp; rfl
  · rw [World.frozen?_alloc_mark]; simp [bytesRow]; intro _; omega
theorem lowCells_drew {s : ByteArray} {b k : Nat} {w : World} (h : lowCells s b k w) : lowCells s b k w.drew := h
theorem lowCells_keep {s : ByteArray} {b k : Nat} {w : World} (h : lowCells s b k w) (hk : k < s.size) (hc : capB s[k] = false) : lowCells s b (k + 1) w := by
  refine ⟨fun j hj => ?_, h.2⟩
  rw [h.1 j hj]
  by_cases e : j = k
  · subst e; rw [if_neg (Nat.lt_irrefl _), if_pos (by omega), lowB_f hc]
  · by_cases e2 : j < k
    · rw [if_pos e2, if_pos (by omega)]
    · rw [if_neg e2, if_neg (by omega)]
theorem lowCells_set {s : ByteArray} {b k : Nat} {w : World} (h : lowCells s b k w) (hk : k < s.size) (v : Int) (hv : v = (lowB s[k]).toNat) : lowCells s b (k + 1) (w.setCell ⟨b, k, none⟩ (.int .u8 v)) := by
  refine ⟨fun j hj => ?_, fun j hj => ?_⟩
  · by_cases e : j = k
    · subst e; rw [cell_same (h.1 j hk), if_pos (by omega), hv]
    · rw [cell_off (fun he => e he.symm), h.1 j hj]
      by_cases e2 : j < k
      · rw [if_pos e2, if_pos (by omega)]
      · rw [if_neg e2, if_neg (by omega)]
  · rw [World.frozen?_setCell]; exact h.2 j hj
theorem lowCells_back {P : Program} {s : ByteArray} {b : Nat} {w : World} (h : lowCells s b s.size w) (src dst e : TypeId) (cap : Nat) (hs : P.underlying src = some (.slice e)) (he : P.underlying e = some (.int .u8)) (hd : P.underlying dst = some .string) :
    (convert src dst (.slice (some ⟨b, 0, none⟩) s.size cap)).run P w = .ok (.string (lowS s)) w := by
  have hl : ((lowS s).data.toList).length = s.size := lowS_size s
  have := run_convert_bytes_back (P := P) w src dst e ⟨b, 0, none⟩ cap (lowS s).data.toList hs he hd (fun j hj => by
    have hj' : j < s.size := by omega
    rw [add0, h.1 j hj', if_pos hj']
    simp [lowS, low, str]; rfl)
  rw [hl] at this
  rw [this]
/-! Atoms. -/
def alnumB (c : UInt8) : Bool := (decide (97 ≤ c.toNat) && decide (c.toNat ≤ 122)) || (decide (65 ≤ c.toNat) && decide (c.toNat ≤ 90)) || (decide (48 ≤ c.toNat) && decide (c.toNat ≤ 57))
def digB (c : UInt8) : Bool := decide (48 ≤ c.toNat) && decide (c.toNat ≤ 57)
def smallB (c : UInt8) : Bool := decide (97 ≤ c.toNat) && decide (c.toNat ≤ 122)
def letB (c : UInt8) : Bool := capB c || (decide (97 ≤ c.toNat) && decide (c.toNat ≤ 122))
theorem alnum_eq (c : UInt8) : alnumB c = (letB c || digB c) := by
  unfold alnumB letB digB capB; cases decide (97 ≤ c.toNat) && decide (c.toNat ≤ 122) <;> cases decide (65 ≤ c.toNat) && decide (c.toNat ≤ 90) <;> simp
def marks : List (Nat × Nat) := [(33, 33), (35, 39), (42, 43), (45, 45), (47, 47), (61, 61), (63, 63), (94, 96), (123, 126)]
def markLo (k : Nat) : Nat := (marks.getD k (0, 0)).1
def markHi (k : Nat) : Nat := (marks.getD k (0, 0)).2
def hitB (c : UInt8) (k : Nat) : Bool := decide (markLo k ≤ c.toNat) && decide (c.toNat ≤ markHi k)
def atomB (c : UInt8) : Bool := alnumB c || (List.range 9).any (hitB c)
theorem mark_small (k : Nat) : markLo k ≤ 255 ∧ markHi k ≤ 255 := by
  unfold markLo markHi
  by_cases h : k < 9
  · rcases (by omega : k = 0 ∨ k = 1 ∨ k = 2 ∨ k = 3 ∨ k = 4 ∨ k = 5 ∨ k = 6 ∨ k = 7 ∨ k = 8) with rfl | rfl | rfl | rfl | rfl | rfl | rfl | rfl | rfl <;> decide
  · rw [List.getD_eq_getElem?_getD, List.getElem?_eq_none (by simp [marks]; omega)]; decide
def signs : List UInt8 := [33, 35, 36, 37, 38, 39, 42, 43, 45, 47, 61, 63, 94, 95, 96, 123, 124, 125, 126]
theorem atom_signs_nat : ∀ n, n < 256 → ((List.range 9).any (hitB (UInt8.ofNat n))) = signs.contains (UInt8.ofNat n) := by decide +kernel
theorem atom_signs (c : UInt8) : atomB c = (signs.contains c || alnumB c) := by
  have h := atom_signs_nat c.toNat c.toNat_lt
  rw [UInt8.ofNat_toNat] at h
  unfold atomB; rw [h, Bool.or_comm]
theorem atom_hit {c : UInt8} {k : Nat} (hk : k < 9) (h : hitB c k = true) : atomB c = true := by
  unfold atomB; rw [Bool.or_eq_true]; right; rw [List.any_eq_true]; exact ⟨k, List.mem_range.2 hk, h⟩
theorem atom_none {c : UInt8} (ha : alnumB c = false) (h : ∀ j, j < 9 → hitB c j = false) : atomB c = false := by
  unfold atomB; rw [ha, Bool.false_or, List.any_eq_false]; intro j hj; rw [h j (List.mem_range.1 hj)]; decide
theorem atom_okB_nat : ∀ n, n < 256 → atomB (UInt8.ofNat n) = true → okB (UInt8.ofNat n) = true ∧ n ≠ 32 ∧ n ≠ 34 ∧ n ≠ 92 := by decide +kernel
theorem atom_okB {c : UInt8} (h : atomB c = true) : okB c = true ∧ c.toNat ≠ 32 ∧ c.toNat ≠ 34 ∧ c.toNat ≠ 92 := by
  have := atom_okB_nat c.toNat c.toNat_lt; rw [UInt8.ofNat_toNat] at this; exact this h
def isAtom (l : List UInt8) : Bool := decide (1 ≤ l.length) && (decide (l.length ≤ 40) && l.all atomB)
/-- The first place from k on (at most the length) whose byte p does not take. -/
def run (p : UInt8 → Bool) : List UInt8 → Nat
  | [] => 0
  | c :: l => if p c then run p l + 1 else 0
theorem run_le (p : UInt8 → Bool) : ∀ l, run p l ≤ l.length
  | [] => Nat.le_refl _
  | c :: l => by unfold run; have := run_le p l; split <;> simp <;> omega
end Go.Proofs.YtbfjbabpeigloabDoor
