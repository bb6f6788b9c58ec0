/-
  Lines with points: the library's cutting and prefixes in plain words, and rows of bytes. No statement is proved here.
-/
import Derived.Test.YtnlnkcjphioehabLinM
import Derived.Test.YtnlnkcjphioehabNamB
import Derived.Test.YtnlnkcjphioehabRowS
import Derived.Laws.AppendOwn
import Derived.Laws.OwnMore
namespace Go.Proofs.Ytnlnkcjphioehab
open Go.RowKit

theorem beqW_t {c d : UInt8} (h : c = d) {n : Int} (hn : (d.toNat : Int) = n) : ((c.toNat : Int) == n) = true := by rw [h, hn]; simp
theorem beqW_f {c d : UInt8} (h : c ≠ d) {n : Int} (hn : (d.toNat : Int) = n) : ((c.toNat : Int) == n) = false := by
  rw [← hn, beq_eq_false_iff_ne]; intro e; exact h (UInt8.toNat_inj.1 (by omega))
theorem bneW_t {c d : UInt8} (h : c ≠ d) {n : Int} (hn : (d.toNat : Int) = n) : ((c.toNat : Int) != n) = true := by rw [bne, beqW_f h hn]; rfl
theorem bneW_f {c d : UInt8} (h : c = d) {n : Int} (hn : (d.toNat : Int) = n) : ((c.toNat : Int) != n) = false := by rw [bne, beqW_t h hn]; rfl
theorem str_appW (a b : List UInt8) : str a ++ str b = str (a ++ b) := by apply bytes_ext; rw [Joins.data_append, str_list, str_list, str_list]
theorem str_beq (l : List UInt8) (s : ByteArray) : ((str l).toList == s.toList) = decide (l = s.data.toList) := by
  rw [beq_dec, decide_eq_decide]
  exact ⟨fun h => by rw [← h, str_list], fun h => by rw [h, str_of]⟩
theorem s_beq (s t : ByteArray) : (s.toList == t.toList) = decide (s.data.toList = t.data.toList) := by
  rw [beq_dec, decide_eq_decide]
  exact ⟨fun h => by rw [h], fun h => bytes_ext h⟩
theorem preW_iff (l p : List UInt8) : Lib.hasPrefix l p = true ↔ ∃ m, l = p ++ m := by
  unfold Lib.hasPrefix; rw [List.isPrefixOf_iff_prefix]
  exact ⟨fun ⟨m, h⟩ => ⟨m, h.symm⟩, fun ⟨m, h⟩ => ⟨m, h.symm⟩⟩
theorem pre_46 (l : List UInt8) : Lib.hasPrefix l [46] = decide (l.head? = some 46) := by
  rw [Bool.eq_iff_iff, preW_iff, decide_eq_true_iff]
  cases l with
  | nil => simp
  | cons a r =>
    simp
theorem dr0 (w : World) : w.drewN 0 = w := rfl
theorem below_dr {B : Nat} {a w : World} (h : Below B a w) (n : Nat) : Below B a (w.drewN n) := ⟨h.os, h.tape, h.output, h.size, h.block⟩
/-- The library's own variable is laid. -/
def MxL (w : World) : Prop := ∃ m, w.cell? ⟨0, 0, none⟩ = some (.int .i64 m)
theorem MxL.below {w u : World} (h : MxL w) (b : Below w.heap.size w u) : MxL u := by
  obtain ⟨m, hm⟩ := h
  exact ⟨m, by rw [below_at b (lt_of_cell hm), hm]⟩
theorem MxL.at {B : Nat} {w u : World} (h : MxL w) (hB : B = w.heap.size) (b : Below B w u) : MxL u := by subst hB; exact h.below b
theorem cutW_none_any (s : ByteArray) (w : World) (hmx : MxL w) (hs : s.size ≤ 1073741824) (h : cutW s.data.toList = none) :
    Calls Try.prog 30 #[.string s, .string ⟨#[13, 10]⟩] w fun e w' => e = .returned (.tuple #[.string s, .string ⟨#[]⟩, .bool false]) ∧ ∃ n, w' = w.drewN n := by
  obtain ⟨m, hm⟩ := hmx
  refine (Try.strings_Cut s ⟨#[13, 10]⟩ m w (by omega) hm).mono ?_
  rintro e w' ⟨rfl, n, rfl⟩
  refine ⟨?_, n, rfl⟩
  rw [show (⟨#[13, 10]⟩ : ByteArray).data.toList = [13, 10] from rfl, cut_lib, h]
theorem cutW_some_any (s : ByteArray) (l t : List UInt8) (w : World) (hmx : MxL w) (hs : s.size ≤ 1073741824) (h : cutW s.data.toList = some (l, t)) :
    Calls Try.prog 30 #[.string s, .string ⟨#[13, 10]⟩] w fun e w' => e = .returned (.tuple #[.string (str l), .string (str t), .bool true]) ∧ ∃ n, w' = w.drewN n := by
  obtain ⟨m, hm⟩ := hmx
  refine (Try.strings_Cut s ⟨#[13, 10]⟩ m w (by omega) hm).mono ?_
  rintro e w' ⟨rfl, n, rfl⟩
  refine ⟨?_, n, rfl⟩
  rw [show (⟨#[13, 10]⟩ : ByteArray).data.toList = [13, 10] from rfl, cut_lib, h]
  rfl
theorem hasPre46_any (s : ByteArray) (w : World) : Calls Try.prog 36 #[.string s, .string ⟨#[46]⟩] w fun e w' => e = .returned (.bool (decide (s.data.toList.head? = some 46))) ∧ w' = w := by
  refine (Try.strings_HasPrefix s ⟨#[46]⟩ w).mono ?_
  rintro e w' ⟨rfl, rfl⟩
  exact ⟨ret_bool (pre_46 _), rfl⟩
theorem trimPre46_any (s : ByteArray) (w : World) : Calls Try.prog 38 #[.string s, .string ⟨#[46]⟩] w fun e w' => e = .returned (.string (str (unP s.data.toList))) ∧ w' = w := by
  refine (Try.strings_TrimPrefix s ⟨#[46]⟩ w).mono ?_
  rintro e w' ⟨rfl, rfl⟩
  refine ⟨ret_str ?_, rfl⟩
  show str (Lib.trimPrefix s.data.toList [46]) = _
  congr 1
  unfold Lib.trimPrefix unP
  rw [pre_46]
  by_cases h : s.data.toList.head? = some 46
  · rw [decide_eq_true h, if_pos h]
    cases s.data.toList <;> simp
  · rw [decide_eq_false h, if_neg h]; rfl
/-- Bytes in a row of the call's own. -/
def RowB (B : Nat) (v : Value) (l : List UInt8) (w : World) : Prop := w.ownsRow B 5 1 v l.length (Lib.byteCells l)
theorem RowB.empty (w : World) : RowB w.heap.size (.slice (some ⟨w.heap.size, 0, none⟩) 0 0) [] (w.alloc (.cells #[] 5)) :=
  ⟨rfl, .inr ⟨w.heap.size, 0, #[], rfl, Nat.le_refl _, by show (w.heap.push _)[w.heap.size]? = _; simp, Nat.le_refl _, by unfold maxLen; omega, rfl, rfl⟩⟩
theorem RowB.more {B : Nat} {v' : Value} {l m : List UInt8} {w' : World} (h : w'.ownsRow B 5 1 v' (l.length + m.length) (Lib.byteCells l ++ Lib.byteCells m)) : RowB B v' (l ++ m) w' := by
  unfold RowB
  have e : Lib.byteCells (l ++ m) = Lib.byteCells l ++ Lib.byteCells m := by simp [Lib.byteCells]
  rw [e, List.length_append]; exact h
theorem RowB.back {B : Nat} {v : Value} {l : List UInt8} {w : World} (h : RowB B v l w) (src dst e : TypeId) (hs : Try.prog.underlying src = some (.slice e)) (he : Try.prog.underlying e = some (.int .u8)) (hd : Try.prog.underlying dst = some .string) :
    (convert src dst v).run Try.prog w = .ok (.string (str l)) w := by
  have ho := h
  unfold RowB at ho
  rcases h.2 with ⟨hv, h0⟩ | ⟨g, cap, cur, hv, _⟩
  · subst hv
    have : l = [] := List.length_eq_zero_iff.1 h0
    subst this
    rw [run_convert_bytes_string w src dst e none 0 0 hs he hd]; rfl
  · subst hv
    exact run_convert_bytes_back (P := Try.prog) w src dst e ⟨g, 0, none⟩ cap l hs he hd (fun j hj => by
      have := ho.cells (g := g) rfl j (.int .u8 (l[j].toNat : Int)) (by simp [Lib.byteCells, hj])
      exact this)
end Go.Proofs.Ytnlnkcjphioehab
