/-
  Addresses: what the program's functions on mailboxes, domains and names return. No statement is proved here.
-/
import Derived.Test.YtjnpkmenlecdmabDoorAddrM
import Derived.Test.YtjnpkmenlecdmabDoorSplit
import Derived.Lib.SplitLaws
import Derived.Test.YtjnpkmenlecdmabDoorShelf
namespace Go.Proofs.YtjnpkmenlecdmabDoor
open Go.RowKit

/-! Small lemmas on texts as strings. -/
theorem str_at (l : List UInt8) (k : Nat) (h : k < (str l).size) : (str l)[k] = l[k]'(by rw [str_size] at h; exact h) := by
  rw [← getElem_list (str l) k h]; simp [str]
theorem str_inj {a b : List UInt8} (h : str a = str b) : a = b := by rw [← str_list a, h, str_list]
theorem str_eq_iff (a b : List UInt8) : (str a = str b) ↔ a = b := ⟨str_inj, fun h => by rw [h]⟩
theorem ext_take (s : ByteArray) (k : Nat) : s.extract 0 k = str (s.data.toList.take k) := by
  apply bytes_ext; rw [Lib.extract_data, str_list]; simp
theorem ext_drop (s : ByteArray) (k : Nat) : s.extract k s.size = str (s.data.toList.drop k) := by
  apply bytes_ext
  rw [Lib.extract_data, str_list, List.take_of_length_le (by rw [List.length_drop, size_list]; omega)]
theorem bneq_t {c d : UInt8} (h : c ≠ d) {n : Int} (hn : (d.toNat : Int) = n) : ((c.toNat : Int) != n) = true := by rw [bne, beq_f h hn]; rfl
theorem bneq_f {c d : UInt8} (h : c = d) {n : Int} (hn : (d.toNat : Int) = n) : ((c.toNat : Int) != n) = false := by rw [bne, beq_t h hn]; rfl
theorem own_snoc {B : Nat} {v : Value} {xs : List (List UInt8)} {w : World} {x : ByteArray} (h : w.ownsRow B 9 1 v (xs.length + 1) (xs.map strV ++ [.string x])) : OwnL B v (xs ++ [x.data.toList]) w := by
  have e : strV x.data.toList = .string x := by unfold strV; rw [str_of]
  unfold OwnL
  rw [List.length_append, List.map_append, List.map_cons, e]; exact h
theorem splitK_C (c : UInt8) : ∀ l : List UInt8, Lib.splitK [c] 0 (l.count c) l = splitC c l
  | [] => rfl
  | b :: l => by
    have ih := splitK_C c l
    by_cases h : b = c
    · subst h
      rw [List.count_cons_self, splitC_hit, ← ih]
      have hix : Lib.index (b :: l) [b] = 0 := by rw [Lib.index]; simp [List.isPrefixOf]
      rw [Lib.splitK, hix]
      simp
    · have hp : ([c] : List UInt8).isPrefixOf (b :: l) = false := by simp [List.isPrefixOf]; exact fun e => h e.symm
      have hix : Lib.index (b :: l) [c] = if Lib.index l [c] == -1 then -1 else Lib.index l [c] + 1 := by rw [Lib.index, hp]; simp
      rw [List.count_cons_of_ne (fun e => h e), splitC_skip l h, ← ih]
      cases hk : l.count c with
      | zero => rfl
      | succ k =>
        rw [Lib.splitK, Lib.splitK, hix]
        by_cases hm : Lib.index l [c] = -1
        · rw [hm]; rfl
        · have hge := Lib.index_ge l [c]
          obtain ⟨i, hi⟩ := Int.eq_ofNat_of_zero_le (show 0 ≤ Lib.index l [c] by omega)
          rw [hi]
          have e1 : ((i : Int) == -1) = false := by rw [beq_eq_false_iff_ne]; omega
          rw [e1]
          simp only [Bool.false_eq_true, if_false]
          have e2 : (((i : Int) + 1) == -1) = false := by rw [beq_eq_false_iff_ne]; omega
          rw [e2]
          simp only [Bool.false_eq_true, if_false]
          have e3 : ((i : Int) + 1).toNat = i + 1 := by omega
          have e4 : ((i : Int)).toNat = i := by omega
          rw [e3, e4]
          simp [glue]
def CutsRet (xs : List (List UInt8)) (w : World) (e : Ending) (w' : World) : Prop := ∃ b, e = .returned (.slice (some ⟨b, 0, none⟩) xs.length xs.length) ∧ RdL w' (some ⟨b, 0, none⟩) xs.length xs ∧ Below w.heap.size w w'
theorem splitMx_any (s : ByteArray) (c : UInt8) (w : World) (hmx : ∃ m, w.cell? ⟨1, 0, none⟩ = some (.int .i64 m)) (hs : s.size ≤ 1073741824) :
    Calls Tryd.prog 51 #[.string s, .string ⟨#[c]⟩] w (CutsRet (splitC c s.data.toList) w) := by
  obtain ⟨m, hm⟩ := hmx
  refine (Tryd.strings_Split s ⟨#[c]⟩ m w (by omega) hm (Nat.le_refl 1)).mono ?_
  rintro e w' ⟨rfl, rfl⟩
  have hd : (Lib.splitB ⟨#[c]⟩ 0 (Lib.countB s ⟨#[c]⟩) s).map (·.data.toList) = splitC c s.data.toList := by
    rw [Lib.splitB_data]
    have : Lib.countB s ⟨#[c]⟩ = s.data.toList.count c := Lib.count_one c s.data.toList
    rw [this]; exact splitK_C c _
  have hl : (Lib.splitB ⟨#[c]⟩ 0 (Lib.countB s ⟨#[c]⟩) s).length = Lib.countB s ⟨#[c]⟩ + 1 := Lib.splitB_all ⟨#[c]⟩ (Nat.le_refl 1) 0 _ s rfl
  have hn : (splitC c s.data.toList).length = Lib.countB s ⟨#[c]⟩ + 1 := by rw [← hd, List.length_map, hl]
  refine ⟨w.heap.size, by rw [hn], ⟨rfl, .inr ⟨w.heap.size, 0, rfl, by simp, fun i hi => ?_⟩⟩, (Below.refl _ _).alloc (Nat.le_refl _) _⟩
  rw [World.cell?_alloc_at _ _ _ _ rfl, Nat.zero_add]
  have hi' : i < (Lib.splitB ⟨#[c]⟩ 0 (Lib.countB s ⟨#[c]⟩) s).length := by rw [hl, ← hn]; exact hi
  have e1 : (splitC c s.data.toList)[i] = ((Lib.splitB ⟨#[c]⟩ 0 (Lib.countB s ⟨#[c]⟩) s)[i]'hi').data.toList := by
    simp only [← hd, List.getElem_map]
  rw [e1, str_of]
  simp [List.getElem?_eq_getElem hi']
theorem splitC_small (c : UInt8) : ∀ (l : List UInt8), (splitC c l).length ≤ l.length + 1 ∧ ∀ p ∈ splitC c l, p.length ≤ l.length
  | [] => by simp [splitC]
  | x :: l => by
    have ih := splitC_small c l
    by_cases h : x = c
    · subst h; rw [splitC_hit]; refine ⟨by simp; exact ih.1, fun p hp => ?_⟩
      rcases List.mem_cons.1 hp with e | hp
      · subst e; simp
      · have := ih.2 p hp; simp; omega
    · rw [splitC_skip l h]
      cases hq : splitC c l with
      | nil => simp [glue]
      | cons q qs =>
        rw [hq] at ih
        refine ⟨by have := ih.1; simp [glue] at this ⊢; omega, fun p hp => ?_⟩
        simp only [glue, List.mem_cons] at hp
        rcases hp with e | hp
        · subst e; have := ih.2 q (by simp); simp; omega
        · have := ih.2 p (by simp [hp]); simp; omega
/-- What the functions read of the program's and the library's variables. -/
structure Env (w : World) : Prop where
  tab : Tab w
  mx : ∃ m, w.cell? ⟨1, 0, none⟩ = some (.int .i64 m)
theorem Env.below {w w' : World} (h : Env w) (b : Below w.heap.size w w') : Env w' :=
  ⟨h.tab.below b, by obtain ⟨m, hm⟩ := h.mx; exact ⟨m, by rw [below_at b (lt_of_cell hm)]; exact hm⟩⟩
theorem split_any (s : ByteArray) (c : UInt8) (w : World) (en : Env w) (hs : s.size ≤ 1073741824) :
    Calls Tryd.prog 51 #[.string s, .string ⟨#[c]⟩] w (CutsRet (splitC c s.data.toList) w) := splitMx_any s c w en.mx hs
end Go.Proofs.YtjnpkmenlecdmabDoor
