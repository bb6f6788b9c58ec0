/-
  Codes of bytes: the plain functions on lists of bytes, and that what is written is read back. No statement is proved here.
-/
import Derived.Test.YtjnpkmenlecdmabDoorAddrM
namespace Go.Proofs.YtjnpkmenlecdmabDoor
open Go.RowKit

/-! Letters. -/
def alphaL : List UInt8 := [65, 66, 67, 68, 69, 70, 71, 72, 73, 74, 75, 76, 77, 78, 79, 80, 81, 82, 83, 84, 85, 86, 87, 88, 89, 90, 97, 98, 99, 100, 101, 102, 103, 104, 105, 106, 107, 108, 109, 110, 111, 112, 113, 114, 115, 116, 117, 118, 119, 120, 121, 122, 48, 49, 50, 51, 52, 53, 54, 55, 56, 57, 43, 47]
def l64 (n : Nat) : UInt8 := alphaL.getD n 0
/-- The number of a letter. -/
def i64 (c : UInt8) : Option Nat := if alphaL.idxOf c < 64 then some (alphaL.idxOf c) else none
theorem i64_l64_nat : ∀ n, n < 64 → i64 (l64 n) = some n := by decide +kernel
theorem l64_ne_nat : ∀ n, n < 64 → l64 n ≠ 61 := by decide +kernel
theorem i64_61 : i64 61 = none := by decide +kernel
theorem i64_lt {c : UInt8} {n : Nat} (h : i64 c = some n) : n < 64 := by
  unfold i64 at h; split at h
  · injection h with h; omega
  · cases h
/-- The number that up to three bytes make. -/
def num3 (g : List UInt8) : Nat := (g.getD 0 0).toNat * 65536 + (g.getD 1 0).toNat * 256 + (g.getD 2 0).toNat
theorem num3_lt (g : List UInt8) : num3 g < 16777216 := by
  unfold num3
  have := (g.getD 0 0).toNat_lt; have := (g.getD 1 0).toNat_lt; have := (g.getD 2 0).toNat_lt
  omega
def four (g : List UInt8) : List UInt8 := [l64 (num3 g / 262144 % 64), l64 (num3 g / 4096 % 64), if 2 ≤ g.length then l64 (num3 g / 64 % 64) else 61, if 3 ≤ g.length then l64 (num3 g % 64) else 61]
theorem four_len (g : List UInt8) : (four g).length = 4 := rfl
def b64 : List UInt8 → List UInt8
  | [] => []
  | [a] => four [a]
  | [a, b] => four [a, b]
  | a :: b :: c :: l => four [a, b, c] ++ b64 l
theorem b64_drop : ∀ (l : List UInt8), l ≠ [] → b64 l = four (l.take 3) ++ b64 (l.drop 3)
  | [], h => absurd rfl h
  | [a], _ => by simp [b64]
  | [a, b], _ => by simp [b64]
  | a :: b :: c :: l, _ => by simp [b64]
theorem b64_len : ∀ (l : List UInt8), (b64 l).length = (l.length + 2) / 3 * 4
  | [] => rfl
  | [a] => by simp [b64, four_len]
  | [a, b] => by simp [b64, four_len]
  | a :: b :: c :: l => by
    have ih := b64_len l
    simp only [b64, List.length_append, four_len, List.length_cons, ih]; omega
/-! Reading letters: a number of so many binary digits that are left over, and the bytes so far. -/
def stp (st : Nat × Nat × List UInt8) (v : Nat) : Nat × Nat × List UInt8 :=
  if 8 ≤ st.2.1 + 6 then ((st.1 * 64 + v) % 2 ^ (st.2.1 - 2), st.2.1 - 2, st.2.2 ++ [UInt8.ofNat ((st.1 * 64 + v) / 2 ^ (st.2.1 - 2))]) else (st.1 * 64 + v, st.2.1 + 6, st.2.2)
def rdL : Nat × Nat × List UInt8 → List UInt8 → List UInt8
  | st, [] => st.2.2
  | st, c :: l => match i64 c with | none => st.2.2 | some v => rdL (stp st v) l
theorem rdL_hit {st : Nat × Nat × List UInt8} {c : UInt8} {v : Nat} (l : List UInt8) (h : i64 c = some v) : rdL st (c :: l) = rdL (stp st v) l := by rw [rdL, h]
theorem rdL_stop {st : Nat × Nat × List UInt8} {c : UInt8} (l : List UInt8) (h : i64 c = none) : rdL st (c :: l) = st.2.2 := by rw [rdL, h]
theorem rdL_l64 {st : Nat × Nat × List UInt8} {v : Nat} (l : List UInt8) (h : v < 64) : rdL st (l64 v :: l) = rdL (stp st v) l := rdL_hit l (i64_l64_nat v h)
theorem stp0 (o : List UInt8) (v : Nat) : stp (0, 0, o) v = (v, 6, o) := by simp [stp]
theorem stp6 (n : Nat) (o : List UInt8) (v : Nat) : stp (n, 6, o) v = ((n * 64 + v) % 16, 4, o ++ [UInt8.ofNat ((n * 64 + v) / 16)]) := by simp [stp]
theorem stp4 (n : Nat) (o : List UInt8) (v : Nat) : stp (n, 4, o) v = ((n * 64 + v) % 4, 2, o ++ [UInt8.ofNat ((n * 64 + v) / 4)]) := by simp [stp]
theorem stp2 (n : Nat) (o : List UInt8) (v : Nat) : stp (n, 2, o) v = (0, 0, o ++ [UInt8.ofNat (n * 64 + v)]) := by simp [stp]; omega
theorem byte_of {n : Nat} (a : UInt8) (h : n = a.toNat) : UInt8.ofNat n = a := by rw [h]; exact UInt8.ofNat_toNat
theorem rd_b64 : ∀ (b o : List UInt8), rdL (0, 0, o) (b64 b) = o ++ b
  | [], o => by simp [b64, rdL]
  | [a], o => by
    have ha := a.toNat_lt
    simp only [b64, four, num3, List.getD_cons_zero, List.getD_cons_succ, List.getD_nil, List.length_cons, List.length_nil]
    rw [rdL_l64 _ (by omega), stp0, rdL_l64 _ (by omega), stp6, if_neg (by omega), rdL_stop _ i64_61]
    show o ++ [_] = _
    rw [byte_of a (by first | omega | (simp; omega))]
  | [a, b], o => by
    have ha := a.toNat_lt
    have hb := b.toNat_lt
    simp only [b64, four, num3, List.getD_cons_zero, List.getD_cons_succ, List.getD_nil, List.length_cons, List.length_nil]
    rw [rdL_l64 _ (by omega), stp0, rdL_l64 _ (by omega), stp6, if_pos (by omega), rdL_l64 _ (by omega), stp4, if_neg (by omega), rdL_stop _ i64_61]
    show o ++ [_] ++ [_] = _
    rw [byte_of a (by first | omega | (simp; omega)), byte_of b (by first | omega | (simp; omega))]; simp
  | a :: b :: c :: l, o => by
    have ha := a.toNat_lt
    have hb := b.toNat_lt
    have hc := c.toNat_lt
    simp only [b64, four, num3, List.getD_cons_zero, List.getD_cons_succ, List.length_cons, List.length_nil, List.cons_append, List.nil_append]
    rw [rdL_l64 _ (by omega), stp0, rdL_l64 _ (by omega), stp6, if_pos (by omega), rdL_l64 _ (by omega), stp4, if_pos (by omega), rdL_l64 _ (by omega), stp2, rd_b64 l]
    rw [byte_of a (by omega), byte_of b (by omega), byte_of c (by omega)]; simp
/-- The bytes whose letters these are. -/
def dB (s : List UInt8) : Option (List UInt8) := if b64 (rdL (0, 0, []) s) = s then some (rdL (0, 0, []) s) else none
theorem dB_b64 (b : List UInt8) : dB (b64 b) = some b := by
  unfold dB; rw [rd_b64, List.nil_append, if_pos rfl]
theorem dB_some {s b : List UInt8} (h : dB s = some b) : b64 b = s := by
  unfold dB at h; split at h
  · rename_i h2; injection h with h; rw [← h]; exact h2
  · cases h
theorem dB_none {s : List UInt8} (h : ∀ b, b64 b ≠ s) : dB s = none := by
  unfold dB; rw [if_neg (h _)]
/-! The model's way to read four letters. -/
def u4 (last : Bool) (k : Nat) (st : Option (Nat × Nat)) (c : UInt8) : Option (Nat × Nat) :=
  st.bind fun x => if c = 61 ∧ 2 ≤ k ∧ last = true then some (x.1 * 64, x.2 + 1) else if 0 < x.2 then none else (i64 c).map fun d => (x.1 * 64 + d, x.2)
def un4 (last : Bool) (a b c d : UInt8) : Option (Nat × Nat) := u4 last 3 (u4 last 2 (u4 last 1 (u4 last 0 (some (0, 0)) a) b) c) d
def bytes3 (x : Nat × Nat) : List UInt8 := [UInt8.ofNat (x.1 / 65536), UInt8.ofNat (x.1 / 256 % 256), UInt8.ofNat (x.1 % 256)].take (3 - x.2)
def mdB : List UInt8 → Option (List UInt8)
  | [] => some []
  | a :: b :: c :: d :: l => match un4 l.isEmpty a b c d with | none => none | some x => (mdB l).map (bytes3 x ++ ·)
  | _ => none
theorem u4_l64 (last : Bool) (k n v : Nat) (h : v < 64) : u4 last k (some (n, 0)) (l64 v) = some (n * 64 + v, 0) := by
  unfold u4
  simp only [Option.bind_some]
  rw [if_neg (fun e => l64_ne_nat v h e.1), if_neg (by omega), i64_l64_nat v h]; rfl
theorem u4_fill (k n f : Nat) (h : 2 ≤ k) : u4 true k (some (n, f)) 61 = some (n * 64, f + 1) := by
  unfold u4
  simp [h]
theorem mdB_b64 : ∀ b : List UInt8, mdB (b64 b) = some b
  | [] => rfl
  | [a] => by
    have ha := a.toNat_lt
    simp only [b64, four, num3, List.getD_cons_zero, List.getD_cons_succ, List.getD_nil, List.length_cons, List.length_nil]
    rw [if_neg (by omega), if_neg (by omega)]
    simp only [mdB, un4, List.isEmpty_nil]
    rw [u4_l64 _ _ _ _ (by omega), u4_l64 _ _ _ _ (by omega), u4_fill _ _ _ (by omega), u4_fill _ _ _ (by omega)]
    simp only [bytes3, Option.map_some]
    rw [byte_of a (by first | omega | (simp; omega))]; rfl
  | [a, b] => by
    have ha := a.toNat_lt
    have hb := b.toNat_lt
    simp only [b64, four, num3, List.getD_cons_zero, List.getD_cons_succ, List.getD_nil, List.length_cons, List.length_nil]
    rw [if_pos (by omega), if_neg (by omega)]
    simp only [mdB, un4, List.isEmpty_nil]
    rw [u4_l64 _ _ _ _ (by omega), u4_l64 _ _ _ _ (by omega), u4_l64 _ _ _ _ (by omega), u4_fill _ _ _ (by omega)]
    simp only [bytes3, Option.map_some]
    rw [byte_of a (by first | omega | (simp; omega)), byte_of b (by first | omega | (simp; omega))]; rfl
  | a :: b :: c :: l => by
    have ha := a.toNat_lt
    have hb := b.toNat_lt
    have hc := c.toNat_lt
    simp only [b64, four, num3, List.getD_cons_zero, List.getD_cons_succ, List.length_cons, List.length_nil, List.cons_append, List.nil_append]
    rw [if_pos (by omega), if_pos (by omega)]
    simp only [mdB, un4]
    rw [u4_l64 _ _ _ _ (by omega), u4_l64 _ _ _ _ (by omega), u4_l64 _ _ _ _ (by omega), u4_l64 _ _ _ _ (by omega), mdB_b64 l]
    simp only [bytes3, Option.map_some]
    rw [byte_of a (by omega), byte_of b (by omega), byte_of c (by omega)]; rfl
/-- What the model's reader gives is what the program's gives. -/
theorem dB_of_mdB_none {s : List UInt8} (h : mdB s = none) : dB s = none := dB_none fun b e => by rw [← e, mdB_b64] at h; cases h
theorem dB_of_mdB_some {s o : List UInt8} (h : mdB s = some o) : dB s = if b64 o = s then some o else none := by
  split
  · rename_i h2; rw [← h2]; exact dB_b64 o
  · rename_i h2; exact dB_none fun b e => by
      rw [← e, mdB_b64] at h; injection h with h; subst h; exact h2 e
/-! Lines of letters. -/
def chopF : Nat → List UInt8 → List (List UInt8)
  | 0, l => [l]
  | n + 1, l => if 40 < l.length then l.take 40 :: chopF n (l.drop 40) else [l]
theorem chopF_fuel : ∀ (n m : Nat) (l : List UInt8), l.length ≤ n → l.length ≤ m → chopF n l = chopF m l
  | 0, 0, _, _, _ => rfl
  | 0, m + 1, l, h, _ => by rw [chopF, chopF, if_neg (by omega)]
  | n + 1, 0, l, _, h => by rw [chopF, chopF, if_neg (by omega)]
  | n + 1, m + 1, l, h, h2 => by
    rw [chopF, chopF]
    by_cases h40 : 40 < l.length
    · rw [if_pos h40, if_pos h40, chopF_fuel n m _ (by rw [List.length_drop]; omega) (by rw [List.length_drop]; omega)]
    · rw [if_neg h40, if_neg h40]
def chop (l : List UInt8) : List (List UInt8) := chopF l.length l
theorem chop_short {l : List UInt8} (h : l.length ≤ 40) : chop l = [l] := by
  unfold chop
  cases hl : l.length with
  | zero => rfl
  | succ n => rw [chopF, if_neg (by omega)]
theorem chop_long {l : List UInt8} (h : 40 < l.length) : chop l = l.take 40 :: chop (l.drop 40) := by
  unfold chop
  obtain ⟨n, hn⟩ : ∃ n, l.length = n + 1 := ⟨l.length - 1, by omega⟩
  rw [hn, chopF, if_pos h, chopF_fuel n _ _ (by rw [List.length_drop]; omega) (Nat.le_refl _)]
theorem chop_flat : ∀ (n : Nat) (l : List UInt8), l.length ≤ n → (chop l).flatten = l
  | n, l, h => by
    by_cases h40 : 40 < l.length
    · match n, h with
      | 0, h => omega
      | n + 1, h =>
        rw [chop_long h40, List.flatten_cons, chop_flat n _ (by rw [List.length_drop]; omega), List.take_append_drop]
    · rw [chop_short (by omega)]; simp
theorem chop_count : ∀ (n : Nat) (l : List UInt8), l.length ≤ n → (chop l).length ≤ n + 1 ∧ ∀ x ∈ chop l, x.length ≤ 40
  | n, l, h => by
    by_cases h40 : 40 < l.length
    · match n, h with
      | 0, h => omega
      | n + 1, h =>
        have ih := chop_count n (l.drop 40) (by rw [List.length_drop]; omega)
        rw [chop_long h40]
        refine ⟨by rw [List.length_cons]; omega, fun x hx => ?_⟩
        rcases List.mem_cons.1 hx with e | e
        · rw [e, List.length_take]; omega
        · exact ih.2 x e
    · rw [chop_short (by omega)]
      refine ⟨by simp, fun x hx => ?_⟩
      simp at hx; rw [hx]; omega
def encB (b : List UInt8) : Option (List (List UInt8)) := if b.length ≤ 300 then some (chop (b64 b)) else none
def lim (o : Option (List UInt8)) : Option (List UInt8) := match o with | some b => if b.length ≤ 300 then some b else none | none => none
def decB (ls : List (List UInt8)) : Option (List UInt8) := lim (dB ls.flatten)
theorem lim_some {o : Option (List UInt8)} {b : List UInt8} (h : lim o = some b) : o = some b ∧ b.length ≤ 300 := by
  unfold lim at h
  cases o with
  | none => cases h
  | some c =>
    dsimp only at h
    split at h
    · rename_i h2; injection h with h; subst h; exact ⟨rfl, h2⟩
    · cases h
theorem lim_in {b : List UInt8} (h : b.length ≤ 300) : lim (some b) = some b := by unfold lim; dsimp only; rw [if_pos h]
theorem lim_out {b : List UInt8} (h : 300 < b.length) : lim (some b) = none := by unfold lim; dsimp only; rw [if_neg (by omega)]
theorem decB_long {ls : List (List UInt8)} (h : 400 < ls.flatten.length) : decB ls = none := by
  unfold decB
  cases hd : dB ls.flatten with
  | none => rfl
  | some b =>
    have := b64_len b
    rw [dB_some hd] at this
    exact lim_out (by omega)
theorem decB_encB {b : List UInt8} (h : b.length ≤ 300) : decB (chop (b64 b)) = some b := by
  unfold decB; rw [chop_flat _ _ (Nat.le_refl _), dB_b64, lim_in h]
theorem decB_back {ls : List (List UInt8)} {b : List UInt8} (h : decB ls = some b) : encB b = some (chop ls.flatten) ∧ (chop (b64 b)).flatten = ls.flatten ∧ b.length ≤ 300 := by
  obtain ⟨h1, h2⟩ := lim_some h
  have h3 := dB_some h1
  refine ⟨by unfold encB; rw [if_pos h2, h3], by rw [chop_flat _ _ (Nat.le_refl _), h3], h2⟩
end Go.Proofs.YtjnpkmenlecdmabDoor
