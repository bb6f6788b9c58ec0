/-
  Dates as texts: the plain functions on lists of bytes, and that what is written is read back. No statement is proved here.
-/
import Derived.Test.YtboopbjdehdhgaaGreatDoorDateW
import Derived.Test.YtboopbjdehdhgaaGreatDoorFieldM
import Derived.Lib.Fields
import Derived.Lib.ItoaNum
namespace Go.Proofs.YtboopbjdehdhgaaGreatDoor
open Go.RowKit

/-! Writing. -/
def dgt (n : Nat) : UInt8 := UInt8.ofNat (48 + n)
def two (n : Int) : List UInt8 := [dgt (n.toNat / 10), dgt (n.toNat % 10)]
def moL : List (List UInt8) := [[74, 97, 110], [70, 101, 98], [77, 97, 114], [65, 112, 114], [77, 97, 121], [74, 117, 110], [74, 117, 108], [65, 117, 103], [83, 101, 112], [79, 99, 116], [78, 111, 118], [68, 101, 99]]
def moN (m : Int) : List UInt8 := moL.getD (m - 1).toNat []
def dayT (D : Dat) : List UInt8 := Lib.decDigits D.d.toNat
def yearT (D : Dat) : List UInt8 := Lib.decDigits D.y.toNat
def clockT (D : Dat) : List UInt8 := two D.h ++ 58 :: (two D.mi ++ 58 :: two D.s)
def zoneT (z : Int) : List UInt8 := (if z < 0 then 45 else 43) :: (two ((z.natAbs / 60 : Nat) : Int) ++ two ((z.natAbs % 60 : Nat) : Int))
def restT (D : Dat) : List UInt8 := dayT D ++ 32 :: (moN D.mo ++ 32 :: (yearT D ++ 32 :: (clockT D ++ 32 :: zoneT D.z)))
def dateT (D : Dat) : List UInt8 := wdayT D ++ 44 :: 32 :: restT D
def dateF (D : Dat) : List UInt8 := if OkDate D then dateT D else []
theorem dateF_ok {D : Dat} (h : OkDate D) : dateF D = dateT D := if_pos h
theorem dateF_no {D : Dat} (h : ¬ OkDate D) : dateF D = [] := if_neg h
theorem moL_len (i : Nat) (hi : i < 12) : (moL.getD i []).length = 3 := by
  have : ∀ i, i < 12 → (moL.getD i []).length = 3 := by decide
  exact this i hi

/-! Reading numbers. -/
def numF (a : Nat) (l : List UInt8) : Nat := l.foldl (fun n c => 10 * n + (c.toNat - 48)) a
def numL (l : List UInt8) : Nat := numF 0 l
theorem numF_nil (a : Nat) : numF a [] = a := rfl
theorem numF_cons (a : Nat) (c : UInt8) (l : List UInt8) : numF a (c :: l) = numF (10 * a + (c.toNat - 48)) l := by unfold numF; rw [List.foldl_cons]
theorem numF_app (a : Nat) (l m : List UInt8) : numF a (l ++ m) = numF (numF a l) m := List.foldl_append
theorem numL_snoc (l : List UInt8) (c : UInt8) : numL (l ++ [c]) = 10 * numL l + (c.toNat - 48) := numF_app 0 l [c]
/-- A number of a to b digits. -/
def num? (l : List UInt8) (a b : Nat) : Option Nat := if a ≤ l.length ∧ l.length ≤ b ∧ l.all digB = true then some (numL l) else none
theorem digB_iff {c : UInt8} : digB c = true ↔ 48 ≤ c.toNat ∧ c.toNat ≤ 57 := by unfold digB; simp
theorem dgt_nat {n : Nat} (h : n < 10) : (dgt n).toNat = 48 + n := by unfold dgt; rw [UInt8.toNat_ofNat']; omega
theorem dgt_dig {n : Nat} (h : n < 10) : digB (dgt n) = true := digB_iff.2 (by rw [dgt_nat h]; omega)
theorem numF_lt : ∀ (l : List UInt8) (a : Nat), l.all digB = true → numF a l < (a + 1) * 10 ^ l.length
  | [], a, _ => by simp [numF_nil]
  | c :: l, a, h => by
    rw [List.all_cons, Bool.and_eq_true] at h
    have h1 := digB_iff.1 h.1
    have ih := numF_lt l (10 * a + (c.toNat - 48)) h.2
    rw [numF_cons, List.length_cons, Nat.pow_succ]
    have h2 : (10 * a + (c.toNat - 48) + 1) * 10 ^ l.length ≤ (10 * (a + 1)) * 10 ^ l.length := Nat.mul_le_mul_right _ (by omega)
    have h3 : (a + 1) * (10 ^ l.length * 10) = (10 * (a + 1)) * 10 ^ l.length := by rw [Nat.mul_comm (10 ^ l.length) 10, ← Nat.mul_assoc, Nat.mul_comm (a + 1) 10]
    rw [h3]; exact Nat.lt_of_lt_of_le ih h2
theorem numL_lt (l : List UInt8) (k : Nat) (hk : l.length ≤ k) (h : l.all digB = true) : numL l < 10 ^ k := by
  have h1 := numF_lt l 0 h
  have h2 : 10 ^ l.length ≤ 10 ^ k := Nat.pow_le_pow_right (by decide) hk
  unfold numL; omega
theorem num?_lt {l : List UInt8} {a b n : Nat} (h : num? l a b = some n) : n < 10 ^ b := by
  unfold num? at h
  split at h
  · rename_i c; injection h with h; subst h; exact numL_lt l b c.2.1 c.2.2
  · cases h
theorem num?_mem {l : List UInt8} {a b n : Nat} (h : num? l a b = some n) : ∀ x ∈ l, digB x = true := by
  unfold num? at h
  split at h
  · rename_i c; exact List.all_eq_true.1 c.2.2
  · cases h
theorem num?_none_len {l : List UInt8} {a b : Nat} (h : ¬ (a ≤ l.length ∧ l.length ≤ b)) : num? l a b = none := if_neg fun c => h ⟨c.1, c.2.1⟩
theorem num?_none_dig {l : List UInt8} {a b : Nat} (h : l.all digB = false) : num? l a b = none := if_neg fun c => by rw [h] at c; cases c.2.2
theorem num?_ok {l : List UInt8} {a b : Nat} (h1 : a ≤ l.length) (h2 : l.length ≤ b) (h : l.all digB = true) : num? l a b = some (numL l) := if_pos ⟨h1, h2, h⟩
theorem num_two {n : Int} (h0 : 0 ≤ n) (h1 : n < 100) : num? (two n) 2 2 = some n.toNat := by
  have a : n.toNat / 10 < 10 := by omega
  have b : n.toNat % 10 < 10 := by omega
  rw [num?_ok (l := two n) (Nat.le_refl 2) (Nat.le_refl 2) (by simp [two, dgt_dig a, dgt_dig b])]
  congr 1
  show 10 * (10 * 0 + ((dgt (n.toNat / 10)).toNat - 48)) + ((dgt (n.toNat % 10)).toNat - 48) = n.toNat
  rw [dgt_nat a, dgt_nat b]; omega
theorem decD_one {n : Nat} (h : n < 10) : Lib.decDigits n = [dgt n] := Lib.decDigits_one h
theorem decD_two {n : Nat} (h : ¬ n < 10) (h1 : n < 100) : Lib.decDigits n = [dgt (n / 10), dgt (n % 10)] := Lib.decDigits_two h h1
theorem decD_four {n : Nat} (h : 1000 ≤ n) (h1 : n < 10000) : Lib.decDigits n = [dgt (n / 1000), dgt (n / 100 % 10), dgt (n / 10 % 10), dgt (n % 10)] := by
  rw [Lib.decDigits, dif_neg (by omega), Lib.decDigits, dif_neg (by omega), decD_two (by omega) (by omega)]
  unfold dgt
  simp only [List.cons_append, List.nil_append]
  rw [show n / 10 / 10 / 10 = n / 1000 by omega, show n / 10 / 10 % 10 = n / 100 % 10 by omega]
theorem num_day {n : Nat} (h1 : n < 100) : num? (Lib.decDigits n) 1 2 = some n := by
  by_cases h : n < 10
  · rw [decD_one h, num?_ok (by simp) (by simp) (by simp [dgt_dig h])]
    congr 1
    show 10 * 0 + ((dgt n).toNat - 48) = n
    rw [dgt_nat h]; omega
  · have a : n / 10 < 10 := by omega
    have b : n % 10 < 10 := by omega
    rw [decD_two h h1, num?_ok (by simp) (by simp) (by simp [dgt_dig a, dgt_dig b])]
    congr 1
    show 10 * (10 * 0 + ((dgt (n / 10)).toNat - 48)) + ((dgt (n % 10)).toNat - 48) = n
    rw [dgt_nat a, dgt_nat b]; omega
theorem num_year {n : Nat} (h : 1000 ≤ n) (h1 : n < 10000) : num? (Lib.decDigits n) 4 4 = some n := by
  have a : n / 1000 < 10 := by omega
  have b : n / 100 % 10 < 10 := by omega
  have c : n / 10 % 10 < 10 := by omega
  have d : n % 10 < 10 := by omega
  rw [decD_four h h1, num?_ok (by simp) (by simp) (by simp [dgt_dig a, dgt_dig b, dgt_dig c, dgt_dig d])]
  congr 1
  show 10 * (10 * (10 * (10 * 0 + ((dgt (n / 1000)).toNat - 48)) + ((dgt (n / 100 % 10)).toNat - 48)) + ((dgt (n / 10 % 10)).toNat - 48)) + ((dgt (n % 10)).toNat - 48) = n
  rw [dgt_nat a, dgt_nat b, dgt_nat c, dgt_nat d]; omega

/-! Reading the parts. -/
/-- The number of a month by its name, or 0. -/
def monR (l : List UInt8) : Nat := match moL.findIdx? (fun m => sameN l m) with | some i => i + 1 | none => 0
theorem moL_size : moL.length = 12 := rfl
theorem moL_diff : ∀ i, i < 12 → ∀ j, j < 12 → low (moL.getD i []) = low (moL.getD j []) → i = j := by decide +kernel
theorem moL_get (i : Nat) (h : i < moL.length) : moL[i] = moL.getD i [] := by rw [List.getD_eq_getElem?_getD, List.getElem?_eq_getElem h]; rfl
theorem sameN_iff {a b : List UInt8} : sameN a b = true ↔ low a = low b := by unfold sameN; simp
theorem mon_at {l : List UInt8} {i : Nat} (hi : i < 12) (h : sameN l (moL.getD i []) = true) : monR l = i + 1 := by
  have : moL.findIdx? (fun m => sameN l m) = some i := by
    rw [List.findIdx?_eq_some_iff_getElem]
    have hi' : i < moL.length := hi
    refine ⟨hi', by rw [moL_get i hi']; exact h, fun j hj => ?_⟩
    rw [moL_get j (Nat.lt_trans hj hi')]
    intro c
    have := moL_diff j (by omega) i hi ((sameN_iff.1 c).symm.trans (sameN_iff.1 h))
    omega
  unfold monR; rw [this]
theorem mon_none {l : List UInt8} (h : ∀ i, i < 12 → sameN l (moL.getD i []) = false) : monR l = 0 := by
  have : moL.findIdx? (fun m => sameN l m) = none := by
    rw [List.findIdx?_eq_none_iff]
    intro x hx
    obtain ⟨i, hi, rfl⟩ := List.getElem_of_mem hx
    rw [moL_get]; exact h i hi
  unfold monR; rw [this]
theorem mon_le (l : List UInt8) : monR l ≤ 12 := by
  unfold monR; split
  · rename_i i h; have := (List.findIdx?_eq_some_iff_getElem.1 h).1; rw [moL_size] at this; omega
  · omega
theorem mon_hit {l : List UInt8} (h : monR l ≠ 0) : sameN l (moL.getD (monR l - 1) []) = true ∧ 1 ≤ monR l := by
  unfold monR at h ⊢
  cases c : moL.findIdx? (fun m => sameN l m) with
  | none => rw [c] at h; exact absurd rfl h
  | some i =>
    obtain ⟨h1, h2, _⟩ := List.findIdx?_eq_some_iff_getElem.1 c
    rw [moL_get i h1] at h2
    refine ⟨?_, by show 1 ≤ i + 1; omega⟩
    exact h2
theorem mon_same {l k : List UInt8} (h : low l = low k) : monR l = monR k := by unfold monR sameN; rw [h]
theorem mon_moN {m : Int} (h : 1 ≤ m ∧ m ≤ 12) : monR (moN m) = m.toNat := by
  have e : monR (moN m) = (m - 1).toNat + 1 := mon_at (i := (m - 1).toNat) (by omega) (sameN_self _)
  rw [e]; omega
def clock? (l : List UInt8) : Option (Nat × Nat × Nat) := match splitC 58 l with
  | [a, b] => match num? a 2 2, num? b 2 2 with | some h, some m => some (h, m, 0) | _, _ => none
  | [a, b, c] => match num? a 2 2, num? b 2 2, num? c 2 2 with | some h, some m, some s => some (h, m, s) | _, _, _ => none
  | _ => none
def zone? (l : List UInt8) : Option Int :=
  if l = [71, 77, 84] ∨ l = [85, 84] then some 0
  else if l.length = 5 ∧ (l.head? = some 43 ∨ l.head? = some 45) then
    match num? (l.drop 1) 4 4 with
    | some n => if n % 100 ≤ 59 then some (if l.head? = some 45 then -((60 * (n / 100) + n % 100 : Nat) : Int) else ((60 * (n / 100) + n % 100 : Nat) : Int)) else none
    | none => none
  else none
def readD (xs : List (List UInt8)) : Option Dat := match xs with
  | [a, b, c, d, e] => match num? a 1 2, num? c 4 4, clock? d, zone? e with
    | some x, some y, some t, some z => some ⟨y, monR b, x, t.1, t.2.1, t.2.2, z⟩
    | _, _, _, _ => none
  | _ => none
/-- The first place of a byte. -/
def cutB (c : UInt8) (l : List UInt8) : Option (List UInt8 × List UInt8) := if c ∈ l then some (l.takeWhile (· != c), (l.dropWhile (· != c)).drop 1) else none
def okO (o : Option Dat) (ok : Dat → Bool) : Option Dat := match o with | some D => if OkDate D ∧ ok D = true then some D else none | none => none
theorem okO_none (ok : Dat → Bool) : okO none ok = none := rfl
theorem okO_some {D : Dat} {ok : Dat → Bool} (h : OkDate D) (h2 : ok D = true) : okO (some D) ok = some D := if_pos ⟨h, h2⟩
theorem okO_bad {D : Dat} {ok : Dat → Bool} (h : ¬ OkDate D) : okO (some D) ok = none := if_neg fun c => h c.1
theorem okO_other {D : Dat} {ok : Dat → Bool} (h : ok D = false) : okO (some D) ok = none := if_neg fun c => by rw [h] at c; cases c.2
theorem okO_valid {o : Option Dat} {ok : Dat → Bool} {D : Dat} (h : okO o ok = some D) : OkDate D ∧ o = some D := by
  unfold okO at h
  split at h
  · split at h
    · rename_i c; injection h with h; subst h; exact ⟨c.1, rfl⟩
    · cases h
  · cases h
/-- The date that a text is. -/
def parseD (l : List UInt8) : Option Dat := if isText l then (match cutB 44 l with
    | some (p, r) => okO (readD (Lib.fields r)) fun D => sameN (trimS p) (wdayT D)
    | none => okO (readD (Lib.fields l)) fun _ => true) else none
def parseR (l : List UInt8) : Dat := (parseD l).getD dat0
theorem parseD_valid {l : List UInt8} {D : Dat} (h : parseD l = some D) : OkDate D := by
  unfold parseD at h
  split at h
  · split at h
    · exact (okO_valid h).1
    · exact (okO_valid h).1
  · cases h

/-! What is written is read back. -/
theorem fields_word : ∀ (w cur r : List UInt8), cur ++ w ≠ [] → (∀ x ∈ w, Lib.isSp x = false) → Lib.fieldsGo cur (w ++ 32 :: r) = (cur ++ w) :: Lib.fieldsGo [] r
  | [], cur, r, h, _ => by rw [List.append_nil] at h ⊢; exact Lib.fieldsGo_end cur 32 r (by decide) h
  | x :: w, cur, r, _, hx => by
    rw [List.cons_append, Lib.fieldsGo_more _ _ _ (hx x (by simp)), fields_word w (cur ++ [x]) r (by simp) (fun y hy => hx y (by simp [hy]))]
    simp
theorem fields_last : ∀ (w cur : List UInt8), cur ++ w ≠ [] → (∀ x ∈ w, Lib.isSp x = false) → Lib.fieldsGo cur w = [cur ++ w]
  | [], cur, h, _ => by
    rw [List.append_nil] at h ⊢
    cases cur with
    | nil => exact absurd rfl h
    | cons _ _ => rfl
  | x :: w, cur, _, hx => by
    rw [Lib.fieldsGo_more _ _ _ (hx x (by simp)), fields_last w (cur ++ [x]) (by simp) (fun y hy => hx y (by simp [hy]))]
    simp
theorem dig_sp_nat : ∀ n, n < 256 → (33 ≤ n ∧ n ≤ 126) → Lib.isSp (UInt8.ofNat n) = false := by decide +kernel
theorem noSp {x : UInt8} (h : 33 ≤ x.toNat ∧ x.toNat ≤ 126) : Lib.isSp x = false := by
  have := dig_sp_nat x.toNat (by have := x.toNat_lt; omega) h
  rwa [UInt8.ofNat_toNat] at this
def Vis (l : List UInt8) : Prop := l ≠ [] ∧ ∀ x ∈ l, (33 ≤ x.toNat ∧ x.toNat ≤ 126) ∧ x ≠ 44
theorem Vis.sp {l : List UInt8} (h : Vis l) : ∀ x ∈ l, Lib.isSp x = false := fun x hx => noSp (h.2 x hx).1
theorem fields_five {a b c d e : List UInt8} (ha : Vis a) (hb : Vis b) (hc : Vis c) (hd : Vis d) (he : Vis e) :
    Lib.fields (a ++ 32 :: (b ++ 32 :: (c ++ 32 :: (d ++ 32 :: e)))) = [a, b, c, d, e] := by
  unfold Lib.fields
  rw [fields_word a [] _ (by simpa using ha.1) ha.sp, fields_word b [] _ (by simpa using hb.1) hb.sp, fields_word c [] _ (by simpa using hc.1) hc.sp,
    fields_word d [] _ (by simpa using hd.1) hd.sp, fields_last e [] (by simpa using he.1) he.sp]
  rfl
theorem fields_space (l : List UInt8) : Lib.fields (32 :: l) = Lib.fields l := Lib.fieldsGo_sp 32 l (by decide)
theorem vis_dig {l : List UInt8} (hn : l ≠ []) (h : ∀ x ∈ l, digB x = true) : Vis l := ⟨hn, fun x hx => by
  have := digB_iff.1 (h x hx)
  exact ⟨by omega, fun e => by subst e; exact absurd this (by decide)⟩⟩
theorem two_dig {n : Int} (h0 : 0 ≤ n) (h1 : n < 100) : ∀ x ∈ two n, digB x = true := num?_mem (num_two h0 h1)
theorem two_ne (n : Int) : two n ≠ [] := by simp [two]
theorem moL_vis : ∀ i, i < 12 → (moL.getD i []) ≠ [] ∧ ∀ x ∈ moL.getD i [], (33 ≤ x.toNat ∧ x.toNat ≤ 126) ∧ x ≠ 44 := by decide +kernel
theorem moN_vis {m : Int} (h : 1 ≤ m ∧ m ≤ 12) : Vis (moN m) := moL_vis _ (by omega)
theorem Vis.app {l k : List UInt8} (h : Vis l) (g : Vis k) : Vis (l ++ k) := ⟨by simp [h.1], fun x hx => (List.mem_append.1 hx).elim (h.2 x) (g.2 x)⟩
theorem Vis.cons {x : UInt8} {k : List UInt8} (h : (33 ≤ x.toNat ∧ x.toNat ≤ 126) ∧ x ≠ 44) (g : Vis k) : Vis (x :: k) := ⟨by simp, fun y hy => (List.mem_cons.1 hy).elim (fun e => e ▸ h) (g.2 y)⟩
theorem dayT_vis {D : Dat} (h : Shown D) : Vis (dayT D) := by
  have := dim_le D.y D.mo
  have := h.1.2.2.2.2
  refine vis_dig (fun c => ?_) (num?_mem (num_day (by omega)))
  have h1 := Lib.decDigits_length D.d.toNat
  have h2 := Lib.nDigits_pos D.d.toNat
  unfold dayT at c
  rw [c] at h1
  simp at h1; omega
theorem yearT_vis {D : Dat} (h : Shown D) : Vis (yearT D) := by
  have := h.1.1
  have := h.1.2.1
  exact vis_dig (by unfold yearT; rw [decD_four (by omega) (by omega)]; simp) (num?_mem (num_year (by omega) (by omega)))
theorem clockT_vis {D : Dat} (h : Shown D) : Vis (clockT D) := by
  obtain ⟨_, h1, h2, h3, _⟩ := h
  exact (vis_dig (two_ne _) (two_dig h1.1 (by omega))).app (Vis.cons (by decide) ((vis_dig (two_ne _) (two_dig h2.1 (by omega))).app (Vis.cons (by decide) (vis_dig (two_ne _) (two_dig h3.1 (by omega))))))
theorem zoneT_vis {z : Int} (h : -720 ≤ z ∧ z ≤ 840) : Vis (zoneT z) := by
  refine Vis.cons ?_ ((vis_dig (two_ne _) (two_dig (by omega) (by omega))).app (vis_dig (two_ne _) (two_dig (by omega) (by omega))))
  split <;> decide
theorem splitC_id {c : UInt8} : ∀ {l : List UInt8}, (∀ x ∈ l, x ≠ c) → splitC c l = [l]
  | [], _ => rfl
  | x :: l, h => by rw [splitC_skip l (h x (by simp)), splitC_id (fun y hy => h y (by simp [hy]))]; rfl
theorem splitC_word {c : UInt8} : ∀ {l : List UInt8} (m : List UInt8), (∀ x ∈ l, x ≠ c) → splitC c (l ++ c :: m) = l :: splitC c m
  | [], m, _ => splitC_hit c m
  | x :: l, m, h => by rw [List.cons_append, splitC_skip _ (h x (by simp)), splitC_word m (fun y hy => h y (by simp [hy]))]; rfl
theorem two_colon {n : Int} (h0 : 0 ≤ n) (h1 : n < 100) : ∀ x ∈ two n, x ≠ 58 := fun x hx e => by
  subst e; have := two_dig h0 h1 _ hx; revert this; decide
theorem clock_back {D : Dat} (h : Shown D) : clock? (clockT D) = some (D.h.toNat, D.mi.toNat, D.s.toNat) := by
  obtain ⟨_, h1, h2, h3, _⟩ := h
  unfold clock? clockT
  rw [splitC_word _ (two_colon h1.1 (by omega)), splitC_word _ (two_colon h2.1 (by omega)), splitC_id (two_colon h3.1 (by omega))]
  simp only [num_two h1.1 (by omega : D.h < 100), num_two h2.1 (by omega : D.mi < 100), num_two h3.1 (by omega : D.s < 100)]
theorem num_four {a b : Nat} (ha : a < 100) (hb : b < 100) : num? (two (a : Int) ++ two (b : Int)) 4 4 = some (100 * a + b) := by
  have da := two_dig (n := (a : Int)) (by omega) (by omega)
  have db := two_dig (n := (b : Int)) (by omega) (by omega)
  rw [num?_ok (by simp [two]) (by simp [two]) (List.all_eq_true.2 fun x hx => (List.mem_append.1 hx).elim (da x) (db x))]
  congr 1
  show 10 * (10 * (10 * (10 * 0 + ((dgt (a / 10)).toNat - 48)) + ((dgt (a % 10)).toNat - 48)) + ((dgt (b / 10)).toNat - 48)) + ((dgt (b % 10)).toNat - 48) = 100 * a + b
  rw [dgt_nat (by omega), dgt_nat (by omega), dgt_nat (by omega), dgt_nat (by omega)]; omega
theorem zone_back {z : Int} (h : -720 ≤ z ∧ z ≤ 840) : zone? (zoneT z) = some z := by
  have hn := num_four (a := z.natAbs / 60) (b := z.natAbs % 60) (by omega) (by omega)
  unfold zone?
  rw [if_neg (by unfold zoneT two; simp)]
  by_cases hz : z < 0
  · have e : zoneT z = 45 :: (two ((z.natAbs / 60 : Nat) : Int) ++ two ((z.natAbs % 60 : Nat) : Int)) := by unfold zoneT; rw [if_pos hz]
    rw [e, if_pos ⟨by simp [two], .inr rfl⟩]
    simp only [List.drop_succ_cons, List.drop_zero, hn, List.head?_cons, if_true]
    rw [if_pos (by omega)]; congr 1; omega
  · have e : zoneT z = 43 :: (two ((z.natAbs / 60 : Nat) : Int) ++ two ((z.natAbs % 60 : Nat) : Int)) := by unfold zoneT; rw [if_neg hz]
    rw [e, if_pos ⟨by simp [two], .inl rfl⟩]
    simp only [List.drop_succ_cons, List.drop_zero, hn, List.head?_cons]
    rw [if_pos (by omega)]
    have h43 : ¬ ((some 43 : Option UInt8) = some 45) := by decide
    simp only [h43, if_false]; congr 1; omega
theorem readD_back {D : Dat} (h : Shown D) {m : List UInt8} (hm : monR m = D.mo.toNat) : readD [dayT D, m, yearT D, clockT D, zoneT D.z] = some D := by
  have h1 := h.1
  have h2 := dim_le D.y D.mo
  obtain ⟨a1, a2, a3, a4, a5, a6⟩ := h1
  have n1 : num? (dayT D) 1 2 = some D.d.toNat := num_day (by omega)
  have n2 : num? (yearT D) 4 4 = some D.y.toNat := num_year (by omega) (by omega)
  have n3 := clock_back h
  have n4 := zone_back h.2.2.2.2
  unfold readD
  simp only [n1, n2, n3, n4, hm]
  obtain ⟨_, b1, b2, b3, _⟩ := h
  congr 1
  exact Dat.ext' (by simp only; omega) (by simp only; omega) (by simp only; omega) (by simp only; omega) (by simp only; omega) (by simp only; omega) rfl
theorem fields_rest {D : Dat} (h : Shown D) : Lib.fields (restT D) = [dayT D, moN D.mo, yearT D, clockT D, zoneT D.z] :=
  fields_five (dayT_vis h) (moN_vis ⟨h.1.2.2.1, h.1.2.2.2.1⟩) (yearT_vis h) (clockT_vis h) (zoneT_vis h.2.2.2.2)
theorem read_rest {D : Dat} (h : Shown D) : readD (Lib.fields (restT D)) = some D := by
  rw [fields_rest h]; exact readD_back h (mon_moN ⟨h.1.2.2.1, h.1.2.2.2.1⟩)
/-! No comma in what follows the day of the week; the text is one. -/
def Plain (l : List UInt8) : Prop := ∀ x ∈ l, (32 ≤ x.toNat ∧ x.toNat ≤ 126) ∧ x ≠ 44
theorem Vis.plain {l : List UInt8} (h : Vis l) : Plain l := fun x hx => ⟨by have := (h.2 x hx).1; omega, (h.2 x hx).2⟩
theorem Plain.app {l k : List UInt8} (h : Plain l) (g : Plain k) : Plain (l ++ k) := fun x hx => (List.mem_append.1 hx).elim (h x) (g x)
theorem Plain.sp {k : List UInt8} (g : Plain k) : Plain (32 :: k) := fun x hx => (List.mem_cons.1 hx).elim (fun e => e ▸ ⟨by decide, by decide⟩) (g x)
theorem rest_plain {D : Dat} (h : Shown D) : Plain (restT D) :=
  (dayT_vis h).plain.app ((moN_vis ⟨h.1.2.2.1, h.1.2.2.2.1⟩).plain.app ((yearT_vis h).plain.app ((clockT_vis h).plain.app (zoneT_vis h.2.2.2.2).plain.sp).sp).sp).sp
theorem wdL_vis : ∀ i, i < 7 → (wdL.getD i []) ≠ [] ∧ ∀ x ∈ wdL.getD i [], (33 ≤ x.toNat ∧ x.toNat ≤ 126) ∧ x ≠ 44 := by decide +kernel
theorem wdN_vis (n : Int) : Vis (wdN n) := wdL_vis _ (by omega)
theorem okB_of {x : UInt8} (h : 32 ≤ x.toNat ∧ x.toNat ≤ 126) : okB x = true := by unfold okB; simp [h.1, h.2]
theorem dec_len {n : Nat} (h : n < 10000) : (Lib.decDigits n).length ≤ 4 := by
  by_cases a : n < 10
  · rw [decD_one a]; simp
  by_cases b : n < 100
  · rw [decD_two a b]; simp
  by_cases c : n < 1000
  · rw [Lib.decDigits, dif_neg a, List.length_append, decD_two (by omega) (by omega)]; simp
  · rw [decD_four (by omega) h]; simp
theorem rest_len {D : Dat} (h : Shown D) : (restT D).length = (dayT D).length + 24 ∧ 1 ≤ (dayT D).length ∧ (dayT D).length ≤ 2 := by
  obtain ⟨a1, a2, a3, a4, a5, a6⟩ := h.1
  have h2 := dim_le D.y D.mo
  have e1 : (moN D.mo).length = 3 := moL_len _ (by omega)
  have e2 : (yearT D).length = 4 := by unfold yearT; rw [decD_four (by omega) (by omega)]; rfl
  refine ⟨by simp [restT, clockT, zoneT, two, e1, e2]; try omega, ?_⟩
  unfold dayT
  by_cases a : D.d.toNat < 10
  · rw [decD_one a]; simp
  · rw [decD_two a (by omega)]; simp
theorem date_len {D : Dat} (h : Shown D) : (dateT D).length = (dayT D).length + 29 ∧ 1 ≤ (dayT D).length ∧ (dayT D).length ≤ 2 := by
  have := rest_len h
  have e : (wdayT D).length = 3 := wdN_len _
  refine ⟨by simp [dateT, e, this.1]; try omega, this.2⟩
theorem date_ne (D : Dat) : dateT D ≠ [] := by unfold dateT; simp
theorem rest_text {D : Dat} (h : Shown D) : isText (restT D) = true := isText_mk (fun x hx => okB_of (rest_plain h x hx).1) (by have := rest_len h; omega)
theorem date_text {D : Dat} (h : Shown D) : isText (dateT D) = true := by
  refine isText_mk (fun x hx => ?_) (by have := date_len h; omega)
  unfold dateT at hx
  rcases List.mem_append.1 hx with hx | hx
  · exact okB_of ((wdN_vis _).plain x hx).1
  · rcases List.mem_cons.1 hx with e | hx
    · subst e; decide
    · exact okB_of ((rest_plain h).sp x hx).1
theorem cutB_none {c : UInt8} {l : List UInt8} (h : c ∉ l) : cutB c l = none := if_neg h
theorem cutB_at {c : UInt8} {p : List UInt8} (r : List UInt8) (h : c ∉ p) : cutB c (p ++ c :: r) = some (p, r) := by
  unfold cutB
  have hp : ∀ x ∈ p, (x != c) = true := fun x hx => by simp; exact fun e => h (e ▸ hx)
  rw [if_pos (by simp), List.takeWhile_append_of_pos hp, List.dropWhile_append_of_pos hp]
  simp
theorem noComma {l : List UInt8} (h : Plain l) : (44 : UInt8) ∉ l := fun hx => (h _ hx).2 rfl
theorem parse_rest {D : Dat} (h : OkDate D) : parseD (restT D) = some D := by
  unfold parseD
  rw [if_pos (rest_text h.1), cutB_none (noComma (rest_plain h.1)), read_rest h.1]
  exact okO_some h rfl
theorem trim_vis {l : List UInt8} (h : Vis l) : trimS l = l :=
  trimS_id (fun e => by
      cases l with
      | nil => cases e
      | cons x l => injection e with e; have := (h.2 x (by simp)).1; subst e; exact absurd this (by decide))
    (fun e => by have := (h.2 _ (List.mem_of_getLast? e)).1; exact absurd this (by decide))
theorem parse_date {D : Dat} (h : OkDate D) : parseD (dateT D) = some D := by
  unfold parseD
  have e : cutB 44 (dateT D) = some (wdayT D, 32 :: restT D) := cutB_at _ (noComma (wdN_vis _).plain)
  rw [if_pos (date_text h.1), e]
  simp only [fields_space, read_rest h.1]
  exact okO_some h (by rw [trim_vis (show Vis (wdayT D) from wdN_vis _)]; exact sameN_self _)
theorem date_drop (D : Dat) : (dateT D).drop 5 = restT D := by
  have e : (wdayT D).length = 3 := wdN_len _
  unfold dateT
  rw [List.drop_append, e, List.drop_of_length_le (by omega)]; rfl
theorem date_take (D : Dat) : (dateT D).take 3 = wdayT D := by
  have e : (wdayT D).length = 3 := wdN_len _
  unfold dateT
  rw [List.take_append, e, List.take_of_length_le (by omega)]; simp
/-! Small letters. -/
theorem lowB_id {x : UInt8} (h : capB x = false) : lowB x = x := lowB_f h
theorem low_id {l : List UInt8} (h : ∀ x ∈ l, capB x = false) : low l = l := by
  unfold low
  have e : List.map lowB l = List.map id l := List.map_congr_left (fun x hx => lowB_f (h x hx))
  rw [e, List.map_id]
theorem dig_cap {x : UInt8} (h : digB x = true) : capB x = false := by
  have := digB_iff.1 h; unfold capB; simp; omega
theorem low_dig {l : List UInt8} (h : ∀ x ∈ l, digB x = true) : low l = l := low_id fun x hx => dig_cap (h x hx)
theorem low_app (l k : List UInt8) : low (l ++ k) = low l ++ low k := List.map_append
theorem low_cons (x : UInt8) (k : List UInt8) : low (x :: k) = lowB x :: low k := rfl
theorem low_dayT {D : Dat} (h : Shown D) : low (dayT D) = dayT D := by
  have := dim_le D.y D.mo
  have := h.1.2.2.2.2
  exact low_dig (num?_mem (num_day (by omega)))
theorem low_yearT {D : Dat} (h : Shown D) : low (yearT D) = yearT D := by
  have := h.1.1
  have := h.1.2.1
  exact low_dig (num?_mem (num_year (by omega) (by omega)))
theorem low_two {n : Int} (h0 : 0 ≤ n) (h1 : n < 100) : low (two n) = two n := low_dig (two_dig h0 h1)
theorem low_clockT {D : Dat} (h : Shown D) : low (clockT D) = clockT D := by
  obtain ⟨_, h1, h2, h3, _⟩ := h
  unfold clockT
  rw [low_app, low_cons, low_app, low_cons, low_two h1.1 (by omega), low_two h2.1 (by omega), low_two h3.1 (by omega)]; rfl
theorem low_zoneT {z : Int} (h : -720 ≤ z ∧ z ≤ 840) : low (zoneT z) = zoneT z := by
  unfold zoneT
  rw [low_cons, low_app, low_two (by omega) (by omega), low_two (by omega) (by omega)]
  congr 1
  split <;> rfl
theorem low_rest {D : Dat} (h : Shown D) : low (restT D) = dayT D ++ 32 :: (low (moN D.mo) ++ 32 :: (yearT D ++ 32 :: (clockT D ++ 32 :: zoneT D.z))) := by
  unfold restT
  rw [low_app, low_cons, low_app, low_cons, low_app, low_cons, low_app, low_cons, low_dayT h, low_yearT h, low_clockT h, low_zoneT h.2.2.2.2]; rfl
theorem low_date (D : Dat) : low (dateT D) = low (wdayT D) ++ 44 :: 32 :: low (restT D) := by unfold dateT; rw [low_app]; rfl
theorem low_moL_vis : ∀ i, i < 12 → low (moL.getD i []) ≠ [] ∧ ∀ x ∈ low (moL.getD i []), (33 ≤ x.toNat ∧ x.toNat ≤ 126) ∧ x ≠ 44 := by decide +kernel
theorem low_wdL_vis : ∀ i, i < 7 → low (wdL.getD i []) ≠ [] ∧ ∀ x ∈ low (wdL.getD i []), (33 ≤ x.toNat ∧ x.toNat ≤ 126) ∧ x ≠ 44 := by decide +kernel
theorem low_moN_vis {m : Int} (h : 1 ≤ m ∧ m ≤ 12) : Vis (low (moN m)) := low_moL_vis _ (by omega)
theorem low_wdN_vis (n : Int) : Vis (low (wdN n)) := low_wdL_vis _ (by omega)
theorem parse_low {D : Dat} (h : OkDate D) : parseD (low (dateT D)) = some D := by
  have hs := h.1
  have vm := low_moN_vis ⟨hs.1.2.2.1, hs.1.2.2.2.1⟩
  have e : cutB 44 (low (dateT D)) = some (low (wdayT D), 32 :: low (restT D)) := by
    rw [low_date D]; exact cutB_at _ (noComma (low_wdN_vis _).plain)
  have hp : Plain (low (restT D)) := by
    rw [low_rest hs]
    exact (dayT_vis hs).plain.app (vm.plain.app ((yearT_vis hs).plain.app ((clockT_vis hs).plain.app (zoneT_vis hs.2.2.2.2).plain.sp).sp).sp).sp
  have ht : isText (low (dateT D)) = true := by
    refine isText_mk (fun x hx => ?_) (by have := date_len hs; simp [low]; omega)
    rw [low_date D] at hx
    rcases List.mem_append.1 hx with hx | hx
    · exact okB_of ((low_wdN_vis _).plain x hx).1
    · rcases List.mem_cons.1 hx with e | hx
      · subst e; decide
      · exact okB_of (hp.sp x hx).1
  have hf : Lib.fields (low (restT D)) = [dayT D, low (moN D.mo), yearT D, clockT D, zoneT D.z] := by
    rw [low_rest hs]; exact fields_five (dayT_vis hs) vm (yearT_vis hs) (clockT_vis hs) (zoneT_vis hs.2.2.2.2)
  unfold parseD
  rw [if_pos ht, e]
  simp only [fields_space, hf]
  rw [readD_back hs (by rw [mon_same (low_low _), mon_moN ⟨hs.1.2.2.1, hs.1.2.2.2.1⟩])]
  exact okO_some h (by rw [trim_vis (show Vis (low (wdayT D)) from low_wdN_vis _)]; exact sameN_iff.2 (low_low _))
/-! Parts at single spaces, and the empty ones dropped. -/
def nonempty (xs : List (List UInt8)) : List (List UInt8) := xs.filter (· != [])
theorem fields_glue : ∀ (l cur : List UInt8), (∀ x ∈ l, okB x = true) → Lib.fieldsGo cur l = nonempty (glue cur (splitC 32 l))
  | [], cur, _ => by
    cases cur with
    | nil => rfl
    | cons a b => simp [Lib.fieldsGo, splitC, glue, nonempty]
  | x :: l, cur, h => by
    have h1 := okB_t (h x (by simp))
    have hl : ∀ y ∈ l, okB y = true := fun y hy => h y (by simp [hy])
    by_cases e : x = 32
    · subst e
      rw [splitC_hit]
      have ih := fields_glue l [] hl
      rw [glue_nil] at ih
      cases cur with
      | nil => rw [Lib.fieldsGo_sp _ _ (by decide), ih]; simp [glue, nonempty]
      | cons a b => rw [Lib.fieldsGo_end _ _ _ (by decide) (by simp), ih]; simp [glue, nonempty]
    · have hx : Lib.isSp x = false := noSp (by
        have : x.toNat ≠ 32 := fun c => e (UInt8.toNat_inj.1 c)
        omega)
      rw [Lib.fieldsGo_more _ _ _ hx, fields_glue l (cur ++ [x]) hl, splitC_skip l e, glue_app]
theorem fields_split {l : List UInt8} (h : ∀ x ∈ l, okB x = true) : Lib.fields l = nonempty (splitC 32 l) := by
  unfold Lib.fields; rw [fields_glue l [] h, glue_nil]
end Go.Proofs.YtboopbjdehdhgaaGreatDoor
