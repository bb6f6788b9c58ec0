/-
  Addresses, read: what the program's functions return. No statement is proved here.
-/
import Derived.Test.YtcdmjckkencgoaaGreatDoorAddr2
import Derived.Test.YtcdmjckkencgoaaGreatDoorAdrV
import Derived.Lib.Join
import Derived.Lib.TrimByte
namespace Go.Proofs.YtcdmjckkencgoaaGreatDoor
open Go.RowKit

/-! Trimming. -/
theorem trimF_app : ∀ (m k : List UInt8), trimF m ≠ [] → trimF (m ++ k) = trimF m ++ k
  | [], _, h => absurd rfl h
  | x :: m, k, h => by
    by_cases hx : x = 32
    · subst hx; rw [List.cons_append, trimF_space, trimF_space]; rw [trimF_space] at h; exact trimF_app m k h
    · rw [List.cons_append, trimF_ne _ hx, trimF_ne _ hx]; rfl
theorem trim_swap : ∀ l : List UInt8, trimF (trimF l.reverse).reverse = (trimF (trimF l).reverse).reverse
  | [] => rfl
  | x :: l => by
    by_cases hx : x = 32
    · subst hx
      rw [trimF_space, ← trim_swap l, List.reverse_cons]
      by_cases hn : trimF l.reverse = []
      · have h1 := (trimF_nil _).1 hn
        have h2 : trimF (l.reverse ++ [32]) = [] := (trimF_nil _).2 (fun y hy => by
          rcases List.mem_append.1 hy with h | h
          · exact h1 y h
          · exact List.mem_singleton.1 h)
        rw [h2, hn]
      · rw [trimF_app _ _ hn, List.reverse_append]; exact trimF_space _
    · rw [trimF_ne l hx, List.reverse_cons]
      have key : ∀ m : List UInt8, ∃ p, trimF (m ++ [x]) = p ++ [x] := fun m => by
        by_cases hn : trimF m = []
        · refine ⟨[], ?_⟩
          have h1 := (trimF_nil _).1 hn
          have : ∀ k : List UInt8, (∀ y ∈ k, y = 32) → trimF (k ++ [x]) = [x] := by
            intro k
            induction k with
            | nil => intro _; exact trimF_ne [] hx
            | cons y k ih =>
              intro hk
              rw [hk y (by simp), List.cons_append, trimF_space]
              exact ih (fun z hz => hk z (by simp [hz]))
          exact this m h1
        · exact ⟨_, trimF_app _ _ hn⟩
      obtain ⟨p, hp⟩ := key l.reverse
      rw [hp, List.reverse_append]
      show trimF (x :: p.reverse) = x :: p.reverse
      exact trimF_ne _ hx
theorem isText_sub {l k : List UInt8} (h : isText l = true) (hk : ∀ x ∈ k, x ∈ l) (hl : k.length ≤ l.length) : isText k = true :=
  isText_mk (fun x hx => isText_byte h (hk x hx)) (by have := text_len h; omega)
theorem trim_any (s : ByteArray) (w : World) (hs : s.size ≤ 1073741824) :
    Calls Tryz.prog 130 #[.string s, .string ⟨#[32]⟩] w fun e w' => e = .returned (.string (str (trimS s.data.toList))) ∧ Below w.heap.size w w' := by
  refine (Tryz.strings_Trim_one s 32 (by decide) w (by omega)).mono ?_
  rintro e w' ⟨rfl, hw⟩
  refine ⟨ret_str ?_, ?_⟩
  · show str _ = str _
    congr 1
    exact trim_swap s.data.toList
  · rcases hw with rfl | rfl
    · exact Below.refl _ _
    · exact (Below.refl _ _).drew
/-! Joining. -/
theorem join_spaced : ∀ xs : List (List UInt8), Lib.join xs [32] = spaced xs
  | [] => rfl
  | [x] => Lib.join_one x _
  | x :: y :: xs => by
    rw [Lib.join_cons]
    show x ++ Lib.joinTail [32] (y :: xs) = x ++ 32 :: spaced (y :: xs)
    rw [← join_spaced (y :: xs), Lib.join_cons]; rfl
theorem join_comma : ∀ xs : List (List UInt8), Lib.join xs [44, 32] = joinC xs
  | [] => rfl
  | [x] => Lib.join_one x _
  | x :: y :: xs => by
    rw [Lib.join_cons]
    show x ++ Lib.joinTail [44, 32] (y :: xs) = x ++ 44 :: 32 :: joinC (y :: xs)
    rw [← join_comma (y :: xs), Lib.join_cons]; rfl
theorem spaced_len (M : Nat) : ∀ xs : List (List UInt8), (∀ x ∈ xs, x.length ≤ M) → (spaced xs).length ≤ xs.length * (M + 1)
  | [], _ => by simp [spaced]
  | [x], h => by have := h x (by simp); simp [spaced]; omega
  | x :: y :: xs, h => by
    have ih := spaced_len M (y :: xs) (fun z hz => h z (by simp only [List.mem_cons] at hz ⊢; exact .inr hz))
    have := h x (by simp)
    show (x ++ 32 :: spaced (y :: xs)).length ≤ (xs.length + 1 + 1) * (M + 1)
    rw [List.length_append, List.length_cons, Nat.add_mul]
    rw [List.length_cons] at ih; omega
theorem joinC_len (M : Nat) : ∀ xs : List (List UInt8), (∀ x ∈ xs, x.length ≤ M) → (joinC xs).length ≤ xs.length * (M + 2)
  | [], _ => by simp [joinC]
  | [x], h => by have := h x (by simp); simp [joinC]; omega
  | x :: y :: xs, h => by
    have ih := joinC_len M (y :: xs) (fun z hz => h z (by simp only [List.mem_cons] at hz ⊢; exact .inr hz))
    have := h x (by simp)
    show (x ++ 44 :: 32 :: joinC (y :: xs)).length ≤ (xs.length + 1 + 1) * (M + 2)
    rw [List.length_append, List.length_cons, List.length_cons, Nat.add_mul]
    rw [List.length_cons] at ih; omega
theorem join_any (a : Option Addr) (n c : Nat) (xs : List (List UInt8)) (sep : ByteArray) (w : World) (hr : RdL w a n xs) (hnc : n ≤ c) (hn : n ≤ 140737488355328) (hlen : (Lib.join xs sep.data.toList).length ≤ 140737488355328) :
    Calls Tryz.prog 95 #[.slice a n c, .string sep] w fun e w' => e = .returned (.string (str (Lib.join xs sep.data.toList))) ∧ Below w.heap.size w w' := by
  obtain ⟨hl, h0 | ⟨b, off, rfl, hb, hc⟩⟩ := hr
  · subst h0
    have : xs = [] := List.length_eq_zero_iff.1 hl
    subst this
    refine (Tryz.strings_Join_none a c sep w).mono ?_
    rintro e w' ⟨rfl, rfl⟩
    exact ⟨rfl, Below.refl _ _⟩
  · have hm : (xs.map str).map (·.data.toList) = xs := by rw [List.map_map]; conv => rhs; rw [← List.map_id xs]
                                                          exact List.map_congr_left fun x _ => str_list x
    have := Tryz.strings_Join b off c (xs.map str) sep w (fun j x hx => by
      rw [List.getElem?_map] at hx
      obtain ⟨y, hy, rfl⟩ := Option.map_eq_some_iff.1 hx
      obtain ⟨hj, hj2⟩ := List.getElem?_eq_some_iff.1 hy
      rw [hc j hj, hj2]) hb (by simp; omega) (by simp; omega) (by rw [hm]; exact hlen)
    rw [hm] at this
    rw [List.length_map, hl] at this
    exact this
/-! The name and the mailbox of an address. -/
def nameOf (t : List UInt8) : Option (List UInt8 × List UInt8) := match cutU 60 t with
  | none => some ([], t)
  | some (b, r) => if r.getLast? = some 62 then (splitW b).map fun ws => (spaced ws, r.dropLast) else none
theorem readA_name (t : List UInt8) : readA t = (nameOf t).bind fun x => boxA x.1 x.2 := by
  unfold readA nameOf
  cases cutU 60 t with
  | none => rfl
  | some y =>
    obtain ⟨b, r⟩ := y
    show (if r.getLast? = some 62 then _ else _) = _
    by_cases h : r.getLast? = some 62
    · simp only [h, if_true]
      cases splitW b <;> rfl
    · simp only [h, if_false]; rfl
theorem cutU_parts {c : UInt8} {l a d : List UInt8} (h : cutU c l = some (a, d)) : (∀ x ∈ a, x ∈ l) ∧ (∀ x ∈ d, x ∈ l) := by
  unfold cutU at h
  obtain ⟨k, _, he⟩ := Option.map_eq_some_iff.1 h
  injection he with h1 h2
  subst h1 h2
  exact ⟨fun x hx => List.mem_of_mem_take hx, fun x hx => List.mem_of_mem_drop hx⟩
theorem suffix_gt (r : List UInt8) : Lib.hasSuffix r [62] = decide (r.getLast? = some 62) := by
  unfold Lib.hasSuffix
  rw [Bool.eq_iff_iff, decide_eq_true_iff, List.isSuffixOf_iff_suffix]
  constructor
  · rintro ⟨t, rfl⟩; simp
  · intro h
    refine ⟨r.dropLast, ?_⟩
    have hne : r ≠ [] := fun e => by rw [e] at h; simp at h
    have := List.dropLast_concat_getLast hne
    rw [List.getLast?_eq_some_getLast hne] at h
    injection h with h
    rw [h] at this; exact this
theorem trimSuffix_gt (r : List UInt8) (h : r.getLast? = some 62) : Lib.trimSuffix r [62] = r.dropLast := by
  unfold Lib.trimSuffix
  rw [suffix_gt, h]
  simp [List.dropLast_eq_take]
def NameRet (t : List UInt8) (w : World) (e : Ending) (w' : World) : Prop :=
  (∀ n x, nameOf t = some (n, x) → e = .returned (.tuple #[.string (str n), .string (str x), .bool true])) ∧ (nameOf t = none → ∃ p q, e = .returned (.tuple #[.string p, .string q, .bool false])) ∧ Below w.heap.size w w'
theorem nameRet_some {t n x : List UInt8} {w w' : World} {p q : ByteArray} {o : Bool} (h : nameOf t = some (n, x)) (hp : p = str n) (hq : q = str x) (ho : o = true) (hb : Below w.heap.size w w') : NameRet t w (.returned (.tuple #[.string p, .string q, .bool o])) w' := by
  refine ⟨fun n' x' h' => ?_, fun h' => ?_, hb⟩
  · rw [h] at h'; injection h' with h'; injection h' with h1 h2; subst h1 h2; rw [hp, hq, ho]
  · rw [h] at h'; cases h'
theorem nameRet_none {t : List UInt8} {w w' : World} {p q : ByteArray} {o : Bool} (h : nameOf t = none) (ho : o = false) (hb : Below w.heap.size w w') : NameRet t w (.returned (.tuple #[.string p, .string q, .bool o])) w' := by
  refine ⟨fun n' x' h' => ?_, fun _ => ⟨p, q, by rw [ho]⟩, hb⟩
  rw [h] at h'; cases h'
theorem nameOf_len {t n x : List UInt8} (ht : isText t = true) (h : nameOf t = some (n, x)) : n.length ≤ 40200 ∧ x.length ≤ 200 ∧ isText x = true := by
  unfold nameOf at h
  have htl := text_len ht
  split at h
  · injection h with h; injection h with h1 h2; subst h1 h2; exact ⟨by simp, htl, ht⟩
  · rename_i b r hc
    have hb := cutU_bound hc
    have hm := cutU_parts hc
    split at h
    · obtain ⟨ws, hw, he⟩ := Option.map_eq_some_iff.1 h
      injection he with h1 h2
      subst h1 h2
      obtain ⟨g1, g2⟩ := splitW_bound _ _ _ (Nat.le_refl _) hw
      have := spaced_len 200 ws (fun y hy => by have := g2 y hy; omega)
      have hws : ws.length ≤ 200 := by omega
      have h3 : ws.length * 201 ≤ 200 * 201 := Nat.mul_le_mul_right _ hws
      refine ⟨by omega, by rw [List.length_dropLast]; omega, isText_sub ht (fun y hy => hm.2 y ((List.dropLast_sublist r).subset hy)) (by rw [List.length_dropLast]; omega)⟩
    · cases h
end Go.Proofs.YtcdmjckkencgoaaGreatDoor
