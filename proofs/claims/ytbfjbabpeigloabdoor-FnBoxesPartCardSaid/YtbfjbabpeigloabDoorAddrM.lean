/-
  Addresses: the plain functions on lists of bytes, and that what is written is read back. No statement is proved here.
-/
import Derived.Test.YtbfjbabpeigloabDoorSplitM
namespace Go.Proofs.YtbfjbabpeigloabDoor
open Go.RowKit

/-! Cutting outside of quotes. -/
/-- The place of the first c outside of quotes; mode 0: outside, 1: in quotes, 2 and more: behind a backslash in quotes. -/
def cutK (c : UInt8) : Nat → List UInt8 → Option Nat
  | _, [] => none
  | 0, x :: l => if x = c then some 0 else (cutK c (if x = 34 then 1 else 0) l).map (· + 1)
  | 1, x :: l => (cutK c (if x = 34 then 0 else if x = 92 then 2 else 1) l).map (· + 1)
  | _ + 2, _ :: l => (cutK c 1 l).map (· + 1)
theorem cutK_nil (c : UInt8) (m : Nat) : cutK c m [] = none := by unfold cutK; rfl
theorem cutK_hit (c : UInt8) (l : List UInt8) : cutK c 0 (c :: l) = some 0 := by rw [cutK, if_pos rfl]
theorem cutK_skip {c x : UInt8} (l : List UInt8) (h : x ≠ c) (h2 : x ≠ 34) : cutK c 0 (x :: l) = (cutK c 0 l).map (· + 1) := by
  rw [cutK, if_neg h, if_neg h2]
theorem cutK_open {c : UInt8} (l : List UInt8) (h : (34 : UInt8) ≠ c) : cutK c 0 (34 :: l) = (cutK c 1 l).map (· + 1) := by
  rw [cutK, if_neg h, if_pos rfl]
theorem map_add {o : Option Nat} {a b : Nat} : (o.map (· + a)).map (· + b) = o.map (· + (a + b)) := by
  cases o <;> simp; omega
theorem map_to {o : Option Nat} {a b : Nat} (h : a = b) : o.map (· + a) = o.map (· + b) := by rw [h]
theorem head_app {α : Type} : ∀ {l : List α} (k : List α), l ≠ [] → (l ++ k).head? = l.head?
  | [], _, h => absurd rfl h
  | _ :: _, _, _ => rfl
theorem cutK_quote (c : UInt8) : ∀ l : List UInt8, cutK c 1 l = (readQ l).bind fun x => (cutK c 0 x.2).map (· + (l.length - x.2.length))
  | [] => by rw [cutK_nil]; rfl
  | x :: l => by
    by_cases h1 : x = 34
    · subst h1
      rw [readQ_end, cutK, if_pos rfl]
      show _ = (cutK c 0 l).map (· + (l.length + 1 - l.length))
      rw [show l.length + 1 - l.length = 1 by omega]
    · by_cases h2 : x = 92
      · subst h2
        rw [cutK, if_neg (by decide), if_pos rfl]
        match l with
        | [] => rw [readQ_last, cutK_nil]; rfl
        | d :: l' =>
          rw [readQ_slash, cutK, cutK_quote c l']
          cases hr : readQ l' with
          | none => rfl
          | some y =>
            obtain ⟨t, r⟩ := y
            have := readQ_bound _ _ _ hr
            show (((cutK c 0 r).map (· + (l'.length - r.length))).map (· + 1)).map (· + 1) = (cutK c 0 r).map (· + (l'.length + 1 + 1 - r.length))
            rw [map_add, map_add]; exact map_to (by omega)
      · rw [readQ_plain _ h1 h2, cutK, if_neg h1, if_neg h2, cutK_quote c l]
        cases hr : readQ l with
        | none => rfl
        | some y =>
          obtain ⟨t, r⟩ := y
          have := readQ_bound _ _ _ hr
          show ((cutK c 0 r).map (· + (l.length - r.length))).map (· + 1) = (cutK c 0 r).map (· + (l.length + 1 - r.length))
          rw [map_add]; exact map_to (by omega)
theorem cutK_lt (c : UInt8) : ∀ (l : List UInt8) (m k : Nat), cutK c m l = some k → k < l.length
  | [], m, k, h => by rw [cutK_nil] at h; cases h
  | x :: l, m, k, h => by
    have step : ∀ m', (cutK c m' l).map (· + 1) = some k → k < l.length + 1 := fun m' h' => by
      obtain ⟨j, hj, rfl⟩ := Option.map_eq_some_iff.1 h'
      have := cutK_lt c l m' j hj
      omega
    match m, h with
    | 0, h =>
      rw [cutK] at h
      by_cases hx : x = c
      · rw [if_pos hx] at h; injection h with h; subst h; simp
      · rw [if_neg hx] at h; exact step _ h
    | 1, h => rw [cutK] at h; exact step _ h
    | m + 2, h => rw [cutK] at h; exact step _ h
/-- What a text leaves al it goes by: no c in it stands outside of quotes, and it ends outside of them. -/
def Pass (c : UInt8) (l : List UInt8) : Prop := ∀ m, cutK c 0 (l ++ m) = (cutK c 0 m).map (· + l.length)
theorem Pass.nil (c : UInt8) : Pass c [] := fun m => by cases h : cutK c 0 m <;> simp [h]
theorem Pass.app {c : UInt8} {l k : List UInt8} (h1 : Pass c l) (h2 : Pass c k) : Pass c (l ++ k) := fun m => by
  rw [List.append_assoc, h1, h2, map_add]; exact map_to (by rw [List.length_append]; omega)
theorem Pass.one {c x : UInt8} (h : x ≠ c) (h2 : x ≠ 34) : Pass c [x] := fun m => by
  show cutK c 0 (x :: m) = _
  rw [cutK_skip m h h2]; rfl
theorem Pass.plain {c : UInt8} : ∀ {l : List UInt8}, (∀ x ∈ l, x ≠ c ∧ x ≠ 34) → Pass c l
  | [], _ => Pass.nil c
  | x :: l, h => by
    have h1 := h x (by simp)
    exact (Pass.one h1.1 h1.2).app (Pass.plain (fun y hy => h y (by simp [hy])))
theorem Pass.inQ {c : UInt8} (hc : c ≠ 34) (t : List UInt8) : Pass c (quoted t) := fun m => by
  have e : quoted t ++ m = 34 :: (escL t ++ 34 :: m) := by unfold quoted; simp
  rw [e, cutK_open _ hc.symm, cutK_quote, readQ_escL]
  show ((cutK c 0 m).map (· + ((escL t ++ 34 :: m).length - m.length))).map (· + 1) = _
  rw [map_add]; refine map_to ?_
  unfold quoted
  simp; omega
theorem Pass.word {c : UInt8} (hc : c ≠ 34) (ha : atomB c = false) (t : List UInt8) : Pass c (quoteW t) := by
  cases h : isText t
  · rw [quoteW_none h]; exact Pass.nil c
  · cases h2 : isAtom t
    · rw [quoteW_quoted h h2]; exact Pass.inQ hc t
    · rw [quoteW_atom h2]
      refine Pass.plain fun x hx => ?_
      unfold isAtom at h2
      simp only [Bool.and_eq_true, decide_eq_true_eq, List.all_eq_true] at h2
      have hb := h2.2.2 x hx
      refine ⟨fun e => (by rw [e, ha] at hb; cases hb), fun e => ?_⟩
      have := (atom_okB hb).2.2.1
      rw [e] at this; exact this rfl
theorem Pass.cut {c : UInt8} {l : List UInt8} (h : Pass c l) (m : List UInt8) : cutK c 0 (l ++ c :: m) = some l.length := by
  rw [h, cutK_hit]; simp
theorem Pass.none {c : UInt8} {l : List UInt8} (h : Pass c l) : cutK c 0 l = .none := by
  have := h []
  rw [List.append_nil, cutK_nil] at this; exact this
/-- What is before and behind the first c outside of quotes. -/
def cutU (c : UInt8) (l : List UInt8) : Option (List UInt8 × List UInt8) := (cutK c 0 l).map fun k => (l.take k, l.drop (k + 1))
theorem cutU_hit {c : UInt8} {l : List UInt8} (h : Pass c l) (m : List UInt8) : cutU c (l ++ c :: m) = some (l, m) := by
  unfold cutU; rw [h.cut]; simp
theorem cutU_none {c : UInt8} {l : List UInt8} (h : Pass c l) : cutU c l = none := by unfold cutU; rw [h.none]; rfl
/-- The parts between all c outside of quotes. -/
def partsK (c : UInt8) : Nat → List UInt8 → List (List UInt8)
  | 0, l => [l]
  | n + 1, l => match cutU c l with
    | none => [l]
    | some (p, r) => p :: partsK c n r
theorem cutU_bound {c : UInt8} {l p r : List UInt8} (h : cutU c l = some (p, r)) : p.length + 1 + r.length = l.length := by
  unfold cutU at h
  obtain ⟨k, hk, he⟩ := Option.map_eq_some_iff.1 h
  have := cutK_lt c l 0 k hk
  injection he with h1 h2
  rw [← h1, ← h2, List.length_take, List.length_drop]; omega
theorem partsK_fuel (c : UInt8) : ∀ (n m : Nat) (l : List UInt8), l.length ≤ n → l.length ≤ m → partsK c n l = partsK c m l
  | 0, 0, l, _, _ => rfl
  | 0, m + 1, l, hn, _ => by
    have : l = [] := List.eq_nil_of_length_eq_zero (by omega)
    subst this; rfl
  | n + 1, 0, l, _, hm => by
    have : l = [] := List.eq_nil_of_length_eq_zero (by omega)
    subst this; rfl
  | n + 1, m + 1, l, hn, hm => by
    rw [partsK, partsK]
    cases h : cutU c l with
    | none => rfl
    | some y =>
      obtain ⟨p, r⟩ := y
      have := cutU_bound h
      show p :: partsK c n r = p :: partsK c m r
      rw [partsK_fuel c n m r (by omega) (by omega)]
def partsU (c : UInt8) (l : List UInt8) : List (List UInt8) := partsK c l.length l
theorem partsU_none {c : UInt8} {l : List UInt8} (h : cutU c l = none) : partsU c l = [l] := by
  unfold partsU
  cases hl : l.length with
  | zero => rfl
  | succ n => rw [partsK, h]
theorem partsU_some {c : UInt8} {l p r : List UInt8} (h : cutU c l = some (p, r)) : partsU c l = p :: partsU c r := by
  have hb := cutU_bound h
  unfold partsU
  rw [show l.length = (p.length + r.length) + 1 by omega, partsK, h]
  show p :: partsK c (p.length + r.length) r = _
  rw [partsK_fuel c _ r.length r (by omega) (Nat.le_refl _)]
theorem partsU_ne (c : UInt8) (l : List UInt8) : partsU c l ≠ [] := by
  cases h : cutU c l with
  | none => rw [partsU_none h]; simp
  | some y => rw [partsU_some (p := y.1) (r := y.2) h]; simp
/-! Splitting at each place of a byte. -/
def splitC (c : UInt8) : List UInt8 → List (List UInt8)
  | [] => [[]]
  | x :: l => if x = c then [] :: splitC c l else (match splitC c l with | [] => [[x]] | p :: ps => (x :: p) :: ps)
/-- Bytes put ahead of the first part. -/
def glue (p : List UInt8) : List (List UInt8) → List (List UInt8)
  | [] => [p]
  | q :: qs => (p ++ q) :: qs
theorem splitC_ne (c : UInt8) : ∀ l, splitC c l ≠ []
  | [] => by simp [splitC]
  | x :: l => by
    unfold splitC
    by_cases h : x = c
    · rw [if_pos h]; simp
    · rw [if_neg h]; split <;> simp
theorem splitC_hit (c : UInt8) (l : List UInt8) : splitC c (c :: l) = [] :: splitC c l := by rw [splitC, if_pos rfl]
theorem splitC_skip {c x : UInt8} (l : List UInt8) (h : x ≠ c) : splitC c (x :: l) = glue [x] (splitC c l) := by
  rw [splitC, if_neg h]; cases splitC c l <;> rfl
theorem glue_nil {c : UInt8} (l : List UInt8) : glue [] (splitC c l) = splitC c l := by
  cases h : splitC c l with
  | nil => exact absurd h (splitC_ne c l)
  | cons q qs => rfl
theorem glue_app (p q : List UInt8) (xs : List (List UInt8)) : glue p (glue q xs) = glue (p ++ q) xs := by
  cases xs <;> simp [glue]
theorem splitC_mem {c : UInt8} : ∀ {l : List UInt8} {x : UInt8}, x ∈ l → x = c ∨ ∃ p ∈ splitC c l, x ∈ p
  | y :: l, x, h => by
    by_cases hy : y = c
    · subst hy
      rw [splitC_hit]
      rcases List.mem_cons.1 h with e | h
      · exact .inl e
      · rcases splitC_mem (c := y) h with e | ⟨p, hp, hx⟩
        · exact .inl e
        · exact .inr ⟨p, by simp [hp], hx⟩
    · rw [splitC_skip l hy]
      cases hs : splitC c l with
      | nil => exact absurd hs (splitC_ne c l)
      | cons q qs =>
        rcases List.mem_cons.1 h with e | h
        · exact .inr ⟨y :: q, by simp [glue], by simp [e]⟩
        · rcases splitC_mem (c := c) h with e | ⟨p, hp, hx⟩
          · exact .inl e
          · rw [hs] at hp
            rcases List.mem_cons.1 hp with e | hp
            · subst e; exact .inr ⟨y :: p, by simp [glue], by simp [hx]⟩
            · exact .inr ⟨p, by simp [glue, hp], hx⟩
/-! Parts of addresses. -/
def labC (c : UInt8) : Bool := smallB c || digB c || decide (c = 45)
def isLab (l : List UInt8) : Bool := decide (l ≠ []) && l.all labC && decide (l.head? ≠ some 45) && decide (l.getLast? ≠ some 45)
def isLocal (l : List UInt8) : Bool := decide (l.length ≤ 30) && (splitC 46 l).all isAtom
def isDomain (l : List UInt8) : Bool := decide (l.length ≤ 40) && (splitC 46 l).all isLab
structure Adr where
  name : List UInt8
  loc : List UInt8
  dom : List UInt8
deriving DecidableEq
theorem Adr.ext' {a b : Adr} (h1 : a.name = b.name) (h2 : a.loc = b.loc) (h3 : a.dom = b.dom) : a = b := by cases a; cases b; simp_all
def isName (l : List UInt8) : Bool := isText l && decide (l.length ≤ 40)
def isAdr (a : Adr) : Bool := isName a.name && isLocal a.loc && isDomain a.dom
theorem isAdr_iff {a : Adr} : isAdr a = true ↔ (isText a.name = true ∧ a.name.length ≤ 40) ∧ (a.loc.length ≤ 30 ∧ (splitC 46 a.loc).all isAtom = true) ∧ (a.dom.length ≤ 40 ∧ (splitC 46 a.dom).all isLab = true) := by
  unfold isAdr isName isLocal isDomain; simp only [Bool.and_eq_true, decide_eq_true_eq]; exact ⟨fun h => ⟨h.1.1, h.1.2, h.2⟩, fun h => ⟨⟨h.1, h.2.1⟩, h.2.2⟩⟩
def boxT (a : Adr) : List UInt8 := a.loc ++ 64 :: a.dom
def fmtT (a : Adr) : List UInt8 := if a.name = [] then boxT a else quoteW a.name ++ (32 :: 60 :: (boxT a ++ [62]))
def fmtA (a : Adr) : List UInt8 := if isAdr a then fmtT a else []
theorem local_byte {l : List UInt8} (h : (splitC 46 l).all isAtom = true) {x : UInt8} (hx : x ∈ l) : x = 46 ∨ atomB x = true := by
  rcases splitC_mem (c := 46) hx with e | ⟨p, hp, hxp⟩
  · exact .inl e
  · have hp2 := List.all_eq_true.1 h p hp
    unfold isAtom at hp2
    simp only [Bool.and_eq_true, decide_eq_true_eq, List.all_eq_true] at hp2
    exact .inr (hp2.2.2 x hxp)
theorem domain_byte {l : List UInt8} (h : (splitC 46 l).all isLab = true) {x : UInt8} (hx : x ∈ l) : x = 46 ∨ labC x = true := by
  rcases splitC_mem (c := 46) hx with e | ⟨p, hp, hxp⟩
  · exact .inl e
  · have hp2 := List.all_eq_true.1 h p hp
    unfold isLab at hp2
    simp only [Bool.and_eq_true, decide_eq_true_eq, List.all_eq_true] at hp2
    exact .inr (hp2.1.1.2 x hxp)
theorem atomdot_nat : ∀ n, n < 256 → (atomB (UInt8.ofNat n) = true ∨ UInt8.ofNat n = 46) → okB (UInt8.ofNat n) = true ∧ UInt8.ofNat n ≠ 32 ∧ UInt8.ofNat n ≠ 34 ∧ UInt8.ofNat n ≠ 60 ∧ UInt8.ofNat n ≠ 62 ∧ UInt8.ofNat n ≠ 64 ∧ UInt8.ofNat n ≠ 44 := by decide +kernel
theorem labdot_nat : ∀ n, n < 256 → (labC (UInt8.ofNat n) = true ∨ UInt8.ofNat n = 46) → okB (UInt8.ofNat n) = true ∧ UInt8.ofNat n ≠ 32 ∧ UInt8.ofNat n ≠ 34 ∧ UInt8.ofNat n ≠ 60 ∧ UInt8.ofNat n ≠ 62 ∧ UInt8.ofNat n ≠ 64 ∧ UInt8.ofNat n ≠ 44 ∧ capB (UInt8.ofNat n) = false := by decide +kernel
theorem atomdot {c : UInt8} (h : c = 46 ∨ atomB c = true) : okB c = true ∧ c ≠ 32 ∧ c ≠ 34 ∧ c ≠ 60 ∧ c ≠ 62 ∧ c ≠ 64 ∧ c ≠ 44 := by
  have := atomdot_nat c.toNat c.toNat_lt; rw [UInt8.ofNat_toNat] at this; exact this h.symm
theorem labdot {c : UInt8} (h : c = 46 ∨ labC c = true) : okB c = true ∧ c ≠ 32 ∧ c ≠ 34 ∧ c ≠ 60 ∧ c ≠ 62 ∧ c ≠ 64 ∧ c ≠ 44 ∧ capB c = false := by
  have := labdot_nat c.toNat c.toNat_lt; rw [UInt8.ofNat_toNat] at this; exact this h.symm
theorem box_byte {a : Adr} (h : isAdr a = true) {x : UInt8} (hx : x ∈ boxT a) : okB x = true ∧ x ≠ 32 ∧ x ≠ 34 ∧ x ≠ 60 ∧ x ≠ 62 ∧ x ≠ 44 := by
  obtain ⟨_, ⟨_, h2⟩, _, h3⟩ := isAdr_iff.1 h
  unfold boxT at hx
  rcases List.mem_append.1 hx with hx | hx
  · obtain ⟨a1, a2, a3, a4, a5, a6, a7⟩ := atomdot (local_byte h2 hx); exact ⟨a1, a2, a3, a4, a5, a7⟩
  · rcases List.mem_cons.1 hx with e | hx
    · subst e; decide
    · obtain ⟨a1, a2, a3, a4, a5, a6, a7, _⟩ := labdot (domain_byte h3 hx); exact ⟨a1, a2, a3, a4, a5, a7⟩
theorem dom_low {a : Adr} (h : isAdr a = true) : low a.dom = a.dom := by
  obtain ⟨_, _, _, h3⟩ := isAdr_iff.1 h
  unfold low
  conv => rhs; rw [← List.map_id a.dom]
  exact List.map_congr_left fun x hx => lowB_f (labdot (domain_byte h3 hx)).2.2.2.2.2.2.2
theorem loc_ne {a : Adr} (h : isAdr a = true) : a.loc ≠ [] := by
  obtain ⟨_, ⟨_, h2⟩, _⟩ := isAdr_iff.1 h
  intro e; rw [e] at h2; simp [splitC, isAtom] at h2
theorem dom_ne {a : Adr} (h : isAdr a = true) : a.dom ≠ [] := by
  obtain ⟨_, _, _, h3⟩ := isAdr_iff.1 h
  intro e; rw [e] at h3; simp [splitC, isLab] at h3
theorem quoteW_len' {l : List UInt8} : (quoteW l).length ≤ 2 * l.length + 2 := by
  cases h : isText l
  · rw [quoteW_none h]; simp
  · cases h2 : isAtom l
    · rw [quoteW_quoted h h2]; exact (quoted_len l).2
    · rw [quoteW_atom h2]; omega
theorem fmtT_text {a : Adr} (h : isAdr a = true) : (∀ x ∈ fmtT a, okB x = true) ∧ (fmtT a).length ≤ 157 := by
  obtain ⟨⟨h0, h0'⟩, ⟨h1, _⟩, h3, _⟩ := isAdr_iff.1 h
  have hq := quoteW_len' (l := a.name)
  have hbx : (boxT a).length ≤ 71 := by unfold boxT; simp; omega
  unfold fmtT
  by_cases hn : a.name = []
  · rw [if_pos hn]; exact ⟨fun x hx => (box_byte h hx).1, by omega⟩
  · rw [if_neg hn]
    refine ⟨fun x hx => ?_, by simp; omega⟩
    rcases List.mem_append.1 hx with hx | hx
    · exact quoteW_ok h0 hx
    · simp only [List.mem_cons, List.mem_append, List.mem_nil_iff, or_false] at hx
      rcases hx with e | e | hx | e
      · subst e; decide
      · subst e; decide
      · exact (box_byte h hx).1
      · subst e; decide
theorem isText_mk {l : List UInt8} (h : ∀ x ∈ l, okB x = true) (hl : l.length ≤ 200) : isText l = true := by
  unfold isText; simp only [Bool.and_eq_true, decide_eq_true_eq, List.all_eq_true]; exact ⟨hl, h⟩
theorem isText_byte {l : List UInt8} (h : isText l = true) {x : UInt8} (hx : x ∈ l) : okB x = true := by
  unfold isText at h; simp only [Bool.and_eq_true, decide_eq_true_eq, List.all_eq_true] at h; exact h.2 x hx
theorem fmtT_isText {a : Adr} (h : isAdr a = true) : isText (fmtT a) = true := isText_mk (fmtT_text h).1 (by have := (fmtT_text h).2; omega)
theorem fmtA_val {a : Adr} (h : isAdr a = true) : fmtA a = fmtT a := by unfold fmtA; rw [if_pos h]
theorem fmtA_no {a : Adr} (h : isAdr a = false) : fmtA a = [] := by unfold fmtA; rw [if_neg (by simp [h])]
theorem boxT_ne (a : Adr) : boxT a ≠ [] := by unfold boxT; simp
theorem fmtT_ne (a : Adr) : fmtT a ≠ [] := by
  unfold fmtT; by_cases hn : a.name = []
  · rw [if_pos hn]; exact boxT_ne a
  · rw [if_neg hn]; simp
theorem fmtA_ne {a : Adr} : fmtA a ≠ [] ↔ isAdr a = true := by
  cases h : isAdr a
  · rw [fmtA_no h]; simp
  · rw [fmtA_val h]; simp [fmtT_ne]
/-! Spaces at the ends. -/
def trimF (l : List UInt8) : List UInt8 := l.dropWhile (· == 32)
def trimS (l : List UInt8) : List UInt8 := (trimF (trimF l).reverse).reverse
theorem trimF_ne {x : UInt8} (l : List UInt8) (h : x ≠ 32) : trimF (x :: l) = x :: l := by
  unfold trimF; rw [List.dropWhile_cons_of_neg]; simpa using h
theorem trimF_space (l : List UInt8) : trimF (32 :: l) = trimF l := by
  unfold trimF; rw [List.dropWhile_cons_of_pos]; rfl
theorem trimF_head (l : List UInt8) (h : l.head? ≠ some 32) : trimF l = l := by
  match l, h with
  | [], _ => rfl
  | x :: l, h => exact trimF_ne l (fun e => h (by rw [e]; rfl))
theorem trimS_id {l : List UInt8} (h : l.head? ≠ some 32) (h2 : l.getLast? ≠ some 32) : trimS l = l := by
  unfold trimS
  rw [trimF_head l h, trimF_head l.reverse (by rw [List.head?_reverse]; exact h2), List.reverse_reverse]
theorem trimS_left (l : List UInt8) : trimS (32 :: l) = trimS l := by unfold trimS; rw [trimF_space]
theorem trimF_snoc : ∀ (l : List UInt8), l ≠ [] → l.head? ≠ some 32 → trimF ((l ++ [32]).reverse) = trimF l.reverse
  | l, _, _ => by rw [List.reverse_append]; exact trimF_space _
theorem trimS_right {l : List UInt8} (h : l.head? ≠ some 32) (hn : l ≠ []) : trimS (l ++ [32]) = trimS l := by
  unfold trimS
  rw [trimF_head l h, trimF_head (l ++ [32]) (by rw [head_app _ hn]; exact h)]
  rw [trimF_snoc l hn h]
theorem trimF_len (l : List UInt8) : (trimF l).length ≤ l.length := by unfold trimF; exact (List.dropWhile_sublist _).length_le
theorem trimF_mem {l : List UInt8} {x : UInt8} (h : x ∈ trimF l) : x ∈ l := (List.dropWhile_sublist _).subset h
theorem trimS_mem {l : List UInt8} {x : UInt8} (h : x ∈ trimS l) : x ∈ l := by
  unfold trimS at h
  rw [List.mem_reverse] at h
  have := trimF_mem h
  rw [List.mem_reverse] at this
  exact trimF_mem this
theorem trimS_len (l : List UInt8) : (trimS l).length ≤ l.length := by
  unfold trimS
  have h1 := trimF_len (trimF l).reverse
  have h2 := trimF_len l
  rw [List.length_reverse] at h1 ⊢; omega
theorem trimF_nil : ∀ l : List UInt8, trimF l = [] ↔ ∀ x ∈ l, x = 32
  | [] => by simp [trimF]
  | x :: l => by
    by_cases h : x = 32
    · subst h; rw [trimF_space, trimF_nil l]; simp
    · rw [trimF_ne l h]; simp [h]
theorem trimS_nil_iff (l : List UInt8) : trimS l = [] ↔ ∀ x ∈ l, x = 32 := by
  constructor
  · intro h
    have h1 : trimF (trimF l).reverse = [] := by unfold trimS at h; simpa using h
    have h2 := (trimF_nil _).1 h1
    rw [← trimF_nil]
    match hl : trimF l with
    | [] => rfl
    | y :: ys =>
      exfalso
      have hy : y = 32 := h2 y (by rw [hl]; simp)
      have hh := List.head?_dropWhile_not (fun x : UInt8 => x == 32) l
      unfold trimF at hl
      rw [hl] at hh
      simp [hy] at hh
  · intro h
    have : trimF l = [] := (trimF_nil l).2 h
    unfold trimS; rw [this]; rfl
/-! Reading an address. -/
def boxA (name l : List UInt8) : Option Adr := match cutU 64 l with
  | none => none
  | some (a, d) => if isAdr ⟨name, a, low d⟩ then some ⟨name, a, low d⟩ else none
/-- Texts with one space between. -/
def spaced : List (List UInt8) → List UInt8
  | [] => []
  | [x] => x
  | x :: y :: xs => x ++ 32 :: spaced (y :: xs)
def readA (t : List UInt8) : Option Adr := match cutU 60 t with
  | none => boxA [] t
  | some (b, r) => if r.getLast? = some 62 then (match splitW b with | none => none | some ws => boxA (spaced ws) r.dropLast) else none
def parseA (l : List UInt8) : Option Adr := if isText l then readA (trimS l) else none
theorem boxA_valid {n l : List UInt8} {a : Adr} (h : boxA n l = some a) : isAdr a = true := by
  unfold boxA at h
  split at h
  · cases h
  · split at h
    · rename_i h2; injection h with h; rw [← h]; exact h2
    · cases h
theorem parseA_valid {l : List UInt8} {a : Adr} (h : parseA l = some a) : isAdr a = true := by
  unfold parseA at h
  split at h
  · unfold readA at h
    split at h
    · exact boxA_valid h
    · split at h
      · split at h
        · cases h
        · exact boxA_valid h
      · cases h
  · cases h
theorem boxA_boxT {a : Adr} (h : isAdr a = true) : boxA a.name (boxT a) = some a := by
  have hp : Pass 64 a.loc := Pass.plain fun x hx => by
    obtain ⟨_, ⟨_, h2⟩, _⟩ := isAdr_iff.1 h
    have := atomdot (local_byte h2 hx); exact ⟨this.2.2.2.2.2.1, this.2.2.1⟩
  unfold boxA boxT
  rw [cutU_hit hp]
  show (if isAdr ⟨a.name, a.loc, low a.dom⟩ then some (Adr.mk a.name a.loc (low a.dom)) else none) = some a
  rw [dom_low h]
  exact if_pos h
theorem readA_fmtT {a : Adr} (h : isAdr a = true) : readA (fmtT a) = some a := by
  unfold readA fmtT
  by_cases hn : a.name = []
  · rw [if_pos hn]
    have hp : Pass 60 (boxT a) := Pass.plain fun x hx => by have := box_byte h hx; exact ⟨this.2.2.2.1, this.2.2.1⟩
    rw [cutU_none hp]
    have := boxA_boxT h
    rw [hn] at this; exact this
  · rw [if_neg hn]
    have ht : isText a.name = true := (isAdr_iff.1 h).1.1
    have hp : Pass 60 (quoteW a.name ++ [32]) := (Pass.word (by decide) (by decide) a.name).app (Pass.one (by decide) (by decide))
    have e : quoteW a.name ++ (32 :: 60 :: (boxT a ++ [62])) = (quoteW a.name ++ [32]) ++ 60 :: (boxT a ++ [62]) := by simp
    rw [e, cutU_hit hp]
    show (if (boxT a ++ [62]).getLast? = some 62 then _ else _) = _
    rw [if_pos (by simp)]
    have hs : splitW (quoteW a.name ++ [32]) = some [a.name] := by
      rw [splitW_two _ (quoteW a.name) [] [a.name] (Nat.le_refl _) (splitW_quoteW ht), splitW_nil]; rfl
    rw [hs]
    show boxA a.name (boxT a ++ [62]).dropLast = some a
    rw [List.dropLast_concat]
    exact boxA_boxT h
theorem quoteW_head {l : List UInt8} (h : isText l = true) : (quoteW l).head? ≠ some 32 := by
  cases h2 : isAtom l
  · rw [quoteW_quoted h h2]; unfold quoted; simp
  · rw [quoteW_atom h2]
    match l, h2 with
    | [], _ => simp
    | x :: l, h2 =>
      unfold isAtom at h2
      simp only [Bool.and_eq_true, decide_eq_true_eq, List.all_eq_true] at h2
      have := (atom_okB (h2.2.2 x (by simp))).2.1
      intro e
      have e : x = 32 := by simpa using e
      rw [e] at this; exact this rfl
theorem fmtT_ends {a : Adr} (h : isAdr a = true) : (fmtT a).head? ≠ some 32 ∧ (fmtT a).getLast? ≠ some 32 := by
  have hb : (boxT a).head? ≠ some 32 ∧ (boxT a).getLast? ≠ some 32 := by
    refine ⟨fun e => (box_byte h (List.mem_of_mem_head? e)).2.1 rfl, fun e => (box_byte h (List.mem_of_getLast? e)).2.1 rfl⟩
  unfold fmtT
  by_cases hn : a.name = []
  · rw [if_pos hn]; exact hb
  · rw [if_neg hn]
    have ht : isText a.name = true := (isAdr_iff.1 h).1.1
    refine ⟨?_, ?_⟩
    · rw [head_app _ (quoteW_ne ht)]; exact quoteW_head ht
    · have e : quoteW a.name ++ (32 :: 60 :: (boxT a ++ [62])) = (quoteW a.name ++ (32 :: 60 :: boxT a)) ++ [62] := by simp
      rw [e, List.getLast?_concat]; decide
theorem parse_fmt {a : Adr} (h : isAdr a = true) : parseA (fmtT a) = some a := by
  unfold parseA
  rw [if_pos (fmtT_isText h), trimS_id (fmtT_ends h).1 (fmtT_ends h).2, readA_fmtT h]
theorem parse_wide {a : Adr} (h : isAdr a = true) : parseA (32 :: 32 :: (fmtT a ++ [32])) = some a := by
  have ht := fmtT_text h
  unfold parseA
  rw [if_pos, trimS_left, trimS_left, trimS_right (fmtT_ends h).1 (fmtT_ne a), trimS_id (fmtT_ends h).1 (fmtT_ends h).2, readA_fmtT h]
  refine isText_mk (fun x hx => ?_) (by simp; omega)
  simp only [List.mem_cons, List.mem_append, List.mem_nil_iff, or_false] at hx
  rcases hx with e | e | hx | e
  · subst e; decide
  · subst e; decide
  · exact ht.1 x hx
  · subst e; decide
theorem parse_space {a : Adr} (h : isAdr a = true) : parseA (32 :: fmtT a) = some a := by
  have ht := fmtT_text h
  unfold parseA
  rw [if_pos, trimS_left, trimS_id (fmtT_ends h).1 (fmtT_ends h).2, readA_fmtT h]
  refine isText_mk (fun x hx => ?_) (by simp; omega)
  rcases List.mem_cons.1 hx with e | hx
  · subst e; decide
  · exact ht.1 x hx
/-! Lists of addresses. -/
def joinC : List (List UInt8) → List UInt8
  | [] => []
  | [x] => x
  | x :: y :: xs => x ++ 44 :: 32 :: joinC (y :: xs)
def fmtAll (al : List Adr) : List UInt8 := joinC (al.map fmtT)
def fmtL (al : List Adr) : List UInt8 := if al.all isAdr && decide (al.length ≤ 10) && decide ((fmtAll al).length ≤ 200) then fmtAll al else []
def mapA : List (List UInt8) → Option (List Adr)
  | [] => some []
  | p :: ps => match parseA p with
    | none => none
    | some a => (mapA ps).map (a :: ·)
def parseL (l : List UInt8) : Option (List Adr) := if isText l then (if trimS l = [] then some [] else (if (partsU 44 l).length ≤ 10 then mapA (partsU 44 l) else none)) else none
theorem fmtT_pass {a : Adr} (h : isAdr a = true) : Pass 44 (fmtT a) := by
  have hb : Pass 44 (boxT a) := Pass.plain fun x hx => by have := box_byte h hx; exact ⟨this.2.2.2.2.2, this.2.2.1⟩
  unfold fmtT
  by_cases hn : a.name = []
  · rw [if_pos hn]; exact hb
  · rw [if_neg hn]
    have e : quoteW a.name ++ (32 :: 60 :: (boxT a ++ [62])) = quoteW a.name ++ ([32] ++ ([60] ++ (boxT a ++ [62]))) := by simp
    rw [e]
    exact (Pass.word (by decide) (by decide) a.name).app ((Pass.one (by decide) (by decide)).app ((Pass.one (by decide) (by decide)).app (hb.app (Pass.one (by decide) (by decide)))))
theorem parts_join : ∀ (a : Adr) (al : List Adr), isAdr a = true → (∀ b ∈ al, isAdr b = true) → (partsU 44 (joinC ((a :: al).map fmtT))) = fmtT a :: al.map (fun b => 32 :: fmtT b)
  | a, [], h, _ => by
    show partsU 44 (fmtT a) = [fmtT a]
    exact partsU_none (cutU_none (fmtT_pass h))
  | a, b :: al, h, hs => by
    show partsU 44 (fmtT a ++ 44 :: 32 :: joinC ((b :: al).map fmtT)) = _
    rw [partsU_some (cutU_hit (fmtT_pass h) _)]
    have ih := parts_join b al (hs b (by simp)) (fun c hc => hs c (by simp [hc]))
    have hsp : ∀ (l p : List UInt8) (ps : List (List UInt8)), partsU 44 l = p :: ps → partsU 44 (32 :: l) = (32 :: p) :: ps := by
      intro l p ps hl
      have hk : cutU 44 (32 :: l) = (cutU 44 l).map fun y => (32 :: y.1, y.2) := by
        unfold cutU; rw [cutK_skip l (by decide) (by decide)]; cases cutK 44 0 l <;> rfl
      cases hc : cutU 44 l with
      | none => rw [hc] at hk; rw [partsU_none hc] at hl; rw [partsU_none hk]; injection hl with h1 h2; rw [h1, h2]
      | some y =>
        obtain ⟨p', r⟩ := y
        rw [hc] at hk; rw [partsU_some hc] at hl; rw [partsU_some hk]; injection hl with h1 h2; rw [h1, h2]
    rw [hsp _ _ _ ih]; rfl
theorem mapA_spaced : ∀ al : List Adr, (∀ b ∈ al, isAdr b = true) → mapA (al.map fun b => 32 :: fmtT b) = some al
  | [], _ => rfl
  | a :: al, h => by
    show (match parseA (32 :: fmtT a) with | none => none | some a => (mapA (al.map fun b => 32 :: fmtT b)).map (a :: ·)) = _
    rw [parse_space (h a (by simp))]
    show (mapA (al.map fun b => 32 :: fmtT b)).map (a :: ·) = _
    rw [mapA_spaced al (fun b hb => h b (by simp [hb]))]; rfl
theorem joinC_ok : ∀ xs : List (List UInt8), (∀ x ∈ xs, ∀ c ∈ x, okB c = true) → ∀ c ∈ joinC xs, okB c = true
  | [], _, c, hc => by simp [joinC] at hc
  | [x], h, c, hc => h x (by simp) c hc
  | x :: y :: xs, h, c, hc => by
    have hc : c ∈ x ++ 44 :: 32 :: joinC (y :: xs) := hc
    simp only [List.mem_append, List.mem_cons] at hc
    rcases hc with hc | e | e | hc
    · exact h x (by simp) c hc
    · subst e; decide
    · subst e; decide
    · exact joinC_ok (y :: xs) (fun z hz => h z (by simp only [List.mem_cons] at hz ⊢; exact .inr hz)) c hc
theorem fmtL_ne {al : List Adr} (h : fmtL al ≠ []) : (∀ a ∈ al, isAdr a = true) ∧ al.length ≤ 10 ∧ (fmtAll al).length ≤ 200 ∧ fmtL al = fmtAll al ∧ al ≠ [] := by
  unfold fmtL at h ⊢
  by_cases hc : (al.all isAdr && decide (al.length ≤ 10) && decide ((fmtAll al).length ≤ 200)) = true
  · rw [if_pos hc] at h ⊢
    simp only [Bool.and_eq_true, decide_eq_true_eq, List.all_eq_true] at hc
    exact ⟨hc.1.1, hc.1.2, hc.2, rfl, fun e => h (by rw [e]; rfl)⟩
  · rw [if_neg hc] at h; exact absurd rfl h
theorem fmtAll_ok {al : List Adr} (h : ∀ a ∈ al, isAdr a = true) : ∀ c ∈ fmtAll al, okB c = true := by
  refine joinC_ok _ fun x hx c hc => ?_
  obtain ⟨a, ha, rfl⟩ := List.mem_map.1 hx
  exact (fmtT_text (h a ha)).1 c hc
theorem fmtL_text {al : List Adr} (h : fmtL al ≠ []) : isText (fmtL al) = true := by
  obtain ⟨h1, _, h3, h4, _⟩ := fmtL_ne h
  rw [h4]; exact isText_mk (fmtAll_ok h1) h3
theorem joinC_head : ∀ (x : List UInt8) (xs : List (List UInt8)), x ≠ [] → (joinC (x :: xs)).head? = x.head?
  | x, [], _ => rfl
  | x, y :: ys, h => by show (x ++ 44 :: 32 :: joinC (y :: ys)).head? = _; rw [head_app _ h]
theorem parse_list {al : List Adr} (h : fmtL al ≠ []) : parseL (fmtL al) = some al := by
  have ht := fmtL_text h
  obtain ⟨h1, h2, h3, h4, h5⟩ := fmtL_ne h
  unfold parseL
  rw [if_pos ht, h4]
  match al, h1, h2, h5 with
  | a :: al, h1, h2, _ =>
    have ha := h1 a (by simp)
    have hne : ¬ trimS (fmtAll (a :: al)) = [] := by
      rw [trimS_nil_iff]
      intro hall
      have hh := joinC_head (fmtT a) (al.map fmtT) (fmtT_ne a)
      match hf : fmtT a with
      | [] => exact fmtT_ne a hf
      | c :: cs =>
        rw [hf] at hh
        have hc : c = 32 := hall c (List.mem_of_mem_head? (by show (joinC (fmtT a :: al.map fmtT)).head? = some c; rw [hf]; exact hh))
        have := (fmtT_ends ha).1
        rw [hf, hc] at this; exact this rfl
    rw [if_neg hne]
    have hp := parts_join a al ha (fun b hb => h1 b (by simp [hb]))
    have hp' : partsU 44 (fmtAll (a :: al)) = fmtT a :: al.map (fun b => 32 :: fmtT b) := hp
    rw [hp', if_pos (by simp at h2 ⊢; exact h2)]
    show (match parseA (fmtT a) with | none => none | some a => (mapA (al.map fun b => 32 :: fmtT b)).map (a :: ·)) = _
    rw [parse_fmt ha]
    show (mapA (al.map fun b => 32 :: fmtT b)).map (a :: ·) = _
    rw [mapA_spaced al (fun b hb => h1 b (by simp [hb]))]; rfl
theorem mapA_valid : ∀ (ps : List (List UInt8)) (al : List Adr), mapA ps = some al → (∀ a ∈ al, isAdr a = true) ∧ al.length = ps.length
  | [], al, h => by injection h with h; subst h; simp
  | p :: ps, al, h => by
    unfold mapA at h
    split at h
    · cases h
    · rename_i a ha
      obtain ⟨bs, hb, rfl⟩ := Option.map_eq_some_iff.1 h
      obtain ⟨h1, h2⟩ := mapA_valid ps bs hb
      refine ⟨fun x hx => ?_, by simp [h2]⟩
      rcases List.mem_cons.1 hx with e | hx
      · subst e; exact parseA_valid ha
      · exact h1 x hx
theorem parseL_valid {l : List UInt8} {al : List Adr} (h : parseL l = some al) : (∀ a ∈ al, isAdr a = true) ∧ al.length ≤ 10 := by
  unfold parseL at h
  split at h
  · split at h
    · injection h with h; subst h; simp
    · split at h
      · rename_i h2; obtain ⟨h3, h4⟩ := mapA_valid _ _ h; exact ⟨h3, by omega⟩
      · cases h
  · cases h
/-! The same mailbox. -/
def sameB (a b : Adr) : Bool := decide (a.loc = b.loc) && decide (low a.dom = low b.dom)
theorem sameB_comm (a b : Adr) : sameB a b = sameB b a := by
  unfold sameB; rw [show decide (a.loc = b.loc) = decide (b.loc = a.loc) from decide_eq_decide.2 eq_comm, show decide (low a.dom = low b.dom) = decide (low b.dom = low a.dom) from decide_eq_decide.2 eq_comm]
theorem sameB_self (a : Adr) : sameB a a = true := by unfold sameB; simp
theorem sameB_trans {a b c : Adr} (h : sameB a b = true) (k : sameB b c = true) : sameB a c = true := by
  unfold sameB at h k ⊢; simp only [Bool.and_eq_true, decide_eq_true_eq] at h k ⊢; exact ⟨h.1.trans k.1, h.2.trans k.2⟩
def dropStep (acc : List Adr) (a : Adr) : List Adr := if acc.any (fun b => sameB b a) then acc else acc ++ [a]
def dropR (al : List Adr) : List Adr := al.foldl dropStep []
end Go.Proofs.YtbfjbabpeigloabDoor
