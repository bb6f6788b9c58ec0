/-
  Kinds with parameters, as plain functions on lists of bytes, and that what is written is read back. No statement is proved here.
-/
import Derived.Test.YtbfjbabpeigloabDoorFieldM
namespace Go.Proofs.YtbfjbabpeigloabDoor
open Go.RowKit

structure Knd where
  main : List UInt8
  sub : List UInt8
  params : List Fld
deriving DecidableEq
theorem Knd.ext' {a b : Knd} (h1 : a.main = b.main) (h2 : a.sub = b.sub) (h3 : a.params = b.params) : a = b := by cases a; cases b; simp_all
def knd0 : Knd := ⟨[], [], []⟩
/-- A name of fields without capital letters. -/
def isSmall (l : List UInt8) : Bool := isFName l && decide (low l = l)
theorem isSmall_iff {l : List UInt8} : isSmall l = true ↔ isFName l = true ∧ low l = l := by unfold isSmall; simp
def parOk (f : Fld) : Bool := isSmall f.name && isName f.val
/-- A parameter at a place: it stands well, and none before it has its name. -/
def parAt (ps : List Fld) (i : Nat) : Bool := match ps[i]? with
  | some f => parOk f && (findN (ps.take i) f.name).isNone
  | none => true
def parsOk (ps : List Fld) : Bool := (List.range ps.length).all (parAt ps)
theorem parAt_at {ps : List Fld} {i : Nat} (h : i < ps.length) : parAt ps i = (parOk ps[i] && (findN (ps.take i) ps[i].name).isNone) := by
  unfold parAt; rw [List.getElem?_eq_getElem h]
theorem parsOk_bad {ps : List Fld} {i : Nat} (h : i < ps.length) (hb : parAt ps i = false) : parsOk ps = false := by
  unfold parsOk; rw [List.all_eq_false]; exact ⟨i, List.mem_range.2 h, by simp [hb]⟩
theorem parsOk_good {ps : List Fld} (h : ∀ i, i < ps.length → parAt ps i = true) : parsOk ps = true := by
  unfold parsOk; rw [List.all_eq_true]; intro i hi; exact h i (List.mem_range.1 hi)
theorem parsOk_at {ps : List Fld} (h : parsOk ps = true) {i : Nat} (hi : i < ps.length) : parOk ps[i] = true := by
  unfold parsOk at h
  have := List.all_eq_true.1 h i (List.mem_range.2 hi)
  rw [parAt_at hi] at this
  simp at this; exact this.1
theorem parsOk_mem {ps : List Fld} (h : parsOk ps = true) {f : Fld} (hf : f ∈ ps) : parOk f = true := by
  obtain ⟨i, hi, rfl⟩ := List.getElem_of_mem hf
  exact parsOk_at h hi
theorem parOk_iff {f : Fld} : parOk f = true ↔ (isFName f.name = true ∧ low f.name = f.name) ∧ isText f.val = true ∧ f.val.length ≤ 40 := by
  unfold parOk isName; rw [Bool.and_eq_true, isSmall_iff, Bool.and_eq_true, decide_eq_true_iff]
def parT (f : Fld) : List UInt8 := 59 :: 32 :: (f.name ++ 61 :: quoteW f.val)
def parsT (ps : List Fld) : List UInt8 := ps.flatMap parT
def textK (k : Knd) : List UInt8 := k.main ++ 47 :: (k.sub ++ parsT k.params)
def isKnd (k : Knd) : Bool := isSmall k.main && (isSmall k.sub && (decide (k.params.length ≤ 4) && (parsOk k.params && decide ((textK k).length ≤ 150))))
theorem isKnd_iff {k : Knd} : isKnd k = true ↔ isSmall k.main = true ∧ isSmall k.sub = true ∧ k.params.length ≤ 4 ∧ parsOk k.params = true ∧ (textK k).length ≤ 150 := by
  unfold isKnd; simp only [Bool.and_eq_true, decide_eq_true_eq]
def fmtK (k : Knd) : List UInt8 := if isKnd k then textK k else []
theorem fmtK_val {k : Knd} (h : isKnd k = true) : fmtK k = textK k := by unfold fmtK; rw [if_pos h]
theorem fmtK_no {k : Knd} (h : isKnd k = false) : fmtK k = [] := by unfold fmtK; rw [if_neg (by simp [h])]
theorem textK_ne (k : Knd) : textK k ≠ [] := by unfold textK; simp
theorem fmtK_ne {k : Knd} : fmtK k ≠ [] ↔ isKnd k = true := by
  cases h : isKnd k
  · rw [fmtK_no h]; simp
  · rw [fmtK_val h]; simp [textK_ne]
theorem parsT_snoc (ps : List Fld) (f : Fld) : parsT (ps ++ [f]) = parsT ps ++ parT f := by unfold parsT; simp
theorem parsT_cons (f : Fld) (ps : List Fld) : parsT (f :: ps) = parT f ++ parsT ps := rfl
theorem parsT_take (ps : List Fld) (k : Nat) (h : k < ps.length) : parsT (ps.take (k + 1)) = parsT (ps.take k) ++ parT ps[k] := by
  rw [List.take_succ_eq_append_getElem h, parsT_snoc]
/-! Reading. -/
def cut2 (c : UInt8) (l : List UInt8) : List UInt8 × List UInt8 := (cutAt c l).getD (l, [])
def readP (l : List UInt8) : Option Fld := match splitW (cut2 61 l).2 with
  | some [t] => some ⟨low (trimS (cut2 61 l).1), t⟩
  | _ => none
def mapP : List (List UInt8) → Option (List Fld)
  | [] => some []
  | l :: ls => match readP l with
    | some f => (mapP ls).map (f :: ·)
    | none => none
def mainK (h : List UInt8) : List UInt8 × List UInt8 := cut2 47 (low (trimS h))
def okK (k : Knd) : Option Knd := if isKnd k then some k else none
theorem okK_some {k q : Knd} (h : okK k = some q) : q = k ∧ isKnd q = true := by
  unfold okK at h
  split at h
  · rename_i hk; injection h with h; subst h; exact ⟨rfl, hk⟩
  · cases h
def readK (l : List UInt8) : Option Knd := match partsU 59 l with
  | [] => none
  | h :: ps => (mapP ps).bind fun fs => okK ⟨(mainK h).1, (mainK h).2, fs⟩
def parseK (l : List UInt8) : Option Knd := if isText l then readK l else none
theorem parseK_valid {l : List UInt8} {k : Knd} (h : parseK l = some k) : isKnd k = true := by
  unfold parseK at h
  split at h
  · unfold readK at h
    split at h
    · cases h
    · obtain ⟨fs, _, h⟩ := Option.bind_eq_some_iff.1 h
      exact (okK_some h).2
  · cases h
theorem cutAt_pre {c : UInt8} : ∀ {l a b : List UInt8}, cutAt c l = some (a, b) → l = a ++ c :: b ∧ ∀ x ∈ a, x ≠ c
  | [], a, b, h => by simp [cutAt] at h
  | x :: l, a, b, h => by
    unfold cutAt at h
    split at h
    · rename_i e
      injection h with h
      injection h with h1 h2
      subst h1 h2
      exact ⟨by rw [e]; rfl, fun x hx => by cases hx⟩
    · rename_i e
      obtain ⟨y, hy, h⟩ := Option.map_eq_some_iff.1 h
      obtain ⟨a', b'⟩ := y
      injection h with h1 h2
      subst h1 h2
      obtain ⟨g1, g2⟩ := cutAt_pre hy
      refine ⟨by rw [g1]; rfl, fun z hz => ?_⟩
      rcases List.mem_cons.1 hz with rfl | hz
      · exact e
      · exact g2 z hz
theorem cutAt_out {c : UInt8} : ∀ {l : List UInt8}, cutAt c l = none → ∀ x ∈ l, x ≠ c
  | [], _ => fun x hx => by cases hx
  | y :: l, h => by
    unfold cutAt at h
    split at h
    · cases h
    · rename_i e
      have := cutAt_out (Option.map_eq_none_iff.1 h)
      intro x hx
      rcases List.mem_cons.1 hx with rfl | hx
      · exact e
      · exact this x hx
/-! What is written is read back. -/
theorem nameC_more_nat : ∀ n, n < 256 → nameC (UInt8.ofNat n) = true → UInt8.ofNat n ≠ 59 ∧ UInt8.ofNat n ≠ 34 ∧ UInt8.ofNat n ≠ 61 ∧ UInt8.ofNat n ≠ 47 ∧ UInt8.ofNat n ≠ 32 ∧ okB (UInt8.ofNat n) = true := by decide +kernel
theorem nameC_more {c : UInt8} (h : nameC c = true) : c ≠ 59 ∧ c ≠ 34 ∧ c ≠ 61 ∧ c ≠ 47 ∧ c ≠ 32 ∧ okB c = true := by
  have := nameC_more_nat c.toNat c.toNat_lt; rw [UInt8.ofNat_toNat] at this; exact this h
theorem fname_mem {l : List UInt8} (h : isFName l = true) {x : UInt8} (hx : x ∈ l) : nameC x = true := (isFName_iff.1 h).2.2.1 x hx
theorem fname_ne {l : List UInt8} (h : isFName l = true) : l ≠ [] := fun e => by have := (isFName_iff.1 h).1; rw [e] at this; simp at this
theorem noSpace_ends {l : List UInt8} (h : ∀ x ∈ l, x ≠ 32) : l.head? ≠ some 32 ∧ l.getLast? ≠ some 32 := by
  refine ⟨fun e => ?_, fun e => ?_⟩
  · exact h 32 (List.mem_of_mem_head? e) rfl
  · exact h 32 (List.mem_of_getLast? e) rfl
theorem trim_noSpace {l : List UInt8} (h : ∀ x ∈ l, x ≠ 32) : trimS l = l := trimS_id (noSpace_ends h).1 (noSpace_ends h).2
theorem trim_sp_noSpace {l : List UInt8} (h : ∀ x ∈ l, x ≠ 32) : trimS (32 :: l) = l := by rw [trimS_left, trim_noSpace h]
theorem readP_parT {f : Fld} (h : parOk f = true) : readP (32 :: (f.name ++ 61 :: quoteW f.val)) = some f := by
  obtain ⟨⟨h1, h2⟩, h3, h4⟩ := parOk_iff.1 h
  have hc : cutAt 61 (32 :: (f.name ++ 61 :: quoteW f.val)) = some (32 :: f.name, quoteW f.val) :=
    cutAt_hit (a := 32 :: f.name) (quoteW f.val) (fun x hx => by
      rcases List.mem_cons.1 hx with rfl | hx
      · decide
      · exact (nameC_more (fname_mem h1 hx)).2.2.1)
  unfold readP cut2
  rw [hc, Option.getD_some]
  show (match splitW (quoteW f.val) with | some [t] => some (⟨low (trimS (32 :: f.name)), t⟩ : Fld) | _ => none) = some f
  rw [splitW_quoteW h3, trim_sp_noSpace (fun x hx => (nameC_more (fname_mem h1 hx)).2.2.2.2.1), h2]
theorem mapP_parT : ∀ (ps : List Fld), (∀ f ∈ ps, parOk f = true) → mapP (ps.map fun f => 32 :: (f.name ++ 61 :: quoteW f.val)) = some ps
  | [], _ => rfl
  | f :: ps, h => by
    rw [List.map_cons, mapP, readP_parT (h f (by simp)), mapP_parT ps (fun g hg => h g (by simp [hg]))]; rfl
theorem atom59 : atomB 59 = false := by decide
theorem par_pass {f : Fld} (h : parOk f = true) : Pass 59 (32 :: (f.name ++ 61 :: quoteW f.val)) := by
  obtain ⟨⟨h1, _⟩, _, _⟩ := parOk_iff.1 h
  have e : 32 :: (f.name ++ 61 :: quoteW f.val) = [32] ++ (f.name ++ ([61] ++ quoteW f.val)) := by simp
  rw [e]
  exact (Pass.one (by decide) (by decide)).app ((Pass.plain fun x hx => ⟨(nameC_more (fname_mem h1 hx)).1, (nameC_more (fname_mem h1 hx)).2.1⟩).app ((Pass.one (by decide) (by decide)).app (Pass.word (by decide) atom59 f.val)))
theorem parts_textK : ∀ (ps : List Fld) (l : List UInt8), Pass 59 l → (∀ f ∈ ps, parOk f = true) → partsU 59 (l ++ parsT ps) = l :: ps.map fun f => 32 :: (f.name ++ 61 :: quoteW f.val)
  | [], l, hl, _ => by
    have : l ++ parsT [] = l := by unfold parsT; simp
    rw [this, partsU_none (cutU_none hl)]; rfl
  | f :: ps, l, hl, h => by
    have e : l ++ parsT (f :: ps) = l ++ 59 :: ((32 :: (f.name ++ 61 :: quoteW f.val)) ++ parsT ps) := by rw [parsT_cons]; unfold parT; simp
    rw [e, partsU_some (cutU_hit hl _), parts_textK ps _ (par_pass (h f (by simp))) (fun g hg => h g (by simp [hg]))]; rfl
theorem head_pass {k : Knd} (h1 : isFName k.main = true) (h2 : isFName k.sub = true) : Pass 59 (k.main ++ 47 :: k.sub) := by
  refine Pass.plain fun x hx => ?_
  rcases List.mem_append.1 hx with hx | hx
  · exact ⟨(nameC_more (fname_mem h1 hx)).1, (nameC_more (fname_mem h1 hx)).2.1⟩
  · rcases List.mem_cons.1 hx with rfl | hx
    · exact ⟨by decide, by decide⟩
    · exact ⟨(nameC_more (fname_mem h2 hx)).1, (nameC_more (fname_mem h2 hx)).2.1⟩
theorem low_append (l k : List UInt8) : low (l ++ k) = low l ++ low k := List.map_append
theorem head_mem {k : Knd} (h1 : isFName k.main = true) (h2 : isFName k.sub = true) : ∀ x ∈ k.main ++ 47 :: k.sub, okB x = true ∧ x ≠ 32 ∧ x ≠ 34 ∧ x ≠ 59 := by
  intro x hx
  rcases List.mem_append.1 hx with hx | hx
  · have := nameC_more (fname_mem h1 hx); exact ⟨this.2.2.2.2.2, this.2.2.2.2.1, this.2.1, this.1⟩
  · rcases List.mem_cons.1 hx with rfl | hx
    · exact ⟨by decide, by decide, by decide, by decide⟩
    · have := nameC_more (fname_mem h2 hx); exact ⟨this.2.2.2.2.2, this.2.2.2.2.1, this.2.1, this.1⟩
/-- Main and Sub are read, in whatever letters. -/
theorem mainK_low {k : Knd} (h1 : isSmall k.main = true) {h : List UInt8} (hl : low (trimS h) = k.main ++ 47 :: k.sub) : mainK h = (k.main, k.sub) := by
  unfold mainK cut2
  rw [hl, cutAt_hit k.sub (fun x hx => (nameC_more (fname_mem (isSmall_iff.1 h1).1 hx)).2.2.2.1)]; rfl
theorem low_head {k : Knd} (h1 : isSmall k.main = true) (h2 : isSmall k.sub = true) : low (k.main ++ 47 :: k.sub) = k.main ++ 47 :: k.sub := by
  rw [low_append, (isSmall_iff.1 h1).2]
  show k.main ++ lowB 47 :: low k.sub = _
  rw [(isSmall_iff.1 h2).2]; rfl
theorem parT_ok {f : Fld} (h : parOk f = true) : ∀ x ∈ parT f, okB x = true := by
  obtain ⟨⟨h1, _⟩, h3, _⟩ := parOk_iff.1 h
  intro x hx
  unfold parT at hx
  rcases List.mem_cons.1 hx with rfl | hx
  · decide
  rcases List.mem_cons.1 hx with rfl | hx
  · decide
  rcases List.mem_append.1 hx with hx | hx
  · exact (nameC_more (fname_mem h1 hx)).2.2.2.2.2
  rcases List.mem_cons.1 hx with rfl | hx
  · decide
  · exact quoteW_ok h3 hx
theorem textK_split (k : Knd) : textK k = (k.main ++ 47 :: k.sub) ++ parsT k.params := by unfold textK; simp
theorem textK_text {k : Knd} (h : isKnd k = true) : isText (textK k) = true := by
  obtain ⟨h1, h2, h3, h4, h5⟩ := isKnd_iff.1 h
  refine isText_mk (fun x hx => ?_) (by omega)
  rw [textK_split] at hx
  rcases List.mem_append.1 hx with hx | hx
  · exact (head_mem (isSmall_iff.1 h1).1 (isSmall_iff.1 h2).1 x hx).1
  · unfold parsT at hx
    obtain ⟨f, hf, hx⟩ := List.mem_flatMap.1 hx
    exact parT_ok (parsOk_mem h4 hf) x hx
theorem okK_yes {k : Knd} (h : isKnd k = true) : okK k = some k := by unfold okK; rw [if_pos h]
theorem okK_no {k : Knd} (h : isKnd k = false) : okK k = none := by unfold okK; rw [if_neg (by simp [h])]
theorem parse_textK {k : Knd} (h : isKnd k = true) : parseK (textK k) = some k := by
  obtain ⟨h1, h2, h3, h4, h5⟩ := isKnd_iff.1 h
  unfold parseK readK
  rw [if_pos (textK_text h), textK_split, parts_textK k.params _ (head_pass (isSmall_iff.1 h1).1 (isSmall_iff.1 h2).1) (fun f hf => parsOk_mem h4 hf)]
  show ((mapP _).bind fun fs => okK ⟨(mainK _).1, (mainK _).2, fs⟩) = some k
  rw [mapP_parT k.params (fun f hf => parsOk_mem h4 hf), Option.bind_some,
    mainK_low h1 (by rw [trim_noSpace (fun x hx => (head_mem (isSmall_iff.1 h1).1 (isSmall_iff.1 h2).1 x hx).2.1), low_head h1 h2])]
  exact okK_yes h
theorem parse_fmtK {k : Knd} (h : isKnd k = true) : parseK (fmtK k) = some k := by rw [fmtK_val h]; exact parse_textK h
/-- A kind without parameters is read in whatever letters. -/
theorem parse_upper {k : Knd} (h : isKnd k = true) (hp : k.params = []) {u : List UInt8} (hu : low u = textK k) : parseK u = some k := by
  obtain ⟨h1, h2, h3, h4, h5⟩ := isKnd_iff.1 h
  have ht : textK k = k.main ++ 47 :: k.sub := by rw [textK_split, hp]; unfold parsT; simp
  have hlow : ∀ n, n < 256 → (okB (lowB (UInt8.ofNat n)) = true ∧ lowB (UInt8.ofNat n) ≠ 32 ∧ lowB (UInt8.ofNat n) ≠ 34 ∧ lowB (UInt8.ofNat n) ≠ 59) → okB (UInt8.ofNat n) = true ∧ UInt8.ofNat n ≠ 32 ∧ UInt8.ofNat n ≠ 34 ∧ UInt8.ofNat n ≠ 59 := by decide +kernel
  have hm : ∀ x ∈ u, okB x = true ∧ x ≠ 32 ∧ x ≠ 34 ∧ x ≠ 59 := by
    intro x hx
    have hx' : lowB x ∈ low u := List.mem_map.2 ⟨x, hx, rfl⟩
    rw [hu, ht] at hx'
    have := hlow x.toNat x.toNat_lt
    rw [UInt8.ofNat_toNat] at this
    exact this (head_mem (isSmall_iff.1 h1).1 (isSmall_iff.1 h2).1 _ hx')
  have hlen : u.length = (textK k).length := by rw [← hu]; simp [low]
  have htx : isText u = true := isText_mk (fun x hx => (hm x hx).1) (by omega)
  have hpass : Pass 59 u := Pass.plain fun x hx => ⟨(hm x hx).2.2.2, (hm x hx).2.2.1⟩
  unfold parseK readK
  rw [if_pos htx, partsU_none (cutU_none hpass)]
  show ((mapP []).bind fun fs => okK ⟨(mainK u).1, (mainK u).2, fs⟩) = some k
  rw [mainK_low h1 (by rw [trim_noSpace (fun x hx => (hm x hx).2.1), hu, ht])]
  show okK ⟨k.main, k.sub, []⟩ = some k
  rw [← hp]; exact okK_yes h
/-! Boundaries of kinds. -/
def bndL : List UInt8 := [98, 111, 117, 110, 100, 97, 114, 121]
def multiL : List UInt8 := [109, 117, 108, 116, 105, 112, 97, 114, 116]
end Go.Proofs.YtbfjbabpeigloabDoor
