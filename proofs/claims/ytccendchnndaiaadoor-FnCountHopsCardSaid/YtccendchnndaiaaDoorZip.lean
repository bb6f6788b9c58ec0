/-
  Several texts in one. No statement is proved here.
-/
import Derived.Test.YtccendchnndaiaaDoorFieldM
import Derived.Test.YtccendchnndaiaaDoorRows2
import Derived.Test.YtccendchnndaiaaDoorParse
import Derived.Deep.QuietTactic
import Derived.BigQuiet
import Derived.Test.YtccendchnndaiaaDoorRowL
import Derived.Lib.Join
import Derived.Test.YtccendchnndaiaaDoorMal
import Derived.Test.YtccendchnndaiaaDoorAddr
import Derived.Test.YtccendchnndaiaaDoorGwM
import Derived.Test.YtccendchnndaiaaDoorMalT
section
namespace Go.Proofs.YtccendchnndaiaaDoor
open Go.RowKit

structure Knd where
  main : List UInt8
  sub : List UInt8
  params : List Fld
deriving DecidableEq
theorem Knd.ext' {a b : Knd} (h1 : a.main = b.main) (h2 : a.sub = b.sub) (h3 : a.params = b.params) : a = b := by cases a; cases b; simp_all
def knd0 : Knd := ⟨[], [], []⟩
/-- A name of fields without capital letters. -/
def isSmall (l : List UInt8) : Bool := isFName l && decide (low l = l)
theorem isSmall_iff {l : List UInt8} : isSmall l = true ↔ isFName l = true ∧ low l = l := by unfold isSmall; simp
def parOk (f : Fld) : Bool := isSmall f.name && isName f.val
/-- A parameter at a place: it stands well, and none before it has its name. -/
def parAt (ps : List Fld) (i : Nat) : Bool := match ps[i]? with
  | some f => parOk f && (findN (ps.take i) f.name).isNone
  | none => true
def parsOk (ps : List Fld) : Bool := (List.range ps.length).all (parAt ps)
theorem parAt_at {ps : List Fld} {i : Nat} (h : i < ps.length) : parAt ps i = (parOk ps[i] && (findN (ps.take i) ps[i].name).isNone) := by
  unfold parAt; rw [List.getElem?_eq_getElem h]
theorem parsOk_bad {ps : List Fld} {i : Nat} (h : i < ps.length) (hb : parAt ps i = false) : parsOk ps = false := by
  unfold parsOk; rw [List.all_eq_false]; exact ⟨i, List.mem_range.2 h, by simp [hb]⟩
theorem parsOk_good {ps : List Fld} (h : ∀ i, i < ps.length → parAt ps i = true) : parsOk ps = true := by
  unfold parsOk; rw [List.all_eq_true]; intro i hi; exact h i (List.mem_range.1 hi)
theorem parsOk_at {ps : List Fld} (h : parsOk ps = true) {i : Nat} (hi : i < ps.length) : parOk ps[i] = true := by
  unfold parsOk at h
  have := List.all_eq_true.1 h i (List.mem_range.2 hi)
  rw [parAt_at hi] at this
  simp at this; exact this.1
theorem parsOk_mem {ps : List Fld} (h : parsOk ps = true) {f : Fld} (hf : f ∈ ps) : parOk f = true := by
  obtain ⟨i, hi, rfl⟩ := List.getElem_of_mem hf
  exact parsOk_at h hi
theorem parOk_iff {f : Fld} : parOk f = true ↔ (isFName f.name = true ∧ low f.name = f.name) ∧ isText f.val = true ∧ f.val.length ≤ 40 := by
  unfold parOk isName; rw [Bool.and_eq_true, isSmall_iff, Bool.and_eq_true, decide_eq_true_iff]
def parT (f : Fld) : List UInt8 := 59 :: 32 :: (f.name ++ 61 :: quoteW f.val)
def parsT (ps : List Fld) : List UInt8 := ps.flatMap parT
def textK (k : Knd) : List UInt8 := k.main ++ 47 :: (k.sub ++ parsT k.params)
def isKnd (k : Knd) : Bool := isSmall k.main && (isSmall k.sub && (decide (k.params.length ≤ 4) && (parsOk k.params && decide ((textK k).length ≤ 150))))
theorem isKnd_iff {k : Knd} : isKnd k = true ↔ isSmall k.main = true ∧ isSmall k.sub = true ∧ k.params.length ≤ 4 ∧ parsOk k.params = true ∧ (textK k).length ≤ 150 := by
  unfold isKnd; simp only [Bool.and_eq_true, decide_eq_true_eq]
def fmtK (k : Knd) : List UInt8 := if isKnd k then textK k else []
theorem fmtK_val {k : Knd} (h : isKnd k = true) : fmtK k = textK k := by unfold fmtK; rw [if_pos h]
theorem fmtK_no {k : Knd} (h : isKnd k = false) : fmtK k = [] := by unfold fmtK; rw [if_neg (by simp [h])]
theorem textK_ne (k : Knd) : textK k ≠ [] := by unfold textK; simp
theorem fmtK_ne {k : Knd} : fmtK k ≠ [] ↔ isKnd k = true := by
  cases h : isKnd k
  · rw [fmtK_no h]; simp
  · rw [fmtK_val h]; simp [textK_ne]
theorem parsT_snoc (ps : List Fld) (f : Fld) : parsT (ps ++ [f]) = parsT ps ++ parT f := by unfold parsT; simp
theorem parsT_cons (f : Fld) (ps : List Fld) : parsT (f :: ps) = parT f ++ parsT ps := rfl
theorem parsT_take (ps : List Fld) (k : Nat) (h : k < ps.length) : parsT (ps.take (k + 1)) = parsT (ps.take k) ++ parT ps[k] := by
  rw [List.take_succ_eq_append_getElem h, parsT_snoc]
/-! Reading. -/
def cut2 (c : UInt8) (l : List UInt8) : List UInt8 × List UInt8 := (cutAt c l).getD (l, [])
def readP (l : List UInt8) : Option Fld := match splitW (cut2 61 l).2 with
  | some [t] => some ⟨low (trimS (cut2 61 l).1), t⟩
  | _ => none
def mapP : List (List UInt8) → Option (List Fld)
  | [] => some []
  | l :: ls => match readP l with
    | some f => (mapP ls).map (f :: ·)
    | none => none
def mainK (h : List UInt8) : List UInt8 × List UInt8 := cut2 47 (low (trimS h))
def okK (k : Knd) : Option Knd := if isKnd k then some k else none
theorem okK_some {k q : Knd} (h : okK k = some q) : q = k ∧ isKnd q = true := by
  unfold okK at h
  split at h
  · rename_i hk; injection h with h; subst h; exact ⟨rfl, hk⟩
  · cases h
def readK (l : List UInt8) : Option Knd := match partsU 59 l with
  | [] => none
  | h :: ps => (mapP ps).bind fun fs => okK ⟨(mainK h).1, (mainK h).2, fs⟩
def parseK (l : List UInt8) : Option Knd := if isText l then readK l else none
theorem parseK_valid {l : List UInt8} {k : Knd} (h : parseK l = some k) : isKnd k = true := by
  unfold parseK at h
  split at h
  · unfold readK at h
    split at h
    · cases h
    · obtain ⟨fs, _, h⟩ := Option.bind_eq_some_iff.1 h
      exact (okK_some h).2
  · cases h
theorem cutAt_pre {c : UInt8} : ∀ {l a b : List UInt8}, cutAt c l = some (a, b) → l = a ++ c :: b ∧ ∀ x ∈ a, x ≠ c
  | [], a, b, h => by simp [cutAt] at h
  | x :: l, a, b, h => by
    unfold cutAt at h
    split at h
    · rename_i e
      injection h with h
      injection h with h1 h2
      subst h1 h2
      exact ⟨by rw [e]; rfl, fun x hx => by cases hx⟩
    · rename_i e
      obtain ⟨y, hy, h⟩ := Option.map_eq_some_iff.1 h
      obtain ⟨a', b'⟩ := y
      injection h with h1 h2
      subst h1 h2
      obtain ⟨g1, g2⟩ := cutAt_pre hy
      refine ⟨by rw [g1]; rfl, fun z hz => ?_⟩
      rcases List.mem_cons.1 hz with rfl | hz
      · exact e
      · exact g2 z hz
theorem cutAt_out {c : UInt8} : ∀ {l : List UInt8}, cutAt c l = none → ∀ x ∈ l, x ≠ c
  | [], _ => fun x hx => by cases hx
  | y :: l, h => by
    unfold cutAt at h
    split at h
    · cases h
    · rename_i e
      have := cutAt_out (Option.map_eq_none_iff.1 h)
      intro x hx
      rcases List.mem_cons.1 hx with rfl | hx
      · exact e
      · exact this x hx
/-! What is written is read back. -/
theorem nameC_more_nat : ∀ n, n < 256 → nameC (UInt8.ofNat n) = true → UInt8.ofNat n ≠ 59 ∧ UInt8.ofNat n ≠ 34 ∧ UInt8.ofNat n ≠ 61 ∧ UInt8.ofNat n ≠ 47 ∧ UInt8.ofNat n ≠ 32 ∧ okB (UInt8.ofNat n) = true := by decide +kernel
theorem nameC_more {c : UInt8} (h : nameC c = true) : c ≠ 59 ∧ c ≠ 34 ∧ c ≠ 61 ∧ c ≠ 47 ∧ c ≠ 32 ∧ okB c = true := by
  have := nameC_more_nat c.toNat c.toNat_lt; rw [UInt8.ofNat_toNat] at this; exact this h
theorem fname_mem {l : List UInt8} (h : isFName l = true) {x : UInt8} (hx : x ∈ l) : nameC x = true := (isFName_iff.1 h).2.2.1 x hx
theorem fname_ne {l : List UInt8} (h : isFName l = true) : l ≠ [] := fun e => by have := (isFName_iff.1 h).1; rw [e] at this; simp at this
theorem noSpace_ends {l : List UInt8} (h : ∀ x ∈ l, x ≠ 32) : l.head? ≠ some 32 ∧ l.getLast? ≠ some 32 := by
  refine ⟨fun e => ?_, fun e => ?_⟩
  · exact h 32 (List.mem_of_mem_head? e) rfl
  · exact h 32 (List.mem_of_getLast? e) rfl
theorem trim_noSpace {l : List UInt8} (h : ∀ x ∈ l, x ≠ 32) : trimS l = l := trimS_id (noSpace_ends h).1 (noSpace_ends h).2
theorem trim_sp_noSpace {l : List UInt8} (h : ∀ x ∈ l, x ≠ 32) : trimS (32 :: l) = l := by rw [trimS_left, trim_noSpace h]
theorem readP_parT {f : Fld} (h : parOk f = true) : readP (32 :: (f.name ++ 61 :: quoteW f.val)) = some f := by
  obtain ⟨⟨h1, h2⟩, h3, h4⟩ := parOk_iff.1 h
  have hc : cutAt 61 (32 :: (f.name ++ 61 :: quoteW f.val)) = some (32 :: f.name, quoteW f.val) :=
    cutAt_hit (a := 32 :: f.name) (quoteW f.val) (fun x hx => by
      rcases List.mem_cons.1 hx with rfl | hx
      · decide
      · exact (nameC_more (fname_mem h1 hx)).2.2.1)
  unfold readP cut2
  rw [hc, Option.getD_some]
  show (match splitW (quoteW f.val) with | some [t] => some (⟨low (trimS (32 :: f.name)), t⟩ : Fld) | _ => none) = some f
  rw [splitW_quoteW h3, trim_sp_noSpace (fun x hx => (nameC_more (fname_mem h1 hx)).2.2.2.2.1), h2]
theorem mapP_parT : ∀ (ps : List Fld), (∀ f ∈ ps, parOk f = true) → mapP (ps.map fun f => 32 :: (f.name ++ 61 :: quoteW f.val)) = some ps
  | [], _ => rfl
  | f :: ps, h => by
    rw [List.map_cons, mapP, readP_parT (h f (by simp)), mapP_parT ps (fun g hg => h g (by simp [hg]))]; rfl
theorem atom59 : atomB 59 = false := by decide
theorem par_pass {f : Fld} (h : parOk f = true) : Pass 59 (32 :: (f.name ++ 61 :: quoteW f.val)) := by
  obtain ⟨⟨h1, _⟩, _, _⟩ := parOk_iff.1 h
  have e : 32 :: (f.name ++ 61 :: quoteW f.val) = [32] ++ (f.name ++ ([61] ++ quoteW f.val)) := by simp
  rw [e]
  exact (Pass.one (by decide) (by decide)).app ((Pass.plain fun x hx => ⟨(nameC_more (fname_mem h1 hx)).1, (nameC_more (fname_mem h1 hx)).2.1⟩).app ((Pass.one (by decide) (by decide)).app (Pass.word (by decide) atom59 f.val)))
theorem parts_textK : ∀ (ps : List Fld) (l : List UInt8), Pass 59 l → (∀ f ∈ ps, parOk f = true) → partsU 59 (l ++ parsT ps) = l :: ps.map fun f => 32 :: (f.name ++ 61 :: quoteW f.val)
  | [], l, hl, _ => by
    have : l ++ parsT [] = l := by unfold parsT; simp
    rw [this, partsU_none (cutU_none hl)]; rfl
  | f :: ps, l, hl, h => by
    have e : l ++ parsT (f :: ps) = l ++ 59 :: ((32 :: (f.name ++ 61 :: quoteW f.val)) ++ parsT ps) := by rw [parsT_cons]; unfold parT; simp
    rw [e, partsU_some (cutU_hit hl _), parts_textK ps _ (par_pass (h f (by simp))) (fun g hg => h g (by simp [hg]))]; rfl
theorem head_pass {k : Knd} (h1 : isFName k.main = true) (h2 : isFName k.sub = true) : Pass 59 (k.main ++ 47 :: k.sub) := by
  refine Pass.plain fun x hx => ?_
  rcases List.mem_append.1 hx with hx | hx
  · exact ⟨(nameC_more (fname_mem h1 hx)).1, (nameC_more (fname_mem h1 hx)).2.1⟩
  · rcases List.mem_cons.1 hx with rfl | hx
    · exact ⟨by decide, by decide⟩
    · exact ⟨(nameC_more (fname_mem h2 hx)).1, (nameC_more (fname_mem h2 hx)).2.1⟩
theorem low_append (l k : List UInt8) : low (l ++ k) = low l ++ low k := List.map_append
theorem head_mem {k : Knd} (h1 : isFName k.main = true) (h2 : isFName k.sub = true) : ∀ x ∈ k.main ++ 47 :: k.sub, okB x = true ∧ x ≠ 32 ∧ x ≠ 34 ∧ x ≠ 59 := by
  intro x hx
  rcases List.mem_append.1 hx with hx | hx
  · have := nameC_more (fname_mem h1 hx); exact ⟨this.2.2.2.2.2, this.2.2.2.2.1, this.2.1, this.1⟩
  · rcases List.mem_cons.1 hx with rfl | hx
    · exact ⟨by decide, by decide, by decide, by decide⟩
    · have := nameC_more (fname_mem h2 hx); exact ⟨this.2.2.2.2.2, this.2.2.2.2.1, this.2.1, this.1⟩
/-- Main and Sub are read, in whatever letters. -/
theorem mainK_low {k : Knd} (h1 : isSmall k.main = true) {h : List UInt8} (hl : low (trimS h) = k.main ++ 47 :: k.sub) : mainK h = (k.main, k.sub) := by
  unfold mainK cut2
  rw [hl, cutAt_hit k.sub (fun x hx => (nameC_more (fname_mem (isSmall_iff.1 h1).1 hx)).2.2.2.1)]; rfl
theorem low_head {k : Knd} (h1 : isSmall k.main = true) (h2 : isSmall k.sub = true) : low (k.main ++ 47 :: k.sub) = k.main ++ 47 :: k.sub := by
  rw [low_append, (isSmall_iff.1 h1).2]
  show k.main ++ lowB 47 :: low k.sub = _
  rw [(isSmall_iff.1 h2).2]; rfl
theorem parT_ok {f : Fld} (h : parOk f = true) : ∀ x ∈ parT f, okB x = true := by
  obtain ⟨⟨h1, _⟩, h3, _⟩ := parOk_iff.1 h
  intro x hx
  unfold parT at hx
  rcases List.mem_cons.1 hx with rfl | hx
  · decide
  rcases List.mem_cons.1 hx with rfl | hx
  · decide
  rcases List.mem_append.1 hx with hx | hx
  · exact (nameC_more (fname_mem h1 hx)).2.2.2.2.2
  rcases List.mem_cons.1 hx with rfl | hx
  · decide
  · exact quoteW_ok h3 hx
theorem textK_split (k : Knd) : textK k = (k.main ++ 47 :: k.sub) ++ parsT k.params := by unfold textK; simp
theorem textK_text {k : Knd} (h : isKnd k = true) : isText (textK k) = true := by
  obtain ⟨h1, h2, h3, h4, h5⟩ := isKnd_iff.1 h
  refine isText_mk (fun x hx => ?_) (by omega)
  rw [textK_split] at hx
  rcases List.mem_append.1 hx with hx | hx
  · exact (head_mem (isSmall_iff.1 h1).1 (isSmall_iff.1 h2).1 x hx).1
  · unfold parsT at hx
    obtain ⟨f, hf, hx⟩ := List.mem_flatMap.1 hx
    exact parT_ok (parsOk_mem h4 hf) x hx
theorem okK_yes {k : Knd} (h : isKnd k = true) : okK k = some k := by unfold okK; rw [if_pos h]
theorem okK_no {k : Knd} (h : isKnd k = false) : okK k = none := by unfold okK; rw [if_neg (by simp [h])]
theorem parse_textK {k : Knd} (h : isKnd k = true) : parseK (textK k) = some k := by
  obtain ⟨h1, h2, h3, h4, h5⟩ := isKnd_iff.1 h
  unfold parseK readK
  rw [if_pos (textK_text h), textK_split, parts_textK k.params _ (head_pass (isSmall_iff.1 h1).1 (isSmall_iff.1 h2).1) (fun f hf => parsOk_mem h4 hf)]
  show ((mapP _).bind fun fs => okK ⟨(mainK _).1, (mainK _).2, fs⟩) = some k
  rw [mapP_parT k.params (fun f hf => parsOk_mem h4 hf), Option.bind_some,
    mainK_low h1 (by rw [trim_noSpace (fun x hx => (head_mem (isSmall_iff.1 h1).1 (isSmall_iff.1 h2).1 x hx).2.1), low_head h1 h2])]
  exact okK_yes h
theorem parse_fmtK {k : Knd} (h : isKnd k = true) : parseK (fmtK k) = some k := by rw [fmtK_val h]; exact parse_textK h
/-- A kind without parameters is read in whatever letters. -/
theorem parse_upper {k : Knd} (h : isKnd k = true) (hp : k.params = []) {u : List UInt8} (hu : low u = textK k) : parseK u = some k := by
  obtain ⟨h1, h2, h3, h4, h5⟩ := isKnd_iff.1 h
  have ht : textK k = k.main ++ 47 :: k.sub := by rw [textK_split, hp]; unfold parsT; simp
  have hlow : ∀ n, n < 256 → (okB (lowB (UInt8.ofNat n)) = true ∧ lowB (UInt8.ofNat n) ≠ 32 ∧ lowB (UInt8.ofNat n) ≠ 34 ∧ lowB (UInt8.ofNat n) ≠ 59) → okB (UInt8.ofNat n) = true ∧ UInt8.ofNat n ≠ 32 ∧ UInt8.ofNat n ≠ 34 ∧ UInt8.ofNat n ≠ 59 := by decide +kernel
  have hm : ∀ x ∈ u, okB x = true ∧ x ≠ 32 ∧ x ≠ 34 ∧ x ≠ 59 := by
    intro x hx
    have hx' : lowB x ∈ low u := List.mem_map.2 ⟨x, hx, rfl⟩
    rw [hu, ht] at hx'
    have := hlow x.toNat x.toNat_lt
    rw [UInt8.ofNat_toNat] at this
    exact this (head_mem (isSmall_iff.1 h1).1 (isSmall_iff.1 h2).1 _ hx')
  have hlen : u.length = (textK k).length := by rw [← hu]; simp [low]
  have htx : isText u = true := isText_mk (fun x hx => (hm x hx).1) (by omega)
  have hpass : Pass 59 u := Pass.plain fun x hx => ⟨(hm x hx).2.2.2, (hm x hx).2.2.1⟩
  unfold parseK readK
  rw [if_pos htx, partsU_none (cutU_none hpass)]
  show ((mapP []).bind fun fs => okK ⟨(mainK u).1, (mainK u).2, fs⟩) = some k
  rw [mainK_low h1 (by rw [trim_noSpace (fun x hx => (hm x hx).2.1), hu, ht])]
  show okK ⟨k.main, k.sub, []⟩ = some k
  rw [← hp]; exact okK_yes h
/-! Boundaries of kinds. -/
def bndL : List UInt8 := [98, 111, 117, 110, 100, 97, 114, 121]
def multiL : List UInt8 := [109, 117, 108, 116, 105, 112, 97, 114, 116]
end Go.Proofs.YtccendchnndaiaaDoor
end

section
namespace Go.Proofs.YtccendchnndaiaaDoor
open Go.RowKit

/-- A place, or -1. -/
def idxI (o : Option Nat) : Int := match o with | some i => (i : Int) | none => -1
theorem idxI_none : idxI none = -1 := rfl
theorem idxI_some (i : Nat) : idxI (some i) = (i : Int) := rfl
/-- A field as its two texts. -/
def fld (n v : ByteArray) : Fld := ⟨n.data.toList, v.data.toList⟩
theorem fld_str (f : Fld) : fld (str f.name) (str f.val) = f := by unfold fld; rw [str_list, str_list]
/-- A field as a value. -/
def fldV (f : Fld) : Value := .agg #[.string (str f.name), .string (str f.val)]
theorem fldV_zero : fldV fld0 = .agg #[.string ⟨#[]⟩, .string ⟨#[]⟩] := rfl
theorem fldV_fld (n v : ByteArray) : fldV (fld n v) = .agg #[.string n, .string v] := by unfold fldV fld; rw [str_of, str_of]
def fldC (f : Fld) : List Value := [.string (str f.name), .string (str f.val)]
theorem fldC_len (f : Fld) : (fldC f).length = 2 := rfl
theorem fld_eq_iff (a b : Fld) : a = b ↔ str a.name = str b.name ∧ str a.val = str b.val := by
  constructor
  · rintro rfl; exact ⟨rfl, rfl⟩
  · rintro ⟨h1, h2⟩; exact Fld.ext' (by rw [← str_list a.name, h1, str_list]) (by rw [← str_list a.val, h2, str_list])
theorem fld_beq (a b : Fld) : decide (a = b) = (decide (str a.name = str b.name) && decide (str a.val = str b.val)) := by
  rw [← Bool.decide_and]; exact decide_eq_decide.2 (fld_eq_iff a b)
/-- The texts of a field are no longer than M. -/
def SmallF (M : Nat) (f : Fld) : Prop := f.name.length ≤ M ∧ f.val.length ≤ M
theorem SmallF.up {M N : Nat} {f : Fld} (h : SmallF M f) (hMN : M ≤ N) : SmallF N f := ⟨by have := h.1; omega, by have := h.2; omega⟩
theorem isFld_small {f : Fld} (h : isFld f = true) : SmallF 150 f := by
  obtain ⟨h1, _, h3, _⟩ := isFld_iff.1 h
  have := isFName_iff.1 h1
  exact ⟨by omega, h3⟩
end Go.Proofs.YtccendchnndaiaaDoor
end

section
namespace Go.Proofs.YtccendchnndaiaaDoor
open Go.RowKit

theorem nameC_eq (c : UInt8) : nameC c = (letB c || digB c || decide (c = 45)) := by unfold nameC; rw [alnum_eq]
theorem isFName_bad (s : ByteArray) (k : Nat) (hk : k < s.size) (h : nameC s[k] = false) : isFName s.data.toList = false := by
  have hm : s[k] ∈ s.data.toList := by simp [ByteArray.getElem_eq_getElem_data]
  have : s.data.toList.all nameC = false := by rw [List.all_eq_false]; exact ⟨_, hm, by simp [h]⟩
  unfold isFName; rw [this]; simp
theorem isFName_size (s : ByteArray) (h : s.size < 1 ∨ 30 < s.size) : isFName s.data.toList = false := by
  unfold isFName; rw [size_list]
  rcases h with h | h
  · rw [decide_eq_false (by omega)]; rfl
  · rw [decide_eq_false (p := s.size ≤ 30) (by omega)]; simp
theorem headLet_at (s : ByteArray) (h : 0 < s.size) : headLet s.data.toList = letB s[0] := by
  have hl := size_list s
  have e : s[0] = s.data.toList[0]'(by rw [hl]; exact h) := rfl
  rw [e]
  have key : ∀ (l : List UInt8) (hl : 0 < l.length), headLet l = letB l[0] := fun l hl => by
    match l, hl with
    | c :: cs, _ => rfl
  exact key _ _
theorem isFName_good (s : ByteArray) (h0 : 0 < s.size) (h1 : s.size ≤ 30) (h : ∀ j, (h' : j < s.size) → nameC s[j] = true) : isFName s.data.toList = letB s[0] := by
  have hall : s.data.toList.all nameC = true := by
    rw [List.all_eq_true]; intro x hx
    obtain ⟨j, hj, rfl⟩ := List.getElem_of_mem hx
    exact h j hj
  unfold isFName
  rw [size_list, hall, headLet_at s h0, decide_eq_true (by omega), decide_eq_true h1]; simp
end Go.Proofs.YtccendchnndaiaaDoor
end

section
namespace Go.Proofs.YtccendchnndaiaaDoor
open Go.RowKit

/-! Where a list's first part with a property ends. -/
theorem tw_of {α : Type} {p : α → Bool} : ∀ {l : List α} {m : Nat}, m ≤ l.length → (∀ j, j < m → (hj : j < l.length) → p l[j] = true) → (∀ h : m < l.length, p l[m] = false) → l.takeWhile p = l.take m ∧ l.dropWhile p = l.drop m
  | [], m, hm, _, _ => by simp
  | x :: l, 0, _, _, h => by
    have := h (by simp)
    have this : p x = false := this
    rw [List.takeWhile_cons_of_neg (by simp [this]), List.dropWhile_cons_of_neg (by simp [this])]; simp
  | x :: l, m + 1, hm, h1, h2 => by
    have hx : p x = true := h1 0 (by omega) (by simp)
    rw [List.takeWhile_cons_of_pos hx, List.dropWhile_cons_of_pos hx]
    have := tw_of (l := l) (m := m) (by simpa using hm) (fun j hj hl => h1 (j + 1) (by omega) (by simpa using hl)) (fun h => h2 (by simpa using h))
    rw [this.1, this.2]; simp
theorem join_none : ∀ xs : List (List UInt8), Lib.join xs [] = xs.flatten
  | [] => rfl
  | x :: xs => by
    rw [Lib.join_cons]
    unfold Lib.joinTail
    simp
/-- What is read so far. -/
def readsTo (xs : List (List UInt8)) (k : Nat) (acc : List Fld) : Prop := mapF (groupsL xs) = (mapF (groupsL (xs.drop k))).map (acc ++ ·)
theorem readsTo_start (xs : List (List UInt8)) : readsTo xs 0 [] := by unfold readsTo; rw [List.drop_zero]; cases mapF (groupsL xs) <;> simp
theorem readsTo_end {xs : List (List UInt8)} {k : Nat} {acc : List Fld} (h : readsTo xs k acc) (hk : xs.length ≤ k) : mapF (groupsL xs) = some acc := by
  unfold readsTo at h; rw [h, List.drop_eq_nil_of_le hk]; simp [groupsL, mapF]
/-- The next line, with those that go on with it. -/
def lineAt (xs : List (List UInt8)) (k e : Nat) : List UInt8 := ((xs.drop k).take (e - k)).flatten
theorem group_at {xs : List (List UInt8)} {k e : Nat} (hk : k < xs.length) (hke : k + 1 ≤ e) (he : e ≤ xs.length) (h1 : ∀ j, k + 1 ≤ j → j < e → (hj : j < xs.length) → isCont xs[j] = true) (h2 : ∀ h : e < xs.length, isCont xs[e] = false) :
    groupsL (xs.drop k) = lineAt xs k e :: groupsL (xs.drop e) := by
  have hd : xs.drop k = xs[k] :: xs.drop (k + 1) := List.drop_eq_getElem_cons hk
  have ht := tw_of (p := isCont) (l := xs.drop (k + 1)) (m := e - (k + 1)) (by rw [List.length_drop]; omega)
    (fun j hj hl => by rw [List.getElem_drop]; exact h1 _ (by omega) (by omega) _)
    (fun h => by rw [List.getElem_drop]; rw [List.length_drop] at h; have := h2 (by omega); simpa [show k + 1 + (e - (k + 1)) = e by omega] using this)
  rw [hd, groupsL_cons, ht.1, ht.2, List.drop_drop]
  congr 1
  · unfold lineAt
    rw [hd, show e - k = (e - (k + 1)) + 1 by omega, List.take_succ_cons]; rfl
  · congr 2; omega
theorem mapF_len {l : List UInt8} {ls : List (List UInt8)} {f : Fld} (h : oneF l = some f) : mapF (l :: ls) = (mapF ls).map (f :: ·) := by
  show (match oneF l with | none => none | some f => (mapF ls).map (f :: ·)) = _
  rw [h]
theorem mapF_bad {l : List UInt8} {ls : List (List UInt8)} (h : oneF l = none) : mapF (l :: ls) = none := by
  show (match oneF l with | none => none | some f => (mapF ls).map (f :: ·)) = _
  rw [h]
theorem readsTo_bad {xs : List (List UInt8)} {k e : Nat} {acc : List Fld} (h : readsTo xs k acc) (hg : groupsL (xs.drop k) = lineAt xs k e :: groupsL (xs.drop e)) (ho : oneF (lineAt xs k e) = none) : readFs xs = none := by
  unfold readsTo at h
  unfold readFs
  rw [h, hg, mapF_bad ho]; rfl
theorem readsTo_long {xs : List (List UInt8)} {k e : Nat} {acc : List Fld} {f : Fld} (h : readsTo xs k acc) (hg : groupsL (xs.drop k) = lineAt xs k e :: groupsL (xs.drop e)) (ho : oneF (lineAt xs k e) = some f) (hl : acc.length = 20) : readFs xs = none := by
  unfold readsTo at h
  unfold readFs
  rw [h, hg, mapF_len ho]
  cases mapF (groupsL (xs.drop e)) with
  | none => rfl
  | some fs =>
    show (if (acc ++ f :: fs).length ≤ 20 then some (acc ++ f :: fs) else none) = none
    rw [if_neg]; rw [List.length_append, List.length_cons]; omega
theorem readsTo_next {xs : List (List UInt8)} {k e : Nat} {acc : List Fld} {f : Fld} (h : readsTo xs k acc) (hg : groupsL (xs.drop k) = lineAt xs k e :: groupsL (xs.drop e)) (ho : oneF (lineAt xs k e) = some f) : readsTo xs e (acc ++ [f]) := by
  unfold readsTo at h ⊢
  rw [h, hg, mapF_len ho]
  cases mapF (groupsL (xs.drop e)) <;> simp
theorem readFs_all {xs : List (List UInt8)} {acc : List Fld} (h : mapF (groupsL xs) = some acc) (hl : acc.length ≤ 20) : readFs xs = some acc := by
  unfold readFs; rw [h]; exact if_pos hl
theorem lineAt_len (xs : List (List UInt8)) (k e : Nat) : (lineAt xs k e).length ≤ xs.flatten.length := by
  unfold lineAt
  have e : xs.flatten = (xs.take k).flatten ++ (((xs.drop k).take (e - k)).flatten ++ ((xs.drop k).drop (e - k)).flatten) := by
    rw [← List.flatten_append, List.take_append_drop, ← List.flatten_append, List.take_append_drop]
  rw [e, List.length_append, List.length_append]; omega
theorem idx_cut (c : UInt8) : ∀ l : List UInt8, (Lib.indexByte l c = -1 ∧ cutAt c l = none) ∨ ∃ k : Nat, Lib.indexByte l c = (k : Int) ∧ k < l.length ∧ cutAt c l = some (l.take k, l.drop (k + 1))
  | [] => .inl ⟨rfl, rfl⟩
  | x :: l => by
    unfold Lib.indexByte cutAt
    by_cases h : x = c
    · subst h
      exact .inr ⟨0, by simp, by simp, by simp⟩
    · have hb : (x == c) = false := by simpa using h
      rw [hb, if_neg h]
      rcases idx_cut c l with ⟨h1, h2⟩ | ⟨k, h1, h2, h3⟩
      · exact .inl ⟨by rw [h1]; rfl, by rw [h2]; rfl⟩
      · refine .inr ⟨k + 1, ?_, by simp; omega, by rw [h3]; rfl⟩
        rw [h1]
        have : ((k : Int) == -1) = false := by rw [beq_eq_false_iff_ne]; omega
        rw [this]; simp
/-- What cutting at a byte returns. -/
def CutOne (l : List UInt8) (c : UInt8) (w : World) (e : Ending) (w' : World) : Prop := (∃ (a b : List UInt8) (o : Bool), e = .returned (.tuple #[.string (str a), .string (str b), .bool o]) ∧ a.length ≤ l.length ∧ b.length ≤ l.length ∧ (cutAt c l = if o then some (a, b) else none)) ∧ ∃ m, w' = w.drewN m
theorem cutOne_none {l : List UInt8} {c : UInt8} {w : World} {s : ByteArray} (h : cutAt c l = none) (hs : s = str l) (m : Nat) : CutOne l c w (.returned (.tuple #[.string s, .string ⟨#[]⟩, .bool false])) (w.drewN m) := by
  subst hs; exact ⟨⟨l, [], false, rfl, Nat.le_refl _, by simp, h⟩, m, rfl⟩
theorem cutOne_some {l : List UInt8} {c : UInt8} {k : Nat} {w : World} {s t : ByteArray} (h : cutAt c l = some (l.take k, l.drop (k + 1))) (hs : s = str (l.take k)) (ht : t = str (l.drop (k + 1))) (m : Nat) : CutOne l c w (.returned (.tuple #[.string s, .string t, .bool true])) (w.drewN m) := by
  subst hs ht; exact ⟨⟨_, _, true, rfl, by simp; omega, by simp, h⟩, m, rfl⟩
set_option maxRecDepth 100000 in
set_option maxHeartbeats 400000 in
theorem liteCut_any (s : ByteArray) (c : UInt8) (w : World) (hs : s.size ≤ 4611686018427387904) :
    Calls Tryd.prog 79 #[.string s, .string ⟨#[c]⟩] w (CutOne s.data.toList c w) := by
  have hz1 : (ByteArray.mk #[c]).size = 1 := rfl
  rcases idx_cut c s.data.toList with ⟨h1, h2⟩ | ⟨k, h1, h2, h3⟩
  · have H1 := Lib.hid h1
    have H2 := Lib.hid h2
    clear h1 h2
    go_enter Tryd.func79, Tryd.ntmps79
    go_wp2_with fail
    refine (Tryd.stringslite_Index_one s c _).mono ?_
    rintro e w1 ⟨rfl, rfl⟩
    rw [H1.out]
    go_wp2
    go_ret3
    exact ⟨⟨s.data.toList, [], false, by rw [str_of]; rfl, Nat.le_refl _, by simp, H2.out⟩, 0, rfl⟩
  · have hk : k < s.size := by rw [size_list] at h2; exact h2
    have hk1 : k + 1 ≤ s.size := hk
    have H1 := Lib.hid h1
    have H3 := Lib.hid h3
    have HT : Hid (s.extract 0 k = str (s.data.toList.take k)) := ext_take s k
    have HU : Hid (s.extract (k + 1) s.size = str (s.data.toList.drop (k + 1))) := ext_drop s (k + 1)
    clear h1 h2 h3
    go_enter Tryd.func79, Tryd.ntmps79
    go_wp2_with fail
    refine (Tryd.stringslite_Index_one s c _).mono ?_
    rintro e w1 ⟨rfl, rfl⟩
    rw [H1.out]
    go_wp2
    go_quiet (fail)
    go_wp2
    go_ret3
    exact cutOne_some H3.out HT.out HU.out _
theorem cut_any (s : ByteArray) (c : UInt8) (w : World) (hs : s.size ≤ 4611686018427387904) :
    Calls Tryd.prog 46 #[.string s, .string ⟨#[c]⟩] w (CutOne s.data.toList c w) := by
  go_enter Tryd.func46, Tryd.ntmps46
  go_wp2_with fail
  refine (liteCut_any s c _ hs).mono ?_
  rintro e w1 ⟨⟨a, b, o, rfl, h1, h2, h3⟩, m, rfl⟩
  go_wp2
  go_ret3
  exact ⟨⟨a, b, o, rfl, h1, h2, h3⟩, m, rfl⟩
end Go.Proofs.YtccendchnndaiaaDoor
end

section
namespace Go.Proofs.YtccendchnndaiaaDoor
open Go.RowKit

def Cut2R (l : List UInt8) (c : UInt8) (w : World) (e : Ending) (w' : World) : Prop := e = .returned (.tuple #[.string (str (cut2 c l).1), .string (str (cut2 c l).2), .bool (cutAt c l).isSome]) ∧ ∃ m, w' = w.drewN m
theorem cut2R_none {l : List UInt8} {c : UInt8} {w : World} {s : ByteArray} (h : cutAt c l = none) (hs : s = str l) (m : Nat) : Cut2R l c w (.returned (.tuple #[.string s, .string ⟨#[]⟩, .bool false])) (w.drewN m) := by
  subst hs; unfold Cut2R cut2; rw [h]; exact ⟨rfl, m, rfl⟩
theorem cut2R_some {l : List UInt8} {c : UInt8} {k : Nat} {w : World} {s t : ByteArray} (h : cutAt c l = some (l.take k, l.drop (k + 1))) (hs : s = str (l.take k)) (ht : t = str (l.drop (k + 1))) (m : Nat) : Cut2R l c w (.returned (.tuple #[.string s, .string t, .bool true])) (w.drewN m) := by
  subst hs ht; unfold Cut2R cut2; rw [h]; exact ⟨rfl, m, rfl⟩
set_option maxRecDepth 100000 in
set_option maxHeartbeats 400000 in
theorem liteCut2_any (s : ByteArray) (c : UInt8) (w : World) (hs : s.size ≤ 4611686018427387904) :
    Calls Tryd.prog 79 #[.string s, .string ⟨#[c]⟩] w (Cut2R s.data.toList c w) := by
  have hz1 : (ByteArray.mk #[c]).size = 1 := rfl
  rcases idx_cut c s.data.toList with ⟨h1, h2⟩ | ⟨k, h1, h2, h3⟩
  · have H1 := Lib.hid h1
    have H2 := Lib.hid h2
    clear h1 h2
    go_enter Tryd.func79, Tryd.ntmps79
    go_wp2_with fail
    refine (Tryd.stringslite_Index_one s c _).mono ?_
    rintro e w1 ⟨rfl, rfl⟩
    rw [H1.out]
    go_wp2
    go_ret3
    exact cut2R_none (w := w1) H2.out (str_of s).symm 0
  · have hk : k < s.size := by rw [size_list] at h2; exact h2
    have hk1 : k + 1 ≤ s.size := hk
    have H1 := Lib.hid h1
    have H3 := Lib.hid h3
    have HT : Hid (s.extract 0 k = str (s.data.toList.take k)) := ext_take s k
    have HU : Hid (s.extract (k + 1) s.size = str (s.data.toList.drop (k + 1))) := ext_drop s (k + 1)
    clear h1 h2 h3
    go_enter Tryd.func79, Tryd.ntmps79
    go_wp2_with fail
    refine (Tryd.stringslite_Index_one s c _).mono ?_
    rintro e w1 ⟨rfl, rfl⟩
    rw [H1.out]
    go_wp2
    go_quiet (fail)
    go_wp2
    go_ret3
    exact cut2R_some H3.out HT.out HU.out _
theorem cut2_any (s : ByteArray) (c : UInt8) (w : World) (hs : s.size ≤ 4611686018427387904) :
    Calls Tryd.prog 46 #[.string s, .string ⟨#[c]⟩] w (Cut2R s.data.toList c w) := by
  go_enter Tryd.func46, Tryd.ntmps46
  go_wp2_with fail
  refine (liteCut2_any s c _ hs).mono ?_
  rintro e w1 ⟨rfl, m, rfl⟩
  go_wp2
  go_ret3
  exact ⟨rfl, m, rfl⟩
end Go.Proofs.YtccendchnndaiaaDoor
end

section
namespace Go.Proofs.YtccendchnndaiaaDoor
open Go.RowKit

theorem isPath_cut2 (l : List UInt8) : isPath l = ((cutAt 64 l).isSome && (isLocal (cut2 64 l).1 && isDomain (cut2 64 l).2)) := by
  unfold isPath cut2
  cases cutAt 64 l with
  | none => rfl
  | some y => rfl
theorem cut2_small (c : UInt8) (l : List UInt8) : (cut2 c l).1.length ≤ l.length ∧ (cut2 c l).2.length ≤ l.length := by
  unfold cut2
  cases h : cutAt c l with
  | none => exact ⟨Nat.le_refl _, Nat.zero_le _⟩
  | some y =>
    have := congrArg List.length (cutAt_at (a := y.1) (b := y.2) h).1
    simp at this
    exact ⟨by show y.1.length ≤ _; omega, by show y.2.length ≤ _; omega⟩
set_option maxRecDepth 100000 in
set_option maxHeartbeats 1000000 in
theorem pathValid_any (s : ByteArray) (w : World) (en : Env w) (hs : s.size ≤ 1073741000) :
    Calls Tryd.prog 77 #[.string s] w fun e w' => e = .returned (.bool (isPath s.data.toList)) ∧ Below w.heap.size w w' := by
  obtain ⟨z1, z2⟩ := cut2_small 64 s.data.toList
  rw [size_list] at z1 z2
  have H0 : Hid (∀ u, Calls Tryd.prog 46 #[.string s, .string ⟨#[64]⟩] u (Cut2R s.data.toList 64 u)) := fun u => cut2_any s 64 u (by omega)
  have H1 : Hid (∀ u, Below w.heap.size w u → Calls Tryd.prog 98 #[.string (str (cut2 64 s.data.toList).1)] u fun e w' => e = .returned (.bool (isLocal (cut2 64 s.data.toList).1)) ∧ Below u.heap.size u w') := fun u hb => by
    have := localValid_any (str (cut2 64 s.data.toList).1) u (en.below hb) (by rw [str_size]; omega)
    rw [str_list] at this; exact this
  have H2 : Hid (∀ u, Below w.heap.size w u → Calls Tryd.prog 99 #[.string (str (cut2 64 s.data.toList).2)] u fun e w' => e = .returned (.bool (isDomain (cut2 64 s.data.toList).2)) ∧ Below u.heap.size u w') := fun u hb => by
    have := domainValid_any (str (cut2 64 s.data.toList).2) u (en.below hb) (by rw [str_size]; omega)
    rw [str_list] at this; exact this
  rw [isPath_cut2]
  unfold Cut2R at H0
  clear z1 z2 en hs
  generalize (cutAt 64 s.data.toList).isSome = g0 at *
  generalize isLocal (cut2 64 s.data.toList).1 = g1 at *
  generalize isDomain (cut2 64 s.data.toList).2 = g2 at *
  generalize str (cut2 64 s.data.toList).1 = x1 at *
  generalize str (cut2 64 s.data.toList).2 = x2 at *
  go_enter Tryd.func77, Tryd.ntmps77
  go_wp2_with fail
  refine (H0.out _).mono ?_
  rintro e w1 ⟨rfl, m, rfl⟩
  have hb0 : Below w.heap.size w (w.drewN m) := below_drewN (Below.refl _ _) m
  generalize w.drewN m = w1 at *
  cases g0
  · go_wp2
    go_ret
    exact ⟨rfl, hb0⟩
  · go_wp2_with fail
    refine (H1.out _ hb0).mono ?_
    rintro e w2 ⟨rfl, hb2⟩
    have hb02 := nx hb0 hb2
    cases g1
    · go_wp2
      go_ret
      exact ⟨rfl, hb02⟩
    · go_wp2_with fail
      refine (H2.out _ hb02).mono ?_
      rintro e w3 ⟨rfl, hb3⟩
      go_wp2
      go_ret
      exact ⟨rfl, nx hb02 hb3⟩
theorem pathE (x : ByteArray) (w : World) (en : Env w) (hx : x.size ≤ 1073741000) : Calls Tryd.prog 77 #[.string x] w fun e w' => e = .returned (.bool (isPath x.data.toList)) ∧ Below w.heap.size w w' := pathValid_any x w en hx
set_option maxRecDepth 100000 in
set_option maxHeartbeats 1000000 in
theorem senderValid_any (l : List UInt8) (w : World) (en : Env w) (hs : l.length ≤ 1073741000) :
    Calls Tryd.prog 75 #[.string (str l)] w fun e w' => e = .returned (.bool (isSend l)) ∧ Below w.heap.size w w' := by
  have H1 : Hid (Calls Tryd.prog 77 #[.string (str l)] w fun e w' => e = .returned (.bool (isPath l)) ∧ Below w.heap.size w w') := by
    have := pathValid_any (str l) w en (by rw [str_size]; omega)
    rw [str_list] at this; exact this
  have d0 := eqEmp l
  unfold isSend
  generalize decide (l = []) = g0 at *
  generalize isPath l = g1 at *
  generalize str l = x at *
  cases g0
  · go_enter Tryd.func75, Tryd.ntmps75
    go_wp2_with fail
    refine H1.out.mono ?_
    rintro e w3 ⟨rfl, hb3⟩
    go_wp2
    go_ret
    exact ⟨rfl, hb3⟩
  · go_enter Tryd.func75, Tryd.ntmps75
    go_wp2
    go_ret
    exact ⟨rfl, Below.refl _ _⟩
theorem textE (x : ByteArray) (w : World) (_ : Env w) (hx : x.size ≤ 1073741000) : Calls Tryd.prog 78 #[.string x] w fun e w' => e = .returned (.bool (isText x.data.toList)) ∧ Below w.heap.size w w' :=
  (textValid_any x w (by unfold maxLen; omega)).mono (fun _ _ ⟨he, hw⟩ => ⟨he, hw ▸ Below.refl _ _⟩)
set_option maxRecDepth 100000 in
set_option maxHeartbeats 2000000 in
theorem allValid_path (a : Option Addr) (n c : Nat) (xs : List (List UInt8)) (w : World) (en : Env w) (hr : RdL w a n xs) (hn : n ≤ 1073741000) (hx : ∀ x ∈ xs, x.length ≤ 1073741000) :
    Calls Tryd.prog 76 #[.slice a n c, .func (.func 77) #[] #[]] w fun e w' => e = .returned (.bool (xs.all isPath)) ∧ Below w.heap.size w w' := by
  have HX := Lib.hid hx
  have HLEN := Lib.hid hr.1
  have HR := Lib.hid hr.2
  clear hr hx
  go_enter Tryd.func76, Tryd.ntmps76
  go_wp2_with fail
  go_loopw [9] (fun i wr => ∃ k : Nat, k ≤ n ∧ i = .int .i64 k ∧ Below w.heap.size w wr ∧ ∀ j, (h : j < k) → (h' : j < xs.length) → isPath xs[j] = true) (fun i _ => n - (intOf i).toNat)
  case atStart => exact ⟨0, Nat.zero_le _, rfl, Below.refl _ _, fun j h => by omega⟩
  case round =>
    obtain ⟨k, hk, rfl, hb, hall⟩ := hrel
    have HA := Lib.hid hall
    clear hall
    by_cases hlt : k < n
    · have hkx : k < xs.length := by rw [HLEN.out]; exact hlt
      obtain ⟨b, off, rfl, hbl, hcell⟩ := HR.out.resolve_left (by omega)
      have hc1 : wr.cell? ⟨b, off + k, none⟩ = some (.string (str xs[k])) := by rw [below_at hb hbl]; exact hcell k hkx
      have hsz : (str xs[k]).size ≤ 1073741000 := by rw [str_size]; exact HX.out _ (List.getElem_mem hkx)
      clear hcell
      have HP : Hid (isPath (str xs[k]).data.toList = isPath xs[k]) := by show _ = _; rw [str_list]
      have HC : Hid (Calls Tryd.prog 77 #[.string (str xs[k])] wr fun e w' => e = .returned (.bool (isPath (str xs[k]).data.toList)) ∧ Below wr.heap.size wr w') := pathE _ wr (en.below hb) hsz
      rw [HP.out] at HC
      cases hp : isPath xs[k]
      · have HE : Hid (xs.all isPath = false) := by show _ = _; rw [List.all_eq_false]; exact ⟨_, List.getElem_mem hkx, by simp [hp]⟩
        rw [hp] at HC
        generalize str xs[k] = x at *
        clear hp
        go_wp2_with fail
        refine HC.out.mono ?_
        rintro e w2 ⟨rfl, hb2⟩
        go_wp2
        go_ret
        exact ⟨ret_bool HE.out.symm, nx hb hb2⟩
      · have HQ := Lib.hid hp
        rw [hp] at HC
        generalize str xs[k] = x at *
        clear hp
        go_wp2_with fail
        refine HC.out.mono ?_
        rintro e w2 ⟨rfl, hb2⟩
        go_wp2
        go_roundw
        case rel => exact ⟨k + 1, by omega, by go_num, nx hb hb2, fun j h h' => by
          by_cases e : j = k
          · subst e; exact HQ.out
          · exact HA.out j (by omega) h'⟩
        case measure => simp [intOf]; omega
    · have HE : Hid (xs.all isPath = true) := by
        show _ = _
        rw [List.all_eq_true]; intro x hx
        obtain ⟨j, hj, rfl⟩ := List.getElem_of_mem hx
        exact HA.out j (by have := HLEN.out; omega) hj
      go_wp2
      go_ret
      exact ⟨ret_bool HE.out.symm, hb⟩
set_option maxRecDepth 100000 in
set_option maxHeartbeats 2000000 in
theorem allValid_text (a : Option Addr) (n c : Nat) (xs : List (List UInt8)) (w : World) (en : Env w) (hr : RdL w a n xs) (hn : n ≤ 1073741000) (hx : ∀ x ∈ xs, x.length ≤ 1073741000) :
    Calls Tryd.prog 76 #[.slice a n c, .func (.func 78) #[] #[]] w fun e w' => e = .returned (.bool (xs.all isText)) ∧ Below w.heap.size w w' := by
  have HX := Lib.hid hx
  have HLEN := Lib.hid hr.1
  have HR := Lib.hid hr.2
  clear hr hx
  go_enter Tryd.func76, Tryd.ntmps76
  go_wp2_with fail
  go_loopw [9] (fun i wr => ∃ k : Nat, k ≤ n ∧ i = .int .i64 k ∧ Below w.heap.size w wr ∧ ∀ j, (h : j < k) → (h' : j < xs.length) → isText xs[j] = true) (fun i _ => n - (intOf i).toNat)
  case atStart => exact ⟨0, Nat.zero_le _, rfl, Below.refl _ _, fun j h => by omega⟩
  case round =>
    obtain ⟨k, hk, rfl, hb, hall⟩ := hrel
    have HA := Lib.hid hall
    clear hall
    by_cases hlt : k < n
    · have hkx : k < xs.length := by rw [HLEN.out]; exact hlt
      obtain ⟨b, off, rfl, hbl, hcell⟩ := HR.out.resolve_left (by omega)
      have hc1 : wr.cell? ⟨b, off + k, none⟩ = some (.string (str xs[k])) := by rw [below_at hb hbl]; exact hcell k hkx
      have hsz : (str xs[k]).size ≤ 1073741000 := by rw [str_size]; exact HX.out _ (List.getElem_mem hkx)
      clear hcell
      have HP : Hid (isText (str xs[k]).data.toList = isText xs[k]) := by show _ = _; rw [str_list]
      have HC : Hid (Calls Tryd.prog 78 #[.string (str xs[k])] wr fun e w' => e = .returned (.bool (isText (str xs[k]).data.toList)) ∧ Below wr.heap.size wr w') := textE _ wr (en.below hb) hsz
      rw [HP.out] at HC
      cases hp : isText xs[k]
      · have HE : Hid (xs.all isText = false) := by show _ = _; rw [List.all_eq_false]; exact ⟨_, List.getElem_mem hkx, by simp [hp]⟩
        rw [hp] at HC
        generalize str xs[k] = x at *
        clear hp
        go_wp2_with fail
        refine HC.out.mono ?_
        rintro e w2 ⟨rfl, hb2⟩
        go_wp2
        go_ret
        exact ⟨ret_bool HE.out.symm, nx hb hb2⟩
      · have HQ := Lib.hid hp
        rw [hp] at HC
        generalize str xs[k] = x at *
        clear hp
        go_wp2_with fail
        refine HC.out.mono ?_
        rintro e w2 ⟨rfl, hb2⟩
        go_wp2
        go_roundw
        case rel => exact ⟨k + 1, by omega, by go_num, nx hb hb2, fun j h h' => by
          by_cases e : j = k
          · subst e; exact HQ.out
          · exact HA.out j (by omega) h'⟩
        case measure => simp [intOf]; omega
    · have HE : Hid (xs.all isText = true) := by
        show _ = _
        rw [List.all_eq_true]; intro x hx
        obtain ⟨j, hj, rfl⟩ := List.getElem_of_mem hx
        exact HA.out j (by have := HLEN.out; omega) hj
      go_wp2
      go_ret
      exact ⟨ret_bool HE.out.symm, hb⟩
set_option maxRecDepth 100000 in
set_option maxHeartbeats 2000000 in
theorem draftValid_any (M : Nat) (x : MlA) (w : World) (en : Env w) (h1 : RdM M w x) (hM : M ≤ 1073741000) :
    Calls Tryd.prog 45 #[mlV x] w fun e w' => e = .returned (.bool (isDraft x.m)) ∧ Below w.heap.size w w' := by
  obtain ⟨⟨f1, t1, l1⟩, a1, c1, b1, d1⟩ := x
  obtain ⟨⟨p1, _, _⟩, ⟨p2, _, _⟩, p0, p3, p5, p4, p6⟩ := h1
  dsimp only at *
  unfold mlV isDraft
  dsimp only
  have H0 : Hid (∀ u, Below w.heap.size w u → Calls Tryd.prog 75 #[.string (str f1)] u fun e w' => e = .returned (.bool (isSend f1)) ∧ Below u.heap.size u w') := fun u hb => senderValid_any f1 u (en.below hb) (by omega)
  have HT : Hid (∀ u, Below w.heap.size w u → Calls Tryd.prog 76 #[.slice a1 t1.length c1, .func (.func 77) #[] #[]] u fun e w' => e = .returned (.bool (t1.all isPath)) ∧ Below u.heap.size u w') := fun u hb => allValid_path _ _ _ _ u (en.below hb) (p1.below hb) (by omega) (fun x hx => by have := p5 x hx; omega)
  have HL : Hid (∀ u, Below w.heap.size w u → Calls Tryd.prog 76 #[.slice b1 l1.length d1, .func (.func 78) #[] #[]] u fun e w' => e = .returned (.bool (l1.all isText)) ∧ Below u.heap.size u w') := fun u hb => allValid_text _ _ _ _ u (en.below hb) (p2.below hb) (by omega) (fun x hx => by have := p6 x hx; omega)
  have e1 : decide (t1.length ≤ 10) = decide ((t1.length : Int) ≤ 10) := decide_eq_decide.2 (by omega)
  have e2 : decide (l1.length ≤ 31) = decide ((l1.length : Int) ≤ 31) := decide_eq_decide.2 (by omega)
  rw [e1, e2]
  have hz1 : t1.length ≤ 1073741000 := by omega
  have hz2 : l1.length ≤ 1073741000 := by omega
  clear p1 p2 p3 p4 p5 p6 p0 hM en e1 e2
  generalize isSend f1 = g0 at *
  generalize t1.all isPath = g1 at *
  generalize l1.all isText = g2 at *
  generalize t1.length = n1 at *
  generalize l1.length = n3 at *
  generalize str f1 = s1 at *
  have hA : Below w.heap.size w (w.alloc (.cells #[.string s1, .slice a1 n1 c1, .slice b1 n3 d1] 25)) := (Below.refl _ _).alloc (Nat.le_refl _) _
  have HX := Lib.hid (MK3.new w (.string s1) (.slice a1 n1 c1) (.slice b1 n3 d1) 25)
  go_enter Tryd.func45, Tryd.ntmps45
  go_wp2_with fail
  refine (H0.out _ hA).mono ?_
  rintro e w1 ⟨rfl, hb1⟩
  have hb01 := nx hA hb1
  obtain ⟨y0, y1, y2⟩ := HX.out.below hb1
  cases g0
  · go_wp2
    go_ret
    exact ⟨rfl, hb01⟩
  · by_cases k1 : (n1 : Int) ≤ 10
    · have z1 := decide_eq_true k1
      go_wp2_with fail
      refine (HT.out _ hb01).mono ?_
      rintro e w2 ⟨rfl, hb2⟩
      have hb02 := nx hb01 hb2
      clear y0 y1 y2
      obtain ⟨y0, y1, y2⟩ := HX.out.below (nx hb1 hb2)
      cases g1
      · go_wp2
        go_ret
        exact ⟨ret_bool (by rw [z1]; rfl), hb02⟩
      · by_cases k2 : (n3 : Int) ≤ 31
        · have z2 := decide_eq_true k2
          go_wp2_with fail
          refine (HL.out _ hb02).mono ?_
          rintro e w3 ⟨rfl, hb3⟩
          go_wp2
          go_ret
          exact ⟨ret_bool (by rw [z1, z2]; rfl), nx hb02 hb3⟩
        · have z2 := decide_eq_false k2
          go_wp2
          go_ret
          exact ⟨ret_bool (by rw [z1, z2]; rfl), hb02⟩
    · have z1 := decide_eq_false k1
      go_wp2
      go_ret
      exact ⟨ret_bool (by rw [z1]; rfl), hb01⟩
set_option maxRecDepth 100000 in
set_option maxHeartbeats 2000000 in
theorem mailValid_any (M : Nat) (x : MlA) (w : World) (en : Env w) (h1 : RdM M w x) (hM : M ≤ 1073741000) :
    Calls Tryd.prog 16 #[mlV x] w fun e w' => e = .returned (.bool (isMail x.m)) ∧ Below w.heap.size w w' := by
  have hA0 : ∀ o, Below w.heap.size w (w.alloc o) := fun o => (Below.refl _ _).alloc (Nat.le_refl _) o
  have H0 : Hid (∀ u, Below w.heap.size w u → Calls Tryd.prog 45 #[mlV x] u fun e w' => e = .returned (.bool (isDraft x.m)) ∧ Below u.heap.size u w') := fun u hb => draftValid_any M x u (en.below hb) (h1.below hb) hM
  obtain ⟨⟨f1, t1, l1⟩, a1, c1, b1, d1⟩ := x
  obtain ⟨⟨p1, _, _⟩, ⟨p2, _, _⟩, p0, p3, p5, p4, p6⟩ := h1
  dsimp only at *
  unfold isMail
  unfold mlV at *
  dsimp only at *
  have e1 : decide (0 < t1.length) = decide ((0 : Int) < (t1.length : Int)) := decide_eq_decide.2 (by omega)
  have e2 : decide (l1.length ≤ 30) = decide ((l1.length : Int) ≤ 30) := decide_eq_decide.2 (by omega)
  rw [e1, e2]
  have hz1 : t1.length ≤ 1073741000 := by omega
  have hz2 : l1.length ≤ 1073741000 := by omega
  clear p1 p2 p3 p4 p5 p6 p0 hM en e1 e2
  generalize isDraft ⟨f1, t1, l1⟩ = g0 at *
  generalize t1.length = n1 at *
  generalize l1.length = n3 at *
  generalize str f1 = s1 at *
  have HX := Lib.hid (MK3.new w (.string s1) (.slice a1 n1 c1) (.slice b1 n3 d1) 25)
  go_enter Tryd.func16, Tryd.ntmps16
  go_wp2_with fail
  refine (H0.out _ (hA0 _)).mono ?_
  rintro e w1 ⟨rfl, hb1⟩
  have hb01 := nx (hA0 _) hb1
  obtain ⟨y0, y1, y2⟩ := HX.out.below hb1
  cases g0
  · go_wp2
    go_ret
    exact ⟨rfl, hb01⟩
  · by_cases k1 : (0 : Int) < (n1 : Int)
    · have z1 := decide_eq_true k1
      go_wp2
      go_ret
      exact ⟨ret_bool (by rw [z1]; rfl), hb01⟩
    · have z1 := decide_eq_false k1
      go_wp2
      go_ret
      exact ⟨ret_bool (by rw [z1]; rfl), hb01⟩
end Go.Proofs.YtccendchnndaiaaDoor
end

section
namespace Go.Proofs.YtccendchnndaiaaDoor
open Go.RowKit

/-- A line begins with a mark, on strings. -/
def isMkS (m s : ByteArray) : Bool := isMk m.data.toList s.data.toList
def CutMR (m s : ByteArray) (w : World) (e : Ending) (w' : World) : Prop := ∃ b : ByteArray, e = .returned (.tuple #[.string b, .bool (isMkS m s)]) ∧ b = str (cutM m.data.toList s.data.toList).1 ∧ Below w.heap.size w w'
theorem cutMR_no {m s : ByteArray} {w w' : World} (h : isMkS m s = false) (hb : Below w.heap.size w w') : CutMR m s w (.returned (.tuple #[.string ⟨#[]⟩, .bool false])) w' :=
  ⟨⟨#[]⟩, by rw [h], by unfold cutM; unfold isMkS at h; rw [h]; rfl, hb⟩
theorem cutMR_yes {m s x : ByteArray} {w w' : World} (h : isMkS m s = true) (hx : x = s.extract m.size s.size) (hb : Below w.heap.size w w') : CutMR m s w (.returned (.tuple #[.string x, .bool true])) w' :=
  ⟨x, by rw [h], by unfold cutM; unfold isMkS at h; rw [h, hx, ext_drop, ← size_list]; rfl, hb⟩
theorem isMk_short {m s : ByteArray} (h : s.size < m.size) : isMkS m s = false := by
  unfold isMkS isMk; rw [size_list, size_list, decide_eq_false (by omega)]; rfl
theorem isMk_long {m s : ByteArray} (h : m.size ≤ s.size) : isMkS m s = decide (lowS (s.extract 0 m.size) = lowS m) := by
  unfold isMkS isMk; rw [size_list, size_list, decide_eq_true h, Bool.true_and]
  refine decide_eq_decide.2 ?_
  unfold lowS
  rw [ext_take, str_list]
  exact ⟨fun h => by rw [h], fun h => by rw [← str_list (low _), h, str_list]⟩
set_option maxRecDepth 100000 in
set_option maxHeartbeats 1000000 in
theorem cutMark_any (s m : ByteArray) (w : World) (_hs : s.size ≤ 1073741000) (hm : m.size ≤ 1000) :
    Calls Tryd.prog 67 #[.string s, .string m] w (CutMR m s w) := by
  by_cases h : s.size < m.size
  · have HN : Hid (isMkS m s = false) := isMk_short h
    go_enter Tryd.func67, Tryd.ntmps67
    go_wp2
    go_ret2
    exact cutMR_no HN.out (Below.refl _ _)
  · have hle : m.size ≤ s.size := by omega
    have HC : Hid (Calls Tryd.prog 93 #[.string (s.extract 0 m.size), .string m] w fun e w' => e = .returned (.bool (isMkS m s)) ∧ Below w.heap.size w w') := by
      rw [isMk_long hle]
      exact sameText_any _ _ _ (by rw [ByteArray.size_extract]; omega) (by omega)
    have HN : Hid (isMkS m s = false → ∀ w' : World, Below w.heap.size w w' → CutMR m s w (.returned (.tuple #[.string ⟨#[]⟩, .bool false])) w') := fun h w' hb => cutMR_no h hb
    have HY : Hid (isMkS m s = true → ∀ w' : World, Below w.heap.size w w' → CutMR m s w (.returned (.tuple #[.string (s.extract m.size s.size), .bool true])) w') := fun h w' hb => cutMR_yes h rfl hb
    generalize hq : isMkS m s = q at *
    cases q
    · go_enter Tryd.func67, Tryd.ntmps67
      go_wp2_with fail
      refine HC.out.mono ?_
      rintro e w1 ⟨rfl, hb1⟩
      go_wp2
      go_ret2
      exact HN.out (by first | rfl | trivial) _ hb1
    · go_enter Tryd.func67, Tryd.ntmps67
      go_wp2_with fail
      refine HC.out.mono ?_
      rintro e w1 ⟨rfl, hb1⟩
      go_wp2
      go_ret2
      exact HY.out (by first | rfl | trivial) _ hb1
def HopRet (m : Ml) (w : World) (e : Ending) (w' : World) : Prop := e = .returned (.tuple #[.int .i64 (hopsM m : Nat), .bool (isMail m)]) ∧ Below w.heap.size w w'
set_option maxRecDepth 100000 in
set_option maxHeartbeats 4000000 in
theorem countHops_any (M : Nat) (x : MlA) (w : World) (en : Env w) (h1 : RdM M w x) (hM : M ≤ 1073741000) :
    Calls Tryd.prog 32 #[mlV x] w (HopRet x.m w) := by
  have hA0 : ∀ o, Below w.heap.size w (w.alloc o) := fun o => (Below.refl _ _).alloc (Nat.le_refl _) o
  have H0 : Hid (∀ u, Below w.heap.size w u → Calls Tryd.prog 16 #[mlV x] u fun e w' => e = .returned (.bool (isMail x.m)) ∧ Below u.heap.size u w') := fun u hb => mailValid_any M x u (en.below hb) (h1.below hb) hM
  have HE : Hid (∀ w' q h, Below w.heap.size w w' → isMail x.m = q → h = hopsM x.m → HopRet x.m w (.returned (.tuple #[.int .i64 (h : Nat), .bool q])) w') := fun w' q h hb hq hh => ⟨by rw [hq, hh], hb⟩
  obtain ⟨m, a1, c1, b1, d1⟩ := x
  obtain ⟨_, ⟨p2, _, _⟩, _⟩ := h1
  dsimp only at *
  have P2 := Lib.hid p2
  clear p2 en
  cases hv : isMail m
  · have HN : Hid (0 = hopsM m) := by show _ = _; unfold hopsM; rw [hv]; rfl
    have HV := Lib.hid hv
    rw [hv] at H0
    unfold mlV at *
    dsimp only at *
    generalize m.to.length = n1 at *
    generalize m.lines.length = n3 at *
    generalize str m.frm = s1 at *
    go_enter Tryd.func32, Tryd.ntmps32
    go_wp2_with fail
    refine (H0.out _ (hA0 _)).mono ?_
    rintro e w1 ⟨rfl, hb1⟩
    go_wp2
    go_ret2
    exact HE.out _ false 0 (nx (hA0 _) hb1) HV.out HN.out
  · have HHM : Hid (hopsM m = hopsL m.lines) := by show _ = _; unfold hopsM; rw [hv]; rfl
    have HV := Lib.hid hv
    obtain ⟨hd, _, h30⟩ := isMail_iff.1 hv
    obtain ⟨_, _, _, _, hln⟩ := isDraft_iff.1 hd
    have HLN : Hid (∀ l ∈ m.lines, l.length ≤ 200) := fun l hl => by have := hln l hl; unfold isText at this; simp at this; exact this.1
    have HLE : Hid (hopsL m.lines ≤ m.lines.length) := hops_le _
    rw [hv] at H0
    unfold mlV at *
    dsimp only at *
    clear hv hd hln
    have HX := Lib.hid (MK3.new w (.string (str m.frm)) (.slice a1 m.to.length c1) (.slice b1 m.lines.length d1) 25)
    have hA := hA0 (.cells #[.string (str m.frm), .slice a1 m.to.length c1, .slice b1 m.lines.length d1] 25)
    generalize m.to.length = n1 at *
    generalize hn3 : m.lines.length = n3 at *
    have HE3 := Lib.hid hn3
    clear hn3
    generalize str m.frm = s1 at *
    go_enter Tryd.func32, Tryd.ntmps32
    go_wp2_with fail
    refine (H0.out _ hA).mono ?_
    rintro e w1 ⟨rfl, hb1⟩
    have hb01 := nx hA hb1
    obtain ⟨y0, y1, y2⟩ := HX.out.below hb1
    clear H0 hA0
    have hz : (ByteArray.mk #[82, 101, 99, 101, 105, 118, 101, 100, 58]).size = 9 := rfl
    go_wp2_with fail
    go_loopw [4, 15] (fun v i wr => ∃ k r : Nat, k ≤ n3 ∧ i = .int .i64 k ∧ v = .int .i64 (r : Nat) ∧ r ≤ k ∧ r + hopsL (m.lines.drop k) = hopsL m.lines ∧ Below w.heap.size w wr) (fun _ i _ => n3 - (intOf i).toNat)
    case atStart => exact ⟨0, 0, Nat.zero_le _, rfl, rfl, Nat.le_refl _, by simp, hb01⟩
    case round =>
      clear y0 y1 y2 hb01 hb1
      obtain ⟨k, r, hk, rfl, rfl, hrk, hsum, hb⟩ := hrel
      have HS := Lib.hid hsum
      clear hsum
      by_cases hlt : k < n3
      · have hkx : k < m.lines.length := by have := HE3.out; omega
        obtain ⟨b, off, rfl, hbl, hcell⟩ := P2.out.2.resolve_left (by omega)
        have hc1 : wr.cell? ⟨b, off + k, none⟩ = some (.string (str m.lines[k])) := by rw [below_at hb hbl]; exact hcell k hkx
        have hkn : (k : Int) < (n3 : Int) := by omega
        have hk0 : (0 : Int) ≤ (k : Int) := by omega
        have hr0 : (r : Int) ≤ 30 := by omega
        have zs : (str m.lines[k]).size ≤ 200 := by rw [str_size]; exact HLN.out _ (List.getElem_mem hkx)
        have HNIL := Lib.hid (hops_nil hkx)
        have HYES := Lib.hid (hops_yes hkx)
        have HNO := Lib.hid (hops_no hkx)
        have HC : Hid (Calls Tryd.prog 67 #[.string (str m.lines[k]), .string ⟨#[82, 101, 99, 101, 105, 118, 101, 100, 58]⟩] wr (CutMR ⟨#[82, 101, 99, 101, 105, 118, 101, 100, 58]⟩ (str m.lines[k]) wr)) := cutMark_any _ _ _ (by omega) (by omega)
        have HMK : Hid (isMkS ⟨#[82, 101, 99, 101, 105, 118, 101, 100, 58]⟩ (str m.lines[k]) = isMk recvL m.lines[k]) := by show _ = _; unfold isMkS; rw [str_list]; rfl
        unfold CutMR at HC
        rw [HMK.out] at HC
        clear hcell HMK
        have d0 := eqEmp m.lines[k]
        cases hem : decide (m.lines[k] = [])
        · have HNE : Hid (m.lines[k] ≠ []) := of_decide_eq_false hem
          rw [hem] at d0
          clear hem
          obtain ⟨g, hg⟩ : ∃ g, g = isMk recvL m.lines[k] := ⟨_, rfl⟩
          rw [← hg] at HC
          cases g
          · have HNX : Hid (r + hopsL (m.lines.drop (k + 1)) = hopsL m.lines) := by show _ = _; rw [← HNO.out HNE.out hg.symm]; exact HS.out
            clear hg
            generalize str m.lines[k] = z at *
            go_wp2_with fail
            refine HC.out.mono ?_
            rintro e w2 ⟨bb, rfl, _, hb2⟩
            go_wp2
            go_roundw
            case rel => exact ⟨k + 1, r, by omega, by go_num, rfl, by omega, HNX.out, nx hb hb2⟩
            case measure => simp [intOf]; omega
          · have HNX : Hid (r + 1 + hopsL (m.lines.drop (k + 1)) = hopsL m.lines) := by show _ = _; have := HYES.out HNE.out hg.symm; have := HS.out; omega
            clear hg
            generalize str m.lines[k] = z at *
            go_wp2_with fail
            refine HC.out.mono ?_
            rintro e w2 ⟨bb, rfl, _, hb2⟩
            go_wp2
            go_roundw
            case rel => exact ⟨k + 1, r + 1, by omega, by go_num, by go_num, by omega, HNX.out, nx hb hb2⟩
            case measure => simp [intOf]; omega
        · have HN : Hid (r = hopsM m) := by show _ = _; rw [HHM.out, ← HS.out, HNIL.out (of_decide_eq_true hem)]; rfl
          rw [hem] at d0
          clear hem
          generalize str m.lines[k] = z at *
          go_wp2
          go_ret2
          exact HE.out _ true r hb HV.out HN.out
      · have HN : Hid (r = hopsM m) := by show _ = _; rw [HHM.out, ← HS.out, hops_end (by have := HE3.out; omega)]; rfl
        go_wp2
        go_ret2
        exact HE.out _ true r hb HV.out HN.out
end Go.Proofs.YtccendchnndaiaaDoor
end

section
namespace Go.Proofs.YtccendchnndaiaaDoor
open Go.RowKit

set_option maxRecDepth 100000 in
set_option maxHeartbeats 1000000 in
theorem l11Hop_any (s : ByteArray) (w : World) (hs : s.size ≤ 1073741000) :
    Calls Tryd.prog 94 #[.string s] w fun e w' => e = .returned (.bool (isMkS ⟨#[82, 101, 99, 101, 105, 118, 101, 100, 58]⟩ s)) ∧ Below w.heap.size w w' := by
  have hz : (ByteArray.mk #[82, 101, 99, 101, 105, 118, 101, 100, 58]).size = 9 := rfl
  by_cases h : s.size < 9
  · have HN : Hid (isMkS ⟨#[82, 101, 99, 101, 105, 118, 101, 100, 58]⟩ s = false) := isMk_short (by rw [hz]; exact h)
    have d0 : decide ((s.size : Int) ≥ 9) = false := decide_eq_false (by omega)
    go_enter Tryd.func94, Tryd.ntmps94
    go_wp2
    go_ret
    exact ⟨ret_bool HN.out.symm, Below.refl _ _⟩
  · have HC : Hid (Calls Tryd.prog 106 #[.string (s.extract 0 9), .string ⟨#[82, 101, 99, 101, 105, 118, 101, 100, 58]⟩] w fun e w' => e = .returned (.bool (isMkS ⟨#[82, 101, 99, 101, 105, 118, 101, 100, 58]⟩ s)) ∧ Below w.heap.size w w') := by
      rw [isMk_long (by rw [hz]; omega)]
      exact sameTextS_any _ _ _ (by rw [ByteArray.size_extract]; omega) (by omega)
    have d0 : decide ((s.size : Int) ≥ 9) = true := decide_eq_true (by omega)
    generalize isMkS ⟨#[82, 101, 99, 101, 105, 118, 101, 100, 58]⟩ s = q at *
    go_enter Tryd.func94, Tryd.ntmps94
    go_wp2_with fail
    refine HC.out.mono ?_
    rintro e w1 ⟨rfl, hb1⟩
    go_wp2
    go_ret
    exact ⟨rfl, hb1⟩
set_option maxRecDepth 100000 in
set_option maxHeartbeats 4000000 in
theorem l11Hops_any (a : Option Addr) (n c : Nat) (xs : List (List UInt8)) (w : World) (hr : RdL w a n xs) (hn : n ≤ 1073741000) (hx : ∀ l ∈ xs, l.length ≤ 1073741000) :
    Calls Tryd.prog 68 #[.slice a n c] w fun e w' => e = .returned (.int .i64 (hopsL xs : Nat)) ∧ Below w.heap.size w w' := by
  have HLEN := Lib.hid hr.1
  have HR := Lib.hid hr.2
  have HLN := Lib.hid hx
  clear hr hx
  go_enter Tryd.func68, Tryd.ntmps68
  go_wp2_with fail
  go_loopw [3, 4] (fun v i wr => ∃ k r : Nat, k ≤ n ∧ i = .int .i64 k ∧ v = .int .i64 (r : Nat) ∧ r ≤ k ∧ r + hopsL (xs.drop k) = hopsL xs ∧ Below w.heap.size w wr) (fun _ i _ => n - (intOf i).toNat)
  case atStart => exact ⟨0, 0, Nat.zero_le _, rfl, rfl, Nat.le_refl _, by simp, Below.refl _ _⟩
  case round =>
    obtain ⟨k, r, hk, rfl, rfl, hrk, hsum, hb⟩ := hrel
    have HS := Lib.hid hsum
    clear hsum
    by_cases hlt : k < n
    · have hkx : k < xs.length := by have := HLEN.out; omega
      obtain ⟨b, off, rfl, hbl, hcell⟩ := HR.out.resolve_left (by omega)
      have hc1 : wr.cell? ⟨b, off + k, none⟩ = some (.string (str xs[k])) := by rw [below_at hb hbl]; exact hcell k hkx
      have hkn : (k : Int) < (n : Int) := by omega
      have hk0 : (0 : Int) ≤ (k : Int) := by omega
      have zs : (str xs[k]).size ≤ 1073741000 := by rw [str_size]; exact HLN.out _ (List.getElem_mem hkx)
      have HNIL := Lib.hid (hops_nil hkx)
      have HYES := Lib.hid (hops_yes hkx)
      have HNO := Lib.hid (hops_no hkx)
      have HC : Hid (Calls Tryd.prog 94 #[.string (str xs[k])] wr fun e w' => e = .returned (.bool (isMkS ⟨#[82, 101, 99, 101, 105, 118, 101, 100, 58]⟩ (str xs[k]))) ∧ Below wr.heap.size wr w') := l11Hop_any _ _ (by omega)
      have HMK : Hid (isMkS ⟨#[82, 101, 99, 101, 105, 118, 101, 100, 58]⟩ (str xs[k]) = isMk recvL xs[k]) := by show _ = _; unfold isMkS; rw [str_list]; rfl
      rw [HMK.out] at HC
      clear hcell HMK
      have d0 := eqEmp xs[k]
      have d1 : ((str xs[k]).toList != []) = !decide (xs[k] = []) := by rw [bne, d0]
      cases hem : decide (xs[k] = [])
      · have HNE : Hid (xs[k] ≠ []) := of_decide_eq_false hem
        rw [hem] at d0 d1
        have d2 := isEmp_f HNE.out
        clear hem
        obtain ⟨g, hg⟩ : ∃ g, g = isMk recvL xs[k] := ⟨_, rfl⟩
        rw [← hg] at HC
        cases g
        · have HNX : Hid (r + hopsL (xs.drop (k + 1)) = hopsL xs) := by show _ = _; rw [← HNO.out HNE.out hg.symm]; exact HS.out
          clear hg
          generalize str xs[k] = z at *
          go_wp2_with fail
          refine HC.out.mono ?_
          rintro e w2 ⟨rfl, hb2⟩
          go_wp2
          go_roundw
          case rel => exact ⟨k + 1, r, by omega, by go_num, rfl, by omega, HNX.out, nx hb hb2⟩
          case measure => simp [intOf]; omega
        · have HNX : Hid (r + 1 + hopsL (xs.drop (k + 1)) = hopsL xs) := by show _ = _; have := HYES.out HNE.out hg.symm; have := HS.out; omega
          clear hg
          generalize str xs[k] = z at *
          go_wp2_with fail
          refine HC.out.mono ?_
          rintro e w2 ⟨rfl, hb2⟩
          go_wp2
          go_roundw
          case rel => exact ⟨k + 1, r + 1, by omega, by go_num, by go_num, by omega, HNX.out, nx hb hb2⟩
          case measure => simp [intOf]; omega
      · have HN : Hid (r = hopsL xs) := by show _ = _; rw [← HS.out, HNIL.out (of_decide_eq_true hem)]; rfl
        have d2 := isEmp_t (of_decide_eq_true hem)
        rw [hem] at d0 d1
        clear hem
        generalize str xs[k] = z at *
        rw [HN.out] at *
        go_wp2
        go_ret
        exact ⟨rfl, hb⟩
    · have HN : Hid (r = hopsL xs) := by show _ = _; rw [← HS.out, hops_end (by have := HLEN.out; omega)]; rfl
      rw [HN.out] at *
      go_wp2
      go_ret
      exact ⟨rfl, hb⟩
set_option maxRecDepth 100000 in
set_option maxHeartbeats 2000000 in
theorem countHopsS_any (M : Nat) (x : MlA) (w : World) (h1 : RdM M w x) (hM : M ≤ 1073741000) :
    Calls Tryd.prog 33 #[mlV x] w (HopRet x.m w) := by
  have hA0 : ∀ o, Below w.heap.size w (w.alloc o) := fun o => (Below.refl _ _).alloc (Nat.le_refl _) o
  have H0 : Hid (∀ u, Below w.heap.size w u → Calls Tryd.prog 42 #[mlV x] u fun e w' => e = .returned (.bool (isMail x.m)) ∧ Below u.heap.size u w') := fun u hb => mailValidS_any M x u (h1.below hb) hM
  have H1 : Hid (∀ u, Below w.heap.size w u → Calls Tryd.prog 68 #[.slice x.a2 x.m.lines.length x.c2] u fun e w' => e = .returned (.int .i64 (hopsL x.m.lines : Nat)) ∧ Below u.heap.size u w') := fun u hb => l11Hops_any x.a2 x.m.lines.length x.c2 x.m.lines u (h1.2.1.1.below hb) (by have := h1.2.2.2.2.2.1; omega) (fun l hl => by have := h1.2.2.2.2.2.2 l hl; omega)
  have HE : Hid (∀ w' q h, Below w.heap.size w w' → isMail x.m = q → h = hopsM x.m → HopRet x.m w (.returned (.tuple #[.int .i64 (h : Nat), .bool q])) w') := fun w' q h hb hq hh => ⟨by rw [hq, hh], hb⟩
  obtain ⟨m, a1, c1, b1, d1⟩ := x
  dsimp only at *
  have HHM : Hid (hopsM m = if isMail m then hopsL m.lines else 0) := rfl
  clear h1
  unfold mlV at *
  dsimp only at *
  have HX := Lib.hid (MK3.new w (.string (str m.frm)) (.slice a1 m.to.length c1) (.slice b1 m.lines.length d1) 25)
  have hA := hA0 (.cells #[.string (str m.frm), .slice a1 m.to.length c1, .slice b1 m.lines.length d1] 25)
  generalize hopsL m.lines = H at *
  generalize m.to.length = n1 at *
  generalize m.lines.length = n3 at *
  generalize str m.frm = s1 at *
  generalize hopsM m = HM at *
  generalize isMail m = q at *
  cases q
  · have HN : Hid (0 = HM) := HHM.out.symm
    go_enter Tryd.func33, Tryd.ntmps33
    go_wp2_with fail
    refine (H0.out _ hA).mono ?_
    rintro e w1 ⟨rfl, hb1⟩
    go_wp2
    go_ret2
    exact HE.out _ false 0 (nx hA hb1) rfl HN.out
  · have HN : Hid (H = HM) := HHM.out.symm
    go_enter Tryd.func33, Tryd.ntmps33
    go_wp2_with fail
    refine (H0.out _ hA).mono ?_
    rintro e w1 ⟨rfl, hb1⟩
    have hb01 := nx hA hb1
    obtain ⟨y0, y1, y2⟩ := HX.out.below hb1
    go_wp2_with fail
    refine (H1.out _ hb01).mono ?_
    rintro e w2 ⟨rfl, hb2⟩
    go_wp2
    go_ret2
    exact HE.out _ true H (nx hb01 hb2) rfl HN.out
end Go.Proofs.YtccendchnndaiaaDoor
end
