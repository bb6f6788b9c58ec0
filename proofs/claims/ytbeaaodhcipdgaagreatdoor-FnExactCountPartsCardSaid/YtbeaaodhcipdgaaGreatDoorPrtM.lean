/-
  Messages as trees: the lines of a part, a part read from lines; that what is written is read back. No statement is proved here.
-/
import Derived.Test.YtbeaaodhcipdgaaGreatDoorKindN
import Derived.Test.YtbeaaodhcipdgaaGreatDoorKindB
namespace Go.Proofs.YtbeaaodhcipdgaaGreatDoor
open Go.RowKit

inductive Prt where
  | mk : List Fld → List (List UInt8) → List Prt → Prt
def Prt.fields : Prt → List Fld | .mk f _ _ => f
def Prt.body : Prt → List (List UInt8) | .mk _ b _ => b
def Prt.kids : Prt → List Prt | .mk _ _ k => k
theorem Prt.ext' {p q : Prt} (h1 : p.fields = q.fields) (h2 : p.body = q.body) (h3 : p.kids = q.kids) : p = q := by
  cases p; cases q; cases h1; cases h2; cases h3; rfl
def prt0 : Prt := .mk [] [] []
/-- What a partial function gives at all of a list. -/
def mapO {α β : Type} (f : α → Option β) : List α → Option (List β)
  | [] => some []
  | x :: xs => (f x).bind fun y => (mapO f xs).map (y :: ·)
theorem mapO_cons {α β : Type} (f : α → Option β) (x : α) (xs : List α) : mapO f (x :: xs) = (f x).bind fun y => (mapO f xs).map (y :: ·) := rfl
theorem mapO_some {α β : Type} {f : α → Option β} : ∀ {xs : List α} {ys : List β}, mapO f xs = some ys → ys.length = xs.length ∧ ∀ i, (h1 : i < xs.length) → (h2 : i < ys.length) → f xs[i] = some ys[i]
  | [], ys, h => by injection h with h; subst h; exact ⟨rfl, fun i h1 => by simp at h1⟩
  | x :: xs, ys, h => by
    rw [mapO_cons] at h
    obtain ⟨y, hy, h⟩ := Option.bind_eq_some_iff.1 h
    obtain ⟨zs, hz, rfl⟩ := Option.map_eq_some_iff.1 h
    obtain ⟨h1, h2⟩ := mapO_some hz
    refine ⟨by simp [h1], fun i g1 g2 => ?_⟩
    match i, g1, g2 with
    | 0, _, _ => exact hy
    | i + 1, g1, g2 => exact h2 i (by simpa using g1) (by simpa using g2)
theorem mapO_mk {α β : Type} {f : α → Option β} : ∀ {xs : List α} {ys : List β}, ys.length = xs.length → (∀ i, (h1 : i < xs.length) → (h2 : i < ys.length) → f xs[i] = some ys[i]) → mapO f xs = some ys
  | [], [], _, _ => rfl
  | x :: xs, y :: ys, hl, h => by
    have h0 : f x = some y := h 0 (by simp) (by simp)
    rw [mapO_cons, h0, Option.bind_some, mapO_mk (xs := xs) (ys := ys) (by simpa using hl) (fun i h1 h2 => h (i + 1) (by simpa using h1) (by simpa using h2))]; rfl
theorem mapO_none {α β : Type} {f : α → Option β} : ∀ {xs : List α} {i : Nat} (h : i < xs.length), f xs[i] = none → mapO f xs = none
  | x :: xs, 0, _, h => by rw [mapO_cons]; have h : f x = none := h; rw [h]; rfl
  | x :: xs, i + 1, hi, h => by
    rw [mapO_cons, mapO_none (xs := xs) (i := i) (by simpa using hi) h]; cases f x <;> rfl
theorem mapO_snoc {α β : Type} (f : α → Option β) : ∀ (xs : List α) (x : α), mapO f (xs ++ [x]) = (mapO f xs).bind fun ys => (f x).map fun y => ys ++ [y]
  | [], x => by show mapO f [x] = _; rw [mapO_cons]; cases f x <;> rfl
  | z :: xs, x => by
    rw [List.cons_append, mapO_cons, mapO_snoc f xs x, mapO_cons]
    cases f z with
    | none => rfl
    | some y => cases mapO f xs with
      | none => rfl
      | some ys => cases f x <;> rfl
/-- What fields call their kind. -/
def typeL : List UInt8 := [67, 111, 110, 116, 101, 110, 116, 45, 84, 121, 112, 101]
/-- The boundary that fields have. -/
def bndF (fs : List Fld) : Option (List UInt8) := bndOf (parseKR (getR fs typeL))
def okBody (b : List (List UInt8)) : Bool := b.all isText && decide (b.length ≤ 30)
/-- The lines of a part of at most d parts within each other, where it is valid. -/
def linesT : Nat → Prt → Option (List (List UInt8))
  | 0, _ => none
  | d + 1, p => if fldsOk p.fields then (match bndF p.fields with
      | none => if okBody p.body = true ∧ p.kids = [] then some p.body else none
      | some b => if p.body = [] ∧ p.kids.length ≤ 4 then (mapO (linesT d) p.kids).bind fun ps => joinP ps b else none).map fun r => foldFs p.fields ++ [] :: r
    else none
def isPrt (p : Prt) : Bool := (linesT 3 p).isSome
/-- Where the first empty line is. -/
def idxE : List (List UInt8) → Option Nat
  | [] => none
  | l :: ls => if l = [] then some 0 else (idxE ls).map (· + 1)
theorem idxE_app : ∀ (ls r : List (List UInt8)), (∀ l ∈ ls, l ≠ []) → idxE (ls ++ [] :: r) = some ls.length
  | [], r, _ => rfl
  | l :: ls, r, h => by
    show (if l = [] then some 0 else (idxE (ls ++ [] :: r)).map (· + 1)) = _
    rw [if_neg (h l (by simp)), idxE_app ls r (fun m hm => h m (by simp [hm]))]; rfl
def readT : Nat → List (List UInt8) → Option Prt
  | 0, _ => none
  | d + 1, ls => (idxE ls).bind fun k => (readFs (ls.take k)).bind fun fs => match bndF fs with
      | none => some (.mk fs (ls.drop (k + 1)) [])
      | some b => (splitP (ls.drop (k + 1)) b).bind fun ps => (mapO (readT d) ps).map fun ks => .mk fs [] ks
def parseT (ls : List (List UInt8)) : Option Prt := (readT 3 ls).bind fun p => if isPrt p then some p else none
theorem foldL_ne_all (l : List UInt8) (first : Nat) (hf : 2 ≤ first) (hl : l ≠ []) : ∀ p ∈ foldL l first, p ≠ [] := by
  obtain ⟨_, p, ps, hp, h1, _, h3⟩ := foldL_spec l first hf
  intro q hq
  rw [hp] at hq
  rcases List.mem_cons.1 hq with rfl | hq
  · exact h1 hl
  · have := h3 q hq
    intro e; subst e; simp [isCont] at this
theorem foldFs_ne {fs : List Fld} (h : fldsOk fs = true) : ∀ l ∈ foldFs fs, l ≠ [] := by
  intro l hl
  unfold foldFs at hl
  rw [if_pos h] at hl
  unfold foldAll at hl
  obtain ⟨f, hf, hl⟩ := List.mem_flatMap.1 hl
  exact foldL_ne_all _ _ (by omega) (line_head ((fldsOk_iff.1 h).1 f hf)).1 l hl
theorem foldFs_read {fs : List Fld} (h : fldsOk fs = true) : readFs (foldFs fs) = some fs := by unfold foldFs; rw [if_pos h]; exact read_fold h
/-- What the lines of a valid part are. -/
theorem linesT_some {d : Nat} {p : Prt} {ls : List (List UInt8)} (h : linesT (d + 1) p = some ls) : fldsOk p.fields = true ∧ ∃ r, ls = foldFs p.fields ++ [] :: r ∧
    ((bndF p.fields = none ∧ okBody p.body = true ∧ p.kids = [] ∧ r = p.body) ∨ ∃ b ps, bndF p.fields = some b ∧ p.body = [] ∧ p.kids.length ≤ 4 ∧ mapO (linesT d) p.kids = some ps ∧ joinP ps b = some r) := by
  unfold linesT at h
  split at h
  · rename_i hf
    obtain ⟨r, hr, rfl⟩ := Option.map_eq_some_iff.1 h
    refine ⟨hf, r, rfl, ?_⟩
    split at hr
    · rename_i hb
      split at hr
      · rename_i hk
        injection hr with hr
        exact .inl ⟨hb, hk.1, hk.2, hr.symm⟩
      · cases hr
    · rename_i b hb
      split at hr
      · rename_i hk
        obtain ⟨ps, h1, h2⟩ := Option.bind_eq_some_iff.1 hr
        exact .inr ⟨b, ps, hb, hk.1, hk.2, h1, h2⟩
      · cases hr
  · cases h
theorem linesT_leaf {d : Nat} {p : Prt} (h1 : fldsOk p.fields = true) (h2 : bndF p.fields = none) : linesT (d + 1) p = if okBody p.body = true ∧ p.kids = [] then some (foldFs p.fields ++ [] :: p.body) else none := by
  unfold linesT
  rw [if_pos h1, h2]
  show (if okBody p.body = true ∧ p.kids = [] then some p.body else none).map _ = _
  split <;> rfl
theorem linesT_many {d : Nat} {p : Prt} {b : List UInt8} (h1 : fldsOk p.fields = true) (h2 : bndF p.fields = some b) : linesT (d + 1) p = if p.body = [] ∧ p.kids.length ≤ 4 then ((mapO (linesT d) p.kids).bind fun ps => joinP ps b).map fun r => foldFs p.fields ++ [] :: r else none := by
  unfold linesT
  rw [if_pos h1, h2]
  show (if p.body = [] ∧ p.kids.length ≤ 4 then (mapO (linesT d) p.kids).bind fun ps => joinP ps b else none).map _ = _
  split <;> rfl
theorem linesT_no {d : Nat} {p : Prt} (h1 : fldsOk p.fields = false) : linesT d p = none := by
  cases d
  · rfl
  · unfold linesT; rw [if_neg (by simp [h1])]
/-- What is written is read back. -/
theorem read_linesT : ∀ (d : Nat) (p : Prt) (ls : List (List UInt8)), linesT d p = some ls → readT d ls = some p
  | 0, p, ls, h => by cases h
  | d + 1, p, ls, h => by
    obtain ⟨hf, r, rfl, hr⟩ := linesT_some h
    have hi : idxE (foldFs p.fields ++ [] :: r) = some (foldFs p.fields).length := idxE_app _ _ (foldFs_ne hf)
    have ht : (foldFs p.fields ++ [] :: r).take (foldFs p.fields).length = foldFs p.fields := by simp
    have hd : (foldFs p.fields ++ [] :: r).drop ((foldFs p.fields).length + 1) = r := by
      rw [← List.drop_drop]; simp
    unfold readT
    rw [hi, Option.bind_some, ht, foldFs_read hf, Option.bind_some, hd]
    rcases hr with ⟨h1, h2, h3, h4⟩ | ⟨b, ps, h1, h2, h3, h4, h5⟩
    · rw [h1]; subst h4
      show some (Prt.mk p.fields p.body []) = some p
      exact congrArg some (Prt.ext' rfl rfl h3.symm)
    · rw [h1]
      show ((splitP r b).bind fun ps => (mapO (readT d) ps).map fun ks => Prt.mk p.fields [] ks) = some p
      rw [split_joinP h5, Option.bind_some]
      obtain ⟨g1, g2⟩ := mapO_some h4
      have : mapO (readT d) ps = some p.kids := mapO_mk g1.symm fun i i1 i2 => read_linesT d _ _ (g2 i i2 i1)
      rw [this]
      exact congrArg some (Prt.ext' rfl h2.symm rfl)
theorem parse_lines {p : Prt} {ls : List (List UInt8)} (h : linesT 3 p = some ls) : parseT ls = some p := by
  unfold parseT
  rw [read_linesT 3 p ls h, Option.bind_some]
  rw [if_pos (by unfold isPrt; rw [h]; rfl)]
theorem parseT_valid {ls : List (List UInt8)} {p : Prt} (h : parseT ls = some p) : isPrt p = true ∧ readT 3 ls = some p := by
  unfold parseT at h
  obtain ⟨q, hq, h⟩ := Option.bind_eq_some_iff.1 h
  split at h
  · rename_i hv; injection h with h; subst h; exact ⟨hv, hq⟩
  · cases h
theorem isPrt_lines {p : Prt} (h : isPrt p = true) : ∃ ls, linesT 3 p = some ls := by
  unfold isPrt at h; exact Option.isSome_iff_exists.1 h
/-! Reading with no more than four kids: it comes to the same, where the part is valid. -/
def readT4 : Nat → List (List UInt8) → Option Prt
  | 0, _ => none
  | d + 1, ls => (idxE ls).bind fun k => (readFs (ls.take k)).bind fun fs => match bndF fs with
      | none => some (.mk fs (ls.drop (k + 1)) [])
      | some b => (splitP (ls.drop (k + 1)) b).bind fun ps => if ps.length ≤ 4 then (mapO (readT4 d) ps).map fun ks => .mk fs [] ks else none
theorem readT_of4 : ∀ (d : Nat) (ls : List (List UInt8)) (p : Prt), readT4 d ls = some p → readT d ls = some p
  | 0, ls, p, h => by cases h
  | d + 1, ls, p, h => by
    unfold readT4 at h
    obtain ⟨k, hk, h⟩ := Option.bind_eq_some_iff.1 h
    obtain ⟨fs, hf, h⟩ := Option.bind_eq_some_iff.1 h
    unfold readT
    rw [hk, Option.bind_some, hf, Option.bind_some]
    split at h
    · exact h
    · rename_i b hb
      obtain ⟨ps, hp, h⟩ := Option.bind_eq_some_iff.1 h
      show ((splitP (ls.drop (k + 1)) b).bind fun ps => (mapO (readT d) ps).map fun ks => Prt.mk fs [] ks) = some p
      rw [hp, Option.bind_some]
      split at h
      · obtain ⟨ks, hks, rfl⟩ := Option.map_eq_some_iff.1 h
        obtain ⟨g1, g2⟩ := mapO_some hks
        have : mapO (readT d) ps = some ks := mapO_mk g1 fun i i1 i2 => readT_of4 d _ _ (g2 i i1 i2)
        rw [this]; rfl
      · cases h
theorem readT4_of : ∀ (d : Nat) (ls : List (List UInt8)) (p : Prt), readT d ls = some p → (linesT d p).isSome = true → readT4 d ls = some p
  | 0, ls, p, h, _ => by cases h
  | d + 1, ls, p, h, hv => by
    unfold readT at h
    obtain ⟨k, hk, h⟩ := Option.bind_eq_some_iff.1 h
    obtain ⟨fs, hf, h⟩ := Option.bind_eq_some_iff.1 h
    unfold readT4
    rw [hk, Option.bind_some, hf, Option.bind_some]
    split at h
    · exact h
    · rename_i b hb
      obtain ⟨ps, hp, h⟩ := Option.bind_eq_some_iff.1 h
      show ((splitP (ls.drop (k + 1)) b).bind fun ps => if ps.length ≤ 4 then (mapO (readT4 d) ps).map fun ks => Prt.mk fs [] ks else none) = some p
      rw [hp, Option.bind_some]
      obtain ⟨ks, hks, rfl⟩ := Option.map_eq_some_iff.1 h
      obtain ⟨g1, g2⟩ := mapO_some hks
      obtain ⟨ms, hm⟩ := Option.isSome_iff_exists.1 hv
      obtain ⟨_, r, _, hr⟩ := linesT_some hm
      rcases hr with ⟨e1, _⟩ | ⟨b2, ps2, e1, e2, e3, e4, e5⟩
      · have e1 : bndF fs = none := e1
        rw [hb] at e1; cases e1
      · have e3 : ks.length ≤ 4 := e3
        have e4 : mapO (linesT d) ks = some ps2 := e4
        rw [if_pos (by omega)]
        obtain ⟨f1, f2⟩ := mapO_some e4
        have : mapO (readT4 d) ps = some ks := mapO_mk g1 fun i i1 i2 => readT4_of d _ _ (g2 i i1 i2) (by rw [f2 i i2 (by omega)]; rfl)
        rw [this]; rfl
theorem parseT_four (ls : List (List UInt8)) : (readT4 3 ls).bind (fun p => if isPrt p then some p else none) = parseT ls := by
  unfold parseT
  cases h4 : readT4 3 ls with
  | some p => rw [readT_of4 3 ls p h4]
  | none =>
    cases h : readT 3 ls with
    | none => rfl
    | some p =>
      show none = if isPrt p then some p else none
      split
      · rename_i hv
        rw [readT4_of 3 ls p h hv] at h4; cases h4
      · rfl
/-! Counting. -/
def countT : Nat → Prt → Nat
  | 0, _ => 0
  | d + 1, p => if p.kids = [] then 1 else (p.kids.map (countT d)).sum
/-! Paths. -/
def atT : Prt → List Int → Option Prt
  | p, [] => some p
  | p, i :: is => if 0 ≤ i ∧ i.toNat < p.kids.length then (p.kids[i.toNat]?).bind fun q => atT q is else none
end Go.Proofs.YtbeaaodhcipdgaaGreatDoor
