/-
  Fields: the plain functions on lists of bytes, and that what is folded is read back. No statement is proved here.
-/
import Derived.Test.YtbfjbabpeigloabDoorAddrM
namespace Go.Proofs.YtbfjbabpeigloabDoor
open Go.RowKit

structure Fld where
  name : List UInt8
  val : List UInt8
deriving DecidableEq
theorem Fld.ext' {a b : Fld} (h1 : a.name = b.name) (h2 : a.val = b.val) : a = b := by cases a; cases b; simp_all
def nameC (c : UInt8) : Bool := alnumB c || decide (c = 45)
def headLet (l : List UInt8) : Bool := match l with | [] => false | c :: _ => letB c
def isFName (l : List UInt8) : Bool := decide (1 ≤ l.length) && (decide (l.length ≤ 30) && (l.all nameC && headLet l))
def isFld (f : Fld) : Bool := isFName f.name && (isText f.val && (decide (f.val.length ≤ 150) && decide (trimS f.val = f.val)))
theorem isFName_iff {l : List UInt8} : isFName l = true ↔ 1 ≤ l.length ∧ l.length ≤ 30 ∧ (∀ x ∈ l, nameC x = true) ∧ headLet l = true := by
  unfold isFName; simp only [Bool.and_eq_true, decide_eq_true_eq, List.all_eq_true]
theorem isFld_iff {f : Fld} : isFld f = true ↔ isFName f.name = true ∧ isText f.val = true ∧ f.val.length ≤ 150 ∧ trimS f.val = f.val := by
  unfold isFld; simp only [Bool.and_eq_true, decide_eq_true_eq]
theorem nameC_nat : ∀ n, n < 256 → nameC (UInt8.ofNat n) = true → UInt8.ofNat n ≠ 58 ∧ UInt8.ofNat n ≠ 32 ∧ okB (UInt8.ofNat n) = true := by decide +kernel
theorem nameC_byte {c : UInt8} (h : nameC c = true) : c ≠ 58 ∧ c ≠ 32 ∧ okB c = true := by
  have := nameC_nat c.toNat c.toNat_lt; rw [UInt8.ofNat_toNat] at this; exact this h
theorem nameLow_nat : ∀ n, n < 256 → nameC (lowB (UInt8.ofNat n)) = nameC (UInt8.ofNat n) ∧ letB (lowB (UInt8.ofNat n)) = letB (UInt8.ofNat n) := by decide +kernel
theorem nameLow (c : UInt8) : nameC (lowB c) = nameC c ∧ letB (lowB c) = letB c := by
  have := nameLow_nat c.toNat c.toNat_lt; rw [UInt8.ofNat_toNat] at this; exact this
theorem isFName_low (l : List UInt8) : isFName (low l) = isFName l := by
  have h1 : (low l).all nameC = l.all nameC := by
    unfold low; rw [List.all_map]; exact congrArg l.all (funext fun c => (nameLow c).1)
  have h2 : headLet (low l) = headLet l := by cases l <;> simp [low, headLet, (nameLow _).2]
  unfold isFName; rw [h1, h2]; simp [low]
/-! Folding. -/
def lineF (f : Fld) : List UInt8 := f.name ++ 58 :: (if f.val = [] then [] else 32 :: f.val)
/-- A space with none beside it. -/
def alone (l : List UInt8) (i : Nat) : Bool := decide (l.getD i 0 = 32) && (decide (l.getD (i - 1) 0 ≠ 32) && decide (l.getD (i + 1) 0 ≠ 32))
def bestStep (l : List UInt8) (b : Option Nat) (i : Nat) : Option Nat := if alone l i && (decide (i ≤ 40) || b.isNone) then some i else b
def brkTo (l : List UInt8) (first n : Nat) : Option Nat := (List.range' first n).foldl (bestStep l) none
def brk (l : List UInt8) (first : Nat) : Option Nat := brkTo l first (l.length - 1 - first)
theorem brkTo_zero (l : List UInt8) (first : Nat) : brkTo l first 0 = none := rfl
theorem brkTo_succ (l : List UInt8) (first n : Nat) : brkTo l first (n + 1) = bestStep l (brkTo l first n) (first + n) := by
  unfold brkTo; rw [List.range'_concat, List.foldl_append]; simp
theorem brkTo_none (l : List UInt8) (first : Nat) : ∀ n, brkTo l first n = none ↔ ∀ i, first ≤ i → i < first + n → alone l i = false
  | 0 => by simp [brkTo_zero]; intro i h1 h2; omega
  | n + 1 => by
    have ih := brkTo_none l first n
    rw [brkTo_succ]
    unfold bestStep
    constructor
    · intro h
      cases ha : alone l (first + n) with
      | true =>
        rw [ha] at h
        cases hb : brkTo l first n with
        | none => rw [hb] at h; simp at h
        | some b => rw [hb] at h; split at h <;> simp at h
      | false =>
        rw [ha] at h
        simp at h
        intro i h1 h2
        by_cases e : i = first + n
        · subst e; exact ha
        · exact ih.1 h i h1 (by omega)
    · intro h
      rw [h (first + n) (by omega) (by omega)]
      simp
      exact ih.2 fun i h1 h2 => h i h1 (by omega)
theorem brkTo_some (l : List UInt8) (first : Nat) : ∀ n a, brkTo l first n = some a → first ≤ a ∧ a < first + n ∧ alone l a = true ∧ (a ≤ 40 ∨ ∀ i, first ≤ i → i < a → alone l i = false)
  | 0, a, h => by rw [brkTo_zero] at h; cases h
  | n + 1, a, h => by
    rw [brkTo_succ] at h
    unfold bestStep at h
    cases hb : brkTo l first n with
    | none =>
      rw [hb] at h
      have hn := (brkTo_none l first n).1 hb
      split at h
      · rename_i hc
        injection h with h; subst h
        simp at hc
        exact ⟨by omega, by omega, hc, .inr fun i h1 h2 => hn i h1 h2⟩
      · cases h
    | some b =>
      have ih := brkTo_some l first n b hb
      rw [hb] at h
      split at h
      · rename_i hc
        injection h with h; subst h
        simp at hc
        exact ⟨by omega, by omega, hc.1, .inl hc.2⟩
      · injection h with h; subst h
        exact ⟨ih.1, by omega, ih.2.2⟩
theorem brkTo_stay {l : List UInt8} {first n m b : Nat} (h : brkTo l first n = some b) (h40 : 40 < first + n) (hm : n ≤ m) : brkTo l first m = some b := by
  obtain ⟨d, rfl⟩ : ∃ d, m = n + d := ⟨m - n, by omega⟩
  clear hm
  induction d with
  | zero => exact h
  | succ d ih =>
    rw [← Nat.add_assoc, brkTo_succ, ih]
    unfold bestStep
    rw [if_neg]
    simp; intro _; omega
theorem brk_none {l : List UInt8} {first : Nat} : brk l first = none ↔ ∀ i, first ≤ i → i + 1 < l.length → alone l i = false := by
  unfold brk; rw [brkTo_none]
  exact ⟨fun h i h1 h2 => h i h1 (by omega), fun h i h1 h2 => h i h1 (by omega)⟩
theorem brk_some {l : List UInt8} {first a : Nat} (h : brk l first = some a) : first ≤ a ∧ a + 1 < l.length ∧ alone l a = true ∧ (a ≤ 40 ∨ ∀ i, first ≤ i → i < a → alone l i = false) := by
  have := brkTo_some l first _ a h
  exact ⟨this.1, by omega, this.2.2⟩
def foldK : Nat → List UInt8 → Nat → List (List UInt8)
  | 0, l, _ => [l]
  | n + 1, l, first => if 40 < l.length then (match brk l first with | none => [l] | some a => l.take a :: foldK n (l.drop a) 2) else [l]
theorem foldK_fuel : ∀ (n m : Nat) (l : List UInt8) (first : Nat), 2 ≤ first → l.length ≤ n → l.length ≤ m → foldK n l first = foldK m l first
  | 0, 0, _, _, _, _, _ => rfl
  | 0, m + 1, l, first, _, h, _ => by
    have : l = [] := List.eq_nil_of_length_eq_zero (by omega)
    subst this; simp [foldK]
  | n + 1, 0, l, first, _, _, h => by
    have : l = [] := List.eq_nil_of_length_eq_zero (by omega)
    subst this; simp [foldK]
  | n + 1, m + 1, l, first, hf, h1, h2 => by
    unfold foldK
    split
    · cases hb : brk l first with
      | none => rfl
      | some a =>
        have := brk_some hb
        show l.take a :: _ = l.take a :: _
        rw [foldK_fuel n m (l.drop a) 2 (by omega) (by rw [List.length_drop]; omega) (by rw [List.length_drop]; omega)]
    · rfl
def foldL (l : List UInt8) (first : Nat) : List (List UInt8) := foldK l.length l first
theorem foldL_short {l : List UInt8} {first : Nat} (h : l.length ≤ 40) : foldL l first = [l] := by
  unfold foldL; cases hl : l.length with
  | zero => rfl
  | succ n => unfold foldK; rw [if_neg (by omega)]
theorem foldL_stop {l : List UInt8} {first : Nat} (h : brk l first = none) : foldL l first = [l] := by
  unfold foldL; cases hl : l.length with
  | zero => rfl
  | succ n => unfold foldK; split <;> simp [h]
theorem foldL_cut {l : List UInt8} {first a : Nat} (h40 : 40 < l.length) (hf : 2 ≤ first) (h : brk l first = some a) : foldL l first = l.take a :: foldL (l.drop a) 2 := by
  have hs := brk_some h
  have e : l.length = (l.length - 1) + 1 := by omega
  unfold foldL
  rw [e, foldK, if_pos h40, h]
  show _ :: _ = _ :: _
  rw [foldK_fuel (l.length - 1) (l.drop a).length (l.drop a) 2 (by omega) (by rw [List.length_drop]; omega) (Nat.le_refl _)]
theorem foldL_ind {P : List UInt8 → Nat → Prop} (h1 : ∀ l first, 2 ≤ first → foldL l first = [l] → (40 < l.length → brk l first = none) → P l first)
    (h2 : ∀ l first a, 2 ≤ first → 40 < l.length → brk l first = some a → foldL l first = l.take a :: foldL (l.drop a) 2 → P (l.drop a) 2 → P l first) : ∀ (n : Nat) (l : List UInt8) (first : Nat), l.length ≤ n → 2 ≤ first → P l first
  | n, l, first, hn, hf => by
    by_cases h40 : 40 < l.length
    · cases hb : brk l first with
      | none => exact h1 l first hf (foldL_stop hb) (fun _ => hb)
      | some a =>
        have hs := brk_some hb
        match n, hn with
        | 0, hn => omega
        | n + 1, hn => exact h2 l first a hf h40 hb (foldL_cut h40 hf hb) (foldL_ind h1 h2 n (l.drop a) 2 (by rw [List.length_drop]; omega) (by omega))
    · exact h1 l first hf (foldL_short (by omega)) (fun h => absurd h h40)
theorem alone_32 {l : List UInt8} {a : Nat} (h : alone l a = true) (ha : a < l.length) : (l.drop a).head? = some 32 := by
  unfold alone at h; simp only [Bool.and_eq_true, decide_eq_true_eq] at h
  rw [List.head?_drop, List.getElem?_eq_getElem ha]
  have := h.1
  rw [List.getD_eq_getElem?_getD, List.getElem?_eq_getElem ha] at this
  exact congrArg some this
/-- A line that goes on with the one before it. -/
def isCont (l : List UInt8) : Bool := decide (l.head? = some 32)
theorem foldL_spec (l : List UInt8) (first : Nat) (hf : 2 ≤ first) : (foldL l first).flatten = l ∧ (∃ p ps, foldL l first = p :: ps ∧ (l ≠ [] → p ≠ []) ∧ p.head? = l.head? ∧ ∀ q ∈ ps, isCont q = true) := by
  refine foldL_ind (P := fun l first => (foldL l first).flatten = l ∧ (∃ p ps, foldL l first = p :: ps ∧ (l ≠ [] → p ≠ []) ∧ p.head? = l.head? ∧ ∀ q ∈ ps, isCont q = true)) ?_ ?_ l.length l first (Nat.le_refl _) hf
  · intro l first _ h _
    rw [h]; exact ⟨by simp, l, [], rfl, fun h => h, rfl, by simp⟩
  · intro l first a hf h40 hb h ih
    have hs := brk_some hb
    obtain ⟨ih1, p, ps, hp, hne, hhd, hall⟩ := ih
    have hd32 := alone_32 hs.2.2.1 (by omega)
    refine ⟨by rw [h, List.flatten_cons, ih1, List.take_append_drop], l.take a, foldL (l.drop a) 2, h, ?_, ?_, ?_⟩
    · intro _ e
      have := congrArg List.length e
      rw [List.length_take] at this
      have this : min a l.length = 0 := this
      omega
    · match l, h40 with
      | x :: l, _ =>
        match a, hs with
        | 0, hs => omega
        | a + 1, _ => rfl
    · intro q hq
      rw [hp] at hq
      rcases List.mem_cons.1 hq with e | hq
      · subst e; unfold isCont; rw [hhd, hd32]; rfl
      · exact hall q hq
theorem foldL_len (l : List UInt8) (first : Nat) (hf : 2 ≤ first) : (foldL l first).length ≤ l.length + 1 := by
  refine foldL_ind (P := fun l first => (foldL l first).length ≤ l.length + 1) ?_ ?_ l.length l first (Nat.le_refl _) hf
  · intro l first _ h _; rw [h]; simp
  · intro l first a hf h40 hb h ih
    have hs := brk_some hb
    rw [h, List.length_cons]; rw [List.length_drop] at ih; omega
theorem foldL_small (l : List UInt8) (first : Nat) (hf : 2 ≤ first) : ∀ p ∈ foldL l first, p.length ≤ l.length := by
  intro p hp
  have := (foldL_spec l first hf).1
  have h2 := (List.sublist_flatten_of_mem hp).length_le
  rw [this] at h2
  exact h2
/-- No piece that is too long can be broken. -/
theorem alone_take {l : List UInt8} {a i : Nat} (hi : i + 1 < (l.take a).length) : alone (l.take a) i = alone l i := by
  rw [List.length_take] at hi
  unfold alone
  simp only [List.getD_eq_getElem?_getD]
  rw [List.getElem?_take_of_lt (by omega), List.getElem?_take_of_lt (by omega), List.getElem?_take_of_lt (by omega)]
def Tight (p : List UInt8) (first : Nat) : Prop := 40 < p.length → ∀ i, first ≤ i → i + 1 < p.length → alone p i = false
theorem foldL_tight (l : List UInt8) (first : Nat) (hf : 2 ≤ first) : ∃ p ps, foldL l first = p :: ps ∧ Tight p first ∧ ∀ q ∈ ps, Tight q 2 := by
  refine foldL_ind (P := fun l first => ∃ p ps, foldL l first = p :: ps ∧ Tight p first ∧ ∀ q ∈ ps, Tight q 2) ?_ ?_ l.length l first (Nat.le_refl _) hf
  · intro l first _ h hb; rw [h]; exact ⟨l, [], rfl, fun h40 => brk_none.1 (hb h40), by simp⟩
  · intro l first a hf h40 hb h ih
    have hs := brk_some hb
    obtain ⟨p, ps, hp, hp1, hp2⟩ := ih
    refine ⟨l.take a, foldL (l.drop a) 2, h, ?_, ?_⟩
    · intro h41 i hi1 hi2
      rw [alone_take hi2]
      rw [List.length_take] at h41 hi2
      exact (hs.2.2.2.resolve_left (by omega)) i hi1 (by omega)
    · intro q hq
      rw [hp] at hq
      rcases List.mem_cons.1 hq with e | hq
      · subst e; exact hp1
      · exact hp2 q hq
def foldT (f : Fld) : List (List UInt8) := foldL (lineF f) (f.name.length + 3)
def foldF (f : Fld) : List (List UInt8) := if isFld f then foldT f else []
def foldAll (fs : List Fld) : List (List UInt8) := fs.flatMap foldT
def fldsOk (fs : List Fld) : Bool := fs.all isFld && decide (fs.length ≤ 20)
def foldFs (fs : List Fld) : List (List UInt8) := if fldsOk fs then foldAll fs else []
/-! Reading. -/
def grp : List (List UInt8) → List UInt8 × List (List UInt8)
  | [] => ([], [])
  | l :: ls => if isCont l then (l ++ (grp ls).1, (grp ls).2) else ([], (l ++ (grp ls).1) :: (grp ls).2)
def groupsL : List (List UInt8) → List (List UInt8)
  | [] => []
  | l :: ls => (l ++ (grp ls).1) :: (grp ls).2
theorem grp_eq : ∀ ls, grp ls = ((ls.takeWhile isCont).flatten, groupsL (ls.dropWhile isCont))
  | [] => rfl
  | l :: ls => by
    have ih := grp_eq ls
    unfold grp
    cases h : isCont l
    · rw [if_neg (by simp), List.takeWhile_cons_of_neg (by simp [h]), List.dropWhile_cons_of_neg (by simp [h])]; rfl
    · rw [if_pos rfl, List.takeWhile_cons_of_pos h, List.dropWhile_cons_of_pos h, ih]; rfl
theorem groupsL_cons (l : List UInt8) (ls : List (List UInt8)) : groupsL (l :: ls) = (l ++ (ls.takeWhile isCont).flatten) :: groupsL (ls.dropWhile isCont) := by
  show (l ++ (grp ls).1) :: (grp ls).2 = _
  rw [grp_eq]
theorem grp_app : ∀ (ps ls : List (List UInt8)), (∀ q ∈ ps, isCont q = true) → grp (ps ++ ls) = (ps.flatten ++ (grp ls).1, (grp ls).2)
  | [], ls, _ => by simp
  | p :: ps, ls, h => by
    show grp (p :: (ps ++ ls)) = _
    rw [grp, if_pos (h p (by simp)), grp_app ps ls (fun q hq => h q (by simp [hq]))]
    simp
theorem groups_len : ∀ ls, (groupsL ls).length ≤ ls.length ∧ (grp ls).2.length ≤ ls.length
  | [] => by simp [groupsL, grp]
  | l :: ls => by
    have ih := groups_len ls
    refine ⟨by simp [groupsL]; omega, ?_⟩
    unfold grp; split <;> simp <;> omega
/-- What is before and behind the first c. -/
def cutAt (c : UInt8) : List UInt8 → Option (List UInt8 × List UInt8)
  | [] => none
  | x :: l => if x = c then some ([], l) else (cutAt c l).map fun y => (x :: y.1, y.2)
theorem cutAt_hit {c : UInt8} : ∀ {a : List UInt8} (b : List UInt8), (∀ x ∈ a, x ≠ c) → cutAt c (a ++ c :: b) = some (a, b)
  | [], b, _ => by show cutAt c (c :: b) = _; rw [cutAt, if_pos rfl]
  | x :: a, b, h => by
    show cutAt c (x :: (a ++ c :: b)) = _
    rw [cutAt, if_neg (h x (by simp)), cutAt_hit b (fun y hy => h y (by simp [hy]))]; rfl
theorem cutAt_none {c : UInt8} : ∀ {l : List UInt8}, (∀ x ∈ l, x ≠ c) → cutAt c l = none
  | [], _ => rfl
  | x :: l, h => by rw [cutAt, if_neg (h x (by simp)), cutAt_none (fun y hy => h y (by simp [hy]))]; rfl
theorem cutAt_len {c : UInt8} : ∀ {l a b : List UInt8}, cutAt c l = some (a, b) → a.length + 1 + b.length = l.length
  | x :: l, a, b, h => by
    unfold cutAt at h
    split at h
    · injection h with h; injection h with h1 h2; subst h1 h2; simp; omega
    · obtain ⟨⟨a', b'⟩, h1, h2⟩ := Option.map_eq_some_iff.1 h
      injection h2 with h2 h3; subst h2 h3
      have := cutAt_len h1
      simp; omega
def oneF (l : List UInt8) : Option Fld := match cutAt 58 l with
  | none => none
  | some (a, b) => if isFld ⟨a, trimS b⟩ then some ⟨a, trimS b⟩ else none
theorem oneF_valid {l : List UInt8} {f : Fld} (h : oneF l = some f) : isFld f = true := by
  unfold oneF at h
  split at h
  · cases h
  · split at h
    · rename_i h2; injection h with h; rw [← h]; exact h2
    · cases h
def mapF : List (List UInt8) → Option (List Fld)
  | [] => some []
  | l :: ls => match oneF l with
    | none => none
    | some f => (mapF ls).map (f :: ·)
def readFs (ls : List (List UInt8)) : Option (List Fld) := (mapF (groupsL ls)).bind fun fs => if fs.length ≤ 20 then some fs else none
theorem mapF_valid : ∀ (ls : List (List UInt8)) (fs : List Fld), mapF ls = some fs → (∀ f ∈ fs, isFld f = true) ∧ fs.length = ls.length
  | [], fs, h => by injection h with h; subst h; simp
  | l :: ls, fs, h => by
    unfold mapF at h
    split at h
    · cases h
    · rename_i f hf
      obtain ⟨gs, hg, rfl⟩ := Option.map_eq_some_iff.1 h
      obtain ⟨h1, h2⟩ := mapF_valid ls gs hg
      refine ⟨fun x hx => ?_, by simp [h2]⟩
      rcases List.mem_cons.1 hx with e | hx
      · subst e; exact oneF_valid hf
      · exact h1 x hx
theorem readFs_valid {ls : List (List UInt8)} {fs : List Fld} (h : readFs ls = some fs) : fldsOk fs = true := by
  unfold readFs at h
  obtain ⟨gs, h1, h2⟩ := Option.bind_eq_some_iff.1 h
  split at h2
  · rename_i h3
    injection h2 with h2; subst h2
    unfold fldsOk; simp only [Bool.and_eq_true, decide_eq_true_eq, List.all_eq_true]
    exact ⟨(mapF_valid _ _ h1).1, h3⟩
  · cases h2
theorem name_58 {f : Fld} (h : isFld f = true) : ∀ x ∈ f.name, x ≠ 58 := fun x hx => (nameC_byte ((isFName_iff.1 (isFld_iff.1 h).1).2.2.1 x hx)).1
theorem oneF_line {f : Fld} (h : isFld f = true) : oneF (lineF f) = some f := by
  have ht := (isFld_iff.1 h).2.2.2
  have e : trimS (if f.val = [] then [] else 32 :: f.val) = f.val := by
    by_cases h0 : f.val = []
    · rw [if_pos h0, h0]; rfl
    · rw [if_neg h0, trimS_left, ht]
  unfold oneF lineF
  rw [cutAt_hit _ (name_58 h)]
  show (if isFld ⟨f.name, trimS (if f.val = [] then [] else 32 :: f.val)⟩ then some (Fld.mk f.name (trimS (if f.val = [] then [] else 32 :: f.val))) else none) = _
  rw [e, if_pos h]
theorem trim_pad {v : List UInt8} (h : trimS v = v) : trimS (32 :: 32 :: 32 :: (v ++ [32])) = v := by
  rw [trimS_left, trimS_left, trimS_left]
  by_cases h0 : v = []
  · subst h0; rfl
  · have hh : v.head? ≠ some 32 := by
      intro e
      match v, e with
      | x :: l, e =>
        have e : x = 32 := by simpa using e
        subst e
        rw [trimS_left] at h
        have := trimS_len l
        rw [h] at this; simp at this; omega
    rw [trimS_right hh h0, h]
theorem oneF_pad {f : Fld} (h : isFld f = true) : oneF (f.name ++ 58 :: 32 :: 32 :: 32 :: (f.val ++ [32])) = some f := by
  unfold oneF
  rw [cutAt_hit _ (name_58 h)]
  show (if isFld ⟨f.name, trimS _⟩ then some (Fld.mk f.name (trimS _)) else none) = _
  rw [trim_pad (isFld_iff.1 h).2.2.2, if_pos h]
theorem line_head {f : Fld} (h : isFld f = true) : lineF f ≠ [] ∧ (lineF f).head? ≠ some 32 := by
  have hn := isFName_iff.1 (isFld_iff.1 h).1
  unfold lineF
  refine ⟨by simp, ?_⟩
  match hf : f.name, hn with
  | [], hn => simp at hn
  | c :: cs, hn =>
    intro e
    have e : c = 32 := by simpa using e
    exact (nameC_byte (hn.2.2.1 c (by simp))).2.1 e
theorem foldT_parts {f : Fld} (h : isFld f = true) : ∃ p ps, foldT f = p :: ps ∧ p ≠ [] ∧ isCont p = false ∧ (∀ q ∈ ps, isCont q = true) ∧ p ++ ps.flatten = lineF f := by
  obtain ⟨h1, p, ps, hp, hne, hh, hq⟩ := foldL_spec (lineF f) (f.name.length + 3) (by omega)
  have hl := line_head h
  refine ⟨p, ps, hp, hne hl.1, ?_, hq, ?_⟩
  · unfold isCont; rw [hh]; exact decide_eq_false hl.2
  · rw [hp, List.flatten_cons] at h1; exact h1
theorem groups_fold : ∀ (fs : List Fld), (∀ f ∈ fs, isFld f = true) → grp (foldAll fs) = ([], fs.map lineF) ∧ groupsL (foldAll fs) = fs.map lineF
  | [], _ => ⟨rfl, rfl⟩
  | f :: fs, h => by
    have ih := groups_fold fs (fun g hg => h g (by simp [hg]))
    obtain ⟨p, ps, hp, hne, hc, hq, hl⟩ := foldT_parts (h f (by simp))
    have e : foldAll (f :: fs) = p :: (ps ++ foldAll fs) := by show foldT f ++ foldAll fs = _; rw [hp]; rfl
    rw [e]
    have hg := grp_app ps (foldAll fs) hq
    rw [ih.1] at hg
    constructor
    · rw [grp, hc, if_neg (by simp), hg]; simp [hl]
    · show (p ++ (grp (ps ++ foldAll fs)).1) :: (grp (ps ++ foldAll fs)).2 = _
      rw [hg]; simp [hl]
theorem mapF_lines : ∀ (fs : List Fld), (∀ f ∈ fs, isFld f = true) → mapF (fs.map lineF) = some fs
  | [], _ => rfl
  | f :: fs, h => by
    show (match oneF (lineF f) with | none => none | some f => (mapF (fs.map lineF)).map (f :: ·)) = _
    rw [oneF_line (h f (by simp))]
    show (mapF (fs.map lineF)).map (f :: ·) = _
    rw [mapF_lines fs (fun g hg => h g (by simp [hg]))]; rfl
theorem fldsOk_iff {fs : List Fld} : fldsOk fs = true ↔ (∀ f ∈ fs, isFld f = true) ∧ fs.length ≤ 20 := by
  unfold fldsOk; simp only [Bool.and_eq_true, decide_eq_true_eq, List.all_eq_true]
theorem read_fold {fs : List Fld} (h : fldsOk fs = true) : readFs (foldAll fs) = some fs := by
  obtain ⟨h1, h2⟩ := fldsOk_iff.1 h
  unfold readFs
  rw [(groups_fold fs h1).2, mapF_lines fs h1]
  show (if fs.length ≤ 20 then some fs else none) = _
  rw [if_pos h2]
theorem read_one {f : Fld} (h : isFld f = true) : readFs (foldT f) = some [f] := by
  have := read_fold (fs := [f]) (fldsOk_iff.2 ⟨by simpa using h, by simp⟩)
  simpa [foldAll] using this
theorem read_pad {f : Fld} (h : isFld f = true) : readFs [f.name ++ 58 :: 32 :: 32 :: 32 :: (f.val ++ [32])] = some [f] := by
  unfold readFs
  have e : groupsL [f.name ++ 58 :: 32 :: 32 :: 32 :: (f.val ++ [32])] = [f.name ++ 58 :: 32 :: 32 :: 32 :: (f.val ++ [32])] := by simp [groupsL, grp]
  rw [e, mapF, oneF_pad h]; rfl
theorem foldF_val {f : Fld} (h : isFld f = true) : foldF f = foldT f := by unfold foldF; rw [if_pos h]
theorem foldF_no {f : Fld} (h : isFld f = false) : foldF f = [] := by unfold foldF; rw [if_neg (by simp [h])]
theorem foldT_ne (f : Fld) : foldT f ≠ [] := by
  obtain ⟨_, p, ps, hp, _⟩ := foldL_spec (lineF f) (f.name.length + 3) (by omega)
  unfold foldT; rw [hp]; simp
theorem foldF_ne (f : Fld) : 0 < (foldF f).length ↔ isFld f = true := by
  cases h : isFld f
  · rw [foldF_no h]; simp
  · rw [foldF_val h]; simp; exact List.length_pos_iff.2 (foldT_ne f)
theorem line_len {f : Fld} (h : isFld f = true) : (lineF f).length ≤ 182 := by
  have hn := isFName_iff.1 (isFld_iff.1 h).1
  have hv := (isFld_iff.1 h).2.2.1
  unfold lineF; split <;> simp <;> omega
theorem foldF_len (f : Fld) : (foldF f).length ≤ 183 ∧ ∀ p ∈ foldF f, p.length ≤ 182 := by
  cases h : isFld f
  · rw [foldF_no h]; simp
  · rw [foldF_val h]
    have hl := line_len h
    refine ⟨?_, fun p hp => ?_⟩
    · have := foldL_len (lineF f) (f.name.length + 3) (by omega); unfold foldT; omega
    · have := foldL_small (lineF f) (f.name.length + 3) (by omega) p hp; omega
theorem foldAll_map {fs : List Fld} (h : ∀ f ∈ fs, isFld f = true) : fs.flatMap foldF = foldAll fs := by
  unfold foldAll
  induction fs with
  | nil => rfl
  | cons f fs ih => rw [List.flatMap_cons, List.flatMap_cons, foldF_val (h f (by simp)), ih (fun g hg => h g (by simp [hg]))]
/-! Fields by their names. -/
def sameN (a b : List UInt8) : Bool := decide (low a = low b)
theorem sameN_comm (a b : List UInt8) : sameN a b = sameN b a := by unfold sameN; exact decide_eq_decide.2 eq_comm
theorem sameN_self (a : List UInt8) : sameN a a = true := by unfold sameN; simp
theorem sameN_low (a b : List UInt8) : sameN a (low b) = sameN a b := by unfold sameN; rw [low_low]
theorem sameN_trans {a b c : List UInt8} (h : sameN a b = true) (k : sameN b c = true) : sameN a c = true := by
  unfold sameN at h k ⊢; simp only [decide_eq_true_eq] at h k ⊢; exact h.trans k
theorem sameN_congr {a b : List UInt8} (h : sameN a b = true) (c : List UInt8) : sameN c a = sameN c b := by
  unfold sameN at h ⊢; simp only [decide_eq_true_eq] at h; rw [h]
theorem sameS (a b : ByteArray) : decide (lowS a = lowS b) = sameN a.data.toList b.data.toList := by
  unfold sameN; refine decide_eq_decide.2 ⟨fun h => ?_, fun h => by unfold lowS; rw [h]⟩
  have := congrArg (·.data.toList) h
  simpa [lowS_list] using this
def fld0 : Fld := ⟨[], []⟩
/-- The place of the first field with a name. -/
def findN : List Fld → List UInt8 → Option Nat
  | [], _ => none
  | f :: fs, n => if sameN f.name n then some 0 else (findN fs n).map (· + 1)
theorem findN_at {n : List UInt8} : ∀ (fs : List Fld) (i : Nat) (h : i < fs.length), sameN fs[i].name n = true → (∀ j, j < i → (hj : j < fs.length) → sameN fs[j].name n = false) → findN fs n = some i
  | f :: fs, 0, _, h1, _ => by
    have h1 : sameN f.name n = true := h1
    rw [findN, if_pos h1]
  | f :: fs, i + 1, h, h1, h2 => by
    have h3 : sameN f.name n = false := h2 0 (by omega) (by simp)
    rw [findN, if_neg (by simp [h3]), findN_at fs i (by simpa using h) h1 (fun j hj hl => h2 (j + 1) (by omega) (by simpa using hl))]; rfl
theorem findN_none {n : List UInt8} : ∀ (fs : List Fld), (∀ j, (hj : j < fs.length) → sameN fs[j].name n = false) → findN fs n = none
  | [], _ => rfl
  | f :: fs, h => by
    have h3 : sameN f.name n = false := h 0 (by simp)
    rw [findN, if_neg (by simp [h3]), findN_none fs (fun j hj => h (j + 1) (by simpa using hj))]; rfl
theorem findN_cases (fs : List Fld) (n : List UInt8) : (findN fs n = none ∧ ∀ j, (hj : j < fs.length) → sameN fs[j].name n = false) ∨ ∃ i, ∃ h : i < fs.length, findN fs n = some i ∧ sameN fs[i].name n = true ∧ ∀ j, j < i → (hj : j < fs.length) → sameN fs[j].name n = false := by
  induction fs with
  | nil => exact .inl ⟨rfl, fun j hj => by simp at hj⟩
  | cons f fs ih =>
    cases h : sameN f.name n
    · rcases ih with ⟨h1, h2⟩ | ⟨i, hi, h1, h2, h3⟩
      · refine .inl ⟨by rw [findN, if_neg (by simp [h]), h1]; rfl, fun j hj => ?_⟩
        cases j with
        | zero => exact h
        | succ j => exact h2 j (by simpa using hj)
      · refine .inr ⟨i + 1, by simpa using hi, by rw [findN, if_neg (by simp [h]), h1]; rfl, h2, fun j hj hl => ?_⟩
        cases j with
        | zero => exact h
        | succ j => exact h3 j (by omega) (by simpa using hl)
    · exact .inr ⟨0, by simp, by rw [findN, if_pos h], h, fun j hj => by omega⟩
def getF (fs : List Fld) (n : List UInt8) : Option (List UInt8) := (findN fs n).map fun i => (fs.getD i fld0).val
def getR (fs : List Fld) (n : List UInt8) : List UInt8 := (getF fs n).getD []
def dropF (fs : List Fld) (n : List UInt8) : List Fld := fs.filter fun f => !sameN f.name n
def countF (fs : List Fld) (n : List UInt8) : Nat := fs.length - (dropF fs n).length
def putT (fs : List Fld) (f : Fld) : Option (List Fld) := match findN fs f.name with
  | some i => some (fs.set i ⟨(fs.getD i fld0).name, f.val⟩)
  | none => if fs.length = 20 then none else some (fs ++ [f])
def putF (fs : List Fld) (f : Fld) : Option (List Fld) := if isFld f && fldsOk fs then putT fs f else none
theorem getD_at {fs : List Fld} {i : Nat} (h : i < fs.length) : fs.getD i fld0 = fs[i] := by
  rw [List.getD_eq_getElem?_getD, List.getElem?_eq_getElem h]; rfl
theorem getF_at {fs : List Fld} {n : List UInt8} {i : Nat} (h : i < fs.length) (h1 : sameN fs[i].name n = true) (h2 : ∀ j, j < i → (hj : j < fs.length) → sameN fs[j].name n = false) : getF fs n = some fs[i].val := by
  unfold getF; rw [findN_at fs i h h1 h2]; show some (fs.getD i fld0).val = _; rw [getD_at h]
theorem getF_none {fs : List Fld} {n : List UInt8} (h : ∀ j, (hj : j < fs.length) → sameN fs[j].name n = false) : getF fs n = none := by
  unfold getF; rw [findN_none fs h]; rfl
theorem dropF_len (fs : List Fld) (n : List UInt8) : (dropF fs n).length ≤ fs.length := List.length_filter_le _ _
theorem dropF_count (fs : List Fld) (n : List UInt8) : (dropF fs n).length + countF fs n = fs.length := by have := dropF_len fs n; unfold countF; omega
theorem dropF_snoc (fs : List Fld) (f : Fld) (n : List UInt8) : dropF (fs ++ [f]) n = if sameN f.name n then dropF fs n else dropF fs n ++ [f] := by
  unfold dropF; rw [List.filter_append]; cases h : sameN f.name n <;> simp [h]
theorem dropF_mem {fs : List Fld} {n : List UInt8} {f : Fld} (h : f ∈ dropF fs n) : f ∈ fs ∧ sameN f.name n = false := by
  unfold dropF at h; rw [List.mem_filter] at h; exact ⟨h.1, by simpa using h.2⟩
theorem dropF_none {fs : List Fld} {n : List UInt8} (h : ∀ j, (hj : j < fs.length) → sameN fs[j].name n = false) : dropF fs n = fs := by
  unfold dropF; rw [List.filter_eq_self]; intro f hf
  obtain ⟨j, hj, rfl⟩ := List.getElem_of_mem hf
  rw [h j hj]; rfl
theorem drop_all {fs : List Fld} {n : List UInt8} : ∀ j, (hj : j < (dropF fs n).length) → sameN (dropF fs n)[j].name n = false := fun _ hj => (dropF_mem (List.getElem_mem hj)).2
theorem drop_drop (fs : List Fld) (n : List UInt8) : dropF (dropF fs n) n = dropF fs n := dropF_none drop_all
theorem drop_get (fs : List Fld) (n : List UInt8) : getF (dropF fs n) n = none := getF_none drop_all
theorem drop_count (fs : List Fld) (n : List UInt8) : countF (dropF fs n) n = 0 := by unfold countF; rw [drop_drop]; omega
theorem dropF_lt {fs : List Fld} {n : List UInt8} {i : Nat} (h : i < fs.length) (h1 : sameN fs[i].name n = true) : (dropF fs n).length < fs.length := by
  unfold dropF; rw [List.length_filter_lt_length_iff_exists]; exact ⟨fs[i], List.getElem_mem h, by simp [h1]⟩
theorem getF_count (fs : List Fld) (n : List UInt8) : (getF fs n).isSome = decide (0 < countF fs n) := by
  rcases findN_cases fs n with ⟨_, h⟩ | ⟨i, h, _, h1, h2⟩
  · rw [getF_none h]; unfold countF; rw [dropF_none h]; simp
  · rw [getF_at h h1 h2]
    have := dropF_lt h h1
    unfold countF; simp; omega
theorem getF_low (fs : List Fld) (n : List UInt8) : getF fs (low n) = getF fs n := by
  rcases findN_cases fs n with ⟨_, h⟩ | ⟨i, h, _, h1, h2⟩
  · rw [getF_none h, getF_none (fun j hj => by rw [sameN_low]; exact h j hj)]
  · rw [getF_at h h1 h2, getF_at h (by rw [sameN_low]; exact h1) (fun j hj hl => by rw [sameN_low]; exact h2 j hj hl)]
/-- What putting a value leaves. -/
structure PutIs (fs : List Fld) (f : Fld) (x : List Fld) : Prop where
  ok : fldsOk x = true
  get : getF x f.name = some f.val
  same : ∀ i, (h : i < fs.length) → ∃ h' : i < x.length, sameN fs[i].name f.name = false → x[i] = fs[i]
  len : 0 < countF fs f.name ∧ x.length = fs.length ∨ countF fs f.name = 0 ∧ x.length = fs.length + 1
theorem putF_is {fs : List Fld} {f : Fld} {x : List Fld} (h : putF fs f = some x) : PutIs fs f x ∧ isFld f = true ∧ ∃ i, ∃ hi : i < x.length, findN x f.name = some i ∧ sameN x[i].name f.name = true ∧ x[i].val = f.val := by
  unfold putF at h
  split at h
  · rename_i hv
    simp only [Bool.and_eq_true] at hv
    obtain ⟨hf, hfs⟩ := hv
    obtain ⟨hall, hlen⟩ := fldsOk_iff.1 hfs
    unfold putT at h
    rcases findN_cases fs f.name with ⟨hn, ha⟩ | ⟨i, hi, hn, h1, h2⟩
    · rw [hn] at h
      have h : (if fs.length = 20 then none else some (fs ++ [f])) = some x := h
      split at h
      · cases h
      · injection h with h; subst h
        have hL : fs.length < (fs ++ [f]).length := by simp
        have hat : (fs ++ [f])[fs.length]'hL = f := by simp
        have hs : sameN ((fs ++ [f])[fs.length]'hL).name f.name = true := by rw [hat]; exact sameN_self _
        have hb : ∀ j, j < fs.length → (hj : j < (fs ++ [f]).length) → sameN (fs ++ [f])[j].name f.name = false := fun j hj hl => by rw [List.getElem_append_left hj]; exact ha j hj
        refine ⟨⟨?_, ?_, ?_, ?_⟩, hf, fs.length, hL, findN_at _ _ hL hs hb, hs, by rw [hat]⟩
        · refine fldsOk_iff.2 ⟨fun g hg => ?_, by simp; omega⟩
          rcases List.mem_append.1 hg with hg | hg
          · exact hall g hg
          · rw [List.mem_singleton.1 hg]; exact hf
        · rw [getF_at hL hs hb, hat]
        · exact fun j hj => ⟨by simp; omega, fun _ => List.getElem_append_left hj⟩
        · right; refine ⟨?_, by simp⟩
          unfold countF; rw [dropF_none ha]; omega
    · rw [hn] at h
      have h : some (fs.set i ⟨(fs.getD i fld0).name, f.val⟩) = some x := h
      rw [getD_at hi] at h
      injection h with h; subst h
      have hL : i < (fs.set i ⟨fs[i].name, f.val⟩).length := by simpa using hi
      have hat : (fs.set i ⟨fs[i].name, f.val⟩)[i]'hL = ⟨fs[i].name, f.val⟩ := List.getElem_set_self _
      have hs : sameN ((fs.set i ⟨fs[i].name, f.val⟩)[i]'hL).name f.name = true := by rw [hat]; exact h1
      have hb : ∀ j, j < i → (hj : j < (fs.set i ⟨fs[i].name, f.val⟩).length) → sameN (fs.set i ⟨fs[i].name, f.val⟩)[j].name f.name = false := fun j hj hl => by
        rw [List.getElem_set_ne (by omega)]; exact h2 j hj _
      have hfi := isFld_iff.1 (hall _ (List.getElem_mem hi))
      have hff := isFld_iff.1 hf
      refine ⟨⟨?_, ?_, ?_, ?_⟩, hf, i, hL, findN_at _ _ hL hs hb, hs, by rw [hat]⟩
      · refine fldsOk_iff.2 ⟨fun g hg => ?_, by simpa using hlen⟩
        rcases List.mem_or_eq_of_mem_set hg with hg | hg
        · exact hall g hg
        · rw [hg]; exact isFld_iff.2 ⟨hfi.1, hff.2⟩
      · rw [getF_at hL hs hb, hat]
      · refine fun j hj => ⟨by simpa using hj, fun hne => ?_⟩
        by_cases e : i = j
        · subst e; rw [h1] at hne; cases hne
        · exact List.getElem_set_ne e _
      · left; refine ⟨?_, by simp⟩
        have := dropF_lt hi h1
        unfold countF; omega
  · cases h
theorem put_over {x : List Fld} {f : Fld} {v : List UInt8} {i : Nat} (hx : fldsOk x = true) (hi : i < x.length) (hn : findN x f.name = some i) (hv : isFld ⟨f.name, v⟩ = true) : putF x ⟨f.name, v⟩ = some (x.set i ⟨x[i].name, v⟩) := by
  unfold putF
  rw [hv, hx]
  show putT x ⟨f.name, v⟩ = _
  unfold putT
  show (match findN x f.name with | some i => some (x.set i ⟨(x.getD i fld0).name, v⟩) | none => _) = _
  rw [hn]
  show some (x.set i ⟨(x.getD i fld0).name, v⟩) = _
  rw [getD_at hi]
theorem findN_set {x : List Fld} {n : List UInt8} {i : Nat} {v : List UInt8} (hi : i < x.length) (hn : findN x n = some i) : findN (x.set i ⟨x[i].name, v⟩) n = some i := by
  rcases findN_cases x n with ⟨h, _⟩ | ⟨k, hk, h, h1, h2⟩
  · rw [h] at hn; cases hn
  · rw [h] at hn; injection hn with hn; subst hn
    refine findN_at _ _ (by simpa using hk) (by rw [List.getElem_set_self]; exact h1) (fun j hj hl => ?_)
    rw [List.getElem_set_ne (by omega)]; exact h2 j hj _
/-- A value is put, another one, and the first one again. -/
theorem put_twice {fs : List Fld} {f : Fld} {x : List Fld} {v : List UInt8} (h : putF fs f = some x) (hv : isFld ⟨f.name, v⟩ = true) : ∃ y, putF x ⟨f.name, v⟩ = some y ∧ getF y f.name = some v ∧ putF y f = some x := by
  obtain ⟨hp, hf, i, hi, hn, hs, hval⟩ := putF_is h
  have h1 := put_over (f := f) hp.ok hi hn hv
  refine ⟨_, h1, (putF_is h1).1.get, ?_⟩
  have hy := (putF_is h1).1.ok
  have hn2 := findN_set (v := v) hi hn
  have h3 := put_over (f := f) (v := f.val) hy (by simpa using hi) hn2 hf
  have e : (⟨f.name, f.val⟩ : Fld) = f := rfl
  rw [e] at h3
  rw [h3]
  congr 1
  rw [List.set_set]
  have : (⟨((x.set i ⟨x[i].name, v⟩)[i]'(by simpa using hi)).name, f.val⟩ : Fld) = x[i] := by
    rw [List.getElem_set_self]; exact Fld.ext' rfl hval.symm
  rw [this, List.set_getElem_self]
theorem put_new {fs : List Fld} {n v : List UInt8} {y : List Fld} (h : putF (dropF fs n) ⟨n, v⟩ = some y) : y = dropF fs n ++ [⟨n, v⟩] ∧ countF y n = 1 := by
  unfold putF at h
  split at h
  · unfold putT at h
    have hn : findN (dropF fs n) n = none := findN_none _ drop_all
    have h : (match findN (dropF fs n) n with | some i => _ | none => if (dropF fs n).length = 20 then none else some (dropF fs n ++ [⟨n, v⟩])) = some y := h
    rw [hn] at h
    have h : (if (dropF fs n).length = 20 then none else some (dropF fs n ++ [⟨n, v⟩])) = some y := h
    split at h
    · cases h
    · injection h with h; subst h
      refine ⟨rfl, ?_⟩
      unfold countF
      rw [dropF_snoc, sameN_self, if_pos rfl, drop_drop]; simp
  · cases h
theorem fldsOk_bad {fs : List Fld} {k : Nat} (h : k < fs.length) (hx : isFld fs[k] = false) : fldsOk fs = false := by
  unfold fldsOk; rw [show fs.all isFld = false by rw [List.all_eq_false]; exact ⟨_, List.getElem_mem h, by simp [hx]⟩]; rfl
theorem fldsOk_long {fs : List Fld} (h : 20 < fs.length) : fldsOk fs = false := by
  unfold fldsOk; rw [decide_eq_false (by omega)]; simp
theorem fldsOk_good {fs : List Fld} (h : ∀ j, (hj : j < fs.length) → isFld fs[j] = true) (hl : fs.length ≤ 20) : fldsOk fs = true :=
  fldsOk_iff.2 ⟨fun f hf => by obtain ⟨j, hj, rfl⟩ := List.getElem_of_mem hf; exact h j hj, hl⟩
end Go.Proofs.YtbfjbabpeigloabDoor
