/-
  Lists of addresses: mailboxes that come once, domains in order: the plain functions on lists. No statement is proved here.
-/
import Derived.Test.YthcmdmjijdafoaaAddrM
namespace Go.Proofs.Ythcmdmjijdafoaa
open Go.RowKit

theorem any_mem {p : Adr → Bool} {l : List Adr} : l.any p = true ↔ ∃ b ∈ l, p b = true := by rw [List.any_eq_true]
theorem dropStep_in {acc : List Adr} {a b : Adr} (h : b ∈ acc) : b ∈ dropStep acc a := by
  unfold dropStep; split
  · exact h
  · simp [h]
theorem dropStep_has (acc : List Adr) (a : Adr) : (dropStep acc a).any (fun b => sameB b a) = true := by
  unfold dropStep
  by_cases h : acc.any (fun b => sameB b a) = true
  · rw [if_pos h]; exact h
  · rw [if_neg h]; rw [any_mem]; exact ⟨a, by simp, sameB_self a⟩
theorem fold_in : ∀ (al acc : List Adr) (b : Adr), b ∈ acc → b ∈ al.foldl dropStep acc
  | [], _, _, h => h
  | a :: al, acc, b, h => fold_in al (dropStep acc a) b (dropStep_in h)
theorem fold_has : ∀ (al acc : List Adr) (a : Adr), a ∈ al → (al.foldl dropStep acc).any (fun b => sameB b a) = true
  | x :: al, acc, a, h => by
    rcases List.mem_cons.1 h with e | h
    · subst e
      obtain ⟨b, hb, hs⟩ := any_mem.1 (dropStep_has acc a)
      exact any_mem.2 ⟨b, fold_in al _ b hb, hs⟩
    · exact fold_has al _ a h
theorem fold_all : ∀ (al acc : List Adr), (∀ a ∈ al, acc.any (fun b => sameB b a) = true) → al.foldl dropStep acc = acc
  | [], _, _ => rfl
  | a :: al, acc, h => by
    have e : dropStep acc a = acc := by unfold dropStep; rw [if_pos (h a (by simp))]
    show al.foldl dropStep (dropStep acc a) = acc
    rw [e]; exact fold_all al acc (fun b hb => h b (by simp [hb]))
/-- No two are of one mailbox. -/
def Apart (l : List Adr) : Prop := l.Pairwise fun a b => sameB a b = false
theorem apart_step {acc : List Adr} (h : Apart acc) (a : Adr) : Apart (dropStep acc a) := by
  unfold dropStep
  by_cases hc : acc.any (fun b => sameB b a) = true
  · rw [if_pos hc]; exact h
  · rw [if_neg hc]
    unfold Apart
    rw [List.pairwise_append]
    refine ⟨h, by simp, fun x hx y hy => ?_⟩
    rw [List.mem_singleton.1 hy]
    rw [Bool.not_eq_true] at hc
    have := List.any_eq_false.1 hc x hx
    simpa using this
theorem apart_fold : ∀ (al acc : List Adr), Apart acc → Apart (al.foldl dropStep acc)
  | [], _, h => h
  | a :: al, _, h => apart_fold al _ (apart_step h a)
theorem dropR_apart (al : List Adr) : Apart (dropR al) := apart_fold al [] List.Pairwise.nil
theorem fold_apart : ∀ (al acc : List Adr), Apart (acc ++ al) → al.foldl dropStep acc = acc ++ al
  | [], _, _ => by simp
  | a :: al, acc, h => by
    have e : dropStep acc a = acc ++ [a] := by
      unfold dropStep; rw [if_neg]
      rw [Bool.not_eq_true, List.any_eq_false]
      intro x hx
      unfold Apart at h
      have := (List.pairwise_append.1 h).2.2 x hx a (by simp)
      simpa using this
    show al.foldl dropStep (dropStep acc a) = acc ++ a :: al
    rw [e, fold_apart al (acc ++ [a]) (by simpa using h)]; simp
theorem dropR_dropR (al : List Adr) : dropR (dropR al) = dropR al := by
  have := fold_apart (dropR al) [] (by simpa using dropR_apart al)
  simpa [dropR] using this
theorem dropR_twice (al : List Adr) : dropR (al ++ al) = dropR al := by
  show (al ++ al).foldl dropStep [] = al.foldl dropStep []
  rw [List.foldl_append]
  exact fold_all al _ (fun a ha => fold_has al [] a ha)
theorem dropStep_len (acc : List Adr) (a : Adr) : (dropStep acc a).length ≤ acc.length + 1 := by unfold dropStep; split <;> simp
theorem fold_len : ∀ (al acc : List Adr), (al.foldl dropStep acc).length ≤ acc.length + al.length
  | [], _ => Nat.le_refl _
  | a :: al, acc => by
    have := fold_len al (dropStep acc a)
    have := dropStep_len acc a
    show (al.foldl dropStep (dropStep acc a)).length ≤ _
    simp; omega
theorem dropR_len (al : List Adr) : (dropR al).length ≤ al.length := by have := fold_len al []; simpa [dropR] using this
theorem fold_head : ∀ (al acc : List Adr), acc ≠ [] → (al.foldl dropStep acc).head? = acc.head?
  | [], _, _ => rfl
  | a :: al, acc, h => by
    show (al.foldl dropStep (dropStep acc a)).head? = _
    have e : dropStep acc a ≠ [] ∧ (dropStep acc a).head? = acc.head? := by
      unfold dropStep; split
      · exact ⟨h, rfl⟩
      · exact ⟨by simp, by rw [head_app _ h]⟩
    rw [fold_head al _ e.1, e.2]
theorem dropR_head (al : List Adr) : (dropR al).head? = al.head? := by
  match al with
  | [] => rfl
  | a :: al =>
    show (al.foldl dropStep (dropStep [] a)).head? = _
    have e : dropStep [] a = [a] := rfl
    rw [e, fold_head al [a] (by simp)]; rfl
theorem apart_count : ∀ (l : List Adr) (a : Adr), Apart l → l.any (fun b => sameB b a) = true → l.countP (fun b => sameB b a) = 1
  | x :: l, a, h, hc => by
    obtain ⟨h1, h2⟩ := List.pairwise_cons.1 h
    rw [List.countP_cons]
    cases hx : sameB x a
    · have hc' : l.any (fun b => sameB b a) = true := by
        rw [List.any_cons, hx, Bool.false_or] at hc; exact hc
      rw [apart_count l a h2 hc']; simp
    · have : l.countP (fun b => sameB b a) = 0 := by
        rw [List.countP_eq_zero]
        intro y hy hs
        have := h1 y hy
        rw [sameB_trans hx (by rw [sameB_comm]; exact hs)] at this; cases this
      rw [this]; simp
theorem dropR_count {al : List Adr} {a : Adr} (h : a ∈ al) : (dropR al).countP (fun b => sameB b a) = 1 :=
  apart_count _ a (dropR_apart al) (fold_has al [] a h)
/-! Texts in ascending order. -/
def ltT : List UInt8 → List UInt8 → Bool
  | _, [] => false
  | [], _ :: _ => true
  | a :: al, b :: bs => if a < b then true else if b < a then false else ltT al bs
theorem u8_le_antisymm {a b : UInt8} (h : ¬ a < b) (h2 : ¬ b < a) : a = b := by
  rw [UInt8.lt_iff_toNat_lt] at h h2; exact UInt8.toNat_inj.1 (by omega)
theorem u8_irrefl (a : UInt8) : ¬ a < a := by rw [UInt8.lt_iff_toNat_lt]; omega
theorem u8_trans {a b c : UInt8} (h : a < b) (k : b < c) : a < c := by rw [UInt8.lt_iff_toNat_lt] at h k ⊢; omega
theorem u8_asymm {a b : UInt8} (h : a < b) : ¬ b < a := by rw [UInt8.lt_iff_toNat_lt] at h ⊢; omega
theorem ltT_irrefl : ∀ a, ltT a a = false
  | [] => rfl
  | a :: al => by rw [ltT, if_neg (u8_irrefl a), if_neg (u8_irrefl a)]; exact ltT_irrefl al
theorem ltT_total : ∀ a b, ltT a b = false → ltT b a = false → a = b
  | [], [], _, _ => rfl
  | [], _ :: _, h, _ => by simp [ltT] at h
  | _ :: _, [], _, h => by simp [ltT] at h
  | a :: al, b :: bs, h, k => by
    rw [ltT] at h k
    by_cases h1 : a < b
    · rw [if_pos h1] at h; cases h
    · by_cases h2 : b < a
      · rw [if_pos h2] at k; cases k
      · rw [if_neg h1, if_neg h2] at h
        rw [if_neg h2, if_neg h1] at k
        rw [u8_le_antisymm h1 h2, ltT_total al bs h k]
theorem ltT_asymm : ∀ a b, ltT a b = true → ltT b a = false
  | [], [], h => by simp [ltT] at h
  | [], _ :: _, _ => rfl
  | _ :: _, [], h => by simp [ltT] at h
  | a :: al, b :: bs, h => by
    rw [ltT] at h ⊢
    by_cases h1 : a < b
    · rw [if_neg (u8_asymm h1), if_pos h1]
    · rw [if_neg h1] at h
      by_cases h2 : b < a
      · rw [if_pos h2] at h; cases h
      · rw [if_neg h2] at h
        rw [if_neg h2, if_neg h1]; exact ltT_asymm al bs h
theorem ltT_trans : ∀ a b c, ltT a b = true → ltT b c = true → ltT a c = true
  | [], b, [], h, k => by cases b <;> simp [ltT] at k
  | [], _, _ :: _, _, _ => rfl
  | a :: al, [], c, h, _ => by simp [ltT] at h
  | a :: al, b :: bs, [], _, k => by simp [ltT] at k
  | a :: al, b :: bs, c :: cs, h, k => by
    rw [ltT] at h k ⊢
    by_cases h1 : a < b
    · by_cases k1 : b < c
      · rw [if_pos (u8_trans h1 k1)]
      · rw [if_neg k1] at k
        by_cases k2 : c < b
        · rw [if_pos k2] at k; cases k
        · rw [← u8_le_antisymm k1 k2, if_pos h1]
    · rw [if_neg h1] at h
      by_cases h2 : b < a
      · rw [if_pos h2] at h; cases h
      · rw [if_neg h2] at h
        have e := u8_le_antisymm h1 h2
        subst e
        by_cases k1 : a < c
        · rw [if_pos k1]
        · rw [if_neg k1] at k ⊢
          by_cases k2 : c < a
          · rw [if_pos k2] at k; cases k
          · rw [if_neg k2] at k ⊢
            exact ltT_trans al bs cs h k
def Asc (l : List (List UInt8)) : Prop := l.Pairwise fun a b => ltT a b = true
def insD (d : List UInt8) : List (List UInt8) → List (List UInt8)
  | [] => [d]
  | x :: xs => if ltT x d then x :: insD d xs else if x = d then x :: xs else d :: x :: xs
theorem insD_mem {d y : List UInt8} : ∀ {l : List (List UInt8)}, y ∈ insD d l ↔ y = d ∨ y ∈ l
  | [] => by simp [insD]
  | x :: xs => by
    unfold insD
    by_cases h : ltT x d = true
    · rw [if_pos h]; simp only [List.mem_cons]; rw [insD_mem (l := xs)]
      exact ⟨fun h => by rcases h with h | h | h <;> simp [h], fun h => by rcases h with h | h | h <;> simp [h]⟩
    · rw [if_neg h]
      by_cases h2 : x = d
      · rw [if_pos h2]; subst h2; simp
      · rw [if_neg h2]; simp
theorem insD_asc {d : List UInt8} : ∀ {l : List (List UInt8)}, Asc l → Asc (insD d l)
  | [], _ => by simp [insD, Asc]
  | x :: xs, h => by
    obtain ⟨h1, h2⟩ := List.pairwise_cons.1 h
    unfold insD
    by_cases hx : ltT x d = true
    · rw [if_pos hx]
      refine List.pairwise_cons.2 ⟨fun y hy => ?_, insD_asc h2⟩
      rcases insD_mem.1 hy with e | hy
      · rw [e]; exact hx
      · exact h1 y hy
    · rw [if_neg hx]
      by_cases h3 : x = d
      · rw [if_pos h3]; exact h
      · rw [if_neg h3]
        rw [Bool.not_eq_true] at hx
        have hd : ltT d x = true := by
          cases hdx : ltT d x
          · exact absurd (ltT_total x d hx hdx) h3
          · rfl
        refine List.pairwise_cons.2 ⟨fun y hy => ?_, h⟩
        rcases List.mem_cons.1 hy with e | hy
        · rw [e]; exact hd
        · exact ltT_trans _ _ _ hd (h1 y hy)
theorem asc_ext : ∀ {l k : List (List UInt8)}, Asc l → Asc k → (∀ x, x ∈ l ↔ x ∈ k) → l = k
  | [], [], _, _, _ => rfl
  | [], y :: ys, _, _, h => by have := (h y).2 (by simp); simp at this
  | x :: xs, [], _, _, h => by have := (h x).1 (by simp); simp at this
  | x :: xs, y :: ys, hl, hk, h => by
    obtain ⟨h1, h2⟩ := List.pairwise_cons.1 hl
    obtain ⟨k1, k2⟩ := List.pairwise_cons.1 hk
    have hxy : x = y := by
      have a1 := (h x).1 (by simp)
      have a2 := (h y).2 (by simp)
      rcases List.mem_cons.1 a1 with e | a1
      · exact e
      · rcases List.mem_cons.1 a2 with e | a2
        · exact e.symm
        · have b1 := h1 y a2
          have b2 := k1 x a1
          rw [ltT_asymm _ _ b1] at b2; cases b2
    subst hxy
    have hs : ∀ z, z ∈ xs ↔ z ∈ ys := fun z => by
      constructor
      · intro hz
        have := (h z).1 (by simp [hz])
        rcases List.mem_cons.1 this with e | this
        · subst e; have := h1 z hz; rw [ltT_irrefl] at this; cases this
        · exact this
      · intro hz
        have := (h z).2 (by simp [hz])
        rcases List.mem_cons.1 this with e | this
        · subst e; have := k1 z hz; rw [ltT_irrefl] at this; cases this
        · exact this
    rw [asc_ext h2 k2 hs]
def domsL (al : List Adr) : List (List UInt8) := al.foldl (fun acc a => insD (low a.dom) acc) []
theorem domsF : ∀ (al : List Adr) (acc : List (List UInt8)), Asc acc → Asc (al.foldl (fun acc a => insD (low a.dom) acc) acc) ∧ ∀ x, x ∈ al.foldl (fun acc a => insD (low a.dom) acc) acc ↔ x ∈ acc ∨ ∃ a ∈ al, x = low a.dom
  | [], _, h => ⟨h, fun x => by simp⟩
  | a :: al, acc, h => by
    obtain ⟨h1, h2⟩ := domsF al (insD (low a.dom) acc) (insD_asc h)
    refine ⟨h1, fun x => ?_⟩
    show x ∈ al.foldl _ (insD (low a.dom) acc) ↔ _
    rw [h2 x, insD_mem]
    constructor
    · rintro ((e | h) | ⟨b, hb, e⟩)
      · exact .inr ⟨a, by simp, e⟩
      · exact .inl h
      · exact .inr ⟨b, by simp [hb], e⟩
    · rintro (h | ⟨b, hb, e⟩)
      · exact .inl (.inr h)
      · rcases List.mem_cons.1 hb with e2 | hb
        · subst e2; exact .inl (.inl e)
        · exact .inr ⟨b, hb, e⟩
theorem doms_asc (al : List Adr) : Asc (domsL al) := (domsF al [] List.Pairwise.nil).1
theorem doms_mem (al : List Adr) (x : List UInt8) : x ∈ domsL al ↔ ∃ a ∈ al, x = low a.dom := by
  have := (domsF al [] List.Pairwise.nil).2 x; simpa [domsL] using this
theorem insD_len (d : List UInt8) : ∀ l, (insD d l).length ≤ l.length + 1
  | [] => by simp [insD]
  | x :: xs => by
    unfold insD; split
    · have := insD_len d xs; simp; omega
    · split <;> simp
theorem domsF_len : ∀ (al : List Adr) (acc : List (List UInt8)), (al.foldl (fun acc a => insD (low a.dom) acc) acc).length ≤ acc.length + al.length
  | [], _ => Nat.le_refl _
  | a :: al, acc => by
    have := domsF_len al (insD (low a.dom) acc)
    have := insD_len (low a.dom) acc
    show (al.foldl _ (insD (low a.dom) acc)).length ≤ _
    simp; omega
theorem doms_len (al : List Adr) : (domsL al).length ≤ al.length := by have := domsF_len al []; simpa [domsL] using this
/-- Of a list in order, what differs from the one before it. -/
def uniq : List (List UInt8) → List (List UInt8)
  | [] => []
  | [x] => [x]
  | x :: y :: xs => if x = y then uniq (y :: xs) else x :: uniq (y :: xs)
theorem uniq_mem {z : List UInt8} : ∀ {l : List (List UInt8)}, z ∈ uniq l ↔ z ∈ l
  | [] => by simp [uniq]
  | [x] => by simp [uniq]
  | x :: y :: xs => by
    unfold uniq
    by_cases h : x = y
    · rw [if_pos h, uniq_mem (l := y :: xs)]; subst h; simp
    · rw [if_neg h]; rw [List.mem_cons, uniq_mem (l := y :: xs), List.mem_cons (l := y :: xs)]
theorem uniq_asc : ∀ {l : List (List UInt8)}, (l.Pairwise fun a b => ltT b a = false) → Asc (uniq l)
  | [], _ => List.Pairwise.nil
  | [x], _ => by simp [uniq, Asc]
  | x :: y :: xs, h => by
    obtain ⟨h1, h2⟩ := List.pairwise_cons.1 h
    unfold uniq
    by_cases hxy : x = y
    · rw [if_pos hxy]; exact uniq_asc h2
    · rw [if_neg hxy]
      refine List.pairwise_cons.2 ⟨fun z hz => ?_, uniq_asc h2⟩
      have hz := uniq_mem.1 hz
      have hyx := h1 y (by simp)
      have hlt : ltT x y = true := by
        cases hc : ltT x y
        · exact absurd (ltT_total x y hc hyx) hxy
        · rfl
      rcases List.mem_cons.1 hz with e | hz
      · rw [e]; exact hlt
      · have hzy : ltT z y = false := (List.pairwise_cons.1 h2).1 z hz
        cases hyz : ltT y z
        · rw [← ltT_total y z hyz hzy]; exact hlt
        · exact ltT_trans _ _ _ hlt hyz
theorem uniq_doms {al : List Adr} {l : List (List UInt8)} (hs : l.Pairwise fun a b => ltT b a = false) (hm : ∀ x, x ∈ l ↔ x ∈ al.map (fun a => low a.dom)) : uniq l = domsL al := by
  refine asc_ext (uniq_asc hs) (doms_asc al) fun x => ?_
  rw [uniq_mem, hm, doms_mem]
  simp only [List.mem_map]
  exact ⟨fun ⟨a, ha, e⟩ => ⟨a, ha, e.symm⟩, fun ⟨a, ha, e⟩ => ⟨a, ha, e.symm⟩⟩
end Go.Proofs.Ythcmdmjijdafoaa
