/-
  Kinds read in the model's way: it comes to the same as the program's. No statement is proved here.
-/
import Derived.Test.YtcdmjckkencgoaaGreatDoorKindM
namespace Go.Proofs.YtcdmjckkencgoaaGreatDoor
open Go.RowKit

/-! A space at the end of a text of words does not matter. -/
theorem readQ_snoc : ∀ r : List UInt8, readQ r = none → readQ (r ++ [32]) = none
  | [], _ => by rw [List.nil_append, readQ_plain _ (by decide) (by decide)]; rfl
  | c :: r, h => by
    by_cases h1 : c = 34
    · subst h1; rw [readQ_end] at h; cases h
    · by_cases h2 : c = 92
      · subst h2
        match r, h with
        | [], _ => show readQ (92 :: 32 :: []) = none; rw [readQ_slash]; rfl
        | d :: r', h =>
          rw [readQ_slash] at h
          show readQ (92 :: d :: (r' ++ [32])) = none
          rw [readQ_slash, readQ_snoc r' (Option.map_eq_none_iff.1 h)]; rfl
      · rw [readQ_plain _ h1 h2] at h
        rw [List.cons_append, readQ_plain _ h1 h2, readQ_snoc r (Option.map_eq_none_iff.1 h)]; rfl
theorem wordAt_snoc {c : UInt8} {r : List UInt8} (h : wordAt (c :: r) = none) : wordAt (c :: (r ++ [32])) = none := by
  rw [wordAt_cons] at h ⊢
  by_cases h1 : c = 34
  · rw [if_pos h1] at h ⊢
    rw [readQ_snoc r (Option.map_eq_none_iff.1 h)]; rfl
  · rw [if_neg h1] at h ⊢
    have e : run atomB (c :: (r ++ [32])) = run atomB (c :: r) := by
      have := run_app (p := atomB) (d := 32) (by decide) (c :: r) []
      rw [← List.cons_append]; exact this
    rw [e]
    split at h
    · rename_i h0; rw [if_pos h0]
    · cases h
theorem splitW_sp : ∀ (n : Nat) (l : List UInt8), l.length ≤ n → splitW (l ++ [32]) = splitW l
  | n, l, hn => by
    cases hs : splitW l with
    | some a =>
      rw [splitW_two l.length l [] a (Nat.le_refl _) hs, splitW_nil]; simp
    | none =>
      match n, l, hn, hs with
      | _, [], _, hs => rw [splitW_nil] at hs; cases hs
      | n + 1, c :: r, hn, hs =>
        simp only [List.length_cons] at hn
        by_cases hc : c = 32
        · subst hc
          rw [splitW_space] at hs
          rw [List.cons_append, splitW_space, splitW_sp n r (by omega)]; exact hs
        · match hw : wordAt (c :: r) with
          | none => exact splitW_none (l := c :: r ++ [32]) (r := r ++ [32]) rfl hc (wordAt_snoc hw)
          | some (t, k) =>
            have hb := wordAt_bound hw
            have hw2 : wordAt (c :: r ++ [32]) = some (t, k) := wordAt_app [] hw
            have hd2 : (c :: r ++ [32]).drop k = (c :: r).drop k ++ [32] := List.drop_append_of_le_length hb.2
            match hd : (c :: r).drop k with
            | [] => rw [splitW_last rfl hc hw hd] at hs; cases hs
            | d :: r' =>
              rw [hd] at hd2
              by_cases h32 : d = 32
              · subst h32
                rw [splitW_more rfl hc hw hd] at hs
                have hl : (32 :: r').length = (c :: r).length - k := by rw [← hd, List.length_drop]
                have ih := splitW_sp n (32 :: r') (by rw [hl]; simp only [List.length_cons]; omega)
                rw [splitW_more (l := c :: r ++ [32]) (r' := r' ++ [32]) rfl hc hw2 (by rw [hd2]; rfl)]
                rw [List.cons_append] at ih
                rw [ih, Option.map_eq_none_iff.1 hs]; rfl
              · exact splitW_stuck (l := c :: r ++ [32]) rfl hc hw2 (by rw [hd2]; rfl) h32
theorem splitW_trimF : ∀ l : List UInt8, splitW (trimF l) = splitW l
  | [] => rfl
  | x :: l => by
    by_cases hx : x = 32
    · subst hx; rw [trimF_space, splitW_space, splitW_trimF l]
    · rw [trimF_ne l hx]
theorem splitW_trimR : ∀ (m : List UInt8), splitW (trimF m).reverse = splitW m.reverse
  | [] => rfl
  | x :: m => by
    by_cases hx : x = 32
    · subst hx; rw [trimF_space, splitW_trimR m, List.reverse_cons, splitW_sp _ _ (Nat.le_refl _)]
    · rw [trimF_ne m hx]
theorem splitW_trimS (l : List UInt8) : splitW (trimS l) = splitW l := by
  unfold trimS; rw [splitW_trimR, List.reverse_reverse, splitW_trimF]
/-! Trimming around a cut. -/
theorem trimF_cut {c : UInt8} (hc : c ≠ 32) : ∀ (n v : List UInt8), trimF (n ++ c :: v) = trimF n ++ c :: v
  | [], v => by rw [List.nil_append, trimF_ne v hc]; rfl
  | x :: n, v => by
    by_cases hx : x = 32
    · subst hx; rw [List.cons_append, trimF_space, trimF_space, trimF_cut hc n v]
    · rw [List.cons_append, trimF_ne _ hx, trimF_ne _ hx]; rfl
theorem trimF_twice : ∀ l : List UInt8, trimF (trimF l) = trimF l
  | [] => rfl
  | x :: l => by
    by_cases hx : x = 32
    · subst hx; rw [trimF_space, trimF_twice l]
    · rw [trimF_ne l hx, trimF_ne l hx]
theorem trimS_cut {c : UInt8} (hc : c ≠ 32) (n v : List UInt8) : trimS (n ++ c :: v) = trimF n ++ c :: (trimF v.reverse).reverse := by
  unfold trimS
  rw [trimF_cut hc, List.reverse_append, List.reverse_cons, List.append_assoc, List.singleton_append, trimF_cut hc]
  simp
theorem trimS_trimF (n : List UInt8) : trimS (trimF n) = trimS n := by unfold trimS; rw [trimF_twice]
theorem cutK_at (c : UInt8) : ∀ (l : List UInt8) (m k : Nat), cutK c m l = some k → l[k]? = some c
  | [], m, k, h => by rw [cutK_nil] at h; cases h
  | x :: l, m, k, h => by
    have step : ∀ m', (cutK c m' l).map (· + 1) = some k → (x :: l)[k]? = some c := fun m' h' => by
      obtain ⟨j, hj, rfl⟩ := Option.map_eq_some_iff.1 h'
      rw [List.getElem?_cons_succ]
      exact cutK_at c l m' j hj
    match m, h with
    | 0, h =>
      rw [cutK] at h
      by_cases hx : x = c
      · rw [if_pos hx] at h; injection h with h; subst h; rw [hx]; rfl
      · rw [if_neg hx] at h; exact step _ h
    | 1, h => rw [cutK] at h; exact step _ h
    | m + 2, h => rw [cutK] at h; exact step _ h
theorem cutU_split {c : UInt8} {l a b : List UInt8} (h : cutU c l = some (a, b)) : l = a ++ c :: b := by
  unfold cutU at h
  obtain ⟨k, hk, h⟩ := Option.map_eq_some_iff.1 h
  injection h with h1 h2
  have hl := cutK_lt c l 0 k hk
  have hc := cutK_at c l 0 k hk
  rw [List.getElem?_eq_getElem hl] at hc
  injection hc with hc
  rw [← h1, ← h2, ← hc, ← List.drop_eq_getElem_cons hl, List.take_append_drop]
/-- No quote ahead of the first c: the cut outside of quotes is the first one. -/
theorem cutU_plain {c : UInt8} {a b : List UInt8} (h : ∀ x ∈ a, x ≠ c) (h2 : (34 : UInt8) ∉ a) : cutU c (a ++ c :: b) = some (a, b) :=
  cutU_hit (Pass.plain fun x hx => ⟨h x hx, fun e => h2 (e ▸ hx)⟩) b
theorem mem_pre {c : UInt8} {a b a' b' : List UInt8} (h : a ++ c :: b = a' ++ c :: b') (hn : ∀ x ∈ a, x ≠ c) {x : UInt8} (hx : x ∈ a) : x ∈ a' := by
  rcases List.append_eq_append_iff.1 h with ⟨m, h1, h2⟩ | ⟨m, h1, h2⟩
  · rw [h1]; exact List.mem_append_left _ hx
  · match m, h1, h2 with
    | [], h1, _ => rw [List.append_nil] at h1; rw [← h1]; exact hx
    | y :: m, h1, h2 =>
      have e : y = c := by
        have := congrArg List.head? h2
        simpa using this.symm
      exact absurd e (hn y (by rw [h1]; simp))
/-! A parameter. -/
def readPS (l : List UInt8) : Option Fld := match cutU 61 (trimS l) with
  | none => none
  | some (n, v) => match splitW (trimS v) with
    | some [t] => some ⟨low (trimS n), t⟩
    | _ => none
def badO (o : Option (List Fld)) : Prop := ∀ fs, o = some fs → ∃ f ∈ fs, (34 : UInt8) ∈ f.name
def bad1 (o : Option Fld) : Prop := ∀ f, o = some f → (34 : UInt8) ∈ f.name
theorem trimF_keep {x : UInt8} (hx : x ≠ 32) : ∀ {l : List UInt8}, x ∈ l → x ∈ trimF l
  | y :: l, h => by
    by_cases hy : y = 32
    · subst hy
      rw [trimF_space]
      rcases List.mem_cons.1 h with e | h
      · exact absurd e hx
      · exact trimF_keep hx h
    · rw [trimF_ne l hy]; exact h
theorem trimS_keep {x : UInt8} (hx : x ≠ 32) {l : List UInt8} (h : x ∈ l) : x ∈ trimS l := by
  unfold trimS
  exact List.mem_reverse.2 (trimF_keep hx (List.mem_reverse.2 (trimF_keep hx h)))
theorem low_keep {l : List UInt8} (h : (34 : UInt8) ∈ l) : (34 : UInt8) ∈ low l := List.mem_map.2 ⟨34, h, by decide⟩
theorem small_no34 {l : List UInt8} (h : isSmall l = true) : (34 : UInt8) ∉ l := fun hm => (nameC_more (fname_mem (isSmall_iff.1 h).1 hm)).2.1 rfl
theorem readP_same (l : List UInt8) : readPS l = readP l ∨ (bad1 (readPS l) ∧ bad1 (readP l)) := by
  cases hc : cutAt 61 l with
  | none =>
    left
    have h1 : readP l = none := by unfold readP cut2; rw [hc]; rfl
    have h2 : cutU 61 (trimS l) = none := by
      cases hu : cutU 61 (trimS l) with
      | none => rfl
      | some y =>
        obtain ⟨a, b⟩ := y
        have := cutU_split hu
        exact absurd rfl (cutAt_out hc 61 (trimS_mem (by rw [this]; simp)))
    rw [h1]; unfold readPS; rw [h2]
  | some y =>
    obtain ⟨n, v⟩ := y
    obtain ⟨hl, hn⟩ := cutAt_pre hc
    have ht : trimS l = trimF n ++ 61 :: (trimF v.reverse).reverse := by rw [hl, trimS_cut (by decide)]
    have hP : readP l = match splitW v with | some [t] => some ⟨low (trimS n), t⟩ | _ => none := by unfold readP cut2; rw [hc]; rfl
    by_cases hq : (34 : UInt8) ∈ n
    · right
      refine ⟨fun f hf => ?_, fun f hf => ?_⟩
      · unfold readPS at hf
        cases hu : cutU 61 (trimS l) with
        | none => rw [hu] at hf; cases hf
        | some y =>
          obtain ⟨a, b⟩ := y
          have hs := cutU_split hu
          rw [ht] at hs
          have hm : (34 : UInt8) ∈ a := mem_pre hs (fun x hx => hn x (trimF_mem hx)) (trimF_keep (by decide) hq)
          rw [hu] at hf
          simp only at hf
          split at hf
          · injection hf with hf; subst hf; exact low_keep (trimS_keep (by decide) hm)
          · cases hf
      · rw [hP] at hf
        split at hf
        · injection hf with hf; subst hf; exact low_keep (trimS_keep (by decide) hq)
        · cases hf
    · left
      have hu : cutU 61 (trimS l) = some (trimF n, (trimF v.reverse).reverse) := by
        rw [ht]; exact cutU_plain (fun x hx => hn x (trimF_mem hx)) (fun hm => hq (trimF_mem hm))
      have hv : splitW (trimS (trimF v.reverse).reverse) = splitW v := by rw [splitW_trimS, splitW_trimR, List.reverse_reverse]
      rw [hP]; unfold readPS; rw [hu]
      show (match splitW (trimS (trimF v.reverse).reverse) with | some [t] => some (⟨low (trimS (trimF n)), t⟩ : Fld) | _ => none) = _
      rw [hv, trimS_trimF]
def mapPS : List (List UInt8) → Option (List Fld)
  | [] => some []
  | l :: ls => match readPS l with
    | some f => (mapPS ls).map (f :: ·)
    | none => none
theorem badO_cons {f : Fld} {o : Option (List Fld)} (h : (34 : UInt8) ∈ f.name ∨ badO o) : badO (o.map (f :: ·)) := by
  intro fs hfs
  obtain ⟨gs, hg, rfl⟩ := Option.map_eq_some_iff.1 hfs
  rcases h with h | h
  · exact ⟨f, by simp, h⟩
  · obtain ⟨g, hg1, hg2⟩ := h gs hg; exact ⟨g, by simp [hg1], hg2⟩
theorem badO_none : badO none := fun fs h => by cases h
theorem mapP_same : ∀ ls : List (List UInt8), mapPS ls = mapP ls ∨ (badO (mapPS ls) ∧ badO (mapP ls))
  | [] => .inl rfl
  | l :: ls => by
    unfold mapPS mapP
    rcases readP_same l with h | ⟨h1, h2⟩
    · rw [h]
      cases hr : readP l with
      | none => exact .inl rfl
      | some f =>
        simp only
        rcases mapP_same ls with ih | ⟨i1, i2⟩
        · rw [ih]; exact .inl rfl
        · exact .inr ⟨badO_cons (.inr i1), badO_cons (.inr i2)⟩
    · right
      refine ⟨?_, ?_⟩
      · cases hr : readPS l with
        | none => exact badO_none
        | some f => exact badO_cons (.inl (h1 f hr))
      · cases hr : readP l with
        | none => exact badO_none
        | some f => exact badO_cons (.inl (h2 f hr))
/-! The whole. -/
def headS (h : List UInt8) : Option (List UInt8 × List UInt8) := (cutU 47 (trimS h)).map fun y => (low y.1, low y.2)
def okS (h : List UInt8) (fs : List Fld) : Option Knd := match headS h with
  | none => none
  | some (m, s) => okK ⟨m, s, fs⟩
def readKS (l : List UInt8) : Option Knd := match partsU 59 l with
  | [] => none
  | h :: ps => (mapPS ps).bind fun fs => okS h fs
theorem lowB_47_nat : ∀ n, n < 256 → (lowB (UInt8.ofNat n) = 47 ↔ UInt8.ofNat n = 47) := by decide +kernel
theorem lowB_47 (x : UInt8) : lowB x = 47 ↔ x = 47 := by
  have := lowB_47_nat x.toNat x.toNat_lt; rw [UInt8.ofNat_toNat] at this; exact this
theorem okK_bad {k : Knd} (h : (34 : UInt8) ∈ k.main ∨ ¬ isSmall k.sub = true ∨ ∃ f ∈ k.params, (34 : UInt8) ∈ f.name) : okK k = none := by
  refine okK_no (Bool.eq_false_iff.2 fun hk => ?_)
  obtain ⟨h1, h2, _, h4, _⟩ := isKnd_iff.1 hk
  rcases h with h | h | ⟨f, hf, h⟩
  · exact small_no34 h1 h
  · exact h h2
  · have := parsOk_mem h4 hf
    exact small_no34 (by unfold parOk at this; simp at this; exact this.1) h
theorem okS_same (h : List UInt8) (fs : List Fld) : okS h fs = okK ⟨(mainK h).1, (mainK h).2, fs⟩ := by
  unfold okS headS mainK cut2
  cases hc : cutAt 47 (trimS h) with
  | none =>
    have hn := cutAt_out hc
    have h1 : cutAt 47 (low (trimS h)) = none := cutAt_none fun x hx e => by
      obtain ⟨y, hy, rfl⟩ := List.mem_map.1 hx
      exact hn y hy ((lowB_47 y).1 e)
    have h2 : cutU 47 (trimS h) = none := by
      cases hu : cutU 47 (trimS h) with
      | none => rfl
      | some y =>
        obtain ⟨a, b⟩ := y
        have := cutU_split hu
        exact absurd rfl (hn 47 (by rw [this]; simp))
    rw [h1, h2]
    exact (okK_bad (.inr (.inl (show ¬ isSmall [] = true by decide)))).symm
  | some y =>
    obtain ⟨a, b⟩ := y
    obtain ⟨hl, hn⟩ := cutAt_pre hc
    have h1 : cutAt 47 (low (trimS h)) = some (low a, low b) := by
      rw [hl, low_append]
      show cutAt 47 (low a ++ lowB 47 :: low b) = _
      exact cutAt_hit (low b) fun x hx e => by
        obtain ⟨y, hy, rfl⟩ := List.mem_map.1 hx
        exact hn y hy ((lowB_47 y).1 e)
    rw [h1]
    show _ = okK ⟨low a, low b, fs⟩
    by_cases hq : (34 : UInt8) ∈ a
    · rw [okK_bad (.inl (low_keep hq))]
      cases hu : cutU 47 (trimS h) with
      | none => rfl
      | some y =>
        obtain ⟨a', b'⟩ := y
        have hs := cutU_split hu
        rw [hl] at hs
        exact okK_bad (.inl (low_keep (mem_pre hs hn hq)))
    · rw [hl, cutU_plain hn hq]; rfl
theorem readKS_same (l : List UInt8) : readKS l = readK l := by
  unfold readKS readK
  cases hp : partsU 59 l with
  | nil => rfl
  | cons h ps =>
    simp only
    have e : (fun fs => okS h fs) = fun fs => okK ⟨(mainK h).1, (mainK h).2, fs⟩ := funext (okS_same h)
    rw [e]
    rcases mapP_same ps with i | ⟨i1, i2⟩
    · rw [i]
    · have key : ∀ o : Option (List Fld), badO o → (o.bind fun fs => okK ⟨(mainK h).1, (mainK h).2, fs⟩) = none := fun o ho => by
        cases o with
        | none => rfl
        | some fs => exact okK_bad (.inr (.inr (ho fs rfl)))
      rw [key _ i1, key _ i2]
end Go.Proofs.YtcdmjckkencgoaaGreatDoor
