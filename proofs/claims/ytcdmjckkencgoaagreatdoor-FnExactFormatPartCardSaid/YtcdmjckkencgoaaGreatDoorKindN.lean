/-
  Reading kinds: what is read so far, bounds of what is read. No statement is proved here.
-/
import Derived.Test.YtcdmjckkencgoaaGreatDoorKindM
import Derived.Test.YtcdmjckkencgoaaGreatDoorKindS
import Derived.Test.YtcdmjckkencgoaaGreatDoorListA2
import Derived.Test.YtcdmjckkencgoaaGreatDoorParse2
import Derived.Test.YtcdmjckkencgoaaGreatDoorFldV
namespace Go.Proofs.YtcdmjckkencgoaaGreatDoor
open Go.RowKit

theorem partsU_sub (c : UInt8) : ∀ (n : Nat) (l : List UInt8), l.length ≤ n → ∀ p ∈ partsU c l, ∀ x ∈ p, x ∈ l
  | n, l, hn => by
    cases h : cutU c l with
    | none => rw [partsU_none h]; intro p hp x hx; rw [List.mem_singleton.1 hp] at hx; exact hx
    | some y =>
      obtain ⟨a, r⟩ := y
      have hb := cutU_bound h
      have hs := cutU_split h
      match n, hn with
      | 0, hn => omega
      | n + 1, hn =>
        rw [partsU_some h]
        intro p hp x hx
        rcases List.mem_cons.1 hp with rfl | hp
        · rw [hs]; exact List.mem_append_left _ hx
        · have := partsU_sub c n r (by omega) p hp x hx
          rw [hs]; exact List.mem_append_right _ (List.mem_cons_of_mem _ this)
theorem partsU_text {c : UInt8} {l p : List UInt8} (h : isText l = true) (hp : p ∈ partsU c l) : isText p = true :=
  isText_sub h (partsU_sub c _ l (Nat.le_refl _) p hp) ((partsU_small c _ l (Nat.le_refl _)).2 p hp)
theorem cut2_sub (c : UInt8) (l : List UInt8) : ((∀ x ∈ (cut2 c l).1, x ∈ l) ∧ (cut2 c l).1.length ≤ l.length) ∧ ((∀ x ∈ (cut2 c l).2, x ∈ l) ∧ (cut2 c l).2.length ≤ l.length) := by
  unfold cut2
  cases h : cutAt c l with
  | none => exact ⟨⟨fun x hx => hx, Nat.le_refl _⟩, (fun x hx => by cases hx), Nat.zero_le _⟩
  | some y =>
    obtain ⟨a, b⟩ := y
    obtain ⟨hl, _⟩ := cutAt_pre h
    rw [Option.getD_some]
    refine ⟨⟨fun x hx => by rw [hl]; exact List.mem_append_left _ hx, by rw [hl]; simp⟩, fun x hx => by rw [hl]; exact List.mem_append_right _ (List.mem_cons_of_mem _ hx), by rw [hl]; simp; omega⟩
theorem cut2_text {c : UInt8} {l : List UInt8} (h : isText l = true) : isText (cut2 c l).2 = true := isText_sub h (cut2_sub c l).2.1 (cut2_sub c l).2.2
theorem low_len (l : List UInt8) : (low l).length = l.length := List.length_map _
theorem readP_small {l : List UInt8} {f : Fld} (h : readP l = some f) : SmallF l.length f := by
  unfold readP at h
  split at h
  · rename_i t hs
    injection h with h; subst h
    have h1 := (splitW_bound _ _ _ (Nat.le_refl _) hs).2 t (by simp)
    have h2 := (cut2_sub 61 l).2.2
    have h3 := (cut2_sub 61 l).1.2
    refine ⟨?_, by show t.length ≤ _; omega⟩
    show (low (trimS (cut2 61 l).1)).length ≤ _
    rw [low_len]; have := trimS_len (cut2 61 l).1; omega
  · cases h
theorem readPS_small {l : List UInt8} {f : Fld} (h : readPS l = some f) : SmallF l.length f := by
  unfold readPS at h
  split at h
  · cases h
  · rename_i n v hc
    split at h
    · rename_i t hs
      injection h with h; subst h
      have hb := cutU_bound hc
      have h1 := (splitW_bound _ _ _ (Nat.le_refl _) hs).2 t (by simp)
      have h2 := trimS_len v
      have h3 := trimS_len l
      have h4 := trimS_len n
      refine ⟨?_, by show t.length ≤ _; omega⟩
      show (low (trimS n)).length ≤ _
      rw [low_len]; omega
    · cases h
/-- What is read so far of the parameters. -/
def readsK (ps : List (List UInt8)) (k : Nat) (acc : List Fld) : Prop := mapP ps = (mapP (ps.drop k)).map (acc ++ ·)
theorem readsK_start (ps : List (List UInt8)) : readsK ps 0 [] := by unfold readsK; rw [List.drop_zero]; cases mapP ps <;> simp
theorem mapP_cons (l : List UInt8) (ls : List (List UInt8)) : mapP (l :: ls) = (readP l).bind fun f => (mapP ls).map (f :: ·) := by
  rw [mapP]; cases readP l <;> rfl
theorem mapPS_cons (l : List UInt8) (ls : List (List UInt8)) : mapPS (l :: ls) = (readPS l).bind fun f => (mapPS ls).map (f :: ·) := by
  rw [mapPS]; cases readPS l <;> rfl
theorem readsK_bad {ps : List (List UInt8)} {k : Nat} {acc : List Fld} (h : readsK ps k acc) (hk : k < ps.length) (hr : readP ps[k] = none) : mapP ps = none := by
  unfold readsK at h
  rw [h, List.drop_eq_getElem_cons hk, mapP_cons, hr]; rfl
theorem readsK_next {ps : List (List UInt8)} {k : Nat} {acc : List Fld} {f : Fld} (h : readsK ps k acc) (hk : k < ps.length) (hr : readP ps[k] = some f) : readsK ps (k + 1) (acc ++ [f]) := by
  unfold readsK at h ⊢
  rw [h, List.drop_eq_getElem_cons hk, mapP_cons, hr, Option.bind_some]
  cases mapP (ps.drop (k + 1)) <;> simp
theorem readsK_end {ps : List (List UInt8)} {k : Nat} {acc : List Fld} (h : readsK ps k acc) (hk : ps.length ≤ k) : mapP ps = some acc := by
  unfold readsK at h; rw [h, List.drop_eq_nil_of_le hk]; simp [mapP]
/-- What is read so far by the model, and whether there is more. -/
def goesK (ps : List (List UInt8)) (acc : List Fld) (more : Bool) (r : List UInt8) : Prop := mapPS ps = (mapPS (if more then partsU 59 r else [])).map (acc ++ ·)
theorem goesK_start {p r : List UInt8} {m : Bool} : goesK (restU 59 m p r).tail [] m r := by
  unfold goesK restU
  cases m
  · simp [mapPS]
  · simp only [if_true, List.tail_cons]; cases mapPS (partsU 59 r) <;> simp
theorem goesK_bad {ps : List (List UInt8)} {acc : List Fld} {r p r' : List UInt8} {m : Bool} (h : goesK ps acc true r) (hc : partsU 59 r = restU 59 m p r') (hp : readPS p = none) : mapPS ps = none := by
  unfold goesK at h
  rw [h, if_pos rfl, hc]
  unfold restU
  cases m
  · simp only [Bool.false_eq_true, if_false]; rw [mapPS_cons, hp]; rfl
  · simp only [if_true]; rw [mapPS_cons, hp]; rfl
theorem goesK_next {ps : List (List UInt8)} {acc : List Fld} {r p r' : List UInt8} {m : Bool} {f : Fld} (h : goesK ps acc true r) (hc : partsU 59 r = restU 59 m p r') (hp : readPS p = some f) : goesK ps (acc ++ [f]) m r' := by
  unfold goesK at h ⊢
  rw [h, if_pos rfl, hc]
  unfold restU
  cases m
  · simp only [Bool.false_eq_true, if_false]; rw [mapPS_cons, hp, Option.bind_some]; simp [mapPS]
  · simp only [if_true]; rw [mapPS_cons, hp, Option.bind_some]
    cases mapPS (partsU 59 r') <;> simp
theorem goesK_end {ps : List (List UInt8)} {acc : List Fld} {r : List UInt8} (h : goesK ps acc false r) : mapPS ps = some acc := by
  unfold goesK at h; rw [h]; simp [mapPS]
theorem readK_parts {l h : List UInt8} {ps : List (List UInt8)} (hp : partsU 59 l = h :: ps) : readK l = (mapP ps).bind fun fs => okK ⟨(mainK h).1, (mainK h).2, fs⟩ := by unfold readK; rw [hp]
theorem readKS_parts {l h : List UInt8} {ps : List (List UInt8)} (hp : partsU 59 l = h :: ps) : readKS l = (mapPS ps).bind fun fs => okS h fs := by unfold readKS; rw [hp]
theorem parseK_text {l : List UInt8} (h : isText l = true) : parseK l = readK l := by unfold parseK; rw [if_pos h]
theorem parseK_textS {l : List UInt8} (h : isText l = true) : parseK l = readKS l := by rw [readKS_same]; exact parseK_text h
theorem parseK_no {l : List UInt8} (h : isText l = false) : parseK l = none := by unfold parseK; rw [if_neg (by simp [h])]
theorem isKnd_small {k : Knd} (h : isKnd k = true) : k.main.length ≤ 30 ∧ k.sub.length ≤ 30 ∧ k.params.length ≤ 4 ∧ ∀ x ∈ k.params, SmallF 40 x := by
  obtain ⟨h1, h2, h3, h4, _⟩ := isKnd_iff.1 h
  have a1 := (isFName_iff.1 (isSmall_iff.1 h1).1).2.1
  have a2 := (isFName_iff.1 (isSmall_iff.1 h2).1).2.1
  refine ⟨by omega, by omega, h3, fun x hx => ?_⟩
  obtain ⟨⟨h1, _⟩, _, h3⟩ := parOk_iff.1 (parsOk_mem h4 hx)
  have := (isFName_iff.1 h1).2.1
  exact ⟨by omega, by omega⟩
/-- A kind as a value, its parameters at a. -/
def kndV (k : Knd) (a : Option Addr) (c : Nat) : Value := .agg #[.string (str k.main), .string (str k.sub), .slice a k.params.length c]
def parseKR (l : List UInt8) : Knd := (parseK l).getD knd0
end Go.Proofs.YtcdmjckkencgoaaGreatDoor
