/-
  Dates read: cuts outside of quotes and plain cuts give the same date. No statement is proved here.
-/
import Derived.Test.YtboopbjdehdhgaaGreatDoorDateT
namespace Go.Proofs.YtboopbjdehdhgaaGreatDoor

/-- What the model reads. -/
def parseU (l : List UInt8) : Option Dat := if isText l then (match cutU 44 l with
    | some (p, r) => okO (readD (nonempty (splitC 32 r))) fun D => sameN (trimS p) (wdayT D)
    | none => okO (readD (nonempty (splitC 32 l))) fun _ => true) else none
theorem okO_zero {o : Option Dat} (ok : Dat → Bool) (h : ∀ D, o = some D → ¬ OkDate D) : okO o ok = none := by
  cases o with
  | none => rfl
  | some D => exact okO_bad (h D rfl)
theorem q_num {a : List UInt8} (m n : Nat) (h : (34 : UInt8) ∈ a) : num? a m n = none := num?_none_dig (by rw [List.all_eq_false]; exact ⟨34, h, by decide⟩)
theorem q_clock {l : List UInt8} (h : (34 : UInt8) ∈ l) : clock? l = none := by
  obtain ⟨p, hp, hx⟩ := (splitC_mem (c := 58) h).resolve_left (by decide)
  unfold clock?
  split
  · rename_i a b e
    rw [e] at hp
    simp only [List.mem_cons, List.not_mem_nil, or_false] at hp
    rcases hp with rfl | rfl
    · rw [q_num 2 2 hx]
    · rw [q_num 2 2 hx]; cases num? a 2 2 <;> rfl
  · rename_i a b c e
    rw [e] at hp
    simp only [List.mem_cons, List.not_mem_nil, or_false] at hp
    rcases hp with rfl | rfl | rfl
    · rw [q_num 2 2 hx]
    · rw [q_num 2 2 hx]; cases num? a 2 2 <;> rfl
    · rw [q_num 2 2 hx]; cases num? a 2 2 <;> cases num? b 2 2 <;> rfl
  · rfl
theorem q_zone {l : List UInt8} (h : (34 : UInt8) ∈ l) : zone? l = none := by
  unfold zone?
  rw [if_neg (by rintro (rfl | rfl) <;> revert h <;> decide)]
  split
  · rename_i h5
    have : (34 : UInt8) ∈ l.drop 1 := by
      match l, h with
      | x :: m, h =>
        rcases List.mem_cons.1 h with e | e
        · subst e; rcases h5.2 with e | e <;> (rw [List.head?_cons] at e; injection e with e; exact absurd e (by decide))
        · exact e
    rw [q_num 4 4 this]
  · rfl
theorem q_low {l : List UInt8} (h : (34 : UInt8) ∈ l) : (34 : UInt8) ∈ low l := List.mem_map.2 ⟨34, h, by decide⟩
theorem mo_noq : ∀ i, i < 12 → (34 : UInt8) ∉ low (moL.getD i []) := by decide +kernel
theorem wd_noq : ∀ i, i < 7 → (34 : UInt8) ∉ low (wdL.getD i []) := by decide +kernel
theorem q_mon {l : List UInt8} (h : (34 : UInt8) ∈ l) : monR l = 0 := mon_none fun i hi => by
  cases hs : sameN l (moL.getD i [])
  · rfl
  · have := sameN_iff.1 hs
    exact absurd (this ▸ q_low h) (mo_noq i hi)
theorem q_day {l : List UInt8} (D : Dat) (h : (34 : UInt8) ∈ l) : sameN l (wdayT D) = false := by
  cases hs : sameN l (wdayT D)
  · rfl
  · have := sameN_iff.1 hs
    exact absurd (this ▸ q_low h) (wd_noq _ (by omega))
theorem q_read {ps : List (List UInt8)} {p : List UInt8} (hp : p ∈ ps) (h : (34 : UInt8) ∈ p) (ok : Dat → Bool) : okO (readD ps) ok = none := by
  refine okO_zero ok fun D hD => ?_
  unfold readD at hD
  split at hD
  · rename_i a b c d e
    simp only [List.mem_cons, List.not_mem_nil, or_false] at hp
    split at hD
    · rename_i h1 h2 h3 h4
      injection hD with hD
      rcases hp with rfl | rfl | rfl | rfl | rfl
      · rw [q_num 1 2 h] at h1; cases h1
      · intro hok
        have := hok.1.1.2.2.1
        rw [← hD] at this
        have h0 := q_mon h
        have e1 : ((monR p : Nat) : Int) = 0 := by rw [h0]; rfl
        dsimp only at this
        omega
      · rw [q_num 4 4 h] at h2; cases h2
      · rw [q_clock h] at h3; cases h3
      · rw [q_zone h] at h4; cases h4
    · cases hD
  · cases hD
theorem q_parts {l : List UInt8} (h : (34 : UInt8) ∈ l) (ok : Dat → Bool) : okO (readD (nonempty (splitC 32 l))) ok = none := by
  obtain ⟨p, hp, hx⟩ := (splitC_mem (c := 32) h).resolve_left (by decide)
  refine q_read (p := p) ?_ hx ok
  unfold nonempty
  rw [List.mem_filter]
  exact ⟨hp, by rw [bne_iff_ne]; rintro rfl; cases hx⟩
theorem trimF_keep {x : UInt8} (hx : x ≠ 32) : ∀ {l : List UInt8}, x ∈ l → x ∈ trimF l
  | y :: l, h => by
    by_cases hy : y = 32
    · subst hy
      rw [trimF_space]
      rcases List.mem_cons.1 h with e | e
      · exact absurd e hx
      · exact trimF_keep hx e
    · rw [trimF_ne l hy]; exact h
theorem trimS_keep {x : UInt8} (hx : x ≠ 32) {l : List UInt8} (h : x ∈ l) : x ∈ trimS l := by
  unfold trimS
  rw [List.mem_reverse]
  exact trimF_keep hx (by rw [List.mem_reverse]; exact trimF_keep hx h)
theorem okO_day {o : Option Dat} {ok : Dat → Bool} (h : ∀ D, ok D = false) : okO o ok = none := by
  cases o with
  | none => rfl
  | some D => exact okO_other (h D)
theorem q_cut {l p r : List UInt8} (e : l = p ++ 44 :: r) (h : (34 : UInt8) ∈ l) : okO (readD (nonempty (splitC 32 r))) (fun D => sameN (trimS p) (wdayT D)) = none := by
  subst e
  rcases List.mem_append.1 h with h | h
  · exact okO_day fun D => q_day D (trimS_keep (by decide) h)
  · rcases List.mem_cons.1 h with h | h
    · exact absurd h (by decide)
    · exact q_parts h _
theorem cutK_get (c : UInt8) : ∀ (l : List UInt8) (m k : Nat), cutK c m l = some k → l[k]? = some c
  | [], m, k, h => by rw [cutK_nil] at h; cases h
  | x :: l, 0, k, h => by
    rw [cutK] at h
    split at h
    · rename_i e; injection h with h; subst h; rw [e]; rfl
    · cases hc : cutK c (if x = 34 then 1 else 0) l with
      | none => rw [hc] at h; cases h
      | some j => rw [hc] at h; injection h with h; subst h; exact cutK_get c l _ j hc
  | x :: l, 1, k, h => by
    rw [cutK] at h
    cases hc : cutK c (if x = 34 then 0 else if x = 92 then 2 else 1) l with
    | none => rw [hc] at h; cases h
    | some j => rw [hc] at h; injection h with h; subst h; exact cutK_get c l _ j hc
  | x :: l, m + 2, k, h => by
    rw [cutK] at h
    cases hc : cutK c 1 l with
    | none => rw [hc] at h; cases h
    | some j => rw [hc] at h; injection h with h; subst h; exact cutK_get c l _ j hc
theorem cutU_form {c : UInt8} {l p r : List UInt8} (h : cutU c l = some (p, r)) : l = p ++ c :: r := by
  unfold cutU at h
  cases hk : cutK c 0 l with
  | none => rw [hk] at h; cases h
  | some k =>
    rw [hk] at h
    injection h with h
    injection h with h1 h2
    subst h1 h2
    have hg := cutK_get c l 0 k hk
    obtain ⟨hlt, he⟩ := List.getElem?_eq_some_iff.1 hg
    conv => lhs; rw [← List.take_append_drop k l, List.drop_eq_getElem_cons hlt, he]
theorem cutB_form {c : UInt8} : ∀ {l p r : List UInt8}, cutB c l = some (p, r) → l = p ++ c :: r ∧ c ∉ p := by
  intro l p r h
  unfold cutB at h
  split at h
  · rename_i hc
    injection h with h
    injection h with h1 h2
    subst h1 h2
    refine ⟨?_, fun hm => by have := List.all_takeWhile (p := (· != c)) (l := l); rw [List.all_eq_true] at this; have := this c hm; simp at this⟩
    have key : ∀ l : List UInt8, c ∈ l → l.dropWhile (· != c) = c :: (l.dropWhile (· != c)).drop 1 := by
      intro l
      induction l with
      | nil => intro h; cases h
      | cons x l ih =>
        intro h
        by_cases hx : x = c
        · subst hx; rw [List.dropWhile_cons_of_neg (by simp)]; rfl
        · rw [List.dropWhile_cons_of_pos (by simp [hx])]
          exact ih ((List.mem_cons.1 h).resolve_left (fun e => hx e.symm))
    conv => lhs; rw [← List.takeWhile_append_dropWhile (p := (· != c)) (l := l), key l hc]
  · cases h
theorem cut_same {l : List UInt8} (h : (34 : UInt8) ∉ l) : cutU 44 l = cutB 44 l := by
  cases hb : cutB 44 l with
  | none =>
    have hc : (44 : UInt8) ∉ l := fun c => by unfold cutB at hb; rw [if_pos c] at hb; cases hb
    exact cutU_none (Pass.plain fun x hx => ⟨fun e => hc (e ▸ hx), fun e => h (e ▸ hx)⟩)
  | some y =>
    obtain ⟨e, hp⟩ := cutB_form (p := y.1) (r := y.2) hb
    conv => lhs; rw [e]
    rw [cutU_hit (Pass.plain fun x hx => ⟨fun e' => hp (by rw [← e']; exact hx), fun e' => h (by rw [e]; exact List.mem_append_left _ (by rw [← e']; exact hx))⟩)]
theorem parseU_eq (l : List UInt8) : parseU l = parseD l := by
  cases ht : isText l
  · unfold parseU parseD; rw [ht]; rfl
  · have hok : ∀ x ∈ l, okB x = true := by
      unfold isText at ht
      simp only [Bool.and_eq_true, decide_eq_true_eq, List.all_eq_true] at ht
      exact ht.2
    by_cases hq : (34 : UInt8) ∈ l
    · have h1 : parseU l = none := by
        unfold parseU
        rw [if_pos ht]
        cases hu : cutU 44 l with
        | none => exact q_parts hq _
        | some y => exact q_cut (cutU_form (p := y.1) (r := y.2) hu) hq
      have h2 : parseD l = none := by
        unfold parseD
        rw [if_pos ht]
        cases hb : cutB 44 l with
        | none => dsimp only; rw [fields_split hok]; exact q_parts hq _
        | some y =>
          have e := (cutB_form (p := y.1) (r := y.2) hb).1
          dsimp only
          rw [fields_split (fun x hx => hok x (by rw [e]; simp [hx]))]
          exact q_cut e hq
      rw [h1, h2]
    · unfold parseU parseD
      rw [if_pos ht, if_pos ht, cut_same hq]
      cases hb : cutB 44 l with
      | none => dsimp only; rw [fields_split hok]
      | some y =>
        have e := (cutB_form (p := y.1) (r := y.2) hb).1
        dsimp only
        rw [fields_split (fun x hx => hok x (by rw [e]; simp [hx]))]
end Go.Proofs.YtboopbjdehdhgaaGreatDoor
