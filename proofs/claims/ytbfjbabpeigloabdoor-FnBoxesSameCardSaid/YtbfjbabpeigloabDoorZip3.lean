/-
  Several texts in one. No statement is proved here.
-/
import Derived.Test.YtbfjbabpeigloabDoorZip2
import Derived.Lib.ItoaNum
import Derived.Test.YtbfjbabpeigloabDoorDraw2
import Derived.Test.YtbfjbabpeigloabDoorZip1
import Derived.Deep.Cut
import Derived.Test.YtbfjbabpeigloabDoorBox
import Derived.Test.YtbfjbabpeigloabDoorQuietB
import Derived.Deep.QuietTactic
import Derived.BigQuiet
section
namespace Go.Proofs.YtbfjbabpeigloabDoor
open Go.RowKit

/-! Splitting line by line: k lines are read, ps are the parts that have been begun (the last one is open). -/
def goesP (b : List UInt8) (ls : List (List UInt8)) (k : Nat) (ps : List (List (List UInt8))) : Prop :=
  (ps = [] ∧ splB b ls = splB b (ls.drop k)) ∨ ∃ qs cur, ps = qs ++ [cur] ∧ splB b ls = (splG b cur (ls.drop k)).map (qs ++ ·)
theorem goesP_start (b : List UInt8) (ls : List (List UInt8)) : goesP b ls 0 [] := .inl ⟨rfl, rfl⟩
theorem goesP_beg {b : List UInt8} {ls : List (List UInt8)} {k : Nat} {ps : List (List (List UInt8))} (h : goesP b ls k ps) (hk : k < ls.length) (hb : ls[k] = begL b) : goesP b ls (k + 1) (ps ++ [[]]) := by
  have hd : ls.drop k = ls[k] :: ls.drop (k + 1) := List.drop_eq_getElem_cons hk
  refine .inr ⟨ps, [], rfl, ?_⟩
  rcases h with ⟨rfl, h⟩ | ⟨qs, cur, rfl, h⟩
  · rw [h, hd, splB, if_pos hb]
    simp
  · rw [h, hd, splG, if_pos hb, Option.map_map]
    congr 1
    funext x
    simp
theorem goesP_skip {b : List UInt8} {ls : List (List UInt8)} {k : Nat} (h : goesP b ls k []) (hk : k < ls.length) (hb : ls[k] ≠ begL b) : goesP b ls (k + 1) [] := by
  have hd : ls.drop k = ls[k] :: ls.drop (k + 1) := List.drop_eq_getElem_cons hk
  rcases h with ⟨_, h⟩ | ⟨qs, cur, hq, _⟩
  · exact .inl ⟨rfl, by rw [h, hd, splB, if_neg hb]⟩
  · simp at hq
theorem goesP_end {b : List UInt8} {ls : List (List UInt8)} {k : Nat} {ps : List (List (List UInt8))} (h : goesP b ls k ps) (hn : ps ≠ []) (hk : k < ls.length) (he : ls[k] = endL b) : splB b ls = some ps := by
  have hd : ls.drop k = ls[k] :: ls.drop (k + 1) := List.drop_eq_getElem_cons hk
  rcases h with ⟨rfl, _⟩ | ⟨qs, cur, rfl, h⟩
  · exact absurd rfl hn
  · rw [h, hd, splG, if_neg (by rw [he]; exact fun e => beg_ne_end b e.symm), if_pos he]; rfl
theorem goesP_line {b : List UInt8} {ls : List (List UInt8)} {k : Nat} {qs : List (List (List UInt8))} {cur : List (List UInt8)} (h : goesP b ls k (qs ++ [cur])) (hk : k < ls.length) (hb : ls[k] ≠ begL b) (he : ls[k] ≠ endL b) : goesP b ls (k + 1) (qs ++ [cur ++ [ls[k]]]) := by
  have hd : ls.drop k = ls[k] :: ls.drop (k + 1) := List.drop_eq_getElem_cons hk
  rcases h with ⟨h0, _⟩ | ⟨qs', cur', hq, h⟩
  · simp at h0
  · obtain ⟨rfl, hc⟩ := List.append_inj' hq rfl
    obtain rfl : cur = cur' := by simpa using hc
    exact .inr ⟨qs, _, rfl, by rw [h, hd, splG, if_neg hb, if_neg he]⟩
theorem goesP_out {b : List UInt8} {ls : List (List UInt8)} {k : Nat} {ps : List (List (List UInt8))} (h : goesP b ls k ps) (hk : ls.length ≤ k) : splB b ls = none := by
  rcases h with ⟨_, h⟩ | ⟨qs, cur, _, h⟩
  · rw [h, List.drop_eq_nil_of_le hk]; rfl
  · rw [h, List.drop_eq_nil_of_le hk]; rfl
theorem splG_app (b : List UInt8) : ∀ (ls m cur : List (List UInt8)) (ps : List (List (List UInt8))), splG b cur ls = some ps → splG b cur (ls ++ m) = some ps
  | [], m, cur, ps, h => by simp [splG] at h
  | l :: ls, m, cur, ps, h => by
    rw [splG] at h
    rw [List.cons_append, splG]
    by_cases h1 : l = begL b
    · rw [if_pos h1] at h ⊢
      obtain ⟨qs, hq, rfl⟩ := Option.map_eq_some_iff.1 h
      rw [splG_app b ls m [] qs hq]; rfl
    · rw [if_neg h1] at h ⊢
      by_cases h2 : l = endL b
      · rw [if_pos h2] at h ⊢; exact h
      · rw [if_neg h2] at h ⊢; exact splG_app b ls m _ ps h
theorem splB_app (b : List UInt8) : ∀ (ls m : List (List UInt8)) (ps : List (List (List UInt8))), splB b ls = some ps → splB b (ls ++ m) = some ps
  | [], m, ps, h => by simp [splB] at h
  | l :: ls, m, ps, h => by
    rw [splB] at h
    rw [List.cons_append, splB]
    by_cases h1 : l = begL b
    · rw [if_pos h1] at h ⊢; exact splG_app b ls m [] ps h
    · rw [if_neg h1] at h ⊢; exact splB_app b ls m ps h
/-- How many lines parts have, with one more for each of them. -/
def sumP (ps : List (List (List UInt8))) : Nat := (ps.map fun p => p.length + 1).sum
theorem sumP_nil : sumP [] = 0 := rfl
theorem sumP_cons (p : List (List UInt8)) (ps : List (List (List UInt8))) : sumP (p :: ps) = p.length + 1 + sumP ps := rfl
theorem sumP_app (ps qs : List (List (List UInt8))) : sumP (ps ++ qs) = sumP ps + sumP qs := by unfold sumP; simp
theorem sumP_len (ps : List (List (List UInt8))) : ps.length ≤ sumP ps := by
  induction ps with
  | nil => exact Nat.le_refl _
  | cons p ps ih => rw [sumP_cons, List.length_cons]; omega
theorem sumP_mem {ps : List (List (List UInt8))} {p : List (List UInt8)} (h : p ∈ ps) : p.length + 1 ≤ sumP ps := by
  induction ps with
  | nil => cases h
  | cons q ps ih =>
    rw [sumP_cons]
    rcases List.mem_cons.1 h with rfl | h
    · omega
    · have := ih h; omega
theorem sumP_take (ps : List (List (List UInt8))) (k : Nat) : sumP (ps.take k) ≤ sumP ps := by
  have := sumP_app (ps.take k) (ps.drop k)
  rw [List.take_append_drop] at this; omega
theorem sumP_succ (ps : List (List (List UInt8))) (k : Nat) (h : k < ps.length) : sumP (ps.take (k + 1)) = sumP (ps.take k) + (ps[k].length + 1) := by
  rw [List.take_succ_eq_append_getElem h, sumP_app]; rfl
theorem splG_len (b : List UInt8) : ∀ (ls cur : List (List UInt8)) (ps : List (List (List UInt8))), splG b cur ls = some ps → sumP ps ≤ ls.length + cur.length
  | [], cur, ps, h => by simp [splG] at h
  | l :: ls, cur, ps, h => by
    rw [splG] at h
    by_cases h1 : l = begL b
    · rw [if_pos h1] at h
      obtain ⟨qs, hq, rfl⟩ := Option.map_eq_some_iff.1 h
      have := splG_len b ls [] qs hq
      rw [List.length_nil] at this
      rw [sumP_cons, List.length_cons]; omega
    · rw [if_neg h1] at h
      by_cases h2 : l = endL b
      · rw [if_pos h2] at h
        injection h with h
        subst h
        rw [sumP_cons, sumP_nil, List.length_cons]; omega
      · rw [if_neg h2] at h
        have := splG_len b ls _ ps h
        rw [List.length_append, List.length_singleton] at this
        rw [List.length_cons]; omega
/-- Parts have no more lines than there are. -/
theorem splB_len (b : List UInt8) : ∀ (ls : List (List UInt8)) (ps : List (List (List UInt8))), splB b ls = some ps → sumP ps + 1 ≤ ls.length
  | [], ps, h => by simp [splB] at h
  | l :: ls, ps, h => by
    rw [splB] at h
    rw [List.length_cons]
    by_cases h1 : l = begL b
    · rw [if_pos h1] at h
      have := splG_len b ls [] ps h
      rw [List.length_nil] at this; omega
    · rw [if_neg h1] at h
      have := splB_len b ls ps h; omega
theorem splitP_some {ls : List (List UInt8)} {b : List UInt8} {ps : List (List (List UInt8))} (h : splitP ls b = some ps) : isBnd b = true ∧ splB b ls = some ps := by
  unfold splitP at h
  split at h
  · rename_i hb; exact ⟨hb, h⟩
  · cases h
theorem splitP_no {ls : List (List UInt8)} {b : List UInt8} (h : isBnd b = false) : splitP ls b = none := by unfold splitP; rw [if_neg (by simp [h])]
theorem splitP_yes {ls : List (List UInt8)} {b : List UInt8} (h : isBnd b = true) : splitP ls b = splB b ls := by unfold splitP; rw [if_pos h]
theorem splitP_line {ls : List (List UInt8)} {b : List UInt8} {ps : List (List (List UInt8))} (h : splitP ls b = some ps) {p : List (List UInt8)} (hp : p ∈ ps) {l : List UInt8} (hl : l ∈ p) : l ≠ begL b ∧ l ≠ endL b := by
  obtain ⟨hb, h⟩ := splitP_some h
  have := (splB_ok b ls ps h).2
  unfold okParts at this
  have h1 := List.all_eq_true.1 (List.all_eq_true.1 this p hp) l hl
  exact looks_f.1 (by simpa using h1)
/-- What stands before and behind does not matter. -/
theorem splitP_before {ls pre post : List (List UInt8)} {b : List UInt8} {ps : List (List (List UInt8))} (h : splitP ls b = some ps) (hp : ∀ l ∈ pre, l ≠ begL b) : splitP (pre ++ ls ++ post) b = some ps := by
  obtain ⟨hb, h⟩ := splitP_some h
  rw [splitP_yes hb, List.append_assoc, splB_skip b pre _ hp]
  exact splB_app b ls post ps h
/-! Joining line by line. -/
theorem joinsP_eq (ps : List (List (List UInt8))) (b : List UInt8) : joinsP ps b = ps.flatMap (begL b :: ·) ++ [endL b] := rfl
def partsL (b : List UInt8) (ps : List (List (List UInt8))) : List (List UInt8) := ps.flatMap (begL b :: ·)
theorem partsL_nil (b : List UInt8) : partsL b [] = [] := rfl
theorem partsL_snoc (b : List UInt8) (ps : List (List (List UInt8))) (p : List (List UInt8)) : partsL b (ps ++ [p]) = partsL b ps ++ begL b :: p := by unfold partsL; simp
theorem partsL_succ (b : List UInt8) (ps : List (List (List UInt8))) (k : Nat) (h : k < ps.length) : partsL b (ps.take (k + 1)) = (partsL b (ps.take k) ++ [begL b]) ++ ps[k] := by
  rw [List.take_succ_eq_append_getElem h, partsL_snoc]; simp
theorem partsL_len (b : List UInt8) (ps : List (List (List UInt8))) : (partsL b ps).length = sumP ps := by
  unfold partsL sumP; rw [List.length_flatMap]; simp
theorem joinsP_sum (ps : List (List (List UInt8))) (b : List UInt8) : (joinsP ps b).length = sumP ps + 1 := joinsP_len ps b
def freeB (b : List UInt8) (ls : List (List UInt8)) : Bool := ls.all fun l => !looksB b l
theorem freeB_f {b : List UInt8} {ls : List (List UInt8)} {k : Nat} (hk : k < ls.length) (h : looksB b ls[k] = true) : freeB b ls = false := by
  unfold freeB; rw [List.all_eq_false]; exact ⟨_, List.getElem_mem hk, by simp [h]⟩
theorem freeB_t {b : List UInt8} {ls : List (List UInt8)} (h : ∀ k, (hk : k < ls.length) → looksB b ls[k] = false) : freeB b ls = true := by
  unfold freeB; rw [List.all_eq_true]; intro x hx
  obtain ⟨j, hj, rfl⟩ := List.getElem_of_mem hx
  simp [h j hj]
theorem freeB_mem {b : List UInt8} {ls : List (List UInt8)} (h : freeB b ls = true) : ∀ l ∈ ls, looksB b l = false := fun l hl => by
  have := List.all_eq_true.1 h l hl; simpa using this
theorem freeB_any (b : List UInt8) (ls : List (List UInt8)) : freeB b ls = !(ls.contains (begL b) || ls.contains (endL b)) := by
  rw [Bool.eq_iff_iff]
  unfold freeB
  rw [List.all_eq_true, Bool.not_eq_true', Bool.or_eq_false_iff]
  constructor
  · intro h
    refine ⟨?_, ?_⟩
    · rw [← Bool.not_eq_true, List.contains_iff_mem]; intro hm
      have := h _ hm; simp [looksB] at this
    · rw [← Bool.not_eq_true, List.contains_iff_mem]; intro hm
      have := h _ hm; simp [looksB] at this
  · rintro ⟨h1, h2⟩ l hl
    rw [← Bool.not_eq_true, List.contains_iff_mem] at h1 h2
    simp only [Bool.not_eq_true']
    exact looks_f.2 ⟨fun e => h1 (e ▸ hl), fun e => h2 (e ▸ hl)⟩
theorem okParts_bad {ps : List (List (List UInt8))} {b : List UInt8} {k : Nat} (hk : k < ps.length) (h : freeB b ps[k] = false) : okParts ps b = false := by
  unfold okParts; rw [List.all_eq_false]; exact ⟨_, List.getElem_mem hk, by unfold freeB at h; simp [h]⟩
theorem okParts_good {ps : List (List (List UInt8))} {b : List UInt8} (h : ∀ k, (hk : k < ps.length) → freeB b ps[k] = true) : okParts ps b = true := by
  unfold okParts; rw [List.all_eq_true]; intro x hx
  obtain ⟨j, hj, rfl⟩ := List.getElem_of_mem hx
  exact h j hj
theorem joinP_bad {ps : List (List (List UInt8))} {b : List UInt8} (h : okParts ps b = false) : joinP ps b = none := by unfold joinP; rw [if_neg (fun c => by rw [h] at c; cases c.2.2)]
theorem joinP_no {ps : List (List (List UInt8))} {b : List UInt8} (h : isBnd b = false) : joinP ps b = none := by unfold joinP; rw [if_neg (fun c => by rw [h] at c; cases c.1)]
theorem joinP_nil (b : List UInt8) : joinP [] b = none := by unfold joinP; rw [if_neg (fun c => c.2.1 rfl)]
theorem joinP_yes {ps : List (List (List UInt8))} {b : List UInt8} (h : isBnd b = true) (hn : ps ≠ []) (h2 : okParts ps b = true) : joinP ps b = some (joinsP ps b) := by unfold joinP; rw [if_pos ⟨h, hn, h2⟩]
/-! Fresh boundaries. -/
def bName (n : Nat) : List UInt8 := 98 :: Lib.decDigits n
def freshB (ls : List (List UInt8)) : Option (List UInt8) := ((List.range 100).find? fun n => freeB (bName n) ls).map bName
theorem freshB_at {ls : List (List UInt8)} {k : Nat} (hk : k < 100) (h : freeB (bName k) ls = true) (h2 : ∀ j, j < k → freeB (bName j) ls = false) : freshB ls = some (bName k) := by
  unfold freshB
  have : (List.range 100).find? (fun n => freeB (bName n) ls) = some k := by
    rw [List.find?_range_eq_some]
    exact ⟨h, List.mem_range.2 hk, fun j hj => by simp [h2 j hj]⟩
  rw [this]; rfl
theorem freshB_none {ls : List (List UInt8)} (h : ∀ j, j < 100 → freeB (bName j) ls = false) : freshB ls = none := by
  unfold freshB
  have : (List.range 100).find? (fun n => freeB (bName n) ls) = none := by
    rw [List.find?_eq_none]
    intro x hx
    simp [h x (List.mem_range.1 hx)]
  rw [this]; rfl
theorem freshB_some {ls : List (List UInt8)} {b : List UInt8} (h : freshB ls = some b) : ∃ k, k < 100 ∧ b = bName k ∧ freeB b ls = true ∧ ∀ j, j < k → freeB (bName j) ls = false := by
  unfold freshB at h
  obtain ⟨k, hk, rfl⟩ := Option.map_eq_some_iff.1 h
  rw [List.find?_range_eq_some] at hk
  obtain ⟨h1, h2, h3⟩ := hk
  exact ⟨k, List.mem_range.1 h2, rfl, h1, fun j hj => by have := h3 j hj; simpa using this⟩
def digN (n : Nat) : UInt8 := UInt8.ofNat (48 + n)
theorem digN_alnum : ∀ n, n < 10 → alnumB (digN n) = true := by decide +kernel
theorem decN_one {n : Nat} (h : n < 10) : Lib.decDigits n = [digN n] := Lib.decDigits_one h
theorem decN_two {n : Nat} (h : ¬ n < 10) (h1 : n < 100) : Lib.decDigits n = [digN (n / 10), digN (n % 10)] := Lib.decDigits_two h h1
theorem bName_bnd {n : Nat} (h : n < 100) : isBnd (bName n) = true := by
  unfold bName
  by_cases h1 : n < 10
  · rw [decN_one h1]; unfold isBnd
    simp only [List.all_cons, List.all_nil, digN_alnum n h1, List.length_cons, List.length_nil]; rfl
  · rw [decN_two h1 h]; unfold isBnd
    simp only [List.all_cons, List.all_nil, digN_alnum (n / 10) (by omega), digN_alnum (n % 10) (by omega), List.length_cons, List.length_nil]; rfl
theorem bName_len {n : Nat} (h : n < 100) : (bName n).length = (if n < 10 then 2 else 3) := by
  unfold bName
  split
  · rename_i h1; rw [decN_one h1]; rfl
  · rename_i h1; rw [decN_two h1 h]; rfl
/-- With a fresh boundary all lines can be a part, twice. -/
theorem fresh_join {ls : List (List UInt8)} {b : List UInt8} (h : freshB ls = some b) : joinP [ls, ls] b = some (joinsP [ls, ls] b) ∧ splitP (joinsP [ls, ls] b) b = some [ls, ls] := by
  obtain ⟨k, hk, rfl, h1, _⟩ := freshB_some h
  have hj : joinP [ls, ls] (bName k) = some (joinsP [ls, ls] (bName k)) := joinP_yes (bName_bnd hk) (by simp) (okParts_good fun i hi => by
    match i, hi with
    | 0, _ => exact h1
    | 1, _ => exact h1)
  exact ⟨hj, split_joinP hj⟩
end Go.Proofs.YtbfjbabpeigloabDoor
end

section
namespace Go.Proofs.YtbfjbabpeigloabDoor
open Go.RowKit

/-- A short line that is no mark of the boundary 'b3'. -/
def lineOk (x : List UInt8) : Bool := decide (x.length ≤ 10) && !looksB [98, 51] x
def shortB (x : List UInt8) : Bool := decide (x.length ≤ 10)
theorem lineOk_len {x : List UInt8} (h : lineOk x = true) : x.length ≤ 10 := by unfold lineOk at h; simp at h; exact h.1
theorem lineOk_b3 {x : List UInt8} (h : lineOk x = true) : looksB [98, 51] x = false := by unfold lineOk at h; simp at h; exact h.2
def litQ (C : Array Value) (n : Nat) (Q : List UInt8 → Bool) : Bool := (List.range n).all fun i => match C[i]? with | some (.string s) => Q s.data.toList | _ => false
def DrawnQ (R p : Nat) (Q : List UInt8 → Bool) (w : World) (e : Ending) (w' : World) : Prop := ∃ s : ByteArray, e = .returned (.string s) ∧ Q s.data.toList = true ∧ Rd w' R (p + 1) ∧ Touch R w w'
set_option maxRecDepth 100000 in
set_option maxHeartbeats 400000 in
theorem of_litQ (R p n : Nat) (Q : List UInt8 → Bool) (C : Array Value) (t : TypeId) (w : World) (hr : Rd w R p) (hp : p ≤ 1000000000) (hn : 0 < n) (hn2 : n ≤ 1000000) (h : litQ C n Q = true) :
    Calls Tryd.prog 32 #[.pointer (some ⟨R, 0, none⟩), .slice (some ⟨w.heap.size, 0, none⟩) n n] (w.alloc (.cells C t)) (DrawnQ R p Q w) := by
  have hb : Below w.heap.size w (w.alloc (.cells C t)) := (Below.refl _ _).alloc (Nat.le_refl _) _
  have hRl := hr.lt
  have hall : ∀ k, k < n → ∃ s : ByteArray, (w.alloc (.cells C t)).cell? ⟨w.heap.size, k, none⟩ = some (.string s) ∧ Q s.data.toList = true := by
    intro k hk
    have h2 := List.all_eq_true.1 h k (List.mem_range.2 hk)
    rw [World.cell?_alloc_at C t _ _ rfl]
    split at h2
    · rename_i s hs; exact ⟨s, hs, h2⟩
    · cases h2
  have HALL := Lib.hid hall
  clear h hall
  go_enter Tryd.func32, Tryd.ntmps32
  go_wp2_with fail
  refine (pick_any R p n _ (hr.below hb) hp (by omega)).mono ?_
  rintro e w1 ⟨k, rfl, hk, hr1, ht1⟩
  have hk' : k < n := by omega
  obtain ⟨s, h1, h2⟩ := HALL.out k hk'
  rw [← ht1.cell (by simp) (by omega)] at h1
  have hT := (Touch.of_below (R := R) hb).trans ht1
  clear hk
  go_wp2
  go_ret
  exact ⟨s, rfl, h2, hr1, hT⟩
theorem numS_lit (R p n g : Nat) (xs : List Int) (t : TypeId) (w : World) (hg : w.heap.size = g) (hr : Rd w R p) (hp : p ≤ 1000000000) (hn : xs.length = n) (h0 : 0 < n) (h1 : n ≤ 1000000) :
    Calls Tryd.prog 57 #[.pointer (some ⟨R, 0, none⟩), .slice (some ⟨g, 0, none⟩) n n] (w.alloc (.cells (xs.map (Value.int .i64)).toArray t)) fun e w' => ∃ x, x ∈ xs ∧ e = .returned (.int .i64 x) ∧ Rd w' R (p + 1) ∧ Touch R w w' := by
  subst hg
  have hb : Below w.heap.size w (w.alloc (.cells (xs.map (Value.int .i64)).toArray t)) := (Below.refl _ _).alloc (Nat.le_refl _) _
  refine (num_any R p w.heap.size 0 n n xs _ (hr.below hb) hp (by have := hr.lt; omega) (by simp) h0 h1 hn (fun i hi => ?_)).mono ?_
  · rw [World.cell?_alloc_at _ _ _ _ rfl]; simp [hi]
  · rintro e w' ⟨x, h1, h2, h3, h4⟩
    exact ⟨x, h1, h2, h3, (Touch.of_below hb).trans h4⟩
theorem cell_new1 (w : World) (x : Value) (t : TypeId) : (w.alloc (.cells #[x] t)).cell? ⟨w.heap.size, 0, none⟩ = some x := by rw [World.cell?_alloc_at _ _ _ _ rfl]; rfl
theorem own_lits (w : World) (xs : List (List UInt8)) (C : Array Value) (hC : C.toList = xs.map strV) (hl : xs.length ≤ 1000) : OwnL w.heap.size (.slice (some ⟨w.heap.size, 0, none⟩) xs.length xs.length) xs (w.alloc (.cells C 9)) := by
  have hs : C.size = xs.length * 1 := by rw [← Array.length_toList, hC]; simp
  have := World.ownsRow_lit (base := w.heap.size) (e := 9) (size := 1) w C xs.length (Nat.le_refl _) (by unfold maxLen; omega) hs
  rw [hC] at this
  exact this
end Go.Proofs.YtbfjbabpeigloabDoor
end

section
namespace Go.Proofs.YtbfjbabpeigloabDoor
open Go.RowKit

def short9 (x : List UInt8) : Bool := decide (x.length ≤ 9)
/-- Few boxes, each with few mails, all small. -/
def BOk (N K : Nat) (bs : List Bx) : Prop := bs.length ≤ N ∧ ∀ b ∈ bs, b.mails.length ≤ K ∧ SmallBx 200 b
theorem BOk.up {N K N' K' : Nat} {bs : List Bx} (h : BOk N K bs) (h1 : N ≤ N') (h2 : K ≤ K') : BOk N' K' bs := ⟨Nat.le_trans h.1 h1, fun b hb => ⟨Nat.le_trans (h.2 b hb).1 h2, (h.2 b hb).2⟩⟩
theorem bok_nil (N K : Nat) : BOk N K [] := ⟨Nat.zero_le _, fun b hb => by cases hb⟩
theorem isBxs_bok {bs : List Bx} (h : isBxs bs = true) : BOk 8 4 bs := ⟨(isBxs_upBx h).2.1, (isBxs_ok h).2⟩
theorem addO_bok (p : List UInt8) (bs : List Bx) : BOk 8 4 (addO p bs) := by
  cases h : addOk p bs with
  | false => rw [addO_no h]; exact bok_nil _ _
  | true =>
    rw [addO_yes h]
    unfold addOk at h
    simp only [Bool.and_eq_true, decide_eq_true_eq] at h
    have hb := isBxs_bok h.1
    have hl := cntP_le p (bs.map (·.path))
    rw [List.length_map] at hl
    refine ⟨?_, fun b hb' => ?_⟩
    · have h8 := h.2.2.2
      have := hb.1
      unfold addB
      rw [List.length_append, List.length_cons, List.length_take, List.length_drop]; omega
    · unfold addB at hb'
      rcases List.mem_append.1 hb' with hb' | hb'
      · exact hb.2 b (List.mem_of_mem_take hb')
      · rcases List.mem_cons.1 hb' with rfl | hb'
        · refine ⟨Nat.zero_le _, ?_, Nat.zero_le _, fun m hm => by cases hm⟩
          have := isSend_len (l := p) (by unfold isSend; rw [h.2.1]; simp)
          show p.length ≤ 200
          omega
        · exact hb.2 b (List.mem_of_mem_drop hb')
theorem dlvB_bok (m : Ml) (bs : List Bx) : BOk 8 4 (dlvB m bs) := by
  unfold dlvB
  split
  · rename_i hok
    unfold dlvOk at hok
    rw [Bool.and_eq_true] at hok
    have h200 := smallM_draft (isMail_iff.1 hok.2).1
    have h := (dlv_ok (isBxs_ok hok.1) (by omega) h200 h200.2.2.1 _ (Nat.le_refl _)).1
    rw [List.take_length] at h
    exact ⟨by rw [h.1]; exact (isBxs_bok hok.1).1, h.2⟩
  · exact bok_nil _ _
theorem Turn.of_touch {R : Nat} {w w' : World} (h : Touch R w w') : Turn (fun g => g = R) w w' := ⟨h.os, h.tape, h.output, h.size, fun k hk hr => h.block k hk hr⟩
theorem OwnBs.touch {R B : Nat} {v : Value} {xs : List BxA} {w w' : World} (h : OwnBs B v xs w) (t : Touch R w w') (hR : R < B) : OwnBs B v xs w' := h.turned (Turn.of_touch t) (fun g hg e => by have := (h.lt hg).1; omega)
theorem OwnBs.empty (w : World) : OwnBs w.heap.size (.slice (some ⟨w.heap.size, 0, none⟩) 0 0) [] (w.alloc (.cells #[] 35)) := ⟨OwnR.empty _ _ _ w, (fun x hx => by cases hx), List.Pairwise.nil⟩
/-- Boxes of the call's own, drawn. -/
def DrawnB (R p c N K : Nat) (w : World) (e : Ending) (w' : World) : Prop := ∃ (v : Value) (ys : List BxA) (p' : Nat), e = .returned v ∧ OwnBs w.heap.size v ys w' ∧ BOk N K (ys.map BxA.b) ∧ p ≤ p' ∧ p' ≤ p + c ∧ Rd w' R p' ∧ Touch R w w'
theorem OwnBs.rdB {B N K : Nat} {v : Value} {xs : List BxA} {w : World} (h : OwnBs B v xs w) (hb : BOk N K (xs.map BxA.b)) : ∃ a c, v = .slice a xs.length c ∧ RdBs 200 w a xs := by
  obtain ⟨a, c, hv, _⟩ := h.1.read bxC_len
  subst hv
  exact ⟨a, c, rfl, (h.rd (fun x hx => (hb.2 x.b (List.mem_map_of_mem hx)).2)).1⟩
set_option maxRecDepth 100000 in
set_option maxHeartbeats 8000000 in
theorem l11Draw_any (R p : Nat) (w : World) (hr : Rd w R p) (hp : p ≤ 999990000) : Calls Tryd.prog 31 #[.pointer (some ⟨R, 0, none⟩)] w (DrawnB R p 50 8 4 w) := by
  have hRl := hr.lt
  have hA1 : Below w.heap.size w (w.alloc (.cells #[] 35)) := (Below.refl _ _).alloc (Nat.le_refl _) _
  go_enter Tryd.func31, Tryd.ntmps31
  go_wp2_with fail
  refine (numS_lit R p 4 (w.heap.size + 1) [2, 3, 1, 0] 3 _ (by simp) (hr.below hA1) (by omega) rfl (by omega) (by omega)).mono ?_
  rintro e w1 ⟨m0, hm0, rfl, hr1, ht1⟩
  have hm : 0 ≤ m0 ∧ m0 ≤ 3 := by
    simp only [List.mem_cons, List.not_mem_nil, or_false] at hm0; omega
  have hT1 : Touch R w w1 := (Touch.of_below hA1).trans ht1
  have hO1 : OwnBs w.heap.size (.slice (some ⟨w.heap.size, 0, none⟩) 0 0) [] w1 := (OwnBs.empty w).touch ht1 hRl
  clear hm0
  go_wp2_with fail
  go_loopw [3, 4] (fun v i wr => ∃ (m : Int) (ys : List BxA) (p' : Nat), 0 ≤ m ∧ m ≤ 3 ∧ i = .int .i64 m ∧ p ≤ p' ∧ p' + m ≤ p + 4 ∧ OwnBs w.heap.size v ys wr ∧ BOk 8 4 (ys.map BxA.b) ∧ Rd wr R p' ∧ Touch R w wr) (fun _ i _ => (intOf i).toNat)
  case atStart => exact ⟨m0, [], p + 1, hm.1, hm.2, rfl, by omega, by omega, hO1, bok_nil _ _, hr1, hT1⟩
  case round =>
    obtain ⟨m, ys, p', hm0, hm3, rfl, hp1, hp2, hown, hbok, hrd, ht⟩ := hrel
    have HO := Lib.hid hown
    have HB := Lib.hid hbok
    have hts := ht.size
    clear hown hbok
    obtain ⟨a3, c3, rfl, _⟩ := HO.out.rdB HB.out
    by_cases hmp : 0 < m
    · go_wp2_with fail
      refine (of_litQ R p' 4 short9 _ _ wr hrd (by omega) (by omega) (by omega) (by decide +kernel)).mono ?_
      rintro e w2 ⟨s2, rfl, g2, hr2, ht2⟩
      have G2 : Hid (s2.data.toList.length ≤ 9) := by show _ ≤ _; unfold short9 at g2; simpa using g2
      have hT2 := ht.trans ht2
      have hsz := hT2.size
      have HO2 := Lib.hid (HO.out.touch ht2 hRl)
      have hAD : Hid (Calls Tryd.prog 18 #[.slice a3 ys.length c3, .string s2] w2 (AddRet (addO s2.data.toList (ys.map BxA.b)) (addOk s2.data.toList (ys.map BxA.b)) w2)) := by
        obtain ⟨a, c, e, h⟩ := HO2.out.rdB HB.out
        injection e with e1 _ e3
        have := addBoxS_any 200 a3 ys.length c3 ys s2.data.toList w2 rfl (e1 ▸ h) (by omega) (by have := HB.out.1; rw [List.length_map] at this; omega) (by have := G2.out; omega)
        rw [str_of] at this
        exact this
      have HAO := Lib.hid (addO_bok s2.data.toList (ys.map BxA.b))
      generalize addO s2.data.toList (ys.map BxA.b) = AO at *
      generalize addOk s2.data.toList (ys.map BxA.b) = ok at *
      clear g2
      go_wp2_with fail
      refine hAD.out.mono ?_
      rintro e w3 ⟨v3, zs, rfl, hzs, hoz, hb3⟩
      have hb3' := hb3.mono hsz
      have hT3 := hT2.ext hb3'
      have HO3 := Lib.hid (HO2.out.keep hb3)
      have HOZ := Lib.hid (hoz.base hsz)
      have HBZ : Hid (BOk 8 4 (zs.map BxA.b)) := by show BOk _ _ _; rw [hzs]; exact HAO.out
      have hr3 := hr2.belowB hb3' hRl
      clear hzs hoz hb3 hAD
      cases ok
      · go_wp2
        go_roundw
        case rel => exact ⟨m - 1, ys, p' + 1, by omega, by omega, rfl, by omega, by omega, HO3.out, HB.out, hr3, hT3⟩
        case measure => simp [intOf]; omega
      · go_wp2
        go_roundw
        case rel => exact ⟨m - 1, zs, p' + 1, by omega, by omega, rfl, by omega, by omega, HOZ.out, HBZ.out, hr3, hT3⟩
        case measure => simp [intOf]; omega
    · have hp3 : p' ≤ p + 4 := by omega
      clear hm0
      go_wp2_with fail
      refine (numS_lit R p' 4 wr.heap.size [1, 2, 0, 5] 3 _ rfl hrd (by omega) rfl (by omega) (by omega)).mono ?_
      rintro e w5 ⟨m1, hm1, rfl, hr5, ht5⟩
      have hm1' : 0 ≤ m1 ∧ m1 ≤ 5 := by
        simp only [List.mem_cons, List.not_mem_nil, or_false] at hm1; omega
      have hT5 := ht.trans ht5
      have hO5 := HO.out.touch ht5 hRl
      clear hm1
      go_wp2_with fail
      go_loopw [3, 7] (fun v i wz => ∃ (j : Int) (zs : List BxA) (q : Nat), 0 ≤ j ∧ j ≤ 5 ∧ i = .int .i64 j ∧ p ≤ q ∧ q + 9 * j ≤ p + 50 ∧ OwnBs w.heap.size v zs wz ∧ BOk 8 4 (zs.map BxA.b) ∧ Rd wz R q ∧ Touch R w wz) (fun _ i _ => (intOf i).toNat)
      case atStart => exact ⟨m1, ys, p' + 1, hm1'.1, hm1'.2, rfl, by omega, by omega, hO5, HB.out, hr5, hT5⟩
      case round =>
        obtain ⟨j, zs, q, hj0, hj5, rfl, hq1, hq2, hown, hbok, hrd2, ht2⟩ := hrel
        have HOJ := Lib.hid hown
        have HBJ := Lib.hid hbok
        have hts2 := ht2.size
        clear hown hbok
        obtain ⟨a6, c6, rfl, _⟩ := HOJ.out.rdB HBJ.out
        by_cases hjp : 0 < j
        · go_wp2_with fail
          refine (l10DrawMail_any R q wr hrd2 (by omega)).mono ?_
          rintro e w7 ⟨x, q', rfl, hox, hsx, hq3, hq4, hr7, ht7⟩
          have hmV : mlV x = .agg #[.string (str x.m.frm), .slice x.a1 x.m.to.length x.c1, .slice x.a2 x.m.lines.length x.c2] := rfl
          rw [hmV]
          have hT7 := ht2.trans ht7
          have hsz7 := hT7.size
          have HO7 := Lib.hid (HOJ.out.touch ht7 hRl)
          have hDL : Hid (Calls Tryd.prog 21 #[.slice a6 zs.length c6, .agg #[.string (str x.m.frm), .slice x.a1 x.m.to.length x.c1, .slice x.a2 x.m.lines.length x.c2]] w7 (DlvRet (dlvB x.m (zs.map BxA.b)) (dlvC x.m (zs.map BxA.b)) (dlvOk x.m (zs.map BxA.b)) w7)) := by
            obtain ⟨a, c, e, h⟩ := HO7.out.rdB HBJ.out
            injection e with e1 _ e3
            exact deliverS_any 200 a6 zs.length c6 zs x w7 rfl (e1 ▸ h) (by omega) (by have := HBJ.out.1; rw [List.length_map] at this; omega) (hox.rd (hsx.up (by omega)))
          have HDO := Lib.hid (dlvB_bok x.m (zs.map BxA.b))
          clear hmV hox hsx
          generalize dlvB x.m (zs.map BxA.b) = DB at *
          generalize dlvC x.m (zs.map BxA.b) = DC at *
          generalize dlvOk x.m (zs.map BxA.b) = ok at *
          go_wp2_with fail
          refine hDL.out.mono ?_
          rintro e w8 ⟨v8, us, v9, rfl, hus, hou, _, hb8⟩
          have hb8' := hb8.mono hsz7
          have hT8 := hT7.ext hb8'
          have HOU := Lib.hid (hou.base hsz7)
          have HBU : Hid (BOk 8 4 (us.map BxA.b)) := by show BOk _ _ _; rw [hus]; exact HDO.out
          have hr8 := hr7.belowB hb8' hRl
          clear hus hou hb8 hDL
          go_wp2
          go_roundw
          case rel => exact ⟨j - 1, us, q', by omega, by omega, rfl, by omega, by omega, HOU.out, HBU.out, hr8, hT8⟩
          case measure => simp [intOf]; omega
        · go_wp2
          go_ret
          exact ⟨_, zs, q, rfl, HOJ.out, HBJ.out, hq1, by omega, hrd2, ht2⟩
set_option maxRecDepth 100000 in
set_option maxHeartbeats 400000 in
/-- One mail behind a row of the call's own; what turns is told. -/
theorem wpList_append_MG {ops : Array Oper} {rest : List Oper} {o : Oper} {Q : Exit → Act → World → Prop} {a : Act} {w : World} (hg : Region.wanted o (yielded ops a.tmps) = true) (s x : Operand)
    (ho : o.op = .call { callee := .builtin .append, args := #[s, x], argTypes := #[33, 33] })
    (B : Nat) (v : Value) (xs : List MlA) (y : MlA) (b : Nat) (hs : a.eval s = v) (hx : a.eval x = .slice (some ⟨b, 0, none⟩) 1 1) (hown : OwnMs B v xs w) (hy : OwnM B w y) (hc : MK3 w b (.string (str y.m.frm)) (.slice y.a1 y.m.to.length y.c1) (.slice y.a2 y.m.lines.length y.c2)) (hB : B ≤ w.heap.size) (hl : xs.length ≤ 1000000) (hap : ∀ x ∈ xs, ApM x y)
    (h : ∀ v' w', OwnMs B v' (xs ++ [y]) w' → Only v.ownBlock w w' → (v'.ownBlock = v.ownBlock ∨ v'.ownBlock = some w.heap.size) → wpList Tryd.prog ops Q rest (a.put o.dst v') w') : wpList Tryd.prog ops Q (o :: rest) a w := by
  obtain ⟨i0, hi, hz0, hz1, hz2⟩ := info_parts mlInfoC
  refine wpList_unguardL hg ?_
  have hown1 := hown.1
  unfold OwnR at hown1
  refine wpList_append_own_at w rfl s x 33 ho B 28 i0 (.agg #[.string ⟨#[]⟩, .slice none 0 0, .slice none 0 0]) 3 64 Tryd.underlying33 hi hz0 hz1 hz2 rfl (by decide) v xs.length (xs.flatMap mlC) hs hown1 ⟨b, 0, none⟩ 1 1 (mlC y) hx (mlC_len y) ?_ ?_ ?_ ?_ hB ?_
  · intro j z hj
    rw [addr_add]
    match j, hj with
    | 0, hj => injection hj with hj; subst hj; exact hc.1
    | 1, hj => injection hj with hj; subst hj; exact hc.2.1
    | 2, hj => injection hj with hj; subst hj; exact hc.2.2
    | j + 3, hj => cases hj
  · exact mlC_one y
  · unfold maxLen; omega
  · omega
  · intro v' w' ho' hgr _ hat
    have key : ∀ z : MlA, OwnM B w z → OwnM B w' z := fun z hz => hz.grown hgr (fun g hq => strs_mails hown.1 hz.1 g hq) (fun g hq => strs_mails hown.1 hz.2.1 g hq)
    refine h v' w' ⟨OwnR.snoc ho', fun z hz => ?_, List.pairwise_append.2 ⟨hown.2.2, List.pairwise_singleton _ _, fun z hz u hu => by rw [List.mem_singleton.1 hu]; exact hap z hz⟩⟩ (Only.of_grown hgr) hat
    rcases List.mem_append.1 hz with hz | hz
    · exact key z (hown.2.1 z hz)
    · rw [List.mem_singleton.1 hz]; exact key y hy
def mx1 : MlA := ⟨⟨[120], [], []⟩, none, 0, none, 0⟩
set_option maxRecDepth 100000 in
set_option maxHeartbeats 8000000 in
theorem l11Wrong_any (R p N K : Nat) (v : Value) (xs : List BxA) (B : Nat) (w : World) (hr : Rd w R p) (hp : p ≤ 999990000) (ho : OwnBs B v xs w) (hb : BOk N K (xs.map BxA.b)) (hN : N ≤ 1000) (hK : K ≤ 100) : Calls Tryd.prog 30 #[.pointer (some ⟨R, 0, none⟩), v] w (DrawnB R p 2 (N + 1) (K + 1) w) := by
  have hRl := hr.lt
  obtain ⟨a0, c0, rfl, hrd0⟩ := ho.rdB hb
  have hxl : xs.length ≤ N := by have := hb.1; rw [List.length_map] at this; exact this
  have HC := Lib.hid (l11Copy_any a0 xs.length c0 xs w rfl (hrd0.up (fun x hx => ((hb.2 x.b (List.mem_map_of_mem hx)).2).up (by omega))) (by omega))
  have HBX := Lib.hid hb
  clear ho hb hrd0
  go_enter Tryd.func30, Tryd.ntmps30
  go_wp2_with fail
  refine HC.out.mono ?_
  rintro e w1 ⟨v1, ys, rfl, hys, ho1, hb1⟩
  have HO1 := Lib.hid ho1
  have HB1 : Hid (BOk N K (ys.map BxA.b)) := by show BOk _ _ _; rw [hys]; exact HBX.out
  have hyl : ys.length ≤ N := by have := HB1.out.1; rw [List.length_map] at this; exact this
  have hr1 := hr.below hb1
  have hT1 : Touch R w w1 := Touch.of_below hb1
  have hs1 := hb1.size
  clear ho1 hys hb1 HC HBX
  go_wp2_with fail
  refine (pick_any R p 20 w1 hr1 (by omega) (by omega)).mono ?_
  rintro e w2 ⟨kk, rfl, hk, hr2, ht2⟩
  have HO2 := Lib.hid (HO1.out.touch ht2 hRl)
  have hT2 := hT1.trans ht2
  have hs2 := hT2.size
  clear HO1 hr1 hT1 ht2
  by_cases k0 : kk = 0
  · have e0 : ((kk : Int) == 0) = true := by rw [k0]; rfl
    clear k0 hk
    go_wp2_with fail
    refine (of_litQ R (p + 1) 3 short9 _ _ w2 hr2 (by omega) (by omega) (by omega) (by decide +kernel)).mono ?_
    rintro e w3 ⟨s3, rfl, g3, hr3, ht3⟩
    have G3 : Hid (s3.data.toList.length ≤ 9) := by show _ ≤ _; unfold short9 at g3; simpa using g3
    have hT3 := hT2.trans ht3
    have hs3 := hT3.size
    have hA3 : Below w3.heap.size w3 (w3.alloc (.cells #[.string s3, .slice none 0 0] 35)) := (Below.refl _ _).alloc (Nat.le_refl _) _
    have HO3 := Lib.hid ((HO2.out.touch ht3 hRl).keep hA3)
    have HK3 := MK2.new w3 (.string s3) (.slice none 0 0) 35
    have hstr : str s3.data.toList = s3 := str_of s3
    have HKS : Hid (MK2 (w3.alloc (.cells #[.string s3, .slice none 0 0] 35)) w3.heap.size (.string (str (⟨s3.data.toList, [], none, 0⟩ : BxA).path)) (.slice (⟨s3.data.toList, [], none, 0⟩ : BxA).a (⟨s3.data.toList, [], none, 0⟩ : BxA).xs.length (⟨s3.data.toList, [], none, 0⟩ : BxA).c)) := by
      show MK2 _ _ (.string (str s3.data.toList)) (.slice none 0 0)
      rw [hstr]; exact HK3
    have hle : w.heap.size ≤ (w3.alloc (.cells #[.string s3, .slice none 0 0] 35)).heap.size := Nat.le_trans hs3 hA3.size
    have hyl6 : ys.length ≤ 1000000 := by omega
    have HN0 : Hid (OwnMs w.heap.size (.slice (⟨s3.data.toList, [], none, 0⟩ : BxA).a (⟨s3.data.toList, [], none, 0⟩ : BxA).xs.length (⟨s3.data.toList, [], none, 0⟩ : BxA).c) (⟨s3.data.toList, [], none, 0⟩ : BxA).xs (w3.alloc (.cells #[.string s3, .slice none 0 0] 35))) := OwnMs.nil _ _
    have HNA : Hid (∀ x ∈ ys, ApB x (⟨s3.data.toList, [], none, 0⟩ : BxA)) := fun x hx => ⟨fun g _ h' => (by cases h'), fun m _ m' hm' => (by cases hm')⟩
    have hr3A := hr3.below hA3
    have hTA := hT3.ext (hA3.mono hs3)
    clear g3 HK3 hstr hA3
    go_wp2_with (at_builtin; refine wpList_append_BL rfl _ _ rfl w.heap.size _ ys ⟨s3.data.toList, [], none, 0⟩ w3.heap.size rfl rfl HO3.out HN0.out HKS.out hle hyl6 HNA.out ?_)
    intro v4 w4 ho4 hb4
    have HE : Hid (DrawnB R p 2 (N + 1) (K + 1) w (.returned v4) w4) := ⟨v4, _, p + 2, rfl, ho4, ⟨by rw [List.length_map, List.length_append]; show ys.length + 1 ≤ _; omega, fun b hb => by
      rw [List.map_append] at hb
      rcases List.mem_append.1 hb with hb | hb
      · exact ⟨Nat.le_succ_of_le (HB1.out.2 b hb).1, (HB1.out.2 b hb).2⟩
      · rw [List.mem_singleton.1 hb]
        exact ⟨Nat.zero_le _, by show s3.data.toList.length ≤ 200; have := G3.out; omega, Nat.zero_le _, fun m hm => by cases hm⟩⟩, by omega, by omega, hr3A.belowB hb4 hRl, hTA.ext hb4⟩
    clear ho4
    go_wp2
    go_ret
    exact HE.out
  · have e0 : ((kk : Int) == 0) = false := by rw [beq_eq_false_iff_ne]; omega
    have HPL : Hid (DrawnB R p 2 (N + 1) (K + 1) w (.returned v1) w2) := ⟨v1, ys, p + 1, rfl, HO2.out, HB1.out.up (by omega) (by omega), by omega, by omega, hr2, hT2⟩
    by_cases k1 : kk = 1
    · have e1 : ((kk : Int) == 1) = true := by rw [k1]; rfl
      obtain ⟨a2, c2, rfl, _⟩ := HO2.out.rdB HB1.out
      clear k0 k1 hk
      by_cases hy0 : ys.length = 0
      · have d0 : decide ((0 : Int) < (ys.length : Int)) = false := decide_eq_false (by omega)
        generalize ys.length = yl at *
        subst hy0
        go_wp2
        go_ret
        exact HPL.out
      · have d0 : decide ((0 : Int) < (ys.length : Int)) = true := decide_eq_true (by omega)
        generalize hyle : ys.length = yl at *
        have HYL := Lib.hid hyle
        clear hyle HPL
        go_wp2_with fail
        refine (pick_any R (p + 1) yl w2 hr2 (by omega) (by omega)).mono ?_
        rintro e w3 ⟨j, rfl, hj, hr3, ht3⟩
        have HO3 := Lib.hid (HO2.out.touch ht3 hRl)
        have hT3 := hT2.trans ht3
        have hs3 := hT3.size
        have hjl : j < ys.length := by rw [HYL.out]; omega
        obtain ⟨y, hy⟩ : ∃ y, ys[j] = y := ⟨_, rfl⟩
        obtain ⟨g4, rfl⟩ : ∃ g, a2 = some ⟨g, 0, none⟩ := by
          rcases HO3.out.1.2 with ⟨_, h0⟩ | ⟨g, cap, cur, hv, _⟩
          · exfalso; omega
          · injection hv with e1 _ _; exact ⟨g, e1⟩
        have HY := Lib.hid hy
        have HJ := Lib.hid hjl
        have hyk : y.xs.length ≤ K := by
          have : y.b ∈ ys.map BxA.b := List.mem_map_of_mem (hy ▸ List.getElem_mem hjl)
          have := (HB1.out.2 _ this).1
          unfold BxA.b at this; rw [List.length_map] at this; exact this
        have hj0 : (0 : Int) ≤ (j : Int) := by omega
        have hjn : (j : Int) < (yl : Int) := by have := HYL.out; omega
        obtain ⟨⟨_, p2⟩, _⟩ := rowB_cells HO3.out.1 HJ.out HY.out
        have hg4 : g4 < w3.heap.size := lt_of_cell p2
        have hA3 : Below w3.heap.size w3 (w3.alloc (.cells #[.string ⟨#[120]⟩, .slice none 0 0, .slice none 0 0] 28)) := (Below.refl _ _).alloc (Nat.le_refl _) _
        have HO4 := Lib.hid (HO3.out.keep hA3)
        have HK4 : Hid (MK3 (w3.alloc (.cells #[.string ⟨#[120]⟩, .slice none 0 0, .slice none 0 0] 28)) w3.heap.size (.string (str mx1.m.frm)) (.slice mx1.a1 mx1.m.to.length mx1.c1) (.slice mx1.a2 mx1.m.lines.length mx1.c2)) := MK3.new w3 (.string ⟨#[120]⟩) (.slice none 0 0) (.slice none 0 0) 28
        have hym : y ∈ ys := hy ▸ List.getElem_mem hjl
        have HYO : Hid (OwnMs w.heap.size (.slice y.a y.xs.length y.c) y.xs (w3.alloc (.cells #[.string ⟨#[120]⟩, .slice none 0 0, .slice none 0 0] 28))) := HO4.out.2.1 y hym
        have HMX : Hid (OwnM w.heap.size (w3.alloc (.cells #[.string ⟨#[120]⟩, .slice none 0 0, .slice none 0 0] 28)) mx1) := ⟨OwnL.nil _ _, OwnL.nil _ _, fun g h => by cases h⟩
        have hle : w.heap.size ≤ (w3.alloc (.cells #[.string ⟨#[120]⟩, .slice none 0 0, .slice none 0 0] 28)).heap.size := Nat.le_trans hs3 hA3.size
        have hyl6 : y.xs.length ≤ 1000000 := by omega
        have hap1 : ∀ m ∈ y.xs, ApM m mx1 := fun m _ q _ hq2 => by
          rcases hq2 with hq2 | hq2 <;> cases hq2
        have HAP1 := Lib.hid hap1
        have hrA := hr3.below hA3
        have hTA := hT3.ext (hA3.mono hs3)
        have HYM := Lib.hid hym
        clear hy hap1 hym hA3
        go_wp2_with (at_builtin; refine wpList_append_MG rfl _ _ rfl w.heap.size _ y.xs mx1 w3.heap.size rfl rfl HYO.out HMX.out HK4.out hle hyl6 HAP1.out ?_)
        intro v9 w9 hO9 ho9 hat9
        obtain ⟨a9, c9, hv9, _⟩ := hO9.1.read mlC_len
        subst hv9
        have hg5y : (Value.slice y.a y.xs.length y.c).ownBlock ≠ some g4 := fun e => own_row_mails HO4.out HYM.out (g := g4) rfl (.inl e)
        have q2 := cell_only (rowB_cells HO4.out.1 HJ.out HY.out).1.2 ho9 hg5y
        have qf := fz_only (rowB_cells HO4.out.1 HJ.out HY.out).2 ho9 (HO4.out.1.lt g4 rfl).2 hg5y
        have HADD := Lib.hid (OwnBs.added (C := (w3.alloc (.cells #[.string ⟨#[120]⟩, .slice none 0 0, .slice none 0 0] 28)).heap.size) (x := mx1) HO4.out HJ.out HY.out (fun q hq => by rcases hq with hq | hq <;> cases hq) (fun q hq => (HO4.out.lt hq).2) hO9 ho9 (by have h := hat9; simp only [World.alloc, Array.size_push]; exact h))
        have hgB : w.heap.size ≤ g4 := (HO4.out.1.lt g4 rfl).1
        have hb9 : Below w.heap.size (w3.alloc (.cells #[.string ⟨#[120]⟩, .slice none 0 0, .slice none 0 0] 28)) (w9.setCell ⟨g4, j * 2 + 1, none⟩ (.slice a9 (y.xs ++ [mx1]).length c9)) := (ho9.below (fun q hq => (HYO.out.1.lt q hq).1) hle).setCell hgB _
        have HE : Hid (DrawnB R p 2 (N + 1) (K + 1) w (.returned (.slice (some ⟨g4, 0, none⟩) yl c2)) (w9.setCell ⟨g4, j * 2 + 1, none⟩ (.slice a9 (y.xs ++ [mx1]).length c9))) := ⟨_, _, p + 2, rfl, HADD.out, ⟨by rw [List.length_map, List.length_set, HYL.out]; omega, fun b hb => by
          rw [List.map_set] at hb
          rcases List.mem_or_eq_of_mem_set hb with hb | rfl
          · exact ⟨Nat.le_succ_of_le (HB1.out.2 b hb).1, (HB1.out.2 b hb).2⟩
          · have h1 := HB1.out.2 y.b (List.mem_map_of_mem HYM.out)
            refine ⟨by show ((y.xs ++ [mx1]).map (·.m)).length ≤ _; rw [List.length_map, List.length_append]; show y.xs.length + 1 ≤ _; omega, h1.2.1, by show ((y.xs ++ [mx1]).map (·.m)).length ≤ _; rw [List.length_map, List.length_append]; show y.xs.length + 1 ≤ 200; omega, fun m hm => ?_⟩
            have hm' : m ∈ (y.xs ++ [mx1]).map (·.m) := hm
            rw [List.map_append] at hm'
            rcases List.mem_append.1 hm' with hm' | hm'
            · exact h1.2.2.2 m hm'
            · rw [List.mem_singleton.1 hm']
              exact ⟨by show 1 ≤ 200; omega, Nat.zero_le _, (fun q hq => by cases hq), Nat.zero_le _, (fun q hq => by cases hq)⟩⟩, by omega, by omega, hrA.belowB hb9 hRl, hTA.ext hb9⟩
        clear hO9 ho9 hat9
        rw [List.length_append, List.length_singleton] at HE
        go_wp2
        go_ret
        exact HE.out
    · have e1 : ((kk : Int) == 1) = false := by rw [beq_eq_false_iff_ne]; omega
      clear k0 k1 hk
      go_wp2
      go_ret
      exact HPL.out
end Go.Proofs.YtbfjbabpeigloabDoor
end

section
namespace Go.Proofs.YtbfjbabpeigloabDoor
open Go.RowKit

theorem drawnM_v {R p c M : Nat} {w : World} {e : Ending} {w' : World} (h : DrawnM R p c M w e w') : ∃ (s : ByteArray) (a : Option Addr) (k : Nat) (b : Option Addr) (d : Nat) (xs ys : List (List UInt8)) (p' : Nat), e = .returned (.agg #[.string s, .slice a xs.length k, .slice b ys.length d]) ∧
    St2 w.heap.size w' (.slice a xs.length k) xs (.slice b ys.length d) ys ∧ s.size ≤ M ∧ xs.length ≤ M ∧ (∀ x ∈ xs, x.length ≤ M) ∧ ys.length ≤ M ∧ (∀ x ∈ ys, x.length ≤ M) ∧ p ≤ p' ∧ p' ≤ p + c ∧ Rd w' R p' ∧ Touch R w w' := by
  obtain ⟨⟨⟨f, xs, ys⟩, a, k, b, d⟩, p', rfl, ⟨h1, h2, h3⟩, ⟨hs, hx, hxx, hy, hyy⟩, q1, q2, hr, ht⟩ := h
  exact ⟨str f, a, k, b, d, xs, ys, p', rfl, ⟨h1, h2, h3⟩, by rw [str_size]; exact hs, hx, hxx, hy, hyy, q1, q2, hr, ht⟩
theorem drawnM_wide {R p c M p0 c0 M0 : Nat} {w : World} {e : Ending} {w' : World} (h : DrawnM R p c M w e w') (h1 : p0 ≤ p) (h2 : p + c ≤ p0 + c0) (hM : M ≤ M0) : DrawnM R p0 c0 M0 w e w' := by
  obtain ⟨x, p', q1, q2, q3, q4, q5, q6⟩ := h
  exact ⟨x, p', q1, q2, q3.up hM, by omega, by omega, q6⟩
theorem rdm_of {B M : Nat} {w : World} {s : ByteArray} {a b : Option Addr} {k d : Nat} {xs ys : List (List UInt8)} (h : St2 B w (.slice a xs.length k) xs (.slice b ys.length d) ys) (hs : s.size ≤ M) (hx : xs.length ≤ M) (hxx : ∀ x ∈ xs, x.length ≤ M) (hy : ys.length ≤ M) (hyy : ∀ x ∈ ys, x.length ≤ M) :
    RdV M w s a xs.length k b ys.length d ⟨s.data.toList, xs, ys⟩ := ⟨(str_of s).symm, rfl, rfl, h.a.rdc, h.b.rdc, hs, hx, hxx, hy, hyy⟩
def MalV (m : Ml) (w : World) (e : Ending) (w' : World) : Prop := ∃ (s : ByteArray) (a : Option Addr) (c : Nat) (b : Option Addr) (d : Nat) (xs ys : List (List UInt8)), e = .returned (.agg #[.string s, .slice a xs.length c, .slice b ys.length d]) ∧ m = ⟨s.data.toList, xs, ys⟩ ∧ St2 w.heap.size w' (.slice a xs.length c) xs (.slice b ys.length d) ys ∧ Below w.heap.size w w'
theorem malRet_v {m : Ml} {w : World} {e : Ending} {w' : World} (h : MalRet m w e w') : MalV m w e w' := by
  obtain ⟨⟨⟨f, xs, ys⟩, a, c, b, d⟩, rfl, rfl, ⟨h1, h2, h3⟩, hb⟩ := h
  exact ⟨str f, a, c, b, d, xs, ys, rfl, by rw [str_list], ⟨h1, h2, h3⟩, hb⟩
set_option maxRecDepth 100000 in
set_option maxHeartbeats 8000000 in
theorem l10WrongMail_any (R p M : Nat) (s : ByteArray) (a : Option Addr) (n c : Nat) (b : Option Addr) (k d : Nat) (m : Ml) (w : World) (hr : Rd w R p) (hp : p ≤ 999998000) (hv : RdV M w s a n c b k d m) (hM : M ≤ 100000) (hM3 : 3 ≤ M) :
    Calls Tryd.prog 47 #[.pointer (some ⟨R, 0, none⟩), .agg #[.string s, .slice a n c, .slice b k d]] w (DrawnM R p 2 (M + 1) w) := by
  have hRl := hr.lt
  have hA1 : Below w.heap.size w (w.alloc (.cells #[.string s, .slice a n c, .slice b k d] 28)) := (Below.refl _ _).alloc (Nat.le_refl _) _
  have hA2 : Below (w.alloc (.cells #[.string s, .slice a n c, .slice b k d] 28)).heap.size (w.alloc (.cells #[.string s, .slice a n c, .slice b k d] 28)) ((w.alloc (.cells #[.string s, .slice a n c, .slice b k d] 28)).alloc (.cells #[.string ⟨#[]⟩, .slice none 0 0, .slice none 0 0] 28)) := (Below.refl _ _).alloc (Nat.le_refl _) _
  have HP : Hid (MK3 ((w.alloc (.cells #[.string s, .slice a n c, .slice b k d] 28)).alloc (.cells #[.string ⟨#[]⟩, .slice none 0 0, .slice none 0 0] 28)) w.heap.size (.string s) (.slice a n c) (.slice b k d)) := (MK3.new w _ _ _ _).below hA2
  have HZ : Hid (MF3 ((w.alloc (.cells #[.string s, .slice a n c, .slice b k d] 28)).alloc (.cells #[.string ⟨#[]⟩, .slice none 0 0, .slice none 0 0] 28)) (w.heap.size + 1) (.string ⟨#[]⟩) (.slice none 0 0) (.slice none 0 0)) := by
    have := MF3.new (w.alloc (.cells #[.string s, .slice a n c, .slice b k d] 28)) (.string ⟨#[]⟩) (.slice none 0 0) (.slice none 0 0) 28
    have e : (w.alloc (.cells #[.string s, .slice a n c, .slice b k d] 28)).heap.size = w.heap.size + 1 := by simp
    rw [e] at this; exact this
  have hb0 := nx hA1 hA2
  have hsz : ((w.alloc (.cells #[.string s, .slice a n c, .slice b k d] 28)).alloc (.cells #[.string ⟨#[]⟩, .slice none 0 0, .slice none 0 0] 28)).heap.size = w.heap.size + 1 + 1 := by simp
  have HC : Hid (∀ u, Below w.heap.size w u → Calls Tryd.prog 71 #[.agg #[.string s, .slice a n c, .slice b k d]] u (MalV m u)) := fun u hb => (hv.below hb).calls [] (fun x hx hrd => (l10Mail_any M x u hrd (by omega)).mono fun e w' hh => malRet_v (hx ▸ hh))
  have HSM : Hid (SmallM M m) := hv.2.2.2.2.2
  clear hv hA1 hA2
  go_enter Tryd.func47, Tryd.ntmps47
  obtain ⟨q0, q1, q2⟩ := HP.out
  go_wp2_with fail
  generalize ((w.alloc (.cells #[.string s, .slice a n c, .slice b k d] 28)).alloc (.cells #[.string ⟨#[]⟩, .slice none 0 0, .slice none 0 0] 28)) = W0 at *
  refine (HC.out _ hb0).mono ?_
  rintro e w1 ⟨s1, a1, c1, b1, d1, xs, ys, rfl, hmm, hst, hb1⟩
  subst hmm
  obtain ⟨z1, z2, z3, z4, z5⟩ := HSM.out
  dsimp only at z1 z2 z3 z4 z5
  have HX3 := Lib.hid z3
  have HY3 := Lib.hid z5
  clear z3 z5 q0 q1 q2
  have hs1 := hb1.size
  have hf1 : s1.size ≤ M := z1
  have hA3 : Below w1.heap.size w1 (w1.alloc (.cells #[.string s1, .slice a1 xs.length c1, .slice b1 ys.length d1] 28)) := (Below.refl _ _).alloc (Nat.le_refl _) _
  have HK3 := Lib.hid (MF3.new w1 (.string s1) (.slice a1 xs.length c1) (.slice b1 ys.length d1) 28)
  have HS3 := Lib.hid ((hst.keep hA3).base (C := w.heap.size + 1 + 1) (by omega))
  have HZ3 := Lib.hid (HZ.out.below (nx hb1 hA3))
  have hb03 := nx hb0 (nx hb1 hA3)
  have hr3 := hr.below hb03
  have hT3 : Touch R w (w1.alloc (.cells #[.string s1, .slice a1 xs.length c1, .slice b1 ys.length d1] 28)) := Touch.of_below hb03
  have HNA : Hid (∀ q, (Value.slice a1 xs.length c1).ownBlock = some q → q ≠ w1.heap.size) := fun q hq => by have := (hst.a.lt q hq).2; omega
  have HNB : Hid (∀ q, (Value.slice b1 ys.length d1).ownBlock = some q → q ≠ w1.heap.size) := fun q hq => by have := (hst.b.lt q hq).2; omega
  have hKl : w1.heap.size < (w1.alloc (.cells #[.string s1, .slice a1 xs.length c1, .slice b1 ys.length d1] 28)).heap.size := by simp
  have hKw : w.heap.size + 1 < w1.heap.size := by omega
  clear hst hA3 hb03 hb1 hb0 HP HZ
  go_wp2_with fail
  generalize w1.alloc (.cells #[.string s1, .slice a1 xs.length c1, .slice b1 ys.length d1] 28) = W3 at *
  have hKR : w1.heap.size ≠ R := by omega
  generalize w1.heap.size = K at *
  clear hs1 hsz
  refine (pick_any R p 20 W3 hr3 (by omega) (by omega)).mono ?_
  rintro e w4 ⟨kk, rfl, hk, hr4, ht4⟩
  have hs4 := ht4.size
  have HZ4 := Lib.hid (HZ3.out.touch ht4 (by omega))
  have HK4 := Lib.hid (HK3.out.touch ht4 hKR)
  have HS4 := Lib.hid (HS3.out.touch ht4 (by omega))
  have hT4 := hT3.trans ht4
  have hK4 : K < w4.heap.size := by omega
  clear HZ3 HK3 HS3 hT3 ht4 hr3
  by_cases k0 : kk = 0
  · have e0 : ((kk : Int) == 0) = true := by rw [k0]; rfl
    clear k0 hk
    go_wp2_with fail
    refine (of_lit R (p + 1) 3 3 _ _ w4 hr4 (by omega) (by omega) (by omega) (by decide)).mono ?_
    rintro e w5 ⟨s5, p5, rfl, g5, f5, k5, hr5, ht5⟩
    have hs5 := ht5.size
    have HZ5 := Lib.hid (HZ4.out.touch ht5 (by omega))
    have HK5 := Lib.hid (HK4.out.touch ht5 hKR)
    have HS5 := Lib.hid (HS4.out.touch ht5 (by omega))
    have hT5 := hT4.trans ht5
    obtain ⟨⟨y0, y1, y2⟩, yf⟩ := HK5.out
    obtain ⟨⟨z0, z1', z2'⟩, zf⟩ := HZ5.out
    have hl5 : w.heap.size + 1 < w5.heap.size := by omega
    have hS6 := HS5.out.off (g := K) (i := 0) HNA.out HNB.out (.string s5)
    go_wp2
    refine bodyPost_ret (v := .agg #[.string s5, .slice a1 xs.length c1, .slice b1 ys.length d1]) (by simp [results, Tryd.results47, go_sem, z0, z1', z2']) rfl (drawnM_mk (xs := xs) (p' := p5) (by omega) (by first | omega | (simp; omega) | simp) (fun x hx => Nat.le_succ_of_le (HX3.out x hx)) (by first | omega | (simp; omega) | simp) (fun x hx => Nat.le_succ_of_le (HY3.out x hx)) ?_ (by omega) (by omega) ?_ ?_)
    · exact (((hS6.off (g := w.heap.size + 1) (i := 0) (fun q hq => by have := (hS6.a.lt q hq).1; omega) (fun q hq => by have := (hS6.b.lt q hq).1; omega) _).off (g := w.heap.size + 1) (i := 1) (fun q hq => by have := (hS6.a.lt q hq).1; omega) (fun q hq => by have := (hS6.b.lt q hq).1; omega) _).off (g := w.heap.size + 1) (i := 2) (fun q hq => by have := (hS6.a.lt q hq).1; omega) (fun q hq => by have := (hS6.b.lt q hq).1; omega) _).base (by omega)
    · exact hr5.belowB (((((Below.refl w.heap.size w5).setCell (p := ⟨K, 0, none⟩) (by show w.heap.size ≤ K; omega) _).setCell (p := ⟨w.heap.size + 1, 0, none⟩) (Nat.le_succ _) _).setCell (p := ⟨w.heap.size + 1, 1, none⟩) (Nat.le_succ _) _).setCell (p := ⟨w.heap.size + 1, 2, none⟩) (Nat.le_succ _) _) hRl
    · exact (touch_set (touch_set (touch_set (touch_set hT5 (by omega) _) (Nat.le_succ _) _) (Nat.le_succ _) _) (Nat.le_succ _) _)
  · have e0 : ((kk : Int) == 0) = false := by rw [beq_eq_false_iff_ne]; omega
    by_cases k1 : kk = 1
    · have e1 : ((kk : Int) == 1) = true := by rw [k1]; rfl
      clear k0 k1 hk
      have hA5 : Below w4.heap.size w4 (w4.alloc (.cells #[] 9)) := (Below.refl _ _).alloc (Nat.le_refl _) _
      have hSn := (St2.new HS4.out.b (by omega)).swap
      have HZ5 := Lib.hid (HZ4.out.below hA5)
      have HK5 := Lib.hid (HK4.out.below hA5)
      have hr5 := hr4.below hA5
      have hT5 := hT4.trans (Touch.of_below hA5)
      have hs5 := hA5.size
      have HN5 : Hid (∀ q, (Value.slice (some ⟨w4.heap.size, 0, none⟩) 0 0).ownBlock = some q → q ≠ K) := fun q hq => by
        have : some w4.heap.size = some q := hq
        injection this with this; omega
      obtain ⟨⟨y0, y1, y2⟩, yf⟩ := HK4.out
      obtain ⟨⟨z0, z1', z2'⟩, zf⟩ := HZ4.out
      have hl5 : w.heap.size + 1 < w4.heap.size := by omega
      have hLA : ∀ q, (Value.slice a1 xs.length c1).ownBlock = some q → q ≠ w.heap.size + 1 := fun q hq => by have := (HS4.out.a.lt q hq).1; omega
      have hLB : ∀ q, (Value.slice b1 ys.length d1).ownBlock = some q → q ≠ w.heap.size + 1 := fun q hq => by have := (HS4.out.b.lt q hq).1; omega
      have hS6 := (((HS4.out.off (g := K) (i := 1) HNA.out HNB.out (.slice (some ⟨w4.heap.size, 0, none⟩) 0 0)).off (g := w.heap.size + 1) (i := 0) hLA hLB (.string s1)).off (g := w.heap.size + 1) (i := 1) hLA hLB (.slice (some ⟨w4.heap.size, 0, none⟩) 0 0)).off (g := w.heap.size + 1) (i := 2) hLA hLB (.slice b1 ys.length d1)
      have hsz6 : ((((w4.setCell ⟨K, 1, none⟩ (.slice (some ⟨w4.heap.size, 0, none⟩) 0 0)).setCell ⟨w.heap.size + 1, 0, none⟩ (.string s1)).setCell ⟨w.heap.size + 1, 1, none⟩ (.slice (some ⟨w4.heap.size, 0, none⟩) 0 0)).setCell ⟨w.heap.size + 1, 2, none⟩ (.slice b1 ys.length d1)).heap.size = w4.heap.size := by simp
      have HS7 := Lib.hid (St2.new hS6.b (by rw [hsz6]; omega)).swap
      have hT6 := touch_set (touch_set (touch_set (touch_set hT4 (show w.heap.size ≤ K by omega) (i := 1) (.slice (some ⟨w4.heap.size, 0, none⟩) 0 0)) (Nat.le_succ _) (i := 0) (.string s1)) (Nat.le_succ _) (i := 1) (.slice (some ⟨w4.heap.size, 0, none⟩) 0 0)) (Nat.le_succ _) (i := 2) (.slice b1 ys.length d1)
      have hr6 := hr4.belowB (((((Below.refl w.heap.size w4).setCell (p := ⟨K, 1, none⟩) (by show w.heap.size ≤ K; omega) (.slice (some ⟨w4.heap.size, 0, none⟩) 0 0)).setCell (p := ⟨w.heap.size + 1, 0, none⟩) (Nat.le_succ _) (.string s1)).setCell (p := ⟨w.heap.size + 1, 1, none⟩) (Nat.le_succ _) (.slice (some ⟨w4.heap.size, 0, none⟩) 0 0)).setCell (p := ⟨w.heap.size + 1, 2, none⟩) (Nat.le_succ _) (.slice b1 ys.length d1)) hRl
      rw [hsz6] at HS7
      have HT7 := Lib.hid (hT6.alloc (.cells #[] 9))
      have HR7 := Lib.hid (hr6.below ((Below.refl _ _).alloc (Nat.le_refl _) (.cells #[] 9)))
      clear hS6 hsz6 hT6 hr6 hLA hLB hSn HZ5 HK5 hr5 hT5 hs5 hA5
      go_wp2
      refine bodyPost_ret (v := .agg #[.string s1, .slice (some ⟨w4.heap.size, 0, none⟩) 0 0, .slice b1 ys.length d1]) (by simp [results, Tryd.results47, go_sem, z0, z1', z2', World.cell?_alloc_lt, hl5]) rfl (drawnM_mk (xs := []) (p' := p + 1) (by omega) (by simp) (fun x hx => by cases hx) (by omega) (fun x hx => Nat.le_succ_of_le (HY3.out x hx)) (HS7.out.base (by omega)) (by omega) (by omega) HR7.out HT7.out)
    · have e1 : ((kk : Int) == 1) = false := by rw [beq_eq_false_iff_ne]; omega
      by_cases k2 : kk = 2
      · have e2 : ((kk : Int) == 2) = true := by rw [k2]; rfl
        clear k0 k1 k2 hk
        have hA5 : Below w4.heap.size w4 (w4.alloc (.cells #[.string (ByteArray.mk #[10])] 9)) := (Below.refl _ _).alloc (Nat.le_refl _) _
        have HZ5 := Lib.hid (HZ4.out.below hA5)
        have HK5 := Lib.hid (HK4.out.below hA5)
        have HS5 := Lib.hid (HS4.out.keep hA5)
        have hr5 := hr4.below hA5
        have hT5 := hT4.trans (Touch.of_below hA5)
        have hs5 := hA5.size
        have N1 := cell_one w4 (.string (ByteArray.mk #[10])) 9
        obtain ⟨⟨y0, y1, y2⟩, yf⟩ := HK4.out
        go_wp2_with (at_builtin; refine wpList_append_RL rfl _ _ rfl (w.heap.size + 1 + 1) _ ys [[10]] (some ⟨w4.heap.size, 0, none⟩) 1 1 rfl rfl HS5.out.b (rd_one N1) (fun h => by cases h) ?c2 ?c3 ?_)
        case c2 => first | omega | (simp; omega)
        case c3 => first | omega | (simp; omega)
        intro v6 w6 o6 gr6 at6
        clear y0 y1 y2 yf
        have b6 : Below (w.heap.size + 1 + 1) (w4.alloc (.cells #[.string (ByteArray.mk #[10])] 9)) w6 := grown_below HS5.out.b gr6 (by omega)
        have hs6 := b6.size
        have HK6 := Lib.hid (mf3_grown HK5.out gr6 HNB.out)
        have HZ6 := Lib.hid (mf3_grown HZ5.out gr6 (fun q hq => by have := (HS5.out.b.lt q hq).1; omega))
        have hS6 := St2.appR HS5.out o6 gr6 (by rcases at6 with h | h; exact .inl h; exact .inr (by rw [h]; simp))
        have hT6 := hT5.ext (b6.mono (by omega))
        have hr6 := hr5.belowB b6 (by omega)
        have HN6 : Hid (∀ q, v6.ownBlock = some q → q ≠ K) := fun q hq => by
          rcases at6 with h | h
          · exact HNB.out q (h.symm.trans hq)
          · rw [h] at hq; injection hq with hq; omega
        have HZS : Hid (∀ x ∈ ys ++ [[10]], x.length ≤ M) := fun x hx => by
          rcases List.mem_append.1 hx with h | h
          · exact HY3.out x h
          · rw [List.mem_singleton.1 h]; simp; omega
        obtain ⟨zs, hzs⟩ : ∃ zs, zs = ys ++ [[10]] := ⟨_, rfl⟩
        have hzl : zs.length ≤ ys.length + 1 := by rw [hzs]; simp
        rw [← hzs] at hS6 o6 HZS
        obtain ⟨a6, c6, rfl, _, _, _⟩ := o6.readc
        clear hzs o6 N1 gr6 at6
        obtain ⟨⟨y0, y1, y2⟩, yf⟩ := HK6.out
        obtain ⟨⟨z0, z1', z2'⟩, zf⟩ := HZ6.out
        have hl5 : w.heap.size + 1 < w6.heap.size := by omega
        have hS7 := hS6.off (g := K) (i := 2) HNA.out HN6.out (.slice a6 zs.length c6)
        go_wp2
        refine bodyPost_ret (v := .agg #[.string s1, .slice a1 xs.length c1, .slice a6 zs.length c6]) (by simp [results, Tryd.results47, go_sem, z0, z1', z2']) rfl (drawnM_mk (xs := xs) (p' := p + 1) (by omega) (by first | omega | (simp; omega) | simp) (fun x hx => Nat.le_succ_of_le (HX3.out x hx)) (by first | omega | (simp; omega) | simp) (fun x hx => Nat.le_succ_of_le (HZS.out x hx)) ?_ (by omega) (by omega) ?_ ?_)
        · exact (((hS7.off (g := w.heap.size + 1) (i := 0) (fun q hq => by have := (hS7.a.lt q hq).1; omega) (fun q hq => by have := (hS7.b.lt q hq).1; omega) _).off (g := w.heap.size + 1) (i := 1) (fun q hq => by have := (hS7.a.lt q hq).1; omega) (fun q hq => by have := (hS7.b.lt q hq).1; omega) _).off (g := w.heap.size + 1) (i := 2) (fun q hq => by have := (hS7.a.lt q hq).1; omega) (fun q hq => by have := (hS7.b.lt q hq).1; omega) _).base (by omega)
        · exact hr6.belowB (((((Below.refl w.heap.size w6).setCell (p := ⟨K, 2, none⟩) (by show w.heap.size ≤ K; omega) _).setCell (p := ⟨w.heap.size + 1, 0, none⟩) (Nat.le_succ _) _).setCell (p := ⟨w.heap.size + 1, 1, none⟩) (Nat.le_succ _) _).setCell (p := ⟨w.heap.size + 1, 2, none⟩) (Nat.le_succ _) _) hRl
        · exact (touch_set (touch_set (touch_set (touch_set hT6 (by omega) _) (Nat.le_succ _) _) (Nat.le_succ _) _) (Nat.le_succ _) _)
      · have e2 : ((kk : Int) == 2) = false := by rw [beq_eq_false_iff_ne]; omega
        clear k0 k1 k2 hk
        obtain ⟨⟨y0, y1, y2⟩, yf⟩ := HK4.out
        obtain ⟨⟨z0, z1', z2'⟩, zf⟩ := HZ4.out
        have hl5 : w.heap.size + 1 < w4.heap.size := by omega
        go_wp2
        refine bodyPost_ret (v := .agg #[.string s1, .slice a1 xs.length c1, .slice b1 ys.length d1]) (by simp [results, Tryd.results47, go_sem, z0, z1', z2']) rfl (drawnM_mk (xs := xs) (p' := p + 1) (by omega) (by first | omega | (simp; omega) | simp) (fun x hx => Nat.le_succ_of_le (HX3.out x hx)) (by first | omega | (simp; omega) | simp) (fun x hx => Nat.le_succ_of_le (HY3.out x hx)) ?_ (by omega) (by omega) ?_ ?_)
        · exact (((HS4.out.off (g := w.heap.size + 1) (i := 0) (fun q hq => by have := (HS4.out.a.lt q hq).1; omega) (fun q hq => by have := (HS4.out.b.lt q hq).1; omega) _).off (g := w.heap.size + 1) (i := 1) (fun q hq => by have := (HS4.out.a.lt q hq).1; omega) (fun q hq => by have := (HS4.out.b.lt q hq).1; omega) _).off (g := w.heap.size + 1) (i := 2) (fun q hq => by have := (HS4.out.a.lt q hq).1; omega) (fun q hq => by have := (HS4.out.b.lt q hq).1; omega) _).base (by omega)
        · exact hr4.belowB ((((Below.refl w.heap.size w4).setCell (p := ⟨w.heap.size + 1, 0, none⟩) (Nat.le_succ _) _).setCell (p := ⟨w.heap.size + 1, 1, none⟩) (Nat.le_succ _) _).setCell (p := ⟨w.heap.size + 1, 2, none⟩) (Nat.le_succ _) _) hRl
        · exact (touch_set (touch_set (touch_set hT4 (Nat.le_succ _) _) (Nat.le_succ _) _) (Nat.le_succ _) _)
/-- A mail is drawn; nothing that was there turns. -/
def DrawnN (M : Nat) (w : World) (e : Ending) (w' : World) : Prop := ∃ (s : ByteArray) (a : Option Addr) (n c : Nat) (b : Option Addr) (k d : Nat) (m : Ml), e = .returned (.agg #[.string s, .slice a n c, .slice b k d]) ∧ RdV M w' s a n c b k d m ∧ Below w.heap.size w w'
end Go.Proofs.YtbfjbabpeigloabDoor
end

section
namespace Go.Proofs.YtbfjbabpeigloabDoor
open Go.RowKit

/-- Boxes of the call's own, drawn from bytes. -/
def DrawnX (N K : Nat) (w : World) (e : Ending) (w' : World) : Prop := ∃ (v : Value) (ys : List BxA), e = .returned v ∧ OwnBs w.heap.size v ys w' ∧ BOk N K (ys.map BxA.b) ∧ Below w.heap.size w w'
/-- .. and a path. -/
def DrawnXS (N K : Nat) (w : World) (e : Ending) (w' : World) : Prop := ∃ (v : Value) (ys : List BxA) (s : ByteArray), e = .returned (.tuple #[v, .string s]) ∧ OwnBs w.heap.size v ys w' ∧ BOk N K (ys.map BxA.b) ∧ s.data.toList.length ≤ 9 ∧ Below w.heap.size w w'
set_option maxRecDepth 100000 in
set_option maxHeartbeats 1000000 in
theorem drawCountHeld_any (a : Option Addr) (n c : Nat) (w : World) (hc : Code w a n) (hnc : n ≤ c) (hm : c ≤ maxLen) :
    Calls Tryd.prog 27 #[.slice a n c] w (DrawnX 9 5 w) := by
  go_enter Tryd.func27, Tryd.ntmps27
  go_wp2_with fail
  refine (open_any a n c _ hc hnc hm).mono ?_
  rintro e w1 ⟨R, rfl, hR, hr1, hb1⟩
  have hs1 := hb1.size
  go_wp2_with fail
  refine (l11Draw_any R 0 w1 hr1 (by omega)).mono ?_
  rintro e w2 ⟨v2, ys2, p2, rfl, ho2, hk2, f2, g2, hr2, ht2⟩
  have HO2 := Lib.hid ho2
  have HK2 := Lib.hid hk2
  have hs2 := ht2.size
  clear ho2 hk2
  go_wp2_with fail
  refine (l11Wrong_any R p2 8 4 v2 ys2 _ w2 hr2 (by omega) HO2.out HK2.out (by omega) (by omega)).mono ?_
  rintro e w3 ⟨v3, ys3, p3, rfl, ho3, hk3, f3, g3, hr3, ht3⟩
  have HE : Hid (DrawnX 9 5 w (.returned v3) w3) := ⟨v3, ys3, rfl, ho3.base (by omega), hk3, after_open hb1 (by omega) (ht2.trans ht3)⟩
  clear ho3 hk3
  go_wp2
  go_ret
  exact HE.out
set_option maxRecDepth 100000 in
set_option maxHeartbeats 1000000 in
theorem drawBoxesValid_any (a : Option Addr) (n c : Nat) (w : World) (hc : Code w a n) (hnc : n ≤ c) (hm : c ≤ maxLen) :
    Calls Tryd.prog 23 #[.slice a n c] w (DrawnX 10 6 w) := by
  go_enter Tryd.func23, Tryd.ntmps23
  go_wp2_with fail
  refine (open_any a n c _ hc hnc hm).mono ?_
  rintro e w1 ⟨R, rfl, hR, hr1, hb1⟩
  have hs1 := hb1.size
  go_wp2_with fail
  refine (l11Draw_any R 0 w1 hr1 (by omega)).mono ?_
  rintro e w2 ⟨v2, ys2, p2, rfl, ho2, hk2, f2, g2, hr2, ht2⟩
  have HO2 := Lib.hid ho2
  have HK2 := Lib.hid hk2
  have hs2 := ht2.size
  clear ho2 hk2
  go_wp2_with fail
  refine (l11Wrong_any R p2 8 4 v2 ys2 _ w2 hr2 (by omega) HO2.out HK2.out (by omega) (by omega)).mono ?_
  rintro e w3 ⟨v3, ys3, p3, rfl, ho3, hk3, f3, g3, hr3, ht3⟩
  have HO3 := Lib.hid ho3
  have HK3 := Lib.hid hk3
  have hs3 := ht3.size
  clear ho3 hk3
  go_wp2_with fail
  refine (l11Wrong_any R p3 9 5 v3 ys3 _ w3 hr3 (by omega) HO3.out HK3.out (by omega) (by omega)).mono ?_
  rintro e w4 ⟨v4, ys4, p4, rfl, ho4, hk4, f4, g4, hr4, ht4⟩
  have HE : Hid (DrawnX 10 6 w (.returned v4) w4) := ⟨v4, ys4, rfl, ho4.base (by omega), hk4, after_open hb1 (by omega) ((ht2.trans ht3).trans ht4)⟩
  clear ho4 hk4
  go_wp2
  go_ret
  exact HE.out
set_option maxRecDepth 100000 in
set_option maxHeartbeats 1000000 in
theorem drawTakeMail_any (a : Option Addr) (n c : Nat) (w : World) (hc : Code w a n) (hnc : n ≤ c) (hm : c ≤ maxLen) :
    Calls Tryd.prog 9 #[.slice a n c] w (DrawnXS 9 5 w) := by
  go_enter Tryd.func9, Tryd.ntmps9
  go_wp2_with fail
  refine (open_any a n c _ hc hnc hm).mono ?_
  rintro e w1 ⟨R, rfl, hR, hr1, hb1⟩
  have hs1 := hb1.size
  go_wp2_with fail
  refine (l11Draw_any R 0 w1 hr1 (by omega)).mono ?_
  rintro e w2 ⟨v2, ys2, p2, rfl, ho2, hk2, f2, g2, hr2, ht2⟩
  have HO2 := Lib.hid ho2
  have HK2 := Lib.hid hk2
  have hs2 := ht2.size
  clear ho2 hk2
  go_wp2_with fail
  refine (l11Wrong_any R p2 8 4 v2 ys2 _ w2 hr2 (by omega) HO2.out HK2.out (by omega) (by omega)).mono ?_
  rintro e w3 ⟨v3, ys3, p3, rfl, ho3, hk3, f3, g3, hr3, ht3⟩
  have HO3 := Lib.hid ho3
  have HK3 := Lib.hid hk3
  have hs3 := ht3.size
  clear ho3 hk3
  go_wp2_with fail
  refine (of_litQ R p3 4 short9 _ _ w3 hr3 (by omega) (by omega) (by omega) (by decide +kernel)).mono ?_
  rintro e w4 ⟨s4, rfl, g4, hr4, ht4⟩
  have HE : Hid (DrawnXS 9 5 w (.returned (.tuple #[v3, .string s4])) w4) := ⟨v3, ys3, s4, rfl, (HO3.out.touch ht4 (by have := hr2.lt; omega)).base (by omega), HK3.out, by unfold short9 at g4; simpa using g4, after_open hb1 (by omega) ((ht2.trans ht3).trans ht4)⟩
  go_wp2
  go_ret2
  exact HE.out
set_option maxRecDepth 100000 in
set_option maxHeartbeats 1000000 in
theorem drawAddBox_any (a : Option Addr) (n c : Nat) (w : World) (hc : Code w a n) (hnc : n ≤ c) (hm : c ≤ maxLen) :
    Calls Tryd.prog 16 #[.slice a n c] w (DrawnXS 9 5 w) := by
  go_enter Tryd.func16, Tryd.ntmps16
  go_wp2_with fail
  refine (open_any a n c _ hc hnc hm).mono ?_
  rintro e w1 ⟨R, rfl, hR, hr1, hb1⟩
  have hs1 := hb1.size
  go_wp2_with fail
  refine (l11Draw_any R 0 w1 hr1 (by omega)).mono ?_
  rintro e w2 ⟨v2, ys2, p2, rfl, ho2, hk2, f2, g2, hr2, ht2⟩
  have HO2 := Lib.hid ho2
  have HK2 := Lib.hid hk2
  have hs2 := ht2.size
  clear ho2 hk2
  go_wp2_with fail
  refine (l11Wrong_any R p2 8 4 v2 ys2 _ w2 hr2 (by omega) HO2.out HK2.out (by omega) (by omega)).mono ?_
  rintro e w3 ⟨v3, ys3, p3, rfl, ho3, hk3, f3, g3, hr3, ht3⟩
  have HO3 := Lib.hid ho3
  have HK3 := Lib.hid hk3
  have hs3 := ht3.size
  clear ho3 hk3
  go_wp2_with fail
  refine (of_litQ R p3 6 short9 _ _ w3 hr3 (by omega) (by omega) (by omega) (by decide +kernel)).mono ?_
  rintro e w4 ⟨s4, rfl, g4, hr4, ht4⟩
  have HE : Hid (DrawnXS 9 5 w (.returned (.tuple #[v3, .string s4])) w4) := ⟨v3, ys3, s4, rfl, (HO3.out.touch ht4 (by have := hr2.lt; omega)).base (by omega), HK3.out, by unfold short9 at g4; simpa using g4, after_open hb1 (by omega) ((ht2.trans ht3).trans ht4)⟩
  go_wp2
  go_ret2
  exact HE.out
/-- Two rows of boxes, each of the call's own. -/
def DrawnXX (N K : Nat) (w : World) (e : Ending) (w' : World) : Prop := ∃ (v : Value) (ys : List BxA) (v' : Value) (zs : List BxA), e = .returned (.tuple #[v, v']) ∧ OwnBs w.heap.size v ys w' ∧ OwnBs w.heap.size v' zs w' ∧ BOk N K (ys.map BxA.b) ∧ BOk N K (zs.map BxA.b) ∧ Below w.heap.size w w'
set_option maxRecDepth 100000 in
set_option maxHeartbeats 1000000 in
theorem drawBoxesSame_any (a : Option Addr) (n c : Nat) (w : World) (hc : Code w a n) (hnc : n ≤ c) (hm : c ≤ maxLen) :
    Calls Tryd.prog 25 #[.slice a n c] w (DrawnXX 10 6 w) := by
  go_enter Tryd.func25, Tryd.ntmps25
  go_wp2_with fail
  refine (open_any a n c _ hc hnc hm).mono ?_
  rintro e w1 ⟨R, rfl, hR, hr1, hb1⟩
  have hs1 := hb1.size
  go_wp2_with fail
  refine (l11Draw_any R 0 w1 hr1 (by omega)).mono ?_
  rintro e w2 ⟨v2, ys2, p2, rfl, ho2, hk2, f2, g2, hr2, ht2⟩
  have HO2 := Lib.hid ho2
  have HK2 := Lib.hid hk2
  have hs2 := ht2.size
  have hRl := hr2.lt
  have hR1 := hr1.lt
  clear ho2 hk2
  go_wp2_with fail
  refine (pick_any R p2 3 w2 hr2 (by omega) (by omega)).mono ?_
  rintro e w3 ⟨kk, rfl, hk, hr3, ht3⟩
  have hs3 := ht3.size
  have HO3 := Lib.hid (HO2.out.touch ht3 hR1)
  clear hk
  by_cases k0 : kk = 0
  · have e0 : ((kk : Int) == 0) = true := by rw [k0]; rfl
    clear k0
    go_wp2_with fail
    refine (l11Draw_any R (p2 + 1) w3 hr3 (by omega)).mono ?_
    rintro e w4 ⟨v4, ys4, p4, rfl, ho4, hk4, f4, g4, hr4, ht4⟩
    have HE : Hid (DrawnXX 10 6 w (.returned (.tuple #[v2, v4])) w4) := ⟨v2, ys2, v4, ys4, rfl, (HO3.out.touch ht4 hR1).base (by omega), ho4.base (by omega), HK2.out.up (by omega) (by omega), hk4.up (by omega) (by omega), after_open hb1 (by omega) ((ht2.trans ht3).trans ht4)⟩
    clear ho4 hk4
    go_wp2
    go_ret2
    exact HE.out
  · have e0 : ((kk : Int) == 0) = false := by rw [beq_eq_false_iff_ne]; omega
    clear k0
    go_wp2_with fail
    refine (l11Wrong_any R (p2 + 1) 8 4 v2 ys2 _ w3 hr3 (by omega) HO3.out HK2.out (by omega) (by omega)).mono ?_
    rintro e w4 ⟨v4, ys4, p4, rfl, ho4, hk4, f4, g4, hr4, ht4⟩
    have HO4 := Lib.hid ho4
    have HK4 := Lib.hid hk4
    have hs4 := ht4.size
    clear ho4 hk4
    go_wp2_with fail
    refine (l11Wrong_any R p4 9 5 v4 ys4 _ w4 hr4 (by omega) HO4.out HK4.out (by omega) (by omega)).mono ?_
    rintro e w5 ⟨v5, ys5, p5, rfl, ho5, hk5, f5, g5, hr5, ht5⟩
    have HE : Hid (DrawnXX 10 6 w (.returned (.tuple #[v2, v5])) w5) := ⟨v2, ys2, v5, ys5, rfl, ((HO3.out.touch ht4 hR1).touch ht5 hR1).base (by omega), ho5.base (by omega), HK2.out.up (by omega) (by omega), hk5, after_open hb1 (by omega) (((ht2.trans ht3).trans ht4).trans ht5)⟩
    clear ho5 hk5
    go_wp2
    go_ret2
    exact HE.out
end Go.Proofs.YtbfjbabpeigloabDoor
end

section
namespace Go.Proofs.YtbfjbabpeigloabDoor
open Go.RowKit

set_option maxRecDepth 100000 in
set_option maxHeartbeats 8000000 in
theorem boxesSameS_any (M : Nat) (a1 a2 : Option Addr) (n1 c1 n2 c2 : Nat) (xs ys : List BxA) (w : World) (hx : xs.length = n1) (hy : ys.length = n2) (h1 : RdBs M w a1 xs) (h2 : RdBs M w a2 ys) (hM : M ≤ maxLen) (hn1 : n1 ≤ maxLen) (hn2 : n2 ≤ maxLen) :
    Calls Tryd.prog 26 #[.slice a1 n1 c1, .slice a2 n2 c2] w fun e w' => e = .returned (.bool (decide (xs.map BxA.b = ys.map BxA.b))) ∧ Below w.heap.size w w' := by
  unfold maxLen at hn1 hn2
  have X1 := Lib.hid h1
  have X2 := Lib.hid h2
  have L1 := Lib.hid hx
  have L2 := Lib.hid hy
  clear h1 h2 hx hy
  by_cases hn : n1 = n2
  · subst hn
    have e1 : ((n1 : Int) != (n1 : Int)) = false := by simp
    go_enter Tryd.func26, Tryd.ntmps26
    go_wp2_with fail
    go_loopw [5] (fun i wr => ∃ k : Nat, k ≤ n1 ∧ i = .int .i64 k ∧ Below w.heap.size w wr ∧ (xs.take k).map BxA.b = (ys.take k).map BxA.b) (fun i _ => n1 - (intOf i).toNat)
    case atStart => exact ⟨0, Nat.zero_le _, rfl, Below.refl _ _, rfl⟩
    case round =>
      obtain ⟨k, hk, rfl, hb, htk⟩ := hrel
      have HTK := Lib.hid htk
      clear htk
      by_cases hlt : k < n1
      · have k1 : k < xs.length := by rw [L1.out]; exact hlt
        have k2 : k < ys.length := by rw [L2.out]; exact hlt
        obtain ⟨b1, o1, rfl, hb1, p0, p1, p3⟩ := (X1.out.below hb).at k1
        obtain ⟨b2, o2, rfl, hb2, q0, q1, q3⟩ := (X2.out.below hb).at k2
        have hkn : (k : Int) < (n1 : Int) := by omega
        have hk0 : (0 : Int) ≤ (k : Int) := by omega
        have HT1 := Lib.hid (take_bxs k1)
        have HT2 := Lib.hid (take_bxs k2)
        have HNE := Lib.hid (bxs_ne k1 k2)
        have HRX := Lib.hid p3
        have HRY := Lib.hid q3
        clear p3 q3
        generalize hX : xs[k] = x at *
        generalize hY : ys[k] = y at *
        clear hX hY
        have HCELL : Hid (∀ u, Below wr.heap.size wr u → (u.cell? ⟨b1, o1 + k * 2, none⟩ = some (.string (str x.path)) ∧ u.cell? ⟨b1, o1 + k * 2 + 1, none⟩ = some (.slice x.a x.xs.length x.c)) ∧ u.cell? ⟨b2, o2 + k * 2, none⟩ = some (.string (str y.path)) ∧ u.cell? ⟨b2, o2 + k * 2 + 1, none⟩ = some (.slice y.a y.xs.length y.c)) := fun u hu => ⟨⟨(below_at hu hb1).trans p0, (below_at hu hb1).trans p1⟩, (below_at hu hb2).trans q0, (below_at hu hb2).trans q1⟩
        have zc0 := fun (y : BelowT wr) => (HCELL.out _ y.below).1.1
        have zc1 := fun (y : BelowT wr) => (HCELL.out _ y.below).1.2
        have zc2 := fun (y : BelowT wr) => (HCELL.out _ y.below).2.1
        have zc3 := fun (y : BelowT wr) => (HCELL.out _ y.below).2.2
        clear p0 p1 q0 q1
        have HBE := Lib.hid (Bx.eq_iff x.b y.b)
        have hd1 : ((str x.path).toList != (str y.path).toList) = !decide (str x.path = str y.path) := by rw [bne, beq_dec]
        have hd0 := beq_dec (str x.path) (str y.path)
        cases hg : decide (str x.path = str y.path)
        · have HN : Hid (xs.map BxA.b ≠ ys.map BxA.b) := HNE.out (fun e => of_decide_eq_false hg (HBE.out.1 e).1)
          rw [hg] at hd1 hd0
          generalize str x.path = s1 at *
          generalize str y.path = s2 at *
          go_wp2_with fail
          refine wp_region_quietB (W := wr) (by kernel_rfl) (by kernel_rfl) (Below.refl _ _) ?_
          repeat (go_big_quiet_step (fail))
          refine wpQuiet_nil ?_
          intro wz hwz
          obtain ⟨x9, rfl⟩ := hwz
          have hb9 := x9.below
          clear zc0 zc1 zc2 zc3
          generalize x9.val = w9 at *
          go_wp2
          go_ret
          exact ⟨ret_bool (decide_eq_false HN.out).symm, nx hb hb9⟩
        · have HSE := Lib.hid (of_decide_eq_true hg)
          rw [hg] at hd1 hd0
          clear hg
          generalize hs1 : str x.path = s1 at *
          generalize hs2 : str y.path = s2 at *
          have HS1 := Lib.hid hs1
          have HS2 := Lib.hid hs2
          clear hs1 hs2
          by_cases hln : x.xs.length = y.xs.length
          · have hd2 : ((x.xs.length : Int) != (y.xs.length : Int)) = false := by rw [hln]; simp
            have hd3 : ((x.xs.length : Int) == (y.xs.length : Int)) = true := by rw [hln]; simp
            generalize hm1 : x.xs.length = m1 at *
            generalize hm2 : y.xs.length = m2 at *
            subst hln
            have HM1 := Lib.hid hm1
            have HM2 := Lib.hid hm2
            have hm1b : m1 ≤ maxLen := by have := HRX.out.2.2.1; have e := HM1.out; omega
            unfold maxLen at hm1b
            clear hm1 hm2
            have HW := Lib.hid hb
            go_wp2_with fail
            refine wp_region_quietB (W := wr) (by kernel_rfl) (by kernel_rfl) (Below.refl _ _) ?_
            repeat (go_big_quiet_step (fail))
            refine wpQuiet_nil ?_
            intro wz hwz
            obtain ⟨x9, rfl⟩ := hwz
            have hb9 := x9.below
            clear zc0 zc1 zc2 zc3
            generalize x9.val = w9 at *
            go_wp2_with fail
            go_loopw [6] (fun i wi => ∃ j : Nat, j ≤ m1 ∧ i = .int .i64 j ∧ Below w9.heap.size w9 wi ∧ (x.xs.take j).map (·.m) = (y.xs.take j).map (·.m)) (fun i _ => m1 - (intOf i).toNat)
            case atStart => exact ⟨0, Nat.zero_le _, rfl, Below.refl _ _, rfl⟩
            case round =>
              obtain ⟨j, hj, rfl, hbi9, hmt⟩ := hrel
              have HMT := Lib.hid hmt
              have hbi := nx hb9 hbi9
              clear hmt
              obtain ⟨⟨v0, v1⟩, u0, u1⟩ := HCELL.out _ hbi
              have hlb1 := Nat.lt_of_lt_of_le hb1 hbi.size
              have hlb2 := Nat.lt_of_lt_of_le hb2 hbi.size
              by_cases hjn : j < m1
              · have j1 : j < x.xs.length := by rw [HM1.out]; exact hjn
                have j2 : j < y.xs.length := by rw [HM2.out]; exact hjn
                obtain ⟨b3, o3, ha3, hl3, r0, r1, r2, r3⟩ := ((HRX.out.below hbi).1).at j1
                obtain ⟨b4, o4, ha4, hl4, t0, t1, t2, t3⟩ := ((HRY.out.below hbi).1).at j2
                rw [ha3] at v1
                rw [ha4] at u1
                have hj0 : (0 : Int) ≤ (j : Int) := by omega
                have hjn' : (j : Int) < (m1 : Int) := by omega
                have HC : Hid (∀ yy : BelowT wr, Calls Tryd.prog 55 #[.agg #[.string (str x.xs[j].m.frm), .slice x.xs[j].a1 x.xs[j].m.to.length x.xs[j].c1, .slice x.xs[j].a2 x.xs[j].m.lines.length x.xs[j].c2], .agg #[.string (str y.xs[j].m.frm), .slice y.xs[j].a1 y.xs[j].m.to.length y.xs[j].c1, .slice y.xs[j].a2 y.xs[j].m.lines.length y.xs[j].c2]] yy.val fun e w' => e = .returned (.bool (decide (x.xs[j].m = y.xs[j].m))) ∧ Below yy.val.heap.size yy.val w') := fun yy => mailSameS_any M x.xs[j] y.xs[j] yy.val (r3.below yy.below) (t3.below yy.below) hM
                have z0 : ∀ yy : BelowT wr, yy.val.cell? ⟨b1, o1 + k * 2 + 1, none⟩ = _ := fun yy => by rw [below_at yy.below hlb1, v1]
                have z1 : ∀ yy : BelowT wr, yy.val.cell? ⟨b2, o2 + k * 2 + 1, none⟩ = _ := fun yy => by rw [below_at yy.below hlb2, u1]
                have z2 : ∀ yy : BelowT wr, yy.val.cell? ⟨b3, o3 + j * 3, none⟩ = _ := fun yy => by rw [below_at yy.below hl3, r0]
                have z3 : ∀ yy : BelowT wr, yy.val.cell? ⟨b3, o3 + j * 3 + 1, none⟩ = _ := fun yy => by rw [below_at yy.below hl3, r1]
                have z4 : ∀ yy : BelowT wr, yy.val.cell? ⟨b3, o3 + j * 3 + 2, none⟩ = _ := fun yy => by rw [below_at yy.below hl3, r2]
                have z5 : ∀ yy : BelowT wr, yy.val.cell? ⟨b4, o4 + j * 3, none⟩ = _ := fun yy => by rw [below_at yy.below hl4, t0]
                have z6 : ∀ yy : BelowT wr, yy.val.cell? ⟨b4, o4 + j * 3 + 1, none⟩ = _ := fun yy => by rw [below_at yy.below hl4, t1]
                have z7 : ∀ yy : BelowT wr, yy.val.cell? ⟨b4, o4 + j * 3 + 2, none⟩ = _ := fun yy => by rw [below_at yy.below hl4, t2]
                have HBB := Lib.hid hbi
                have HBB9 := Lib.hid hbi9
                have HU1 := Lib.hid (take_mls j1)
                have HU2 := Lib.hid (take_mls j2)
                have HME := Lib.hid (mls_ne j1 j2)
                clear r0 r1 r2 r3 t0 t1 t2 t3 hbi hbi9 ha3 ha4
                by_cases hq : x.xs[j].m = y.xs[j].m
                · have HN : Hid ((x.xs.take (j + 1)).map (·.m) = (y.xs.take (j + 1)).map (·.m)) := by show _ = _; rw [HU1.out, HU2.out, HMT.out, hq]
                  rw [decide_eq_true hq] at HC
                  clear hq HU1 HU2 HME
                  generalize x.xs[j] = xj at *
                  generalize y.xs[j] = yj at *
                  go_wp2_with fail
                  refine wp_region_quietB (W := wr) (by kernel_rfl) (by kernel_rfl) (Below.refl _ _) ?_
                  repeat (go_big_quiet_step (first
                    | (go_at_call 55; exact calls_belowT (HC.out _))))
                  refine wpQuiet_nil ?_
                  intro wz hwz
                  obtain ⟨x9, rfl⟩ := hwz
                  have hbx := nx HBB9.out x9.below
                  clear z0 z1 z2 z3 z4 z5 z6 z7
                  generalize x9.val = w9 at *
                  go_wp2
                  go_roundw
                  case rel => exact ⟨j + 1, by omega, by go_num, hbx, HN.out⟩
                  case measure => simp [intOf]; omega
                · have HN : Hid (xs.map BxA.b ≠ ys.map BxA.b) := HNE.out (fun e => HME.out hq (HBE.out.1 e).2)
                  rw [decide_eq_false hq] at HC
                  clear hq HU1 HU2 HME
                  generalize x.xs[j] = xj at *
                  generalize y.xs[j] = yj at *
                  go_wp2_with fail
                  refine wp_region_quietB (W := wr) (by kernel_rfl) (by kernel_rfl) (Below.refl _ _) ?_
                  repeat (go_big_quiet_step (first
                    | (go_at_call 55; exact calls_belowT (HC.out _))))
                  refine wpQuiet_nil ?_
                  intro wz hwz
                  obtain ⟨x9, rfl⟩ := hwz
                  have hbx := nx HW.out (nx HBB.out x9.below)
                  clear z0 z1 z2 z3 z4 z5 z6 z7
                  generalize x9.val = w9 at *
                  go_wp2
                  go_ret
                  exact ⟨ret_bool (decide_eq_false HN.out).symm, hbx⟩
              · have HBQ : Hid (x.b = y.b) := HBE.out.2 ⟨by show str x.path = str y.path; rw [HS1.out, HS2.out]; exact HSE.out, mls_all HM1.out HM2.out (by omega) HMT.out⟩
                have HN : Hid ((xs.take (k + 1)).map BxA.b = (ys.take (k + 1)).map BxA.b) := by show _ = _; rw [HT1.out, HT2.out, HTK.out, HBQ.out]
                have hbx := nx HW.out hbi
                generalize x.a = xa at *
                generalize y.a = ya at *
                go_wp2
                go_roundw
                case rel => exact ⟨k + 1, by omega, by go_num, hbx, HN.out⟩
                case measure => simp [intOf]; omega
          · have hd2 : ((x.xs.length : Int) != (y.xs.length : Int)) = true := by rw [bne_iff_ne]; omega
            have hd3 : ((x.xs.length : Int) == (y.xs.length : Int)) = false := by rw [beq_eq_false_iff_ne]; omega
            have HN : Hid (xs.map BxA.b ≠ ys.map BxA.b) := HNE.out (fun e => hln (by have := congrArg List.length (HBE.out.1 e).2; unfold BxA.b at this; simpa using this))
            generalize x.xs.length = m1 at *
            generalize y.xs.length = m2 at *
            go_wp2_with fail
            refine wp_region_quietB (W := wr) (by kernel_rfl) (by kernel_rfl) (Below.refl _ _) ?_
            repeat (go_big_quiet_step (fail))
            refine wpQuiet_nil ?_
            intro wz hwz
            obtain ⟨x9, rfl⟩ := hwz
            have hb9 := x9.below
            clear zc0 zc1 zc2 zc3
            generalize x9.val = w9 at *
            go_wp2
            go_ret
            exact ⟨ret_bool (decide_eq_false HN.out).symm, nx hb hb9⟩
      · have HN : Hid (xs.map BxA.b = ys.map BxA.b) := bxs_all L1.out L2.out (by omega) HTK.out
        go_wp2
        go_ret
        exact ⟨ret_bool (decide_eq_true HN.out).symm, hb⟩
  · have e1 : ((n1 : Int) != (n2 : Int)) = true := by rw [bne_iff_ne]; omega
    have HN : Hid (xs.map BxA.b ≠ ys.map BxA.b) := by show _ ≠ _; intro e; have := congrArg List.length e; rw [List.length_map, List.length_map, L1.out, L2.out] at this; exact hn this
    go_enter Tryd.func26, Tryd.ntmps26
    go_wp2
    go_ret
    exact ⟨ret_bool (decide_eq_false HN.out).symm, Below.refl _ _⟩
end Go.Proofs.YtbfjbabpeigloabDoor
end
