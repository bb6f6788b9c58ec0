/-
  Lists of words: what the program's functions that split return. No statement is proved here.
-/
import Derived.Test.YtjnpkmenlecdmabDoorSplitM
import Derived.Test.YtjnpkmenlecdmabDoorRead
namespace Go.Proofs.YtjnpkmenlecdmabDoor
open Go.RowKit

def strV (l : List UInt8) : Value := .string (str l)
theorem sInfo : (Tryd.prog.info? 9).map (fun i => (i.zero, i.size, i.bytes)) = some (some (.string ⟨#[]⟩), 1, 16) := by kernel_rfl
/-- A row of strings that the call has made: v, of the texts xs, from block B on. -/
def OwnL (B : Nat) (v : Value) (xs : List (List UInt8)) (w : World) : Prop := w.ownsRow B 9 1 v xs.length (xs.map strV)
theorem OwnL.nil (B : Nat) (w : World) : OwnL B (.slice none 0 0) [] w := ⟨rfl, .inl ⟨rfl, rfl⟩⟩
theorem OwnL.empty (w : World) : OwnL w.heap.size (.slice (some ⟨w.heap.size, 0, none⟩) 0 0) [] (w.alloc (.cells #[] 9)) :=
  ⟨rfl, .inr ⟨w.heap.size, 0, #[], rfl, Nat.le_refl _, by show (w.heap.push _)[w.heap.size]? = _; simp, Nat.le_refl _, by unfold maxLen; omega, rfl, rfl⟩⟩
theorem OwnL.keep {B : Nat} {v : Value} {xs : List (List UInt8)} {w w' : World} (h : OwnL B v xs w) (k : Below w.heap.size w w') : OwnL B v xs w' := by
  refine ⟨h.1, ?_⟩
  rcases h.2 with hn | ⟨g, cap, cur, hv, hg1, hg2, rest⟩
  · exact .inl hn
  · refine .inr ⟨g, cap, cur, hv, hg1, ?_, rest⟩
    have hglt : g < w.heap.size := by
      rcases Nat.lt_or_ge g w.heap.size with h' | h'
      · exact h'
      · simp [Array.getElem?_eq_none h'] at hg2
    rw [k.block g hglt, hg2]
theorem OwnL.base {B B' : Nat} {v : Value} {xs : List (List UInt8)} {w : World} (h : OwnL B v xs w) (hB : B' ≤ B) : OwnL B' v xs w := by
  refine ⟨h.1, ?_⟩
  rcases h.2 with hn | ⟨g, cap, cur, hv, hg1, rest⟩
  · exact .inl hn
  · exact .inr ⟨g, cap, cur, hv, Nat.le_trans hB hg1, rest⟩
/-- A slice of strings that reads as the texts xs. -/
def RdL (w : World) (a : Option Addr) (n : Nat) (xs : List (List UInt8)) : Prop := xs.length = n ∧ (n = 0 ∨ ∃ b off, a = some ⟨b, off, none⟩ ∧ b < w.heap.size ∧ ∀ i, (h : i < xs.length) → w.cell? ⟨b, off + i, none⟩ = some (.string (str xs[i])))
theorem RdL.below {w w' : World} {a : Option Addr} {n : Nat} {xs : List (List UInt8)} (h : RdL w a n xs) (k : Below w.heap.size w w') : RdL w' a n xs := by
  refine ⟨h.1, ?_⟩
  rcases h.2 with e | ⟨b, off, ha, hb, hx⟩
  · exact .inl e
  · exact .inr ⟨b, off, ha, Nat.lt_of_lt_of_le hb k.size, fun i hi => by rw [below_at k hb, hx i hi]⟩
theorem OwnL.read {B : Nat} {v : Value} {xs : List (List UInt8)} {w : World} (h : OwnL B v xs w) : ∃ a c, v = .slice a xs.length c ∧ RdL w a xs.length xs ∧ xs.length ≤ maxLen := by
  rcases h.2 with ⟨hv, h0⟩ | ⟨g, cap, cur, hv, hg1, hg2, hn, hc, hsz, htk⟩
  · exact ⟨none, 0, by rw [hv, h0], ⟨rfl, .inl h0⟩, by omega⟩
  · refine ⟨some ⟨g, 0, none⟩, cap, hv, ⟨rfl, .inr ⟨g, 0, rfl, ?_, fun i hi => ?_⟩⟩, by omega⟩
    · rcases Nat.lt_or_ge g w.heap.size with h' | h'
      · exact h'
      · simp [Array.getElem?_eq_none h'] at hg2
    · have := h.cells (g := g) (by rw [hv]; rfl) i (strV xs[i]) (by simp [List.getElem?_map, List.getElem?_eq_getElem hi])
      rw [add0] at this
      rw [Nat.zero_add]; exact this
def spB (c : UInt8) : Bool := decide (c = 32)
def spTo (s : ByteArray) (k : Nat) : Nat := k + run spB (s.data.toList.drop k)
theorem run_at' (p : UInt8 → Bool) (s : ByteArray) (k : Nat) (h : k < s.size) : run p (s.data.toList.drop k) = if p s[k] then run p (s.data.toList.drop (k + 1)) + 1 else 0 := by
  rw [drop_at s k h]; rfl
theorem spTo_le (s : ByteArray) (k : Nat) (hk : k ≤ s.size) : k ≤ spTo s k ∧ spTo s k ≤ s.size := by
  unfold spTo; have := run_le spB (s.data.toList.drop k); rw [List.length_drop, size_list] at this; omega
theorem spTo_stop (s : ByteArray) (k : Nat) (hk : k ≤ s.size) (h : spTo s k < s.size) : s[spTo s k] ≠ 32 := by
  intro e
  have h1 := run_at' spB s k
  unfold spTo at h e
  by_cases hlt : k < s.size
  · cases hs : spB s[k]
    · have hr := h1 hlt
      rw [hs] at hr
      simp only [Bool.false_eq_true, if_false] at hr
      simp only [hr, Nat.add_zero] at e
      rw [spB, e] at hs; simp at hs
    · have hr := h1 hlt
      rw [hs] at hr
      simp only [if_true] at hr
      have e3 : k + run spB (s.data.toList.drop k) = spTo s (k + 1) := by unfold spTo; omega
      have h3 : spTo s (k + 1) < s.size := by omega
      refine spTo_stop s (k + 1) (by omega) h3 ?_
      simp only [e3] at e; exact e
  · omega
termination_by s.size - k
theorem splitW_skip (s : ByteArray) (k : Nat) (hk : k ≤ s.size) : splitW (s.data.toList.drop k) = splitW (s.data.toList.drop (spTo s k)) := by
  by_cases hlt : k < s.size
  · have hr := run_at' spB s k hlt
    cases hs : spB s[k]
    · rw [hs] at hr; simp only [Bool.false_eq_true, if_false] at hr
      unfold spTo; rw [hr]; rfl
    · rw [hs] at hr; simp only [if_true] at hr
      have e3 : spTo s k = spTo s (k + 1) := by unfold spTo; omega
      have e4 : s[k] = 32 := by unfold spB at hs; simpa using hs
      rw [e3, ← splitW_skip s (k + 1) (by omega), drop_at s k hlt, e4, splitW_space]
  · unfold spTo; rw [drop_out s k (by omega)]
    rw [drop_out s _ (by omega)]
termination_by s.size - k
set_option maxRecDepth 100000 in
set_option maxHeartbeats 1000000 in
theorem skipSpaces_any (s : ByteArray) (k0 : Nat) (w : World) (hk0 : k0 ≤ s.size) (hs : s.size ≤ 1073741824) :
    Calls Tryd.prog 40 #[.string s, .int .i64 k0] w fun e w' => e = .returned (.int .i64 (spTo s k0 : Nat)) ∧ w = w' := by
  go_enter Tryd.func40, Tryd.ntmps40
  go_wp2_with fail
  go_loop [1] (fun i => ∃ k : Nat, k0 ≤ k ∧ k ≤ s.size ∧ i = .int .i64 k ∧ spTo s k0 = spTo s k) (fun i => s.size - (intOf i).toNat)
  case atStart => exact ⟨k0, Nat.le_refl _, hk0, rfl, rfl⟩
  case round =>
    obtain ⟨k, hk1, hk, rfl, he⟩ := hrel
    have HE := Lib.hid he
    clear he
    by_cases hlt : k < s.size
    · have hr := run_at' spB s k hlt
      by_cases ha : s[k] = 32
      · have HR : Hid (spTo s k0 = spTo s (k + 1)) := by
          show _ = _
          rw [HE.out]; unfold spTo; rw [hr, if_pos (by unfold spB; simpa using ha)]; omega
        have e1 := beq_t ha (n := 32) rfl
        clear ha hr
        go_wp2
        go_round
        case rel => exact ⟨k + 1, by omega, by omega, by go_num, HR.out⟩
        case measure => simp [intOf]; omega
      · have HR : Hid (spTo s k0 = k) := by
          show _ = _
          rw [HE.out]; unfold spTo; rw [hr, if_neg (by unfold spB; simpa using ha)]; rfl
        have e1 := beq_f ha (n := 32) rfl
        clear ha hr
        go_wp2
        go_ret
        exact ⟨ret_int (by rw [HR.out]), rfl⟩
    · have HR : Hid (spTo s k0 = k) := by show _ = _; rw [HE.out]; unfold spTo; rw [drop_out s k (by omega)]; rfl
      go_wp2
      go_ret
      exact ⟨ret_int (by rw [HR.out]), rfl⟩
def WordRet (s : ByteArray) (a : Nat) (w : World) (e : Ending) (w' : World) : Prop :=
  (∀ t k, wordAt (s.data.toList.drop a) = some (t, k) → e = .returned (.tuple #[.string (str t), .int .i64 ((a + k : Nat) : Int), .bool true])) ∧
  (wordAt (s.data.toList.drop a) = none → ∃ x q, e = .returned (.tuple #[.string x, .int .i64 q, .bool false])) ∧ Below w.heap.size w w'
theorem wordRet_some {s : ByteArray} {a k : Nat} {w w' : World} {t : List UInt8} {x : ByteArray} {q : Int} {b : Bool} (h : wordAt (s.data.toList.drop a) = some (t, k)) (hx : x = str t) (hq : q = ((a + k : Nat) : Int)) (hbt : b = true) (hb : Below w.heap.size w w') : WordRet s a w (.returned (.tuple #[.string x, .int .i64 q, .bool b])) w' := by
  refine ⟨fun t' k' h' => ?_, fun h' => ?_, hb⟩
  · rw [h] at h'; injection h' with h'; injection h' with h1 h2; subst h1 h2; rw [hx, hq, hbt]
  · rw [h] at h'; cases h'
theorem wordRet_none {s : ByteArray} {a : Nat} {w w' : World} {x : ByteArray} {q : Int} {b : Bool} (h : wordAt (s.data.toList.drop a) = none) (hbt : b = false) (hb : Below w.heap.size w w') : WordRet s a w (.returned (.tuple #[.string x, .int .i64 q, .bool b])) w' := by
  refine ⟨fun t' k' h' => ?_, fun _ => ⟨x, q, by rw [hbt]⟩, hb⟩
  rw [h] at h'; cases h'
set_option maxRecDepth 100000 in
set_option maxHeartbeats 2000000 in
theorem readWord_any (s : ByteArray) (a : Nat) (w : World) (tab : Tab w) (ha : a < s.size) (hs : s.size ≤ 1073741824) :
    Calls Tryd.prog 41 #[.string s, .int .i64 a] w (WordRet s a w) := by
  have HD := Lib.hid (drop_at s a ha)
  by_cases h34 : s[a] = 34
  · have HW : Hid (wordAt (s.data.toList.drop a) = (readQ (s.data.toList.drop (a + 1))).map fun x => (x.1, (s.data.toList.drop (a + 1)).length + 1 - x.2.length)) := by
      show _ = _
      rw [HD.out, h34, wordAt_cons, if_pos rfl]
    have e1 := beq_t h34 (n := 34) rfl
    clear h34
    go_enter Tryd.func41, Tryd.ntmps41
    go_wp2_with fail
    refine (readQuoted_any s a _ ha hs).mono ?_
    rintro e w1 ⟨hy, hno, hb⟩
    cases hr : readQ (s.data.toList.drop (a + 1))
    · obtain rfl := hno hr
      have HN : Hid (wordAt (s.data.toList.drop a) = none) := by show _ = _; rw [HW.out, hr]; rfl
      clear hy hno hr
      go_wp2
      go_ret3
      exact wordRet_none HN.out rfl hb
    · rename_i x
      obtain ⟨t, r⟩ := x
      obtain rfl := hy t r hr
      have hbd := readQ_bound _ _ _ hr
      rw [List.length_drop, size_list] at hbd
      have HS : Hid (wordAt (s.data.toList.drop a) = some (t, s.size - a - r.length)) := by
        show _ = _
        rw [HW.out, hr, List.length_drop, size_list]
        simp only [Option.map_some]
        congr 2; omega
      clear hy hno hr
      go_wp2
      go_ret3
      exact wordRet_some HS.out rfl (by omega) rfl hb
  · have e1 := beq_f h34 (n := 34) rfl
    have HW : Hid (wordAt (s.data.toList.drop a) = if run atomB (s.data.toList.drop a) = 0 then none else some ((s.data.toList.drop a).take (run atomB (s.data.toList.drop a)), run atomB (s.data.toList.drop a))) := by
      show _ = _
      rw [HD.out, wordAt_cons, if_neg h34]
    have hr := run_le atomB (s.data.toList.drop a)
    rw [List.length_drop, size_list] at hr
    clear h34
    go_enter Tryd.func41, Tryd.ntmps41
    go_wp2_with fail
    refine (atomEnd_any s a _ tab (by omega) (by unfold maxLen; omega)).mono ?_
    rintro e w1 ⟨rfl, hb⟩
    unfold atomTo
    generalize hk : run atomB (s.data.toList.drop a) = k at *
    have HK := Lib.hid hk
    clear hk
    by_cases h0 : k = 0
    · have d0 : decide ((a : Int) < ((a + k : Nat) : Int)) = false := by simp; omega
      have HN : Hid (wordAt (s.data.toList.drop a) = none) := by show _ = _; rw [HW.out, if_pos h0]
      go_wp2
      go_ret3
      exact wordRet_none HN.out (by simp) hb
    · have HS : Hid (wordAt (s.data.toList.drop a) = some ((s.data.toList.drop a).take k, k)) := by show _ = _; rw [HW.out, if_neg h0]
      have HX : Hid (s.extract a (a + k) = str ((s.data.toList.drop a).take k)) := by
        show _ = _
        apply bytes_ext; rw [Lib.extract_data, str_list, show a + k - a = k by omega]
      go_wp2
      go_ret3
      exact wordRet_some HS.out HX.out (by omega) (by simp; omega) hb
/-- The words of a text, where they stand so; no text has none. -/
def fullW (l : List UInt8) : Option (List (List UInt8)) := if isText l then splitW l else none
def spL (l : List UInt8) : List (List UInt8) := (fullW l).getD []
def spO (l : List UInt8) : Bool := (fullW l).isSome
def SplitRet (s : ByteArray) (w : World) (e : Ending) (w' : World) : Prop := ∃ v, e = .returned (.tuple #[v, .bool (spO s.data.toList)]) ∧ OwnL w.heap.size v (spL s.data.toList) w' ∧ Below w.heap.size w w'
theorem splitRet_none {s : ByteArray} {w w' : World} {v : Value} (h : fullW s.data.toList = none) (ho : OwnL w.heap.size v [] w') (hb : Below w.heap.size w w') : SplitRet s w (.returned (.tuple #[v, .bool false])) w' := by
  refine ⟨v, ?_, ?_, hb⟩
  · unfold spO; rw [h]; rfl
  · unfold spL; rw [h]; exact ho
theorem splitRet_some {s : ByteArray} {w w' : World} {v : Value} {xs : List (List UInt8)} (h : fullW s.data.toList = some xs) (ho : OwnL w.heap.size v xs w') (hb : Below w.heap.size w w') : SplitRet s w (.returned (.tuple #[v, .bool true])) w' := by
  refine ⟨v, ?_, ?_, hb⟩
  · unfold spO; rw [h]; rfl
  · unfold spL; rw [h]; exact ho
def goesS (s : ByteArray) (k : Nat) (acc : List (List UInt8)) : Prop := splitW s.data.toList = (splitW (s.data.toList.drop k)).map (acc ++ ·)
theorem goesS_start (s : ByteArray) : goesS s 0 [] := by unfold goesS; rw [List.drop_zero]; cases splitW s.data.toList <;> simp
theorem goesS_skip {s : ByteArray} {k : Nat} {acc : List (List UInt8)} (h : goesS s k acc) (hk : k ≤ s.size) : goesS s (spTo s k) acc := by
  unfold goesS at h ⊢; rw [h, splitW_skip s k hk]
theorem goesS_end {s : ByteArray} {k : Nat} {acc : List (List UInt8)} (h : goesS s k acc) (hk : s.size ≤ k) : splitW s.data.toList = some acc := by
  unfold goesS at h; rw [h, drop_out s k hk, splitW_nil]; simp
theorem goesS_none {s : ByteArray} {k : Nat} {acc : List (List UInt8)} (h : goesS s k acc) (hk : k < s.size) (hc : s[k] ≠ 32) (hw : wordAt (s.data.toList.drop k) = none) : splitW s.data.toList = none := by
  unfold goesS at h; rw [h, splitW_none (drop_at s k hk) hc hw]; rfl
theorem goesS_stuck {s : ByteArray} {k j : Nat} {acc : List (List UInt8)} {t : List UInt8} (h : goesS s k acc) (hk : k < s.size) (hc : s[k] ≠ 32) (hw : wordAt (s.data.toList.drop k) = some (t, j)) (hj : k + j < s.size) (h2 : s[k + j] ≠ 32) : splitW s.data.toList = none := by
  unfold goesS at h
  rw [h, splitW_stuck (drop_at s k hk) hc hw (by rw [List.drop_drop]; exact drop_at s (k + j) hj) h2]; rfl
theorem goesS_word {s : ByteArray} {k j : Nat} {acc : List (List UInt8)} {t : List UInt8} (h : goesS s k acc) (hk : k < s.size) (hc : s[k] ≠ 32) (hw : wordAt (s.data.toList.drop k) = some (t, j)) (h2 : s.size ≤ k + j ∨ ∃ hj : k + j < s.size, s[k + j] = 32) : goesS s (k + j) (acc ++ [t]) := by
  unfold goesS at h ⊢
  rcases h2 with h2 | ⟨hj, h2⟩
  · rw [h, splitW_last (drop_at s k hk) hc hw (by rw [List.drop_drop]; exact drop_out s _ h2), drop_out s _ h2, splitW_nil]; simp
  · have hd : (s.data.toList.drop k).drop j = 32 :: s.data.toList.drop (k + j + 1) := by rw [List.drop_drop, drop_at s (k + j) hj, h2]
    rw [h, splitW_more (drop_at s k hk) hc hw hd, drop_at s (k + j) hj, h2]
    cases splitW (32 :: s.data.toList.drop (k + j + 1)) <;> simp
theorem fullW_text {l : List UInt8} (h : isText l = true) : fullW l = splitW l := by unfold fullW; rw [if_pos h]
theorem fullW_no {l : List UInt8} (h : isText l = false) : fullW l = none := by unfold fullW; rw [if_neg (by simp [h])]
set_option maxRecDepth 100000 in
set_option maxHeartbeats 4000000 in
theorem splitWords_any (s : ByteArray) (w : World) (tab : Tab w) (hs : s.size ≤ 1073741824) :
    Calls Tryd.prog 11 #[.string s] w (SplitRet s w) := by
  cases htx : isText s.data.toList
  · have HF := Lib.hid (fullW_no htx)
    have HX := Lib.hid htx
    clear htx
    go_enter Tryd.func11, Tryd.ntmps11
    go_wp2_with fail
    refine (textValid_any s _ (by unfold maxLen; omega)).mono ?_
    rintro e w1 ⟨rfl, rfl⟩
    rw [HX.out]
    go_wp2
    go_ret2
    exact splitRet_none HF.out (OwnL.nil _ _) (Below.refl _ _)
  · have HF := Lib.hid (fullW_text htx)
    have HX := Lib.hid htx
    clear htx
    obtain ⟨i0, hi, hz0, hz1, hz2⟩ := info_parts sInfo
    go_enter Tryd.func11, Tryd.ntmps11
    go_wp2_with fail
    refine (textValid_any s _ (by unfold maxLen; omega)).mono ?_
    rintro e w1 ⟨rfl, rfl⟩
    rw [HX.out]
    go_wp2_with fail
    refine (skipSpaces_any s 0 _ (by omega) hs).mono ?_
    rintro e w1 ⟨rfl, rfl⟩
    have hsp := spTo_le s 0 (by omega)
    have HST := Lib.hid (spTo_stop s 0 (by omega))
    have HGS := Lib.hid (goesS_skip (goesS_start s) (by omega))
    generalize spTo s 0 = k0 at *
    go_wp2_with fail
    go_loopw [4, 5] (fun v i wr => ∃ (k : Nat) (acc : List (List UInt8)), k ≤ s.size ∧ i = .int .i64 k ∧ acc.length ≤ k ∧ goesS s k acc ∧ (∀ h : k < s.size, s[k] ≠ 32) ∧ OwnL w.heap.size v acc wr ∧ Below w.heap.size w wr) (fun _ i _ => s.size - (intOf i).toNat)
    case atStart => exact ⟨k0, [], hsp.2, rfl, Nat.zero_le _, HGS.out, HST.out, OwnL.nil _ _, Below.refl _ _⟩
    case round =>
      obtain ⟨k, acc, hk, rfl, hal, hg, hc, hown, hb⟩ := hrel
      have HG := Lib.hid hg
      have HC := Lib.hid hc
      clear hg hc
      by_cases hlt : k < s.size
      · go_wp2_with fail
        refine (readWord_any s k _ (tab.below hb) hlt hs).mono ?_
        rintro e w1 ⟨hy, hno, hb1⟩
        cases hw : wordAt (s.data.toList.drop k)
        · obtain ⟨x, q, rfl⟩ := hno hw
          have HR := Lib.hid (goesS_none HG.out hlt (HC.out hlt) hw)
          clear hy hno hw
          go_wp2
          go_ret2
          exact splitRet_none (by rw [HF.out, HR.out]) (OwnL.nil _ _) (nx hb hb1)
        · rename_i x
          obtain ⟨t, j⟩ := x
          obtain rfl := hy t j hw
          have hwb := wordAt_bound hw
          rw [List.length_drop, size_list] at hwb
          have HW := Lib.hid hw
          clear hy hno hw
          have hown1 := hown.keep hb1
          have hb2 := nx hb hb1
          have ealen : (acc.map strV).length = acc.length := List.length_map _
          unfold OwnL at hown1
          clear ealen
          by_cases hj : k + j < s.size
          · by_cases h32 : s[k + j] = 32
            · have HN := Lib.hid (goesS_skip (goesS_word HG.out hlt (HC.out hlt) HW.out (.inr ⟨hj, h32⟩)) (by omega))
              have e1 : ((s[k + j].toNat : Int) != 32) = false := by rw [h32]; rfl
              have HST2 := Lib.hid (spTo_stop s (k + j) (by omega))
              have hsp2 := spTo_le s (k + j) (by omega)
              clear h32
              go_wp2_with (at_builtin; refine wpList_append_own _ rfl _ _ 22 rfl w.heap.size 9 i0 (.string ⟨#[]⟩) 1 16 Tryd.underlying22 hi hz0 hz1 hz2 rfl (by decide) _ _ _ rfl (hown1.alloc _) ⟨w1.heap.size, 0, none⟩ 1 1 [.string (str t)] rfl rfl ?c1 ?c2 ?c3 ?c4 ?c5 ?_)
              case c1 =>
                intro j u hj
                match j, hj with
                | 0, hj => simp at hj; subst hj; simp [Addr.add]
              case c2 => intro u hu; simp at hu; subst hu; rfl
              case c3 => unfold maxLen; omega
              case c4 => omega
              case c5 => have := hb2.size; simp; omega
              intro v' w2 hown' hgrow _
              have hO2 : OwnL w.heap.size v' (acc ++ [t]) w2 := by unfold OwnL; simpa [strV] using hown'
              have hb3 : Below w.heap.size w w2 := (hb2.alloc (by have := hb2.size; omega) _).grown hgrow (by have := hb2.size; simp; omega) (fun k hk => (hown1.lt k hk).1)
              go_wp2_with fail
              refine (skipSpaces_any s (k + j) _ (by omega) hs).mono ?_
              rintro e w3 ⟨rfl, rfl⟩
              generalize spTo s (k + j) = k2 at *
              go_wp2
              go_roundw
              case rel => exact ⟨k2, _, by omega, rfl, by simp; omega, HN.out, HST2.out, hO2, hb3⟩
              case measure => simp [intOf]; omega
            · have HR := Lib.hid (goesS_stuck HG.out hlt (HC.out hlt) HW.out hj h32)
              have e1 : ((s[k + j].toNat : Int) != 32) = true := by rw [bne_iff_ne]; intro e; exact h32 (UInt8.toNat_inj.1 (by simp; omega))
              clear h32
              go_wp2
              go_ret2
              exact splitRet_none (by rw [HF.out, HR.out]) (OwnL.nil _ _) hb2
          · have HN := Lib.hid (goesS_word HG.out hlt (HC.out hlt) HW.out (.inl (by omega)))
            have hkj : k + j = s.size := by omega
            have hsp2 : spTo s (k + j) = s.size := by unfold spTo; rw [drop_out s _ (by omega), hkj]; rfl
            have HSP := Lib.hid hsp2
            have HKJ := Lib.hid hkj
            clear hsp2 hkj
            go_wp2_with (at_builtin; refine wpList_append_own _ rfl _ _ 22 rfl w.heap.size 9 i0 (.string ⟨#[]⟩) 1 16 Tryd.underlying22 hi hz0 hz1 hz2 rfl (by decide) _ _ _ rfl (hown1.alloc _) ⟨w1.heap.size, 0, none⟩ 1 1 [.string (str t)] rfl rfl ?e1 ?e2 ?e3 ?e4 ?e5 ?_)
            case e2 => rfl
            case e3 => unfold maxLen; omega
            case e4 => omega
            case e5 => have := hb2.size; simp; omega
            intro v' w2 hown' hgrow _
            have hO2 : OwnL w.heap.size v' (acc ++ [t]) w2 := by unfold OwnL; simpa [strV] using hown'
            have hb3 : Below w.heap.size w w2 := (hb2.alloc (by have := hb2.size; omega) _).grown hgrow (by have := hb2.size; simp; omega) (fun k hk => (hown1.lt k hk).1)
            go_wp2_with fail
            refine (skipSpaces_any s (k + j) _ (by omega) hs).mono ?_
            rintro e w3 ⟨rfl, rfl⟩
            rw [HSP.out]
            go_wp2
            go_roundw
            case rel => exact ⟨s.size, _, Nat.le_refl _, rfl, by simp; omega, (by have h := HN.out; rw [HKJ.out] at h; exact h), fun h => absurd h (Nat.lt_irrefl _), hO2, hb3⟩
            case measure => simp [intOf]; omega
      · have HR := Lib.hid (goesS_end HG.out (by omega))
        go_wp2
        go_ret2
        exact splitRet_some (by rw [HF.out, HR.out]) hown hb
end Go.Proofs.YtjnpkmenlecdmabDoor
