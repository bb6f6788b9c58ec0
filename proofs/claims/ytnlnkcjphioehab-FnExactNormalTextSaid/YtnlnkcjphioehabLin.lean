/-
  Lines with points: what the program's functions return. No statement is proved here.
-/
import Derived.Test.YtnlnkcjphioehabLinX
import Derived.Lib.TrimByte
namespace Go.Proofs.Ytnlnkcjphioehab
open Go.RowKit

/-- The byte before a place is a carriage return. -/
def prevW (l : List UInt8) : Nat → Bool
  | 0 => false
  | k + 1 => l[k]? == some 13
theorem prevW_succ {l : List UInt8} {k : Nat} (h : k < l.length) : prevW l (k + 1) = (l[k] == 13) := by
  show (l[k]? == some 13) = _; rw [List.getElem?_eq_getElem h]; rfl
theorem norm_at {l : List UInt8} {k : Nat} (h : k < l.length) : normG (prevW l k) (l.drop k) = (if bareB (prevW l k) l[k] (l.drop (k + 1)) = true then [13, 10] else [l[k]]) ++ normG (prevW l (k + 1)) (l.drop (k + 1)) := by
  rw [List.drop_eq_getElem_cons h, prevW_succ h]; rfl
theorem cnt_at {l : List UInt8} {k : Nat} (h : k < l.length) : cntG (prevW l k) (l.drop k) = (if bareB (prevW l k) l[k] (l.drop (k + 1)) = true then 1 else 0) + cntG (prevW l (k + 1)) (l.drop (k + 1)) := by
  rw [List.drop_eq_getElem_cons h, prevW_succ h]; rfl
theorem head_drop (l : List UInt8) (k : Nat) : (l.drop k).head? = l[k]? := by rw [List.head?_eq_getElem?, List.getElem?_drop]; rfl
set_option maxRecDepth 100000 in
set_option maxHeartbeats 1000000 in
theorem isBare_any (s : ByteArray) (k : Nat) (w : World) (hk : k < s.size) (hs : s.size ≤ 1073741824) :
    Calls Try.prog 33 #[.string s, .int .i64 k] w fun e w' => e = .returned (.bool (bareB (prevW s.data.toList k) (s[k]) (s.data.toList.drop (k + 1)))) ∧ w = w' := by
  have hkl : k < s.data.toList.length := by rw [size_list]; exact hk
  by_cases h13 : s[k] = 13
  · have e13 := beqW_t h13 (n := 13) rfl
    by_cases hl : k + 1 = s.size
    · have HB : Hid (bareB (prevW s.data.toList k) (s[k]) (s.data.toList.drop (k + 1)) = true) := by
        show _ = _
        unfold bareB; rw [h13, head_drop, List.getElem?_eq_none (by rw [size_list]; omega)]; rfl
      have d1 : ((k : Int) + 1 == (s.size : Int)) = true := by simp; omega
      clear h13
      go_enter Try.func33, Try.ntmps33
      go_wp2
      go_ret
      exact ⟨ret_bool HB.out.symm, rfl⟩
    · have hlt : k + 1 < s.size := by omega
      have d1 : ((k : Int) + 1 == (s.size : Int)) = false := by simp; omega
      have hg : s.data.toList[k + 1]? = some s[k + 1] := by rw [List.getElem?_eq_getElem (by rw [size_list]; exact hlt), getElem_list]
      by_cases h10 : s[k + 1] = 10
      · have HB : Hid (bareB (prevW s.data.toList k) (s[k]) (s.data.toList.drop (k + 1)) = false) := by
          show _ = _
          unfold bareB; rw [h13, head_drop, hg, h10]; rfl
        have e10 := bneW_f h10 (n := 10) rfl
        clear h13 h10 hg
        go_enter Try.func33, Try.ntmps33
        go_wp2
        go_ret
        exact ⟨ret_bool HB.out.symm, rfl⟩
      · have HB : Hid (bareB (prevW s.data.toList k) (s[k]) (s.data.toList.drop (k + 1)) = true) := by
          show _ = _
          unfold bareB; rw [h13, head_drop, hg, show ((some s[k + 1] : Option UInt8) == some 10) = false from by simpa using h10]; rfl
        have e10 := bneW_t h10 (n := 10) rfl
        clear h13 h10 hg
        go_enter Try.func33, Try.ntmps33
        go_wp2
        go_ret
        exact ⟨ret_bool HB.out.symm, rfl⟩
  · have e13 := beqW_f h13 (n := 13) rfl
    have f13 : (s[k] == (13 : UInt8)) = false := by simpa using h13
    by_cases h10 : s[k] = 10
    · have e10 := beqW_t h10 (n := 10) rfl
      have f10 : (s[k] == (10 : UInt8)) = true := by simpa using h10
      by_cases h0 : k = 0
      · have HB : Hid (bareB (prevW s.data.toList k) (s[k]) (s.data.toList.drop (k + 1)) = true) := by
          show _ = _
          unfold bareB; rw [f13, f10, h0]; rfl
        have d0 : ((k : Int) == 0) = true := by simp; omega
        clear h13 h10 f13 f10 h0
        go_enter Try.func33, Try.ntmps33
        go_wp2
        go_ret
        exact ⟨ret_bool HB.out.symm, rfl⟩
      · have d0 : ((k : Int) == 0) = false := by simp; omega
        have hk1 : k - 1 < s.size := by omega
        have hg : s.data.toList[k - 1]? = some s[k - 1] := by rw [List.getElem?_eq_getElem (by rw [size_list]; exact hk1), getElem_list]
        have hp : prevW s.data.toList k = (s[k - 1] == 13) := by
          obtain ⟨j, rfl⟩ : ∃ j, k = j + 1 := ⟨k - 1, by omega⟩
          unfold prevW; simp only [Nat.add_sub_cancel] at hg ⊢; rw [hg]; rfl
        have hkk : (k : Int) - 1 = ((k - 1 : Nat) : Int) := by omega
        by_cases p13 : s[k - 1] = 13
        · have HB : Hid (bareB (prevW s.data.toList k) (s[k]) (s.data.toList.drop (k + 1)) = false) := by
            show _ = _
            unfold bareB; rw [f13, f10, hp, p13]; rfl
          have e9 := bneW_f p13 (n := 13) rfl
          clear h13 h10 f13 f10 h0 hg hp p13
          generalize hj : k - 1 = j at *
          go_enter Try.func33, Try.ntmps33
          go_wp2
          go_ret
          exact ⟨ret_bool HB.out.symm, rfl⟩
        · have HB : Hid (bareB (prevW s.data.toList k) (s[k]) (s.data.toList.drop (k + 1)) = true) := by
            show _ = _
            unfold bareB; rw [f13, f10, hp, show (s[k - 1] == (13 : UInt8)) = false from by simpa using p13]; rfl
          have e9 := bneW_t p13 (n := 13) rfl
          clear h13 h10 f13 f10 h0 hg hp p13
          generalize hj : k - 1 = j at *
          go_enter Try.func33, Try.ntmps33
          go_wp2
          go_ret
          exact ⟨ret_bool HB.out.symm, rfl⟩
    · have e10 := beqW_f h10 (n := 10) rfl
      have HB : Hid (bareB (prevW s.data.toList k) (s[k]) (s.data.toList.drop (k + 1)) = false) := by
        show _ = _
        unfold bareB; rw [f13, show (s[k] == (10 : UInt8)) = false from by simpa using h10]; rfl
      clear h13 h10 f13
      go_enter Try.func33, Try.ntmps33
      go_wp2
      go_ret
      exact ⟨ret_bool HB.out.symm, rfl⟩
set_option maxRecDepth 100000 in
set_option maxHeartbeats 1000000 in
theorem countBare_any (s : ByteArray) (w : World) (hs : s.size ≤ 1073741824) :
    Calls Try.prog 20 #[.string s] w fun e w' => e = .returned (.int .i64 (cntG false s.data.toList : Nat)) ∧ w = w' := by
  have HLE := Lib.hid (fun k => cnt_le (s.data.toList.drop k) (prevW s.data.toList k))
  go_enter Try.func20, Try.ntmps20
  go_wp2_with fail
  go_loop [3, 7] (fun c i => ∃ k n : Nat, k ≤ s.size ∧ i = .int .i64 k ∧ c = .int .i64 n ∧ n ≤ k ∧ cntG false s.data.toList = n + cntG (prevW s.data.toList k) (s.data.toList.drop k)) (fun _ i => s.size - (intOf i).toNat)
  case atStart => exact ⟨0, 0, Nat.zero_le _, rfl, rfl, Nat.le_refl _, by rw [List.drop_zero]; simp [prevW]⟩
  case round =>
    obtain ⟨k, n, hk, rfl, rfl, hn, hg⟩ := hrel
    by_cases hlt : k < s.size
    · have HA : Hid (cntG false s.data.toList = n + ((if bareB (prevW s.data.toList k) s[k] (s.data.toList.drop (k + 1)) = true then 1 else 0) + cntG (prevW s.data.toList (k + 1)) (s.data.toList.drop (k + 1)))) := by
        show _ = _
        rw [hg, cnt_at (by rw [size_list]; exact hlt), getElem_list]
      have HI := Lib.hid (fun u => isBare_any s k u hlt hs)
      clear hg
      generalize bareB (prevW s.data.toList k) s[k] (s.data.toList.drop (k + 1)) = b at *
      cases b
      · go_wp2_with fail
        refine (HI.out _).mono ?_
        rintro e w1 ⟨rfl, rfl⟩
        go_wp2
        go_round
        case rel => exact ⟨k + 1, n, by omega, by go_num, rfl, by omega, by have := HA.out; simp only [Bool.false_eq_true, if_false] at this; omega⟩
        case measure => simp [intOf]; omega
      · go_wp2_with fail
        refine (HI.out _).mono ?_
        rintro e w1 ⟨rfl, rfl⟩
        go_wp2
        go_round
        case rel => exact ⟨k + 1, n + 1, by omega, by go_num, by go_num, by omega, by have := HA.out; simp only [if_true] at this; omega⟩
        case measure => simp [intOf]; omega
    · have HE : Hid (cntG false s.data.toList = n) := by
        show _ = _
        rw [hg, List.drop_of_length_le (by rw [size_list]; omega)]; simp [cntG]
      clear hg
      go_wp2
      go_ret
      exact ⟨ret_int (by rw [HE.out]), rfl⟩
set_option maxRecDepth 100000 in
set_option maxHeartbeats 2000000 in
theorem normalText_any (s : ByteArray) (w : World) (hs : s.size ≤ 1073741824) :
    Calls Try.prog 18 #[.string s] w fun e w' => e = .returned (.string (str (normG false s.data.toList))) ∧ Below w.heap.size w w' := by
  go_enter Try.func18, Try.ntmps18
  go_wp2_with fail
  go_loopw [4] (fun i wr => ∃ (k : Nat) (acc : List UInt8), k ≤ s.size ∧ i = .int .i64 k ∧ acc.length ≤ 2 * k ∧ normG false s.data.toList = acc ++ normG (prevW s.data.toList k) (s.data.toList.drop k) ∧ Bld w.heap.size w.heap.size acc wr ∧ Below w.heap.size w wr) (fun i _ => s.size - (intOf i).toNat)
  case atStart => exact ⟨0, [], Nat.zero_le _, rfl, by simp, by rw [List.drop_zero]; simp [prevW], bld_fresh w, (Below.refl _ _).alloc (Nat.le_refl _) _⟩
  case round =>
    obtain ⟨k, acc, hk, rfl, hal, hg, hB, hb⟩ := hrel
    by_cases hlt : k < s.size
    · have HA : Hid (normG false s.data.toList = acc ++ ((if bareB (prevW s.data.toList k) s[k] (s.data.toList.drop (k + 1)) = true then [13, 10] else [s[k]]) ++ normG (prevW s.data.toList (k + 1)) (s.data.toList.drop (k + 1)))) := by
        show _ = _
        rw [hg, norm_at (by rw [size_list]; exact hlt), getElem_list]
      have HI := Lib.hid (fun u => isBare_any s k u hlt hs)
      clear hg
      generalize bareB (prevW s.data.toList k) s[k] (s.data.toList.drop (k + 1)) = b at *
      have hc2 : (ByteArray.mk #[13, 10]).size = 2 := rfl
      cases b
      · go_wp2_with fail
        refine (HI.out _).mono ?_
        rintro e w1 ⟨rfl, rfl⟩
        go_wp2_with fail
        refine (writeByte_any w.heap.size w.heap.size acc s[k] _ hB (by omega)).mono ?_
        rintro e w2 ⟨rfl, hB2, hb2⟩
        have hb3 := hb.trans hb2
        go_wp2
        go_roundw
        case rel => exact ⟨k + 1, acc ++ [s[k]], by omega, by go_num, by simp; omega, by have := HA.out; simp only [Bool.false_eq_true, if_false] at this; rw [this]; simp, hB2, hb3⟩
        case measure => simp [intOf]; omega
      · go_wp2_with fail
        refine (HI.out _).mono ?_
        rintro e w1 ⟨rfl, rfl⟩
        go_wp2_with fail
        refine (writeString_any w.heap.size w.heap.size acc ⟨#[13, 10]⟩ _ hB (by omega)).mono ?_
        rintro e w2 ⟨rfl, hB2, hb2⟩
        have hb3 := hb.trans hb2
        go_wp2
        go_roundw
        case rel => exact ⟨k + 1, acc ++ [13, 10], by omega, by go_num, by simp; omega, by have := HA.out; simp only [if_true] at this; rw [this]; simp, hB2, hb3⟩
        case measure => simp [intOf]; omega
    · have HE : Hid (normG false s.data.toList = acc) := by
        show _ = _
        rw [hg, List.drop_of_length_le (by rw [size_list]; omega)]; simp [normG]
      clear hg
      go_wp2_with fail
      refine (bString_any w.heap.size w.heap.size acc _ hB).mono ?_
      rintro e w2 ⟨rfl, hb2⟩
      go_wp2
      go_ret
      exact ⟨ret_str (by rw [HE.out]), hb.trans hb2⟩
set_option maxRecDepth 100000 in
set_option maxHeartbeats 400000 in
theorem stuffLine_any (s : ByteArray) (w : World) (hs : s.size ≤ 1073741824) :
    Calls Try.prog 27 #[.string s] w fun e w' => e = .returned (.string (str (stuP s.data.toList))) ∧ w = w' := by
  have HP := Lib.hid (fun u => hasPre46_any s u)
  have z1 : (ByteArray.mk #[46]).size = 1 := rfl
  by_cases h : s.data.toList.head? = some 46
  · have HE : Hid ((ByteArray.mk #[46]) ++ s = str (stuP s.data.toList)) := by
      show _ = _
      apply bytes_ext; rw [str_list, Joins.data_append]; unfold stuP; rw [if_pos h]; rfl
    rw [decide_eq_true h] at HP
    clear h
    go_enter Try.func27, Try.ntmps27
    go_wp2_with fail
    refine (HP.out _).mono ?_
    rintro e w1 ⟨rfl, rfl⟩
    go_wp2
    go_ret
    exact ⟨ret_str HE.out, rfl⟩
  · have HE : Hid (s = str (stuP s.data.toList)) := by show _ = _; unfold stuP; rw [if_neg h]; exact (str_of s).symm
    rw [decide_eq_false h] at HP
    clear h
    go_enter Try.func27, Try.ntmps27
    go_wp2_with fail
    refine (HP.out _).mono ?_
    rintro e w1 ⟨rfl, rfl⟩
    go_wp2
    go_ret
    exact ⟨ret_str HE.out, rfl⟩
theorem unstuffLine_any (s : ByteArray) (w : World) :
    Calls Try.prog 31 #[.string s] w fun e w' => e = .returned (.string (str (unP s.data.toList))) ∧ w = w' := by
  go_enter Try.func31, Try.ntmps31
  go_wp2_with fail
  refine (trimPre46_any s _).mono ?_
  rintro e w1 ⟨rfl, rfl⟩
  go_wp2
  go_ret
  exact ⟨rfl, rfl⟩
/-- Lines, what is behind them, and whether there are any. -/
def UnsRet (o : Option (List (List UInt8) × List UInt8)) (w : World) (e : Ending) (w' : World) : Prop := ∃ v, e = .returned (.tuple #[v, .string (str (o.getD ([], [])).2), .bool o.isSome]) ∧ OwnL w.heap.size v (o.getD ([], [])).1 w' ∧ Below w.heap.size w w'
theorem unsRet_none {o : Option (List (List UInt8) × List UInt8)} {w w' : World} {v : Value} {x : ByteArray} (h : o = none) (hx : x = str []) (ho : OwnL w.heap.size v [] w') (hb : Below w.heap.size w w') : UnsRet o w (.returned (.tuple #[v, .string x, .bool false])) w' := by subst h hx; exact ⟨v, rfl, ho, hb⟩
theorem unsRet_some {o : Option (List (List UInt8) × List UInt8)} {xs : List (List UInt8)} {r : List UInt8} {w w' : World} {v : Value} {x : ByteArray} (h : o = some (xs, r)) (hx : x = str r) (ho : OwnL w.heap.size v xs w') (hb : Below w.heap.size w w') : UnsRet o w (.returned (.tuple #[v, .string x, .bool true])) w' := by subst h hx; exact ⟨v, rfl, ho, hb⟩
theorem UnsRet.none' {w : World} {e : Ending} {w' : World} (h : UnsRet none w e w') : ∃ a c, e = .returned (.tuple #[.slice a 0 c, .string ⟨#[]⟩, .bool false]) ∧ OwnL w.heap.size (.slice a 0 c) [] w' ∧ RdL w' a 0 [] ∧ Below w.heap.size w w' := by
  obtain ⟨v, rfl, ho, hb⟩ := h
  have ho' : OwnL w.heap.size v [] w' := ho
  obtain ⟨a, c, rfl, hr, _⟩ := ho'.read
  exact ⟨a, c, rfl, ho', hr, hb⟩
theorem UnsRet.some' {xs : List (List UInt8)} {r : List UInt8} {w : World} {e : Ending} {w' : World} (h : UnsRet (some (xs, r)) w e w') : ∃ a c, e = .returned (.tuple #[.slice a xs.length c, .string (str r), .bool true]) ∧ OwnL w.heap.size (.slice a xs.length c) xs w' ∧ RdL w' a xs.length xs ∧ Below w.heap.size w w' := by
  obtain ⟨v, rfl, ho, hb⟩ := h
  have ho' : OwnL w.heap.size v xs w' := ho
  obtain ⟨a, c, rfl, hr, _⟩ := ho'.read
  exact ⟨a, c, rfl, ho', hr, hb⟩
/-- Lines, and what is behind them. -/
def SplRet (p : List (List UInt8) × List UInt8) (w : World) (e : Ending) (w' : World) : Prop := ∃ v, e = .returned (.tuple #[v, .string (str p.2)]) ∧ OwnL w.heap.size v p.1 w' ∧ Below w.heap.size w w'
theorem splRet_mk {p : List (List UInt8) × List UInt8} {xs : List (List UInt8)} {r : List UInt8} {w w' : World} {v : Value} {x : ByteArray} (h : p = (xs, r)) (hx : x = str r) (ho : OwnL w.heap.size v xs w') (hb : Below w.heap.size w w') : SplRet p w (.returned (.tuple #[v, .string x])) w' := by subst h hx; exact ⟨v, rfl, ho, hb⟩
theorem SplRet.out' {xs : List (List UInt8)} {r : List UInt8} {w : World} {e : Ending} {w' : World} (h : SplRet (xs, r) w e w') : ∃ a c, e = .returned (.tuple #[.slice a xs.length c, .string (str r)]) ∧ OwnL w.heap.size (.slice a xs.length c) xs w' ∧ RdL w' a xs.length xs ∧ Below w.heap.size w w' := by
  obtain ⟨v, rfl, ho, hb⟩ := h
  have ho' : OwnL w.heap.size v xs w' := ho
  obtain ⟨a, c, rfl, hr, _⟩ := ho'.read
  exact ⟨a, c, rfl, ho', hr, hb⟩
/-- How far the lines are cut. -/
def SplAt (L : List UInt8) (acc : List (List UInt8)) (t : List UInt8) : Prop := ∃ n, t.length < n ∧ spliL L = (acc ++ (spliN n t).1, (spliN n t).2)
theorem splAt_start (L : List UInt8) : SplAt L [] L := ⟨L.length + 1, by omega, rfl⟩
theorem splAt_step {L t l r : List UInt8} {acc : List (List UInt8)} (h : SplAt L acc t) (hc : cutW t = some (l, r)) : SplAt L (acc ++ [l]) r := by
  obtain ⟨n, hn, he⟩ := h
  cases n with
  | zero => omega
  | succ n =>
    unfold spliN at he
    rw [hc] at he
    exact ⟨n, by have := cutW_len hc; omega, by rw [he]; simp⟩
theorem splAt_end {L t : List UInt8} {acc : List (List UInt8)} (h : SplAt L acc t) (hc : cutW t = none) : spliL L = (acc, t) := by
  obtain ⟨n, hn, he⟩ := h
  cases n with
  | zero => omega
  | succ n =>
    unfold spliN at he
    rw [hc] at he
    rw [he]; simp
def UnsAt (L : List UInt8) (acc : List (List UInt8)) (t : List UInt8) : Prop := ∃ n, t.length < n ∧ unsW L = (unsN n t).map fun q => (acc ++ q.1, q.2)
theorem unsAt_start {L : List UInt8} (h : L.length ≤ 2000) : UnsAt L [] L := ⟨L.length + 1, by omega, by unfold unsW; rw [if_pos h]; cases unsN (L.length + 1) L <;> rfl⟩
theorem unsAt_step {L t l r : List UInt8} {acc : List (List UInt8)} (h : UnsAt L acc t) (hc : cutW t = some (l, r)) (h1 : l ≠ [46]) (h2 : isText (unP l) = true) : UnsAt L (acc ++ [unP l]) r := by
  obtain ⟨n, hn, he⟩ := h
  cases n with
  | zero => omega
  | succ n =>
    unfold unsN at he
    rw [hc] at he
    replace he : unsW L = (if l = [46] then some ([], r) else if isText (unP l) = true then (unsN n r).map fun q => (unP l :: q.1, q.2) else none).map fun q => (acc ++ q.1, q.2) := he
    rw [if_neg h1, if_pos h2] at he
    exact ⟨n, by have := cutW_len hc; omega, by rw [he]; cases unsN n r <;> simp⟩
theorem unsAt_none {L t : List UInt8} {acc : List (List UInt8)} (h : UnsAt L acc t) (hc : cutW t = none) : unsW L = none := by
  obtain ⟨n, hn, he⟩ := h
  cases n with
  | zero => omega
  | succ n => unfold unsN at he; rw [hc] at he; exact he
theorem unsAt_end {L t l r : List UInt8} {acc : List (List UInt8)} (h : UnsAt L acc t) (hc : cutW t = some (l, r)) (h1 : l = [46]) : unsW L = some (acc, r) := by
  obtain ⟨n, hn, he⟩ := h
  cases n with
  | zero => omega
  | succ n =>
    unfold unsN at he
    rw [hc] at he
    replace he : unsW L = (if l = [46] then some ([], r) else if isText (unP l) = true then (unsN n r).map fun q => (unP l :: q.1, q.2) else none).map fun q => (acc ++ q.1, q.2) := he
    rw [if_pos h1] at he
    rw [he]; simp
theorem unsAt_bad {L t l r : List UInt8} {acc : List (List UInt8)} (h : UnsAt L acc t) (hc : cutW t = some (l, r)) (h1 : l ≠ [46]) (h2 : isText (unP l) = false) : unsW L = none := by
  obtain ⟨n, hn, he⟩ := h
  cases n with
  | zero => omega
  | succ n =>
    unfold unsN at he
    rw [hc] at he
    replace he : unsW L = (if l = [46] then some ([], r) else if isText (unP l) = true then (unsN n r).map fun q => (unP l :: q.1, q.2) else none).map fun q => (acc ++ q.1, q.2) := he
    rw [if_neg h1, if_neg (by simp [h2])] at he
    exact he
theorem dot_t {l : List UInt8} (h : l = [46]) : ((str l).toList == [46]) = true := by rw [h]; decide +kernel
theorem dot_f {l : List UInt8} (h : l ≠ [46]) : ((str l).toList == [46]) = false := by
  have : ([46] : List UInt8) = (str [46]).toList := by decide +kernel
  rw [this, beq_dec, decide_eq_false_iff_not]
  intro e; apply h; rw [← str_list l, e, str_list]
set_option maxRecDepth 100000 in
set_option maxHeartbeats 2000000 in
theorem splitWire_any (s : ByteArray) (w : World) (hmx : MxL w) (hs : s.size ≤ 1073741) :
    Calls Try.prog 22 #[.string s] w (SplRet (spliL s.data.toList) w) := by
  have HMX : Hid (∀ u, Below w.heap.size w u → MxL u) := fun u h => hmx.below h
  have hss := str_of s
  go_enter Try.func22, Try.ntmps22
  go_wp2_with fail
  go_loopw [0, 4] (fun sv v wr => ∃ (acc : List (List UInt8)) (t : List UInt8), sv = .string (str t) ∧ acc.length + t.length ≤ s.size ∧ SplAt s.data.toList acc t ∧ OwnL w.heap.size v acc wr ∧ Below w.heap.size w wr) (fun sv _ _ => Lib.strSize sv)
  case atStart => exact ⟨[], s.data.toList, by rw [hss], by rw [size_list]; simp, splAt_start _, OwnL.nil _ _, Below.refl _ _⟩
  case round =>
    obtain ⟨acc, t, rfl, hl, hg, hown, hb⟩ := hrel
    have hbs := hb.size
    have HST : Hid ((str t).data.toList = t) := str_list t
    have HSZ : Hid ((str t).size = t.length) := str_size t
    cases hc : cutW t with
    | none =>
      have HE := Lib.hid (splAt_end hg hc)
      have HC := Lib.hid (cutW_none_any (str t) wr (HMX.out _ hb) (by rw [HSZ.out]; omega) (by rw [HST.out]; exact hc))
      have HO := Lib.hid hown
      clear hg hc hown hss
      go_wp2_with fail
      refine HC.out.mono ?_
      rintro e w2 ⟨rfl, n, rfl⟩
      go_wp2
      go_ret2
      exact splRet_mk HE.out rfl HO.out (below_dr hb n)
    | some p =>
      obtain ⟨l, r⟩ := p
      have hlen := cutW_len hc
      have HG := Lib.hid (splAt_step hg hc)
      have HC := Lib.hid (cutW_some_any (str t) l r wr (HMX.out _ hb) (by rw [HSZ.out]; omega) (by rw [HST.out]; exact hc))
      have HO := Lib.hid hown
      obtain ⟨a3, c3, rfl, _, _, _, _⟩ := hown.readc
      clear hg hc hown hss
      go_wp2_with fail
      refine HC.out.mono ?_
      rintro e w2 ⟨rfl, n, rfl⟩
      have hb2 := below_dr hb n
      have HO2 : Hid (OwnL w.heap.size (.slice a3 acc.length c3) acc ((wr.drewN n).alloc (.cells #[.string (str l)] 9))) := OwnL.keep (w := wr.drewN n) HO.out ((Below.refl _ _).alloc (Nat.le_refl _) _)
      have HXE : Hid ((str l).data.toList = l) := str_list _
      have HRZ : Hid ((str r).size = r.length) := str_size r
      generalize wr.drewN n = w2 at *
      have hs2 := hb2.size
      clear HC
      generalize str l = X at *
      go_wp2_with (at_builtin; refine wpList_append_1L rfl _ _ rfl w.heap.size _ acc X w2.heap.size rfl rfl ?c1 HO2.out ?c2 ?c3 ?_)
      case c1 => rw [World.cell?_alloc_at _ _ _ _ rfl]; rfl
      case c2 => simp; omega
      case c3 => omega
      intro v' w3 hO3 hgr _
      have hb3 : Below w.heap.size w w3 := (hb2.alloc hs2 _).grown hgr (by simp; omega) (fun g hg => (HO2.out.lt g hg).1)
      rw [HXE.out] at hO3
      go_wp2
      go_roundw
      case rel => exact ⟨acc ++ [l], r, rfl, by simp; omega, HG.out, hO3, hb3⟩
      case measure =>
        show Lib.strSize _ < Lib.strSize _
        rw [Lib.strSize_string, Lib.strSize_string, HRZ.out, HSZ.out]; omega
set_option maxRecDepth 100000 in
set_option maxHeartbeats 2000000 in
theorem unstuffText_any (s : ByteArray) (w : World) (hmx : MxL w) (hs : s.size ≤ 1073741824) :
    Calls Try.prog 14 #[.string s] w (UnsRet (unsW s.data.toList) w) := by
  by_cases h2 : 2000 < s.size
  · have HN : Hid (unsW s.data.toList = none) := by show _ = _; unfold unsW; rw [if_neg (by rw [size_list]; omega)]
    go_enter Try.func14, Try.ntmps14
    go_wp2
    go_ret3
    exact unsRet_none HN.out rfl (OwnL.nil _ _) (Below.refl _ _)
  have HMX : Hid (∀ u, Below w.heap.size w u → MxL u) := fun u h => hmx.below h
  have hss := str_of s
  go_enter Try.func14, Try.ntmps14
  go_wp2_with fail
  go_loopw [0, 5] (fun sv v wr => ∃ (acc : List (List UInt8)) (t : List UInt8), sv = .string (str t) ∧ acc.length + t.length ≤ 2000 ∧ UnsAt s.data.toList acc t ∧ OwnL w.heap.size v acc wr ∧ Below w.heap.size w wr) (fun sv _ _ => Lib.strSize sv)
  case atStart => exact ⟨[], s.data.toList, by rw [hss], by rw [size_list]; simp; omega, unsAt_start (by rw [size_list]; omega), OwnL.nil _ _, Below.refl _ _⟩
  case round =>
    obtain ⟨acc, t, rfl, hl, hg, hown, hb⟩ := hrel
    have hbs := hb.size
    have HST : Hid ((str t).data.toList = t) := str_list t
    have HSZ : Hid ((str t).size = t.length) := str_size t
    cases hc : cutW t with
    | none =>
      have HE := Lib.hid (unsAt_none hg hc)
      have HC := Lib.hid (cutW_none_any (str t) wr (HMX.out _ hb) (by rw [HSZ.out]; omega) (by rw [HST.out]; exact hc))
      clear hg hc hown hss
      go_wp2_with fail
      refine HC.out.mono ?_
      rintro e w2 ⟨rfl, n, rfl⟩
      go_wp2
      go_ret3
      exact unsRet_none HE.out rfl (OwnL.nil _ _) (below_dr hb n)
    | some p =>
      obtain ⟨l, r⟩ := p
      have hlen := cutW_len hc
      have HC := Lib.hid (cutW_some_any (str t) l r wr (HMX.out _ hb) (by rw [HSZ.out]; omega) (by rw [HST.out]; exact hc))
      have HO := Lib.hid hown
      obtain ⟨a3, c3, rfl, _, _, _, _⟩ := hown.readc
      by_cases h46 : l = [46]
      · have HE := Lib.hid (unsAt_end hg hc h46)
        have e46 := dot_t h46
        clear hg hc hown hss h46
        go_wp2_with fail
        refine HC.out.mono ?_
        rintro e w2 ⟨rfl, n, rfl⟩
        clear HC
        generalize str l = X at *
        go_wp2
        go_ret3
        exact unsRet_some HE.out rfl HO.out (below_dr hb n)
      · have e46 := dot_f h46
        have hul := unP_le l
        have HUZ : Hid ((str (unP l)).size = (unP l).length) := str_size _
        have HUL : Hid ((str (unP l)).data.toList = unP l) := str_list _
        have HU := Lib.hid (fun u => unstuffLine_any (str l) u)
        rw [str_list l] at HU
        cases ht : isText (unP l) with
        | false =>
          have HE := Lib.hid (unsAt_bad hg hc h46 ht)
          have HT := Lib.hid (fun u => textValid_any (str (unP l)) u (by rw [HUZ.out]; unfold maxLen; omega))
          rw [str_list (unP l), ht] at HT
          clear hg hc hown hss h46 ht
          go_wp2_with fail
          refine HC.out.mono ?_
          rintro e w2 ⟨rfl, n, rfl⟩
          clear HC
          generalize str l = X at *
          go_wp2_with fail
          refine (HU.out _).mono ?_
          rintro e w3 ⟨rfl, rfl⟩
          generalize str (unP l) = Y at *
          go_wp2_with fail
          refine (HT.out _).mono ?_
          rintro e w3 ⟨rfl, rfl⟩
          go_wp2
          go_ret3
          exact unsRet_none HE.out rfl (OwnL.nil _ _) (below_dr hb n)
        | true =>
          have HG := Lib.hid (unsAt_step hg hc h46 ht)
          have HT := Lib.hid (fun u => textValid_any (str (unP l)) u (by rw [HUZ.out]; unfold maxLen; omega))
          rw [str_list (unP l), ht] at HT
          clear hg hc hown hss h46 ht
          go_wp2_with fail
          refine HC.out.mono ?_
          rintro e w2 ⟨rfl, n, rfl⟩
          clear HC
          generalize str l = X at *
          go_wp2_with fail
          refine (HU.out _).mono ?_
          rintro e w3 ⟨rfl, rfl⟩
          have hb2 := below_dr hb n
          have HO2 : Hid (OwnL w.heap.size (.slice a3 acc.length c3) acc ((wr.drewN n).alloc (.cells #[.string (str (unP l))] 9))) := OwnL.keep (w := wr.drewN n) HO.out ((Below.refl _ _).alloc (Nat.le_refl _) _)
          have HRZ : Hid ((str r).size = r.length) := str_size r
          generalize str (unP l) = Y at *
          generalize wr.drewN n = w2 at *
          have hs2 := hb2.size
          go_wp2_with fail
          refine (HT.out _).mono ?_
          rintro e w3 ⟨rfl, rfl⟩
          go_wp2_with (at_builtin; refine wpList_append_1L rfl _ _ rfl w.heap.size _ acc Y w2.heap.size rfl rfl ?c1 HO2.out ?c2 ?c3 ?_)
          case c1 => rw [World.cell?_alloc_at _ _ _ _ rfl]; rfl
          case c2 => simp; omega
          case c3 => omega
          intro v' w3 hO3 hgr _
          have hb3 : Below w.heap.size w w3 := (hb2.alloc hs2 _).grown hgr (by simp; omega) (fun g hg => (HO2.out.lt g hg).1)
          rw [HUL.out] at hO3
          go_wp2
          go_roundw
          case rel => exact ⟨acc ++ [unP l], r, rfl, by simp; omega, HG.out, hO3, hb3⟩
          case measure =>
            show Lib.strSize _ < Lib.strSize _
            rw [Lib.strSize_string, Lib.strSize_string, HRZ.out, HSZ.out]; omega
/-- What is sent, and whether it is. -/
def StuRet (o : Option (List UInt8)) (w : World) (e : Ending) (w' : World) : Prop := e = .returned (.tuple #[.string (str (o.getD [])), .bool o.isSome]) ∧ Below w.heap.size w w'
theorem stuRet_none {o : Option (List UInt8)} {w w' : World} {x : ByteArray} (h : o = none) (hx : x = str []) (hb : Below w.heap.size w w') : StuRet o w (.returned (.tuple #[.string x, .bool false])) w' := by subst h hx; exact ⟨rfl, hb⟩
theorem stuRet_some {o : Option (List UInt8)} {b : List UInt8} {w w' : World} {x : ByteArray} (h : o = some b) (hx : x = str b) (hb : Below w.heap.size w w') : StuRet o w (.returned (.tuple #[.string x, .bool true])) w' := by subst h hx; exact ⟨rfl, hb⟩
theorem stuP_text {l : List UInt8} (h : isText l = true) : (stuP l).length ≤ 201 := by
  have : l.length ≤ 200 := by unfold isText at h; simp at h; exact h.1
  rw [stuP_len]; split <;> omega
set_option maxRecDepth 100000 in
set_option maxHeartbeats 2000000 in
theorem stuffLines_any (a : Option Addr) (n c : Nat) (xs : List (List UInt8)) (w : World) (hr : RdL w a n xs) (hn : n ≤ 1073741824) (hx : ∀ x ∈ xs, x.length ≤ 1073741000) :
    Calls Try.prog 11 #[.slice a n c] w (StuRet (stuW xs) w) := by
  have HX := Lib.hid hx
  have HLEN := Lib.hid hr.1
  have HR := Lib.hid hr.2
  clear hx hr
  have z2 : (ByteArray.mk #[13, 10]).size = 2 := rfl
  have z3 : (ByteArray.mk #[46, 13, 10]).size = 3 := rfl
  go_enter Try.func11, Try.ntmps11
  go_wp2_with fail
  go_loopw [9] (fun i wr => ∃ k : Nat, k ≤ n ∧ i = .int .i64 k ∧ (stuB (xs.take k)).length ≤ 2203 ∧ (∀ j, (h : j < k) → (h' : j < xs.length) → isText xs[j] = true) ∧ Bld w.heap.size w.heap.size (stuB (xs.take k)) wr ∧ Below w.heap.size w wr) (fun i _ => n - (intOf i).toNat)
  case atStart => exact ⟨0, by omega, rfl, by simp [stuB], fun j h => by omega, bld_fresh w, (Below.refl _ _).alloc (Nat.le_refl _) _⟩
  case round =>
    obtain ⟨k, hk, rfl, hal, hall, hB, hb⟩ := hrel
    have HALL := Lib.hid hall
    clear hall
    by_cases hlt : k < n
    · have hkx : k < xs.length := by rw [HLEN.out]; exact hlt
      obtain ⟨b, off, rfl, hbl, hcell⟩ := HR.out.resolve_left (by omega)
      have c0 : wr.cell? ⟨b, off + k, none⟩ = some (.string (str xs[k])) := by rw [below_at hb hbl]; exact hcell k hkx
      have hxk := HX.out _ (List.getElem_mem hkx)
      have HT := Lib.hid (fun u => textValid_any (str xs[k]) u (by rw [str_size]; unfold maxLen; omega))
      rw [str_list] at HT
      cases ht : isText xs[k] with
      | false =>
        have HE := Lib.hid (stuW_bad (List.getElem_mem hkx) ht)
        rw [ht] at HT
        clear ht hcell
        generalize str xs[k] = X at *
        go_wp2_with fail
        refine (HT.out _).mono ?_
        rintro e w1 ⟨rfl, rfl⟩
        go_wp2
        go_ret2
        exact stuRet_none HE.out rfl hb
      | true =>
        rw [ht] at HT
        have HTX := Lib.hid ht
        by_cases hlong : 2000 < (stuB (xs.take k)).length
        · have HE := Lib.hid (stuW_long k hlong)
          have d1 : decide ((2000 : Int) < ((stuB (xs.take k)).length : Int)) = true := by simp; omega
          clear ht hcell
          generalize str xs[k] = X at *
          generalize stuB (xs.take k) = S at *
          go_wp2_with fail
          refine (HT.out _).mono ?_
          rintro e w1 ⟨rfl, rfl⟩
          go_wp2_with fail
          refine (bLen_any w.heap.size w.heap.size S _ hB).mono ?_
          rintro e w1 ⟨rfl, rfl⟩
          go_wp2
          go_ret2
          exact stuRet_none HE.out rfl hb
        · have d1 : decide ((2000 : Int) < ((stuB (xs.take k)).length : Int)) = false := by simp; omega
          have HS := Lib.hid (stuB_step hkx)
          have hp := stuP_text ht
          have HSL := Lib.hid (fun u => stuffLine_any (str xs[k]) u (by rw [str_size]; omega))
          rw [str_list] at HSL
          have HPZ : Hid ((str (stuP xs[k])).size = (stuP xs[k]).length) := str_size _
          have HPA : Hid ((str (stuP xs[k]) ++ ByteArray.mk #[13, 10]).data.toList = stuP xs[k] ++ [13, 10]) := by show _ = _; rw [Joins.data_append, str_list]
          have HSZ : Hid ((str (stuP xs[k]) ++ ByteArray.mk #[13, 10]).size = (stuP xs[k]).length + 2) := by show _ = _; rw [← size_list, HPA.out]; simp
          have HPS : Hid ((str (stuP xs[k])).size ≤ 201) := by show _ ≤ _; rw [HPZ.out]; exact hp
          clear ht hcell
          generalize str xs[k] = X at *
          generalize str (stuP xs[k]) = P at *
          generalize hS : stuB (xs.take k) = S at *
          go_wp2_with fail
          refine (HT.out _).mono ?_
          rintro e w1 ⟨rfl, rfl⟩
          go_wp2_with fail
          refine (bLen_any w.heap.size w.heap.size S _ hB).mono ?_
          rintro e w1 ⟨rfl, rfl⟩
          go_wp2_with fail
          refine (HSL.out _).mono ?_
          rintro e w1 ⟨rfl, rfl⟩
          have hps := HPS.out
          go_wp2_with fail
          refine (writeString_any w.heap.size w.heap.size S (P ++ ByteArray.mk #[13, 10]) _ hB (by rw [HSZ.out]; omega)).mono ?_
          rintro e w2 ⟨rfl, hB2, hb2⟩
          have hb3 := hb.trans hb2
          rw [HPA.out] at hB2
          go_wp2
          go_roundw
          case rel => exact ⟨k + 1, by omega, by go_num, by rw [HS.out]; simp; omega, (fun j h h' => by
            by_cases e : j = k
            · subst e; exact HTX.out
            · exact HALL.out j (by omega) h'), by rw [HS.out]; exact hB2, hb3⟩
          case measure => simp [intOf]; omega
    · have htk : xs.take k = xs := List.take_of_length_le (by rw [HLEN.out]; omega)
      rw [htk] at hB hal
      have HTX : Hid (∀ l ∈ xs, isText l = true) := fun l hm => by
        obtain ⟨j, hj, rfl⟩ := List.getElem_of_mem hm
        exact HALL.out j (by rw [HLEN.out] at hj; omega) hj
      have HSA : Hid (stuAll xs = stuB xs ++ [46, 13, 10]) := rfl
      have HAL := Lib.hid (stuAll_len xs)
      clear htk
      go_wp2_with fail
      refine (writeString_any w.heap.size w.heap.size (stuB xs) (ByteArray.mk #[46, 13, 10]) _ hB (by omega)).mono ?_
      rintro e w2 ⟨rfl, hB2, hb2⟩
      have hb3 := hb.trans hb2
      have hB3 : Bld w.heap.size w.heap.size (stuAll xs) w2 := hB2
      clear hB2 hB hb hb2
      by_cases hlong : 2000 < (stuAll xs).length
      · have HE := Lib.hid (stuW_long' hlong)
        have d1 : decide ((2000 : Int) < ((stuAll xs).length : Int)) = true := by simp; omega
        clear HSA HAL
        generalize stuAll xs = S at *
        go_wp2_with fail
        refine (bLen_any w.heap.size w.heap.size S _ hB3).mono ?_
        rintro e w1 ⟨rfl, rfl⟩
        go_wp2
        go_ret2
        exact stuRet_none HE.out rfl hb3
      · have HE := Lib.hid (stuW_good HTX.out (by omega))
        have d1 : decide ((2000 : Int) < ((stuAll xs).length : Int)) = false := by simp; omega
        clear HSA HAL
        generalize stuAll xs = S at *
        go_wp2_with fail
        refine (bLen_any w.heap.size w.heap.size S _ hB3).mono ?_
        rintro e w1 ⟨rfl, rfl⟩
        go_wp2_with fail
        refine (bString_any w.heap.size w.heap.size S _ hB3).mono ?_
        rintro e w3 ⟨rfl, hb4⟩
        go_wp2
        go_ret2
        exact stuRet_some HE.out rfl (hb3.trans hb4)
end Go.Proofs.Ytnlnkcjphioehab
