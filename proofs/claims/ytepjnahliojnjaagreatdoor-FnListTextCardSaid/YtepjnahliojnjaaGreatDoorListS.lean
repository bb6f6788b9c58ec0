/-
  Lists of addresses: what the model's functions return. No statement is proved here.
-/
import Derived.Test.YtepjnahliojnjaaGreatDoorParseS2
import Derived.Test.YtepjnahliojnjaaGreatDoorListA3
namespace Go.Proofs.YtepjnahliojnjaaGreatDoor
open Go.RowKit

theorem joinC_snoc : ∀ (xs : List (List UInt8)) (x : List UInt8), joinC (xs ++ [x]) = if xs = [] then x else joinC xs ++ 44 :: 32 :: x
  | [], x => rfl
  | [y], x => by simp [joinC]
  | y :: z :: xs, x => by
    have ih := joinC_snoc (z :: xs) x
    rw [if_neg (by simp)] at ih
    show y ++ 44 :: 32 :: joinC ((z :: xs) ++ [x]) = _
    rw [ih, if_neg (by simp)]
    show _ = (y ++ 44 :: 32 :: joinC (z :: xs)) ++ 44 :: 32 :: x
    simp
theorem joinC_next (xs : List Adr) (k : Nat) (h : k < xs.length) : joinC ((xs.take (k + 1)).map fmtA) = if k = 0 then fmtA xs[k] else joinC ((xs.take k).map fmtA) ++ 44 :: 32 :: fmtA xs[k] := by
  rw [map_take_succ fmtA xs k h, joinC_snoc]
  by_cases hk : k = 0
  · subst hk; simp
  · rw [if_neg hk, if_neg (by intro e; have h2 : ((xs.take k).map fmtA).length = 0 := (by rw [e]; rfl); rw [List.length_map, List.length_take] at h2; omega)]
set_option maxRecDepth 100000 in
set_option maxHeartbeats 1000000 in
theorem formatListS_any (a : Option Addr) (n c : Nat) (xs : List Adr) (w : World) (hr : RdA w a n xs) (hn : n ≤ 1073741824) (hx : ∀ x ∈ xs, SmallA 1073741000 x) :
    Calls Tryz.prog 6 #[.slice a n c] w fun e w' => e = .returned (.string (str (fmtL xs))) ∧ Below w.heap.size w w' := by
  obtain ⟨hl, hr2⟩ := hr
  have HLEN := Lib.hid hl
  have HR := Lib.hid hr2
  have HX := Lib.hid hx
  clear hl hr2 hx
  by_cases h10 : 10 < n
  · have d1 : decide ((n : Int) ≤ 10) = false := by simp; omega
    have HN := Lib.hid (fmtL_long (xs := xs) (by rw [HLEN.out]; exact h10))
    have hz0 : (ByteArray.mk #[]).size = 0 := rfl
    have hn0 : (0 : Int) < (n : Int) := by omega
    have hn1 : 0 < n := by omega
    go_enter Tryz.func6, Tryz.ntmps6
    go_wp2_with fail
    go_loop [3, 4] (fun v i => v = .string ⟨#[]⟩ ∧ i = .int .i64 0) (fun _ _ => 0)
    case atStart => exact ⟨rfl, rfl⟩
    case round =>
      obtain ⟨rfl, rfl⟩ := hrel
      go_wp2
      go_ret
      exact ⟨ret_str (by rw [HN.out]; rfl), Below.refl _ _⟩
  · have d1 : decide ((n : Int) ≤ 10) = true := by simp; omega
    go_enter Tryz.func6, Tryz.ntmps6
    go_wp2_with fail
    go_loopw [3, 4] (fun v i wr => ∃ (k : Nat) (o : ByteArray), k ≤ n ∧ i = .int .i64 k ∧ v = .string o ∧ o.size ≤ k * 159 ∧ o.data.toList = joinC ((xs.take k).map fmtA) ∧ Below w.heap.size w wr ∧ ∀ j, j < k → (hj : j < xs.length) → isAdr xs[j] = true) (fun _ i _ => n - (intOf i).toNat)
    case atStart => exact ⟨0, _, Nat.zero_le _, rfl, rfl, Nat.zero_le _, rfl, Below.refl _ _, fun j h => by omega⟩
    case round =>
      obtain ⟨k, o, hk, rfl, rfl, hos, hod, hb, hall⟩ := hrel
      have HA := Lib.hid hall
      have HO := Lib.hid hod
      clear hall hod
      by_cases hlt : k < n
      · have hkx : k < xs.length := by rw [HLEN.out]; exact hlt
        obtain ⟨b, off, rfl, hbl, hcell⟩ := HR.out.resolve_left (by omega)
        obtain ⟨q0, q1, q2⟩ := RdR.adr hcell hkx
        rw [← below_at hb hbl] at q0 q1 q2
        obtain ⟨z0, z1, z2⟩ := HX.out _ (List.getElem_mem hkx)
        rw [← str_size] at z0 z1 z2
        have HAD : Hid (adr (str xs[k].name) (str xs[k].loc) (str xs[k].dom) = xs[k]) := adr_str xs[k]
        have hblr : b < wr.heap.size := Nat.lt_of_lt_of_le hbl hb.size
        clear hcell
        cases hv : isAdr xs[k]
        · have HN := Lib.hid (fmtL_bad hkx hv)
          have HV : Hid (isAdr (adr (str xs[k].name) (str xs[k].loc) (str xs[k].dom)) = false) := by show _ = _; rw [HAD.out]; exact hv
          generalize str xs[k].name = s0 at *
          generalize str xs[k].loc = s1 at *
          generalize str xs[k].dom = s2 at *
          clear hv
          go_wp2_with fail
          refine (addressValidS_any s0 s1 s2 _ (by omega) (by omega) (by omega)).mono ?_
          rintro e w1 ⟨rfl, hb1⟩
          rw [HV.out]
          go_wp2
          go_ret
          exact ⟨ret_str (by rw [HN.out]; rfl), nx hb hb1⟩
        · have HV : Hid (isAdr (adr (str xs[k].name) (str xs[k].loc) (str xs[k].dom)) = true) := by show _ = _; rw [HAD.out]; exact hv
          have HT := Lib.hid (joinC_next xs k hkx)
          have HVK := Lib.hid hv
          generalize str xs[k].name = s0 at *
          generalize str xs[k].loc = s1 at *
          generalize str xs[k].dom = s2 at *
          have s4432 : (ByteArray.mk #[44, 32]).size = 2 := rfl
          clear hv
          by_cases hk0 : k = 0
          · have hlt0 : ¬ ((0 : Int) < (k : Int)) := by omega
            have HK0 := Lib.hid hk0
            clear hk0
            go_wp2_with fail
            refine (addressValidS_any s0 s1 s2 _ (by omega) (by omega) (by omega)).mono ?_
            rintro e w1 ⟨rfl, hb1⟩
            rw [HV.out]
            rw [← below_at hb1 hblr] at q0 q1 q2
            have hb01 := nx hb hb1
            go_wp2_with fail
            refine (formatAddressS_any s0 s1 s2 _ (by omega) (by omega) (by omega)).mono ?_
            rintro e w2 ⟨rfl, hb2⟩
            have hfs : (str (fmtA (adr s0 s1 s2))).size ≤ 157 := by rw [str_size]; exact fmtA_len _
            have HFK : Hid ((str (fmtA (adr s0 s1 s2))).data.toList = fmtA xs[k]) := by show _ = _; rw [str_list, HAD.out]
            generalize str (fmtA (adr s0 s1 s2)) = ft at *
            have HNX : Hid ((o ++ ft).data.toList = joinC ((xs.take (k + 1)).map fmtA)) := by
              show _ = _
              have e0 : joinC ((xs.take k).map fmtA) = [] := by rw [HK0.out]; rfl
              rw [Joins.data_append, HT.out, if_pos HK0.out, HO.out, HFK.out, e0]; rfl
            go_wp2
            go_roundw
            case rel => exact ⟨k + 1, _, by omega, by go_num, rfl, by rw [ByteArray.size_append]; omega, HNX.out, nx hb01 hb2, fun j hj hjx => by
              by_cases e : j = k
              · subst e; exact HVK.out
              · exact HA.out j (by omega) hjx⟩
            case measure => simp [intOf]; omega
          · have hlt0 : (0 : Int) < (k : Int) := by omega
            go_wp2_with fail
            refine (addressValidS_any s0 s1 s2 _ (by omega) (by omega) (by omega)).mono ?_
            rintro e w1 ⟨rfl, hb1⟩
            rw [HV.out]
            rw [← below_at hb1 hblr] at q0 q1 q2
            have hb01 := nx hb hb1
            go_wp2_with fail
            refine (formatAddressS_any s0 s1 s2 _ (by omega) (by omega) (by omega)).mono ?_
            rintro e w2 ⟨rfl, hb2⟩
            have hfs : (str (fmtA (adr s0 s1 s2))).size ≤ 157 := by rw [str_size]; exact fmtA_len _
            have HFK : Hid ((str (fmtA (adr s0 s1 s2))).data.toList = fmtA xs[k]) := by show _ = _; rw [str_list, HAD.out]
            generalize str (fmtA (adr s0 s1 s2)) = ft at *
            have HNX : Hid ((o ++ ⟨#[44, 32]⟩ ++ ft).data.toList = joinC ((xs.take (k + 1)).map fmtA)) := by
              show _ = _
              rw [Joins.data_append, Joins.data_append, HT.out, if_neg hk0, HO.out, HFK.out]; simp
            clear hk0
            go_wp2
            go_roundw
            case rel => exact ⟨k + 1, _, by omega, by go_num, rfl, by rw [ByteArray.size_append, ByteArray.size_append]; omega, HNX.out, nx hb01 hb2, fun j hj hjx => by
              by_cases e : j = k
              · subst e; exact HVK.out
              · exact HA.out j (by omega) hjx⟩
            case measure => simp [intOf]; omega
      · have hkn : k = xs.length := by rw [HLEN.out]; omega
        have HE := Lib.hid (fmtL_all (xs := xs) (fun j hj => HA.out j (by omega) hj) (by rw [HLEN.out]; omega))
        have HOE : Hid (o.data.toList = joinC (xs.map fmtA)) := by show _ = _; rw [HO.out, hkn, List.take_length]
        have hol := size_list o
        clear hkn
        by_cases hq : (joinC (xs.map fmtA)).length ≤ 200
        · have hqi : ¬ ((200 : Int) < o.size) := by rw [← hol, HOE.out]; omega
          have HF : Hid (o = str (fmtL xs)) := by show _ = _; apply bytes_ext; rw [HOE.out, str_list, HE.out, if_pos hq]
          clear hol hq
          go_wp2
          go_ret
          exact ⟨ret_str HF.out, hb⟩
        · have hqi : ((200 : Int) < o.size) := by rw [← hol, HOE.out]; omega
          have HF : Hid (fmtL xs = []) := by show _ = _; rw [HE.out, if_neg hq]
          clear hol hq
          go_wp2
          go_ret
          exact ⟨ret_str (by rw [HF.out]; rfl), hb⟩
/-- What is read yet, and what is still to be read. -/
def goesP (t : List UInt8) (acc : List Adr) (more : Bool) (r : List UInt8) : Prop :=
  parseL t = if more then (if acc.length + (partsU 44 r).length ≤ 10 then (mapA (partsU 44 r)).map (acc ++ ·) else none) else some acc
theorem goesP_bad {t r p : List UInt8} {acc : List Adr} {m : Bool} {r' : List UInt8} (h : goesP t acc true r) (hc : partsU 44 r = restU 44 m p r') (hp : parseA p = none) : parseL t = none := by
  unfold goesP at h
  rw [h, if_pos rfl, hc]
  have : mapA (restU 44 m p r') = none := by
    unfold restU; cases m
    · show (match parseA p with | none => none | some a => (mapA []).map (a :: ·)) = none
      rw [hp]
    · show (match parseA p with | none => none | some a => (mapA (partsU 44 r')).map (a :: ·)) = none
      rw [hp]
  rw [this]; split <;> rfl
theorem goesP_full {t r p : List UInt8} {acc : List Adr} {m : Bool} {r' : List UInt8} (h : goesP t acc true r) (hc : partsU 44 r = restU 44 m p r') (hl : acc.length = 10) : parseL t = none := by
  unfold goesP at h
  rw [h, if_pos rfl, if_neg]
  rw [hc]; unfold restU; cases m <;> simp <;> omega
theorem goesP_next {t r p : List UInt8} {acc : List Adr} {m : Bool} {r' : List UInt8} {a : Adr} (h : goesP t acc true r) (hc : partsU 44 r = restU 44 m p r') (hp : parseA p = some a) (hl : acc.length < 10) : goesP t (acc ++ [a]) m r' := by
  unfold goesP at h ⊢
  rw [h, if_pos rfl, hc]
  unfold restU
  cases m
  · simp only [Bool.false_eq_true, if_false, List.length_singleton]
    rw [if_pos (by omega)]
    show (match parseA p with | none => none | some a => (mapA []).map (a :: ·)).map (acc ++ ·) = _
    rw [hp]; rfl
  · simp only [if_true, List.length_cons]
    show (if acc.length + ((partsU 44 r').length + 1) ≤ 10 then (match parseA p with | none => none | some a => (mapA (partsU 44 r')).map (a :: ·)).map (acc ++ ·) else none) = _
    rw [hp]
    by_cases hq : acc.length + ((partsU 44 r').length + 1) ≤ 10
    · rw [if_pos hq, if_pos (by simp; omega)]
      show ((mapA (partsU 44 r')).map (a :: ·)).map (acc ++ ·) = _
      cases mapA (partsU 44 r') <;> simp
    · rw [if_neg hq, if_neg (by simp; omega)]
def CutValS (s : ByteArray) (c : UInt8) (w : World) (e : Ending) (w' : World) : Prop := ∃ (p r : List UInt8) (more : Bool) (q : Nat), e = .returned (.tuple #[.string (str p), .string (str r), .bool more]) ∧ partsU c s.data.toList = restU c more p r ∧ p.length ≤ s.size ∧ r.length ≤ s.size ∧ (more = true → r.length < s.size) ∧ w' = w.drewN q
theorem cutValS_of {s : ByteArray} {c : UInt8} {w : World} {e : Ending} {w' : World} (h : CutRetS s c w e w') : CutValS s c w e w' := by
  obtain ⟨h1, h2, q, h3⟩ := h
  cases hc : cutU c s.data.toList with
  | none =>
    refine ⟨s.data.toList, [], false, q, ?_, restU_last hc [], by rw [size_list]; exact Nat.le_refl _, by simp, (fun h => by cases h), h3⟩
    rw [h2 hc, str_of]; rfl
  | some y =>
    obtain ⟨a, d⟩ := y
    have hb := cutU_bound hc
    rw [size_list] at hb
    exact ⟨a, d, true, q, h1 a d hc, restU_cut hc, by omega, by omega, fun _ => by omega, h3⟩
set_option maxRecDepth 100000 in
set_option maxHeartbeats 1000000 in
theorem parseListS_any (s : ByteArray) (w : World) (hs : s.size ≤ 1073741824) :
    Calls Tryz.prog 10 #[.string s] w (ListRetA s.data.toList w) := by
  have hb0 : Below w.heap.size w (w.alloc (.cells #[] 36)) := (Below.refl _ _).alloc (Nat.le_refl _) _
  cases htx : isText s.data.toList
  · have HX := Lib.hid htx
    have HN : Hid (parseL s.data.toList = none) := by show _ = _; unfold parseL; rw [if_neg (by simp [htx])]
    clear htx
    go_enter Tryz.func10, Tryz.ntmps10
    go_wp2_with fail
    refine (textValidS_any s _ (by unfold maxLen; omega)).mono ?_
    rintro e w1 ⟨rfl, rfl⟩
    rw [HX.out]
    go_wp2
    go_ret2
    exact listRetA_mk (b := false) (xs := []) HN.out (OwnR.empty _ _ _ _) hb0
  · have HX := Lib.hid htx
    have hs2 : s.size ≤ 200 := by have := text_len htx; rw [size_list] at this; exact this
    have HPL : Hid (parseL s.data.toList = if trimS s.data.toList = [] then some [] else if (partsU 44 s.data.toList).length ≤ 10 then mapA (partsU 44 s.data.toList) else none) := by show _ = _; unfold parseL; rw [if_pos htx]
    have HST : Hid (goesP s.data.toList [] ((str (trimS s.data.toList)).toList != []) s.data.toList) := by
      show goesP _ _ _ _
      unfold goesP
      rw [HPL.out]
      by_cases ht : trimS s.data.toList = []
      · have e0 : ((str []).toList != []) = false := by rw [ByteArray.toList_eq, str_list]; rfl
        rw [if_pos ht, ht, e0]; rfl
      · have : ((str (trimS s.data.toList)).toList != []) = true := by
          rw [bne_iff_ne, ByteArray.toList_eq, str_list]; exact ht
        rw [this, if_neg ht]
        simp only [if_true, List.length_nil, Nat.zero_add, List.nil_append]
        split
        · cases mapA (partsU 44 s.data.toList) <;> rfl
        · rfl
    have HNEQ : Hid ((str (trimS s.data.toList)).toList.isEmpty = !((str (trimS s.data.toList)).toList != [])) := by
      show _ = _
      cases (str (trimS s.data.toList)).toList <;> rfl
    clear htx
    generalize hmb : ((str (trimS s.data.toList)).toList != []) = mb at *
    have HMB := Lib.hid hmb
    clear hmb
    obtain ⟨i0, hi, hz0, hz1, hz2⟩ := info_parts aInfo
    have hte := HNEQ.out
    go_enter Tryz.func10, Tryz.ntmps10
    go_wp2_with fail
    refine (textValidS_any s _ (by unfold maxLen; omega)).mono ?_
    rintro e w1 ⟨rfl, rfl⟩
    rw [HX.out]
    go_wp2_with fail
    refine (l2Trim_any s _ hs).mono ?_
    rintro e w1 ⟨rfl, rfl⟩
    go_wp2_with fail
    go_loopw [0, 4, 5] (fun sv v m wr => ∃ (acc : List Adr) (r : List UInt8) (mo : Bool), sv = .string (str r) ∧ m = .bool mo ∧ r.length ≤ 200 ∧ acc.length ≤ 10 ∧ goesP s.data.toList acc mo r ∧ OwnA w.heap.size v acc wr ∧ Below w.heap.size w wr) (fun sv _ m _ => match m with | .bool true => Lib.strSize sv + 1 | _ => 0)
    case atStart => exact ⟨[], s.data.toList, mb, by rw [str_of], rfl, by rw [size_list]; exact hs2, by simp, HST.out, OwnR.empty _ _ _ _, hb0⟩
    case round =>
      obtain ⟨acc, r, mo, rfl, rfl, hrl, hal, hg, hown, hb⟩ := hrel
      have HG := Lib.hid hg
      clear hg hte
      cases mo
      · have HN : Hid (parseL s.data.toList = some acc) := HG.out
        go_wp2
        go_ret2
        exact listRetA_mk (b := true) (xs := acc) HN.out hown hb
      · have hrz := str_size r
        have hrz' : (str r).size ≤ 200 := by omega
        have HRL := Lib.hid (str_list r)
        have HMS : Hid ((str r).size = r.length) := hrz
        clear hrz
        generalize str r = rx at *
        go_wp2_with fail
        refine (l2Cut_any rx 44 _ (by decide) (by omega)).mono ?_
        intro e w2 hret
        obtain ⟨p1, r1, m1, q, rfl, hp1, hpl1, hrl1, hml1, rfl⟩ := cutValS_of hret
        rw [HRL.out] at hp1
        have HC := Lib.hid hp1
        clear hp1 hret
        have hown2 : OwnA w.heap.size _ acc (wr.drewN q) := hown.keep (below_drewN (Below.refl _ _) q)
        have hb2 := below_drewN hb q
        have hpz : (str p1).size ≤ 200 := by rw [str_size]; omega
        have HPL1 := Lib.hid (str_list p1)
        cases hp : parseA p1 with
        | none =>
          have HN := Lib.hid (goesP_bad HG.out HC.out hp)
          have HV : Hid ((parseA (str p1).data.toList).isSome = false ∧ parseR (str p1).data.toList = adr0) := by
            show _ ∧ _
            rw [HPL1.out]; unfold parseR; rw [hp]; exact ⟨rfl, rfl⟩
          generalize str p1 = px at *
          clear hp
          go_wp2_with fail
          refine (parseAddressS_any px _ (by omega)).mono ?_
          rintro e w3 ⟨rfl, hb3⟩
          rw [HV.out.1, HV.out.2, adrV_zero]
          have hb23 := nx hb2 hb3
          have hb4 := hb23.alloc hb23.size (.cells #[.string ⟨#[]⟩, .string ⟨#[]⟩, .string ⟨#[]⟩] 36)
          go_wp2
          go_ret2
          refine listRetA_mk (b := false) (xs := []) HN.out ?_ (hb4.alloc hb4.size _)
          have := OwnR.empty 36 3 adrC (w3.alloc (.cells #[.string ⟨#[]⟩, .string ⟨#[]⟩, .string ⟨#[]⟩] 36))
          simp at this
          exact this.base (by have := hb23.size; omega)
        | some x =>
          have HV : Hid ((parseA (str p1).data.toList).isSome = true ∧ parseR (str p1).data.toList = x) := by
            show _ ∧ _
            rw [HPL1.out]; exact (parseR_some hp).symm
          have hXV : adrV x = .agg #[.string (str x.name), .string (str x.loc), .string (str x.dom)] := rfl
          have HXV := Lib.hid hXV
          clear hXV
          by_cases h10 : acc.length = 10
          · have HN := Lib.hid (goesP_full HG.out HC.out h10)
            have e10 : ((acc.length : Int) == 10) = true := by rw [beq_iff_eq]; omega
            have hacl := (hown2.read adrC_len)
            obtain ⟨a1, c1, rfl, _, _, _⟩ := hacl
            generalize str p1 = px at *
            clear hp h10
            go_wp2_with fail
            refine (parseAddressS_any px _ (by omega)).mono ?_
            rintro e w3 ⟨rfl, hb3⟩
            rw [HV.out.1, HV.out.2, HXV.out]
            have hb23 := nx hb2 hb3
            have hb4 := hb23.alloc hb23.size (.cells #[.string (str x.name), .string (str x.loc), .string (str x.dom)] 36)
            go_wp2
            go_ret2
            refine listRetA_mk (b := false) (xs := []) HN.out ?_ (hb4.alloc hb4.size _)
            have := OwnR.empty 36 3 adrC (w3.alloc (.cells #[.string (str x.name), .string (str x.loc), .string (str x.dom)] 36))
            simp at this
            exact this.base (by have := hb23.size; omega)
          · have h9 : acc.length < 10 := by omega
            have HN := Lib.hid (goesP_next HG.out HC.out hp h9)
            have e10 : ((acc.length : Int) == 10) = false := by rw [beq_eq_false_iff_ne]; omega
            have hacl := (hown2.read adrC_len)
            obtain ⟨a1, c1, rfl, _, _, _⟩ := hacl
            generalize str p1 = px at *
            clear hp h10
            go_wp2_with fail
            refine (parseAddressS_any px _ (by omega)).mono ?_
            rintro e w3 ⟨rfl, hb3⟩
            rw [HV.out.1, HV.out.2, HXV.out]
            have hb23 := nx hb2 hb3
            have hown3 := hown2.keep hb3
            have hbs := hb23.size
            go_wp2_with (at_builtin; refine wpList_append_own _ rfl _ _ 23 rfl w.heap.size 36 i0 (.agg #[.string ⟨#[]⟩, .string ⟨#[]⟩, .string ⟨#[]⟩]) 3 48 Tryz.underlying23 hi hz0 hz1 hz2 rfl (by decide) _ _ _ rfl (World.ownsRow.alloc (World.ownsRow.alloc hown3 _) _) ⟨w3.heap.size + 1, 0, none⟩ 1 1 (adrC x) rfl rfl ?c1 ?c2 ?c3 ?c4 ?c5 ?_)
            case c1 => intro u v hu; rw [add0, World.cell?_alloc_at _ _ _ _ (by simp)]; simpa [adrC] using hu
            case c2 => intro u hu; simp [adrC] at hu; rcases hu with rfl | rfl | rfl <;> rfl
            case c3 => unfold maxLen; omega
            case c4 => omega
            case c5 => simp; omega
            intro v' w4 hown' hgrow _
            have hO3 := OwnR.snoc hown'
            have hb4 : Below w.heap.size w3 w4 := (((Below.refl _ _).alloc (by omega) _).alloc (by simp; omega) _).grown hgrow (by simp; omega) (fun k hk => (World.ownsRow.lt hown3 k hk).1)
            go_wp2
            go_roundw
            case rel => exact ⟨_, r1, m1, rfl, rfl, by omega, by simp; omega, HN.out, hO3, hb23.trans hb4⟩
            case measure =>
              cases m1
              · simp
              · have := hml1 rfl
                show Lib.strSize (.string (str r1)) + 1 < Lib.strSize (.string rx) + 1
                rw [Lib.strSize_string, Lib.strSize_string, str_size]; omega
end Go.Proofs.YtepjnahliojnjaaGreatDoor
