/-
  Fields, folded: what the program's functions return. No statement is proved here.
-/
import Derived.Test.YtfjpajeipihlaaaDoorFld
import Derived.Lib.TrimByte
import Derived.Laws.AppendOwn
import Derived.Laws.OwnMore
import Derived.Laws.AppendOwnNone
namespace Go.Proofs.YtfjpajeipihlaaaDoor
open Go.RowKit

theorem alone_at (s : ByteArray) (k : Nat) (h1 : 1 ≤ k) (h2 : k + 1 < s.size) : alone s.data.toList k = (decide (s[k] = 32) && (decide (s[k - 1] ≠ 32) && decide (s[k + 1] ≠ 32))) := by
  have hg : ∀ i, (h : i < s.size) → s.data.toList.getD i 0 = s[i] := fun i h => by
    rw [List.getD_eq_getElem?_getD, List.getElem?_eq_getElem (by rw [size_list]; exact h)]; rfl
  unfold alone
  rw [hg k (by omega), hg (k - 1) (by omega), hg (k + 1) h2]
/-- A line as a string, its rest. -/
theorem ext_tk (l : List UInt8) (a : Nat) : (str l).extract 0 a = str (l.take a) := by rw [ext_take, str_list]
theorem ext_dr (l : List UInt8) (a : Nat) : (str l).extract a (str l).size = str (l.drop a) := by rw [ext_drop, str_list]
set_option maxRecDepth 100000 in
set_option maxHeartbeats 400000 in
theorem standsAlone_any (s : ByteArray) (k : Nat) (w : World) (hs : s.size ≤ 1073741824) (h1 : 1 ≤ k) (h2 : k + 1 < s.size) :
    Calls Tryd.prog 62 #[.string s, .int .i64 k] w fun e w' => e = .returned (.bool (alone s.data.toList k)) ∧ w = w' := by
  have HA := Lib.hid (alone_at s k h1 h2)
  have h3 : k < s.size := by omega
  have h4 : k - 1 < s.size := by omega
  by_cases ha : s[k] = 32
  · have e1 := beq_t ha (n := 32) rfl
    by_cases hb : s[k - 1] = 32
    · have e2 := bneq_f hb (n := 32) rfl
      have HR : Hid (alone s.data.toList k = false) := by show _ = _; rw [HA.out, hb]; simp
      clear ha hb
      go_enter Tryd.func62, Tryd.ntmps62
      go_wp2
      go_ret
      exact ⟨ret_bool HR.out.symm, rfl⟩
    · have e2 := bneq_t hb (n := 32) rfl
      by_cases hc : s[k + 1] = 32
      · have e3 := bneq_f hc (n := 32) rfl
        have HR : Hid (alone s.data.toList k = false) := by show _ = _; rw [HA.out, hc]; simp
        clear ha hb hc
        go_enter Tryd.func62, Tryd.ntmps62
        go_wp2
        go_ret
        exact ⟨ret_bool HR.out.symm, rfl⟩
      · have e3 := bneq_t hc (n := 32) rfl
        have HR : Hid (alone s.data.toList k = true) := by show _ = _; rw [HA.out]; simp [ha, hb, hc]
        clear ha hb hc
        go_enter Tryd.func62, Tryd.ntmps62
        go_wp2
        go_ret
        exact ⟨ret_bool HR.out.symm, rfl⟩
  · have e1 := beq_f ha (n := 32) rfl
    have HR : Hid (alone s.data.toList k = false) := by show _ = _; rw [HA.out]; simp [ha]
    clear ha
    go_enter Tryd.func62, Tryd.ntmps62
    go_wp2
    go_ret
    exact ⟨ret_bool HR.out.symm, rfl⟩
def BrkRet (l : List UInt8) (first : Nat) (w : World) (e : Ending) (w' : World) : Prop := e = .returned (.tuple #[.int .i64 ((brk l first).getD 0 : Nat), .bool (brk l first).isSome]) ∧ w = w'
theorem brkRet_none {l : List UInt8} {first : Nat} {w : World} (h : brk l first = none) : BrkRet l first w (.returned (.tuple #[.int .i64 0, .bool false])) w := by
  unfold BrkRet; rw [h]; exact ⟨rfl, rfl⟩
theorem brkRet_some {l : List UInt8} {first b : Nat} {w : World} (h : brk l first = some b) : BrkRet l first w (.returned (.tuple #[.int .i64 (b : Int), .bool true])) w := by
  unfold BrkRet; rw [h]; exact ⟨rfl, rfl⟩
theorem brk_of (s : ByteArray) (first n : Nat) (h : s.size ≤ first + n + 1) (hn : n = 0 ∨ first + n + 1 ≤ s.size) : brk s.data.toList first = brkTo s.data.toList first n := by
  unfold brk; rw [size_list]
  congr 1; omega
theorem best_t {l : List UInt8} {b : Option Nat} {i : Nat} (h : alone l i = true) (h2 : i ≤ 40 ∨ b = none) : bestStep l b i = some i := by
  unfold bestStep; rw [if_pos]; rw [h]; rcases h2 with h2 | h2 <;> simp [h2]
theorem best_f {l : List UInt8} {b : Option Nat} {i : Nat} (h : alone l i = false) : bestStep l b i = b := by
  unfold bestStep; rw [h]; rfl
theorem best_late {l : List UInt8} {b : Option Nat} {i c : Nat} (h : 40 < i) (hb : b = some c) : bestStep l b i = b := by
  unfold bestStep; rw [if_neg]; rw [hb]; simp; omega
set_option maxRecDepth 100000 in
set_option maxHeartbeats 1000000 in
theorem breakPlace_any (s : ByteArray) (first : Nat) (w : World) (hs : s.size ≤ 1073741824) (hf : 2 ≤ first) (hf2 : first ≤ 1073741824) :
    Calls Tryd.prog 37 #[.string s, .int .i64 first] w (BrkRet s.data.toList first w) := by
  go_enter Tryd.func37, Tryd.ntmps37
  go_wp2_with fail
  go_loop [6, 7, 8] (fun p f i => ∃ (n j : Nat), j = first + n ∧ (n = 0 ∨ j + 1 ≤ s.size) ∧ i = .int .i64 j ∧ ((p = .int .i64 0 ∧ f = .bool false ∧ brkTo s.data.toList first n = none) ∨ ∃ b : Nat, p = .int .i64 b ∧ f = .bool true ∧ brkTo s.data.toList first n = some b)) (fun _ _ i => s.size - (intOf i).toNat)
  case atStart => exact ⟨0, first, rfl, .inl rfl, rfl, .inl ⟨rfl, rfl, rfl⟩⟩
  case round =>
    obtain ⟨n, j, hj, hn, rfl, hb⟩ := hrel
    have HJ := Lib.hid hj
    have hj2 : 2 ≤ j := by omega
    by_cases hlt : (j : Int) < s.size - 1
    · have h2 : j + 1 < s.size := by omega
      rcases hb with ⟨rfl, rfl, hbr⟩ | ⟨b, rfl, rfl, hbr⟩
      · cases ha : alone s.data.toList j
        · have HN : Hid (brkTo s.data.toList first (n + 1) = none) := by show _ = _; rw [brkTo_succ, ← hj, best_f ha, hbr]
          have HA := Lib.hid ha
          clear ha hbr hj hn
          go_wp2_with fail
          refine (standsAlone_any s j _ hs (by omega) h2).mono ?_
          rintro e w1 ⟨rfl, rfl⟩
          rw [HA.out]
          go_wp2
          go_round
          case rel => exact ⟨n + 1, j + 1, by have := HJ.out; omega, by omega, by go_num, .inl ⟨rfl, rfl, HN.out⟩⟩
          case measure => simp [intOf]; omega
        · have HN : Hid (brkTo s.data.toList first (n + 1) = some j) := by show _ = _; rw [brkTo_succ, ← hj, best_t ha (.inr hbr)]
          have HA := Lib.hid ha
          clear ha hbr hj hn
          go_wp2_with fail
          refine (standsAlone_any s j _ hs (by omega) h2).mono ?_
          rintro e w1 ⟨rfl, rfl⟩
          rw [HA.out]
          go_wp2
          go_round
          case rel => exact ⟨n + 1, j + 1, by have := HJ.out; omega, by omega, by go_num, .inr ⟨j, rfl, rfl, HN.out⟩⟩
          case measure => simp [intOf]; omega
      · by_cases h40 : 40 < j
        · have HR : Hid (brk s.data.toList first = some b) := by
            show _ = _; unfold brk; rw [size_list]; exact brkTo_stay hbr (by omega) (by omega)
          clear hbr hj hn
          go_wp2
          go_ret2
          exact brkRet_some HR.out
        · cases ha : alone s.data.toList j
          · have HN : Hid (brkTo s.data.toList first (n + 1) = some b) := by show _ = _; rw [brkTo_succ, ← hj, best_f ha, hbr]
            have HA := Lib.hid ha
            clear ha hbr hj hn
            go_wp2_with fail
            refine (standsAlone_any s j _ hs (by omega) h2).mono ?_
            rintro e w1 ⟨rfl, rfl⟩
            rw [HA.out]
            go_wp2
            go_round
            case rel => exact ⟨n + 1, j + 1, by have := HJ.out; omega, by omega, by go_num, .inr ⟨b, rfl, rfl, HN.out⟩⟩
            case measure => simp [intOf]; omega
          · have HN : Hid (brkTo s.data.toList first (n + 1) = some j) := by show _ = _; rw [brkTo_succ, ← hj, best_t ha (.inl (by omega))]
            have HA := Lib.hid ha
            clear ha hbr hj hn
            go_wp2_with fail
            refine (standsAlone_any s j _ hs (by omega) h2).mono ?_
            rintro e w1 ⟨rfl, rfl⟩
            rw [HA.out]
            go_wp2
            go_round
            case rel => exact ⟨n + 1, j + 1, by have := HJ.out; omega, by omega, by go_num, .inr ⟨j, rfl, rfl, HN.out⟩⟩
            case measure => simp [intOf]; omega
    · have HR := Lib.hid (brk_of s first n (by omega) (by omega))
      clear hj hn
      rcases hb with ⟨rfl, rfl, hbr⟩ | ⟨b, rfl, rfl, hbr⟩
      · have HB := Lib.hid hbr
        clear hbr
        go_wp2
        go_ret2
        exact brkRet_none (by rw [HR.out, HB.out])
      · have HB := Lib.hid hbr
        clear hbr
        go_wp2
        go_ret2
        exact brkRet_some (by rw [HR.out, HB.out])
theorem breakPlace_none (s : ByteArray) (first : Nat) (w : World) (hs : s.size ≤ 1073741824) (hf : 2 ≤ first) (hf2 : first ≤ 1073741824) (h : brk s.data.toList first = none) :
    Calls Tryd.prog 37 #[.string s, .int .i64 first] w fun e w' => e = .returned (.tuple #[.int .i64 0, .bool false]) ∧ w = w' := by
  refine (breakPlace_any s first w hs hf hf2).mono ?_
  rintro e w' ⟨h1, h2⟩
  rw [h] at h1; exact ⟨h1, h2⟩
theorem breakPlace_some (s : ByteArray) (first a : Nat) (w : World) (hs : s.size ≤ 1073741824) (hf : 2 ≤ first) (hf2 : first ≤ 1073741824) (h : brk s.data.toList first = some a) :
    Calls Tryd.prog 37 #[.string s, .int .i64 first] w fun e w' => e = .returned (.tuple #[.int .i64 (a : Int), .bool true]) ∧ w = w' := by
  refine (breakPlace_any s first w hs hf hf2).mono ?_
  rintro e w' ⟨h1, h2⟩
  rw [h] at h1; exact ⟨h1, h2⟩
def RowL (xs : List (List UInt8)) (w : World) (e : Ending) (w' : World) : Prop := ∃ v, e = .returned v ∧ OwnL w.heap.size v xs w' ∧ Below w.heap.size w w'
theorem line_val (f : Fld) (h : f.val ≠ []) : str f.name ++ ⟨#[58]⟩ ++ (⟨#[32]⟩ ++ str f.val) = str (lineF f) := by
  apply bytes_ext
  rw [Joins.data_append, Joins.data_append, Joins.data_append, str_list, str_list, str_list]
  unfold lineF
  rw [if_neg h]; simp
theorem line_val2 (f : Fld) (h : f.val ≠ []) : str f.name ++ ⟨#[58]⟩ ++ ⟨#[32]⟩ ++ str f.val = str (lineF f) := by
  apply bytes_ext
  rw [Joins.data_append, Joins.data_append, Joins.data_append, str_list, str_list, str_list]
  unfold lineF
  rw [if_neg h]; simp
theorem line_none (f : Fld) (h : f.val = []) : str f.name ++ ⟨#[58]⟩ = str (lineF f) := by
  apply bytes_ext
  rw [Joins.data_append, str_list, str_list]
  unfold lineF
  rw [if_pos h]
theorem neq_empty_t {s : ByteArray} (h : 0 < s.size) : (s.toList != (ByteArray.mk #[]).toList) = true := by
  rw [bne, beq_dec, decide_eq_false]; rfl
  intro e; rw [e] at h; exact absurd h (by decide)
set_option maxRecDepth 100000 in
set_option maxHeartbeats 2000000 in
theorem foldField_any (f : Fld) (w : World) (hf : SmallF 1073741000 f) :
    Calls Tryd.prog 12 #[.agg #[.string (str f.name), .string (str f.val)]] w (RowL (foldF f) w) := by
  obtain ⟨i0, hi, hz0, hz1, hz2⟩ := info_parts sInfo
  have hb0 : Below w.heap.size w (w.alloc (.cells #[.string (str f.name), .string (str f.val)] 24)) := (Below.refl _ _).alloc (Nat.le_refl _) _
  have HF := Lib.hid hf
  have HFV := Lib.hid (fieldValid_fld f)
  cases hv : isFld f
  · have HV := Lib.hid hv
    have HN := Lib.hid (foldF_no hv)
    clear hv hf
    generalize str f.name = n at *
    generalize str f.val = v at *
    go_enter Tryd.func12, Tryd.ntmps12
    go_wp2_with fail
    refine (HFV.out _ HF.out).mono ?_
    rintro e w1 ⟨rfl, hb1⟩
    rw [HV.out]
    go_wp2
    go_ret
    exact ⟨_, rfl, by rw [HN.out]; exact OwnL.nil _ _, nx hb0 hb1⟩
  · have HV := Lib.hid hv
    have hll := line_len hv
    have hnl := (isFName_iff.1 (isFld_iff.1 hv).1).2.1
    have hvl := (isFld_iff.1 hv).2.2.1
    have HG0 : Hid (foldF f = [] ++ foldL (lineF f) (f.name.length + 3)) := foldF_val hv
    have hzn := str_size f.name
    have hzv := str_size f.val
    have HFI : Hid (((f.name.length + 3 : Nat) : Int) = ((str f.name).size : Int) + 1 + 2) := by
      show _ = _
      rw [hzn]; omega
    clear hv hf
    by_cases hv0 : f.val = []
    all_goals
      first
        | (have HLN := Lib.hid (line_none f hv0); have he := empty_t (s := str f.val) (by rw [hzv, hv0]; rfl))
        | (have HLN := Lib.hid (line_val f hv0); have he := empty_f (s := str f.val) (by rw [hzv]; exact List.length_pos_iff.2 hv0))
    all_goals
      have hzn1 : (str f.name).size ≤ 30 := by omega
      have hzv1 : (str f.val).size ≤ 150 := by omega
      clear hv0 hzn hzv hvl
      generalize hln : lineF f = ln at *
      generalize hfi : f.name.length + 3 = fi at *
      have hfi2 : 2 ≤ fi ∧ fi ≤ 100 := by omega
      have HLN2 := Lib.hid hln
      have HFI2 := Lib.hid hfi
      clear hln hfi hnl
      generalize str f.name = n at *
      generalize str f.val = v at *
      have hsz1 : (ByteArray.mk #[58]).size = 1 := rfl
      have hsz2 : (ByteArray.mk #[32]).size = 1 := rfl
      have hA1 : (n ++ ⟨#[58]⟩ : ByteArray).size ≤ 40 := by rw [ByteArray.size_append]; omega
      go_enter Tryd.func12, Tryd.ntmps12
      go_wp2_with fail
      refine (HFV.out _ HF.out).mono ?_
      rintro e w1 ⟨rfl, hb1⟩
      rw [HV.out]
      obtain ⟨cA, fA, zA⟩ := fresh1 hb1
      have hbw := nx hb0 hb1
      go_wp2_with fail
      go_loopw [3, 4, 5] (fun s q r wr => ∃ (acc : List (List UInt8)) (l : List UInt8) (k : Nat), s = .string (str l) ∧ q = .int .i64 k ∧ OwnL w.heap.size r acc wr ∧ foldF f = acc ++ foldL l k ∧ 2 ≤ k ∧ k ≤ 100 ∧ l.length ≤ 182 ∧ acc.length + l.length ≤ 182 ∧ Below w.heap.size w wr) (fun s _ _ _ => Lib.strSize s)
      case atStart => exact ⟨[], ln, fi, by rw [← HLN.out], by rw [HFI.out], OwnL.nil _ _, HG0.out, hfi2.1, hfi2.2, hll, by simp; omega, hbw⟩
      case round =>
        obtain ⟨acc, l, k, rfl, rfl, hown, hg, hk1, hk2, hl1, hl2, hb⟩ := hrel
        have HG := Lib.hid hg
        have hown1 := hown
        unfold OwnL at hown1
        have hbs := hb.size
        have hlz := str_size l
        have HLI := Lib.hid (str_list l)
        have HSS : Hid (Lib.strSize (.string (str l)) = l.length) := by show Lib.strSize _ = _; rw [Lib.strSize_string, hlz]
        clear hg
        by_cases h40 : 40 < l.length
        · have h40' : 40 < (str l).size := by omega
          cases hbk : brk l k with
          | none =>
            have HE : Hid (foldF f = acc ++ [(str l).data.toList]) := by show _ = _; rw [HG.out, str_list, foldL_stop hbk]
            have HB : Hid (brk (str l).data.toList k = none) := by show _ = _; rw [str_list]; exact hbk
            clear hbk
            generalize str l = px at *
            go_wp2_with fail
            refine (breakPlace_none px k _ (by omega) hk1 (by omega) HB.out).mono ?_
            rintro e w2 ⟨rfl, rfl⟩
            go_wp2_with (at_builtin; refine wpList_append_own _ rfl _ _ 26 rfl w.heap.size 9 i0 (.string ⟨#[]⟩) 1 16 Tryd.underlying26 hi hz0 hz1 hz2 rfl (by decide) _ _ _ rfl (World.ownsRow.alloc hown1 _) ⟨wr.heap.size, 0, none⟩ 1 1 [.string px] rfl rfl ?q1 ?q2 ?q3 ?q4 ?q5 ?_)
            case q1 =>
              intro u v hj
              match u, hj with
              | 0, hj => simp at hj; subst hj; simp [Addr.add]
            case q2 => intro u hu; simp at hu; subst hu; rfl
            case q3 => unfold maxLen; omega
            case q4 => omega
            case q5 => simp; omega
            intro v' w3 hown' hgrow _
            have hO3 := own_snoc hown'
            have hb3 : Below w.heap.size wr w3 := ((Below.refl _ _).alloc (by omega) _).grown hgrow (by simp; omega) (fun k hk => (World.ownsRow.lt hown1 k hk).1)
            go_wp2
            go_ret
            exact ⟨v', rfl, by rw [HE.out]; exact hO3, hb.trans hb3⟩
          | some a =>
            obtain ⟨ha1, ha2, _, _⟩ := brk_some hbk
            have HE : Hid (foldF f = (acc ++ [((str l).extract 0 a).data.toList]) ++ foldL (l.drop a) 2) := by show _ = _; rw [HG.out, foldL_cut h40 hk1 hbk, ext_tk, str_list]; simp
            have HB : Hid (brk (str l).data.toList k = some a) := by show _ = _; rw [str_list]; exact hbk
            have HX : Hid ((str l).extract a l.length = str (l.drop a)) := by show _ = _; rw [← ext_dr l a, hlz]
            have ha3 : a ≤ (str l).size := by omega
            have ha4 : a ≤ 182 := by omega
            have hdl : (l.drop a).length + a = l.length := by rw [List.length_drop]; omega
            have HDL := Lib.hid hdl
            clear hbk hdl
            generalize hpx : str l = px at *
            have HPX := Lib.hid hpx
            clear hpx
            go_wp2_with fail
            refine (breakPlace_some px k a _ (by omega) hk1 (by omega) HB.out).mono ?_
            rintro e w2 ⟨rfl, rfl⟩
            go_wp2_with (at_builtin; refine wpList_append_own _ rfl _ _ 26 rfl w.heap.size 9 i0 (.string ⟨#[]⟩) 1 16 Tryd.underlying26 hi hz0 hz1 hz2 rfl (by decide) _ _ _ rfl (World.ownsRow.alloc hown1 _) ⟨wr.heap.size, 0, none⟩ 1 1 [.string (px.extract 0 a)] rfl rfl ?c1 ?c2 ?c3 ?c4 ?c5 ?_)
            case c1 =>
              intro u v hj
              match u, hj with
              | 0, hj => simp at hj; subst hj; simp [Addr.add]
            case c2 => intro u hu; simp at hu; subst hu; rfl
            case c3 => unfold maxLen; omega
            case c4 => omega
            case c5 => simp; omega
            intro v' w3 hown' hgrow _
            have hO3 := own_snoc hown'
            have hb3 : Below w.heap.size wr w3 := ((Below.refl _ _).alloc (by omega) _).grown hgrow (by simp; omega) (fun k hk => (World.ownsRow.lt hown1 k hk).1)
            go_wp2
            go_roundw
            case rel => exact ⟨_, l.drop a, 2, by rw [← HX.out], rfl, hO3, HE.out, by omega, by omega, by have := HDL.out; omega, by have := HDL.out; simp only [List.length_append, List.length_singleton]; omega, hb.trans hb3⟩
            case measure =>
              show Lib.strSize _ < Lib.strSize _
              rw [HX.out, Lib.strSize_string, Lib.strSize_string, str_size, hlz]
              have := HDL.out; omega
        · have h40' : ¬ 40 < (str l).size := by omega
          have HE : Hid (foldF f = acc ++ [(str l).data.toList]) := by show _ = _; rw [HG.out, str_list, foldL_short (by omega)]
          generalize str l = px at *
          go_wp2_with (at_builtin; refine wpList_append_own _ rfl _ _ 26 rfl w.heap.size 9 i0 (.string ⟨#[]⟩) 1 16 Tryd.underlying26 hi hz0 hz1 hz2 rfl (by decide) _ _ _ rfl (World.ownsRow.alloc hown1 _) ⟨wr.heap.size, 0, none⟩ 1 1 [.string px] rfl rfl ?r1 ?r2 ?r3 ?r4 ?r5 ?_)
          case r1 =>
            intro u v hj
            match u, hj with
            | 0, hj => simp at hj; subst hj; simp [Addr.add]
          case r2 => intro u hu; simp at hu; subst hu; rfl
          case r3 => unfold maxLen; omega
          case r4 => omega
          case r5 => simp; omega
          intro v' w3 hown' hgrow _
          have hO3 := own_snoc hown'
          have hb3 : Below w.heap.size wr w3 := ((Below.refl _ _).alloc (by omega) _).grown hgrow (by simp; omega) (fun k hk => (World.ownsRow.lt hown1 k hk).1)
          go_wp2
          go_ret
          exact ⟨v', rfl, by rw [HE.out]; exact hO3, hb.trans hb3⟩
end Go.Proofs.YtfjpajeipihlaaaDoor
