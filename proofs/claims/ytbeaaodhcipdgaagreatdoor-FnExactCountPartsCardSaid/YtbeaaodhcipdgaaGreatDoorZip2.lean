/-
  Several texts in one. No statement is proved here.
-/
import Derived.Test.YtbeaaodhcipdgaaGreatDoorFld
import Derived.Lib.TrimByte
import Derived.Laws.AppendOwn
import Derived.Laws.OwnMore
import Derived.Laws.AppendOwnNone
import Derived.Test.YtbeaaodhcipdgaaGreatDoorFldS
import Derived.Test.YtbeaaodhcipdgaaGreatDoorRowL
import Derived.Test.YtbeaaodhcipdgaaGreatDoorPartS
import Derived.Test.YtbeaaodhcipdgaaGreatDoorQuietB
import Derived.Test.YtbeaaodhcipdgaaGreatDoorTree
import Derived.Test.YtbeaaodhcipdgaaGreatDoorZip1
section
namespace Go.Proofs.YtbeaaodhcipdgaaGreatDoor
open Go.RowKit

theorem alone_at (s : ByteArray) (k : Nat) (h1 : 1 ≤ k) (h2 : k + 1 < s.size) : alone s.data.toList k = (decide (s[k] = 32) && (decide (s[k - 1] ≠ 32) && decide (s[k + 1] ≠ 32))) := by
  have hg : ∀ i, (h : i < s.size) → s.data.toList.getD i 0 = s[i] := fun i h => by
    rw [List.getD_eq_getElem?_getD, List.getElem?_eq_getElem (by rw [size_list]; exact h)]; rfl
  unfold alone
  rw [hg k (by omega), hg (k - 1) (by omega), hg (k + 1) h2]
/-- A line as a string, its rest. -/
theorem ext_tk (l : List UInt8) (a : Nat) : (str l).extract 0 a = str (l.take a) := by rw [ext_take, str_list]
theorem ext_dr (l : List UInt8) (a : Nat) : (str l).extract a (str l).size = str (l.drop a) := by rw [ext_drop, str_list]
set_option maxRecDepth 100000 in
set_option maxHeartbeats 400000 in
theorem standsAlone_any (s : ByteArray) (k : Nat) (w : World) (hs : s.size ≤ 1073741824) (h1 : 1 ≤ k) (h2 : k + 1 < s.size) :
    Calls Tryz.prog 161 #[.string s, .int .i64 k] w fun e w' => e = .returned (.bool (alone s.data.toList k)) ∧ w = w' := by
  have HA := Lib.hid (alone_at s k h1 h2)
  have h3 : k < s.size := by omega
  have h4 : k - 1 < s.size := by omega
  by_cases ha : s[k] = 32
  · have e1 := beq_t ha (n := 32) rfl
    by_cases hb : s[k - 1] = 32
    · have e2 := bneq_f hb (n := 32) rfl
      have HR : Hid (alone s.data.toList k = false) := by show _ = _; rw [HA.out, hb]; simp
      clear ha hb
      go_enter Tryz.func161, Tryz.ntmps161
      go_wp2
      go_ret
      exact ⟨ret_bool HR.out.symm, rfl⟩
    · have e2 := bneq_t hb (n := 32) rfl
      by_cases hc : s[k + 1] = 32
      · have e3 := bneq_f hc (n := 32) rfl
        have HR : Hid (alone s.data.toList k = false) := by show _ = _; rw [HA.out, hc]; simp
        clear ha hb hc
        go_enter Tryz.func161, Tryz.ntmps161
        go_wp2
        go_ret
        exact ⟨ret_bool HR.out.symm, rfl⟩
      · have e3 := bneq_t hc (n := 32) rfl
        have HR : Hid (alone s.data.toList k = true) := by show _ = _; rw [HA.out]; simp [ha, hb, hc]
        clear ha hb hc
        go_enter Tryz.func161, Tryz.ntmps161
        go_wp2
        go_ret
        exact ⟨ret_bool HR.out.symm, rfl⟩
  · have e1 := beq_f ha (n := 32) rfl
    have HR : Hid (alone s.data.toList k = false) := by show _ = _; rw [HA.out]; simp [ha]
    clear ha
    go_enter Tryz.func161, Tryz.ntmps161
    go_wp2
    go_ret
    exact ⟨ret_bool HR.out.symm, rfl⟩
def BrkRet (l : List UInt8) (first : Nat) (w : World) (e : Ending) (w' : World) : Prop := e = .returned (.tuple #[.int .i64 ((brk l first).getD 0 : Nat), .bool (brk l first).isSome]) ∧ w = w'
theorem brkRet_none {l : List UInt8} {first : Nat} {w : World} (h : brk l first = none) : BrkRet l first w (.returned (.tuple #[.int .i64 0, .bool false])) w := by
  unfold BrkRet; rw [h]; exact ⟨rfl, rfl⟩
theorem brkRet_some {l : List UInt8} {first b : Nat} {w : World} (h : brk l first = some b) : BrkRet l first w (.returned (.tuple #[.int .i64 (b : Int), .bool true])) w := by
  unfold BrkRet; rw [h]; exact ⟨rfl, rfl⟩
theorem brk_of (s : ByteArray) (first n : Nat) (h : s.size ≤ first + n + 1) (hn : n = 0 ∨ first + n + 1 ≤ s.size) : brk s.data.toList first = brkTo s.data.toList first n := by
  unfold brk; rw [size_list]
  congr 1; omega
theorem best_t {l : List UInt8} {b : Option Nat} {i : Nat} (h : alone l i = true) (h2 : i ≤ 40 ∨ b = none) : bestStep l b i = some i := by
  unfold bestStep; rw [if_pos]; rw [h]; rcases h2 with h2 | h2 <;> simp [h2]
theorem best_f {l : List UInt8} {b : Option Nat} {i : Nat} (h : alone l i = false) : bestStep l b i = b := by
  unfold bestStep; rw [h]; rfl
theorem best_late {l : List UInt8} {b : Option Nat} {i c : Nat} (h : 40 < i) (hb : b = some c) : bestStep l b i = b := by
  unfold bestStep; rw [if_neg]; rw [hb]; simp; omega
set_option maxRecDepth 100000 in
set_option maxHeartbeats 1000000 in
theorem breakPlace_any (s : ByteArray) (first : Nat) (w : World) (hs : s.size ≤ 1073741824) (hf : 2 ≤ first) (hf2 : first ≤ 1073741824) :
    Calls Tryz.prog 127 #[.string s, .int .i64 first] w (BrkRet s.data.toList first w) := by
  go_enter Tryz.func127, Tryz.ntmps127
  go_wp2_with fail
  go_loop [6, 7, 8] (fun p f i => ∃ (n j : Nat), j = first + n ∧ (n = 0 ∨ j + 1 ≤ s.size) ∧ i = .int .i64 j ∧ ((p = .int .i64 0 ∧ f = .bool false ∧ brkTo s.data.toList first n = none) ∨ ∃ b : Nat, p = .int .i64 b ∧ f = .bool true ∧ brkTo s.data.toList first n = some b)) (fun _ _ i => s.size - (intOf i).toNat)
  case atStart => exact ⟨0, first, rfl, .inl rfl, rfl, .inl ⟨rfl, rfl, rfl⟩⟩
  case round =>
    obtain ⟨n, j, hj, hn, rfl, hb⟩ := hrel
    have HJ := Lib.hid hj
    have hj2 : 2 ≤ j := by omega
    by_cases hlt : (j : Int) < s.size - 1
    · have h2 : j + 1 < s.size := by omega
      rcases hb with ⟨rfl, rfl, hbr⟩ | ⟨b, rfl, rfl, hbr⟩
      · cases ha : alone s.data.toList j
        · have HN : Hid (brkTo s.data.toList first (n + 1) = none) := by show _ = _; rw [brkTo_succ, ← hj, best_f ha, hbr]
          have HA := Lib.hid ha
          clear ha hbr hj hn
          go_wp2_with fail
          refine (standsAlone_any s j _ hs (by omega) h2).mono ?_
          rintro e w1 ⟨rfl, rfl⟩
          rw [HA.out]
          go_wp2
          go_round
          case rel => exact ⟨n + 1, j + 1, by have := HJ.out; omega, by omega, by go_num, .inl ⟨rfl, rfl, HN.out⟩⟩
          case measure => simp [intOf]; omega
        · have HN : Hid (brkTo s.data.toList first (n + 1) = some j) := by show _ = _; rw [brkTo_succ, ← hj, best_t ha (.inr hbr)]
          have HA := Lib.hid ha
          clear ha hbr hj hn
          go_wp2_with fail
          refine (standsAlone_any s j _ hs (by omega) h2).mono ?_
          rintro e w1 ⟨rfl, rfl⟩
          rw [HA.out]
          go_wp2
          go_round
          case rel => exact ⟨n + 1, j + 1, by have := HJ.out; omega, by omega, by go_num, .inr ⟨j, rfl, rfl, HN.out⟩⟩
          case measure => simp [intOf]; omega
      · by_cases h40 : 40 < j
        · have HR : Hid (brk s.data.toList first = some b) := by
            show _ = _; unfold brk; rw [size_list]; exact brkTo_stay hbr (by omega) (by omega)
          clear hbr hj hn
          go_wp2
          go_ret2
          exact brkRet_some HR.out
        · cases ha : alone s.data.toList j
          · have HN : Hid (brkTo s.data.toList first (n + 1) = some b) := by show _ = _; rw [brkTo_succ, ← hj, best_f ha, hbr]
            have HA := Lib.hid ha
            clear ha hbr hj hn
            go_wp2_with fail
            refine (standsAlone_any s j _ hs (by omega) h2).mono ?_
            rintro e w1 ⟨rfl, rfl⟩
            rw [HA.out]
            go_wp2
            go_round
            case rel => exact ⟨n + 1, j + 1, by have := HJ.out; omega, by omega, by go_num, .inr ⟨b, rfl, rfl, HN.out⟩⟩
            case measure => simp [intOf]; omega
          · have HN : Hid (brkTo s.data.toList first (n + 1) = some j) := by show _ = _; rw [brkTo_succ, ← hj, best_t ha (.inl (by omega))]
            have HA := Lib.hid ha
            clear ha hbr hj hn
            go_wp2_with fail
            refine (standsAlone_any s j _ hs (by omega) h2).mono ?_
            rintro e w1 ⟨rfl, rfl⟩
            rw [HA.out]
            go_wp2
            go_round
            case rel => exact ⟨n + 1, j + 1, by have := HJ.out; omega, by omega, by go_num, .inr ⟨j, rfl, rfl, HN.out⟩⟩
            case measure => simp [intOf]; omega
    · have HR := Lib.hid (brk_of s first n (by omega) (by omega))
      clear hj hn
      rcases hb with ⟨rfl, rfl, hbr⟩ | ⟨b, rfl, rfl, hbr⟩
      · have HB := Lib.hid hbr
        clear hbr
        go_wp2
        go_ret2
        exact brkRet_none (by rw [HR.out, HB.out])
      · have HB := Lib.hid hbr
        clear hbr
        go_wp2
        go_ret2
        exact brkRet_some (by rw [HR.out, HB.out])
theorem breakPlace_none (s : ByteArray) (first : Nat) (w : World) (hs : s.size ≤ 1073741824) (hf : 2 ≤ first) (hf2 : first ≤ 1073741824) (h : brk s.data.toList first = none) :
    Calls Tryz.prog 127 #[.string s, .int .i64 first] w fun e w' => e = .returned (.tuple #[.int .i64 0, .bool false]) ∧ w = w' := by
  refine (breakPlace_any s first w hs hf hf2).mono ?_
  rintro e w' ⟨h1, h2⟩
  rw [h] at h1; exact ⟨h1, h2⟩
theorem breakPlace_some (s : ByteArray) (first a : Nat) (w : World) (hs : s.size ≤ 1073741824) (hf : 2 ≤ first) (hf2 : first ≤ 1073741824) (h : brk s.data.toList first = some a) :
    Calls Tryz.prog 127 #[.string s, .int .i64 first] w fun e w' => e = .returned (.tuple #[.int .i64 (a : Int), .bool true]) ∧ w = w' := by
  refine (breakPlace_any s first w hs hf hf2).mono ?_
  rintro e w' ⟨h1, h2⟩
  rw [h] at h1; exact ⟨h1, h2⟩
def RowL (xs : List (List UInt8)) (w : World) (e : Ending) (w' : World) : Prop := ∃ v, e = .returned v ∧ OwnL w.heap.size v xs w' ∧ Below w.heap.size w w'
theorem line_val (f : Fld) (h : f.val ≠ []) : str f.name ++ ⟨#[58]⟩ ++ (⟨#[32]⟩ ++ str f.val) = str (lineF f) := by
  apply bytes_ext
  rw [Joins.data_append, Joins.data_append, Joins.data_append, str_list, str_list, str_list]
  unfold lineF
  rw [if_neg h]; simp
theorem line_val2 (f : Fld) (h : f.val ≠ []) : str f.name ++ ⟨#[58]⟩ ++ ⟨#[32]⟩ ++ str f.val = str (lineF f) := by
  apply bytes_ext
  rw [Joins.data_append, Joins.data_append, Joins.data_append, str_list, str_list, str_list]
  unfold lineF
  rw [if_neg h]; simp
theorem line_none (f : Fld) (h : f.val = []) : str f.name ++ ⟨#[58]⟩ = str (lineF f) := by
  apply bytes_ext
  rw [Joins.data_append, str_list, str_list]
  unfold lineF
  rw [if_pos h]
theorem neq_empty_t {s : ByteArray} (h : 0 < s.size) : (s.toList != (ByteArray.mk #[]).toList) = true := by
  rw [bne, beq_dec, decide_eq_false]; rfl
  intro e; rw [e] at h; exact absurd h (by decide)
set_option maxRecDepth 100000 in
set_option maxHeartbeats 2000000 in
theorem foldField_any (f : Fld) (w : World) (hf : SmallF 1073741000 f) :
    Calls Tryz.prog 93 #[.agg #[.string (str f.name), .string (str f.val)]] w (RowL (foldF f) w) := by
  obtain ⟨i0, hi, hz0, hz1, hz2⟩ := info_parts sInfo
  have hb0 : Below w.heap.size w (w.alloc (.cells #[.string (str f.name), .string (str f.val)] 78)) := (Below.refl _ _).alloc (Nat.le_refl _) _
  have HF := Lib.hid hf
  have HFV := Lib.hid (fieldValid_fld f)
  cases hv : isFld f
  · have HV := Lib.hid hv
    have HN := Lib.hid (foldF_no hv)
    clear hv hf
    generalize str f.name = n at *
    generalize str f.val = v at *
    go_enter Tryz.func93, Tryz.ntmps93
    go_wp2_with fail
    refine (HFV.out _ HF.out).mono ?_
    rintro e w1 ⟨rfl, hb1⟩
    rw [HV.out]
    go_wp2
    go_ret
    exact ⟨_, rfl, by rw [HN.out]; exact OwnL.nil _ _, nx hb0 hb1⟩
  · have HV := Lib.hid hv
    have hll := line_len hv
    have hnl := (isFName_iff.1 (isFld_iff.1 hv).1).2.1
    have hvl := (isFld_iff.1 hv).2.2.1
    have HG0 : Hid (foldF f = [] ++ foldL (lineF f) (f.name.length + 3)) := foldF_val hv
    have hzn := str_size f.name
    have hzv := str_size f.val
    have HFI : Hid (((f.name.length + 3 : Nat) : Int) = ((str f.name).size : Int) + 1 + 2) := by
      show _ = _
      rw [hzn]; omega
    clear hv hf
    by_cases hv0 : f.val = []
    all_goals
      first
        | (have HLN := Lib.hid (line_none f hv0); have he := empty_t (s := str f.val) (by rw [hzv, hv0]; rfl))
        | (have HLN := Lib.hid (line_val f hv0); have he := empty_f (s := str f.val) (by rw [hzv]; exact List.length_pos_iff.2 hv0))
    all_goals
      have hzn1 : (str f.name).size ≤ 30 := by omega
      have hzv1 : (str f.val).size ≤ 150 := by omega
      clear hv0 hzn hzv hvl
      generalize hln : lineF f = ln at *
      generalize hfi : f.name.length + 3 = fi at *
      have hfi2 : 2 ≤ fi ∧ fi ≤ 100 := by omega
      have HLN2 := Lib.hid hln
      have HFI2 := Lib.hid hfi
      clear hln hfi hnl
      generalize str f.name = n at *
      generalize str f.val = v at *
      have hsz1 : (ByteArray.mk #[58]).size = 1 := rfl
      have hsz2 : (ByteArray.mk #[32]).size = 1 := rfl
      have hA1 : (n ++ ⟨#[58]⟩ : ByteArray).size ≤ 40 := by rw [ByteArray.size_append]; omega
      go_enter Tryz.func93, Tryz.ntmps93
      go_wp2_with fail
      refine (HFV.out _ HF.out).mono ?_
      rintro e w1 ⟨rfl, hb1⟩
      rw [HV.out]
      obtain ⟨cA, fA, zA⟩ := fresh1 hb1
      have hbw := nx hb0 hb1
      go_wp2_with fail
      go_loopw [3, 4, 5] (fun s q r wr => ∃ (acc : List (List UInt8)) (l : List UInt8) (k : Nat), s = .string (str l) ∧ q = .int .i64 k ∧ OwnL w.heap.size r acc wr ∧ foldF f = acc ++ foldL l k ∧ 2 ≤ k ∧ k ≤ 100 ∧ l.length ≤ 182 ∧ acc.length + l.length ≤ 182 ∧ Below w.heap.size w wr) (fun s _ _ _ => Lib.strSize s)
      case atStart => exact ⟨[], ln, fi, by rw [← HLN.out], by rw [HFI.out], OwnL.nil _ _, HG0.out, hfi2.1, hfi2.2, hll, by simp; omega, hbw⟩
      case round =>
        obtain ⟨acc, l, k, rfl, rfl, hown, hg, hk1, hk2, hl1, hl2, hb⟩ := hrel
        have HG := Lib.hid hg
        have hown1 := hown
        unfold OwnL at hown1
        have hbs := hb.size
        have hlz := str_size l
        have HLI := Lib.hid (str_list l)
        have HSS : Hid (Lib.strSize (.string (str l)) = l.length) := by show Lib.strSize _ = _; rw [Lib.strSize_string, hlz]
        clear hg
        by_cases h40 : 40 < l.length
        · have h40' : 40 < (str l).size := by omega
          cases hbk : brk l k with
          | none =>
            have HE : Hid (foldF f = acc ++ [(str l).data.toList]) := by show _ = _; rw [HG.out, str_list, foldL_stop hbk]
            have HB : Hid (brk (str l).data.toList k = none) := by show _ = _; rw [str_list]; exact hbk
            clear hbk
            generalize str l = px at *
            go_wp2_with fail
            refine (breakPlace_none px k _ (by omega) hk1 (by omega) HB.out).mono ?_
            rintro e w2 ⟨rfl, rfl⟩
            go_wp2_with (at_builtin; refine wpList_append_own _ rfl _ _ 23 rfl w.heap.size 9 i0 (.string ⟨#[]⟩) 1 16 Tryz.underlying23 hi hz0 hz1 hz2 rfl (by decide) _ _ _ rfl (World.ownsRow.alloc hown1 _) ⟨wr.heap.size, 0, none⟩ 1 1 [.string px] rfl rfl ?q1 ?q2 ?q3 ?q4 ?q5 ?_)
            case q1 =>
              intro u v hj
              match u, hj with
              | 0, hj => simp at hj; subst hj; simp [Addr.add]
            case q2 => intro u hu; simp at hu; subst hu; rfl
            case q3 => unfold maxLen; omega
            case q4 => omega
            case q5 => simp; omega
            intro v' w3 hown' hgrow _
            have hO3 := own_snoc hown'
            have hb3 : Below w.heap.size wr w3 := ((Below.refl _ _).alloc (by omega) _).grown hgrow (by simp; omega) (fun k hk => (World.ownsRow.lt hown1 k hk).1)
            go_wp2
            go_ret
            exact ⟨v', rfl, by rw [HE.out]; exact hO3, hb.trans hb3⟩
          | some a =>
            obtain ⟨ha1, ha2, _, _⟩ := brk_some hbk
            have HE : Hid (foldF f = (acc ++ [((str l).extract 0 a).data.toList]) ++ foldL (l.drop a) 2) := by show _ = _; rw [HG.out, foldL_cut h40 hk1 hbk, ext_tk, str_list]; simp
            have HB : Hid (brk (str l).data.toList k = some a) := by show _ = _; rw [str_list]; exact hbk
            have HX : Hid ((str l).extract a l.length = str (l.drop a)) := by show _ = _; rw [← ext_dr l a, hlz]
            have ha3 : a ≤ (str l).size := by omega
            have ha4 : a ≤ 182 := by omega
            have hdl : (l.drop a).length + a = l.length := by rw [List.length_drop]; omega
            have HDL := Lib.hid hdl
            clear hbk hdl
            generalize hpx : str l = px at *
            have HPX := Lib.hid hpx
            clear hpx
            go_wp2_with fail
            refine (breakPlace_some px k a _ (by omega) hk1 (by omega) HB.out).mono ?_
            rintro e w2 ⟨rfl, rfl⟩
            go_wp2_with (at_builtin; refine wpList_append_own _ rfl _ _ 23 rfl w.heap.size 9 i0 (.string ⟨#[]⟩) 1 16 Tryz.underlying23 hi hz0 hz1 hz2 rfl (by decide) _ _ _ rfl (World.ownsRow.alloc hown1 _) ⟨wr.heap.size, 0, none⟩ 1 1 [.string (px.extract 0 a)] rfl rfl ?c1 ?c2 ?c3 ?c4 ?c5 ?_)
            case c1 =>
              intro u v hj
              match u, hj with
              | 0, hj => simp at hj; subst hj; simp [Addr.add]
            case c2 => intro u hu; simp at hu; subst hu; rfl
            case c3 => unfold maxLen; omega
            case c4 => omega
            case c5 => simp; omega
            intro v' w3 hown' hgrow _
            have hO3 := own_snoc hown'
            have hb3 : Below w.heap.size wr w3 := ((Below.refl _ _).alloc (by omega) _).grown hgrow (by simp; omega) (fun k hk => (World.ownsRow.lt hown1 k hk).1)
            go_wp2
            go_roundw
            case rel => exact ⟨_, l.drop a, 2, by rw [← HX.out], rfl, hO3, HE.out, by omega, by omega, by have := HDL.out; omega, by have := HDL.out; simp only [List.length_append, List.length_singleton]; omega, hb.trans hb3⟩
            case measure =>
              show Lib.strSize _ < Lib.strSize _
              rw [HX.out, Lib.strSize_string, Lib.strSize_string, str_size, hlz]
              have := HDL.out; omega
        · have h40' : ¬ 40 < (str l).size := by omega
          have HE : Hid (foldF f = acc ++ [(str l).data.toList]) := by show _ = _; rw [HG.out, str_list, foldL_short (by omega)]
          generalize str l = px at *
          go_wp2_with (at_builtin; refine wpList_append_own _ rfl _ _ 23 rfl w.heap.size 9 i0 (.string ⟨#[]⟩) 1 16 Tryz.underlying23 hi hz0 hz1 hz2 rfl (by decide) _ _ _ rfl (World.ownsRow.alloc hown1 _) ⟨wr.heap.size, 0, none⟩ 1 1 [.string px] rfl rfl ?r1 ?r2 ?r3 ?r4 ?r5 ?_)
          case r1 =>
            intro u v hj
            match u, hj with
            | 0, hj => simp at hj; subst hj; simp [Addr.add]
          case r2 => intro u hu; simp at hu; subst hu; rfl
          case r3 => unfold maxLen; omega
          case r4 => omega
          case r5 => simp; omega
          intro v' w3 hown' hgrow _
          have hO3 := own_snoc hown'
          have hb3 : Below w.heap.size wr w3 := ((Below.refl _ _).alloc (by omega) _).grown hgrow (by simp; omega) (fun k hk => (World.ownsRow.lt hown1 k hk).1)
          go_wp2
          go_ret
          exact ⟨v', rfl, by rw [HE.out]; exact hO3, hb.trans hb3⟩
end Go.Proofs.YtbeaaodhcipdgaaGreatDoor
end

section
namespace Go.Proofs.YtbeaaodhcipdgaaGreatDoor
open Go.RowKit

set_option maxRecDepth 100000 in
set_option maxHeartbeats 1000000 in
theorem l3Break_any (s : ByteArray) (from0 : Nat) (w : World) (hs : s.size ≤ 1073741824) (hf : 1 ≤ from0) (hf2 : from0 ≤ 1073741824) :
    Calls Tryz.prog 130 #[.string s, .int .i64 from0] w fun e w' => e = .returned (.int .i64 (idxI (brk s.data.toList (from0 + 1)))) ∧ w = w' := by
  go_enter Tryz.func130, Tryz.ntmps130
  go_wp2_with fail
  go_loop [5, 6] (fun p i => ∃ (n j : Nat), j = from0 + 1 + n ∧ (n = 0 ∨ j + 1 ≤ s.size) ∧ i = .int .i64 j ∧ ((p = .int .i64 (-1) ∧ brkTo s.data.toList (from0 + 1) n = none) ∨ ∃ b : Nat, p = .int .i64 b ∧ brkTo s.data.toList (from0 + 1) n = some b)) (fun _ i => s.size - (intOf i).toNat)
  case atStart => exact ⟨0, from0 + 1, rfl, .inl rfl, by go_num, .inl ⟨rfl, rfl⟩⟩
  case round =>
    obtain ⟨n, j, hj, hn, rfl, hb⟩ := hrel
    have HJ := Lib.hid hj
    have hj2 : 2 ≤ j := by omega
    by_cases hlt : (j : Int) + 1 < s.size
    · have h2 : j + 1 < s.size := by omega
      have h3 : j < s.size := by omega
      have h4 : j - 1 < s.size := by omega
      have h5 : 1 ≤ j := by omega
      have HA := Lib.hid (alone_at s j (by omega) h2)
      cases ha : alone s.data.toList j
      · have HN : Hid (brkTo s.data.toList (from0 + 1) (n + 1) = brkTo s.data.toList (from0 + 1) n) := by show _ = _; rw [brkTo_succ, ← hj, best_f ha]
        have ho : s[j] ≠ 32 ∨ (s[j] = 32 ∧ s[j - 1] = 32) ∨ (s[j] = 32 ∧ s[j - 1] ≠ 32 ∧ s[j + 1] = 32) := by
          have := HA.out
          rw [ha] at this
          by_cases g1 : s[j] = 32 <;> by_cases g2 : s[j - 1] = 32 <;> by_cases g3 : s[j + 1] = 32 <;> simp [g1, g2, g3] at this ⊢
        have HB := Lib.hid hb
        clear ha hj hn hb
        rcases ho with g1 | ⟨g1, g2⟩ | ⟨g1, g2, g3⟩
        · have e1 := bneq_t g1 (n := 32) rfl
          clear g1
          go_wp2
          go_round
          case rel => exact ⟨n + 1, j + 1, by have := HJ.out; omega, by omega, by go_num, by rw [HN.out]; exact HB.out⟩
          case measure => simp [intOf]; omega
        · have e1 := bneq_f g1 (n := 32) rfl
          have e2 := beq_t g2 (n := 32) rfl
          clear g1 g2
          go_wp2
          go_round
          case rel => exact ⟨n + 1, j + 1, by have := HJ.out; omega, by omega, by go_num, by rw [HN.out]; exact HB.out⟩
          case measure => simp [intOf]; omega
        · have e1 := bneq_f g1 (n := 32) rfl
          have e2 := beq_f g2 (n := 32) rfl
          have e3 := beq_t g3 (n := 32) rfl
          clear g1 g2 g3
          go_wp2
          go_round
          case rel => exact ⟨n + 1, j + 1, by have := HJ.out; omega, by omega, by go_num, by rw [HN.out]; exact HB.out⟩
          case measure => simp [intOf]; omega
      · have ho : s[j] = 32 ∧ s[j - 1] ≠ 32 ∧ s[j + 1] ≠ 32 := by
          have := HA.out
          rw [ha] at this
          by_cases g1 : s[j] = 32 <;> by_cases g2 : s[j - 1] = 32 <;> by_cases g3 : s[j + 1] = 32 <;> simp [g1, g2, g3] at this ⊢
        obtain ⟨g1, g2, g3⟩ := ho
        have e1 := bneq_f g1 (n := 32) rfl
        have e2 := beq_f g2 (n := 32) rfl
        have e3 := beq_f g3 (n := 32) rfl
        clear g1 g2 g3 hn
        rcases hb with ⟨rfl, hbr⟩ | ⟨b, rfl, hbr⟩
        · have HN : Hid (brkTo s.data.toList (from0 + 1) (n + 1) = some j) := by show _ = _; rw [brkTo_succ, ← hj, best_t ha (.inr hbr)]
          clear ha hj hbr
          by_cases h40 : j ≤ 40
          all_goals
            go_wp2
            go_round
            case rel => exact ⟨n + 1, j + 1, by have := HJ.out; omega, by omega, by go_num, .inr ⟨j, rfl, HN.out⟩⟩
            case measure => simp [intOf]; omega
        · by_cases h40 : j ≤ 40
          · have HN : Hid (brkTo s.data.toList (from0 + 1) (n + 1) = some j) := by show _ = _; rw [brkTo_succ, ← hj, best_t ha (.inl h40)]
            clear ha hj hbr
            go_wp2
            go_round
            case rel => exact ⟨n + 1, j + 1, by have := HJ.out; omega, by omega, by go_num, .inr ⟨j, rfl, HN.out⟩⟩
            case measure => simp [intOf]; omega
          · have HN : Hid (brkTo s.data.toList (from0 + 1) (n + 1) = some b) := by show _ = _; rw [brkTo_succ, ← hj, best_late (by omega) hbr, hbr]
            have hbn : ¬ ((b : Int) < 0) := by omega
            clear ha hj hbr
            go_wp2
            go_round
            case rel => exact ⟨n + 1, j + 1, by have := HJ.out; omega, by omega, by go_num, .inr ⟨b, rfl, HN.out⟩⟩
            case measure => simp [intOf]; omega
    · have HR := Lib.hid (brk_of s (from0 + 1) n (by omega) (by omega))
      have hjb : j ≤ 2147483648 := by omega
      clear hj hn
      rcases hb with ⟨rfl, hbr⟩ | ⟨b, rfl, hbr⟩
      · have HB := Lib.hid hbr
        clear hbr
        go_wp2
        go_ret
        exact ⟨ret_int (by rw [HR.out, HB.out]; rfl), rfl⟩
      · have HB := Lib.hid hbr
        clear hbr
        go_wp2
        go_ret
        exact ⟨ret_int (by rw [HR.out, HB.out]; rfl), rfl⟩
set_option maxRecDepth 100000 in
set_option maxHeartbeats 2000000 in
theorem foldFieldS_any (f : Fld) (w : World) (hf : SmallF 1073741000 f) :
    Calls Tryz.prog 96 #[.agg #[.string (str f.name), .string (str f.val)]] w (RowL (foldF f) w) := by
  obtain ⟨i0, hi, hz0, hz1, hz2⟩ := info_parts sInfo
  have hb0 : Below w.heap.size w (w.alloc (.cells #[.string (str f.name), .string (str f.val)] 78)) := (Below.refl _ _).alloc (Nat.le_refl _) _
  have hb00 := hb0.alloc hb0.size (.cells #[] 9)
  have hown0 : OwnL w.heap.size (.slice (some ⟨w.heap.size + 1, 0, none⟩) 0 0) [] ((w.alloc (.cells #[.string (str f.name), .string (str f.val)] 78)).alloc (.cells #[] 9)) := by
    have := (OwnL.empty (w.alloc (.cells #[.string (str f.name), .string (str f.val)] 78))).base (B' := w.heap.size) (by simp)
    simpa using this
  have HF := Lib.hid hf
  have HFV := Lib.hid (fieldValidS_fld f)
  cases hv : isFld f
  · have HV := Lib.hid hv
    have HN := Lib.hid (foldF_no hv)
    clear hv hf
    generalize str f.name = n at *
    generalize str f.val = v at *
    go_enter Tryz.func96, Tryz.ntmps96
    go_wp2_with fail
    refine (HFV.out _ HF.out).mono ?_
    rintro e w1 ⟨rfl, hb1⟩
    rw [HV.out]
    go_wp2
    go_ret
    exact ⟨_, rfl, by rw [HN.out]; exact hown0.keep hb1, nx hb00 hb1⟩
  · have HV := Lib.hid hv
    have hll := line_len hv
    have hnl := (isFName_iff.1 (isFld_iff.1 hv).1).2.1
    have hvl := (isFld_iff.1 hv).2.2.1
    have HG0 : Hid (foldF f = [] ++ foldL (lineF f) (f.name.length + 3)) := foldF_val hv
    have hzn := str_size f.name
    have hzv := str_size f.val
    have HSH : Hid (f.val = [] → foldF f = [] ++ foldL (lineF f) (f.name.length + 2)) := fun h => by
      have hl : (lineF f).length ≤ 40 := by unfold lineF; rw [if_pos h]; simp; omega
      rw [HG0.out, foldL_short hl, foldL_short hl]
    have HFI : Hid (((f.name.length + 1 : Nat) : Int) = ((str f.name).size : Int) + 1 ∧ ((f.name.length + 2 : Nat) : Int) = ((str f.name).size : Int) + 1 + 1) := by
      show _ ∧ _
      rw [hzn]; exact ⟨by omega, by omega⟩
    clear hv hf
    by_cases hv0 : f.val = []
    all_goals
      first
        | (have HLN := Lib.hid (line_none f hv0); have HGS : Hid (foldF f = [] ++ foldL (lineF f) (f.name.length + 1 + 1)) := HSH.out hv0; have HK : Hid (((f.name.length + 1 : Nat) : Int) = ((str f.name).size : Int) + 1) := HFI.out.1; have hki : f.name.length + 1 ≤ 99 ∧ 1 ≤ f.name.length + 1 := by omega
           generalize f.name.length + 1 = ki at *; have he := empty_t (s := str f.val) (by rw [hzv, hv0]; rfl))
        | (have HLN := Lib.hid (line_val2 f hv0); have HGS : Hid (foldF f = [] ++ foldL (lineF f) (f.name.length + 2 + 1)) := HG0.out; have HK : Hid (((f.name.length + 2 : Nat) : Int) = ((str f.name).size : Int) + 1 + 1) := HFI.out.2; have hki : f.name.length + 2 ≤ 99 ∧ 1 ≤ f.name.length + 2 := by omega
           generalize f.name.length + 2 = ki at *; have he := empty_f (s := str f.val) (by rw [hzv]; exact List.length_pos_iff.2 hv0))
    all_goals
      have hzn1 : (str f.name).size ≤ 30 := by omega
      have hzv1 : (str f.val).size ≤ 150 := by omega
      clear hv0 hzn hzv hvl
      generalize hln : lineF f = ln at *
      have HLN2 := Lib.hid hln
      clear hln hnl HSH HG0 HFI
      generalize str f.name = n at *
      generalize str f.val = v at *
      have hsz1 : (ByteArray.mk #[58]).size = 1 := rfl
      have hsz2 : (ByteArray.mk #[32]).size = 1 := rfl
      have hA1 : (n ++ ⟨#[58]⟩ : ByteArray).size ≤ 40 := by rw [ByteArray.size_append]; omega
      go_enter Tryz.func96, Tryz.ntmps96
      go_wp2_with fail
      refine (HFV.out _ HF.out).mono ?_
      rintro e w1 ⟨rfl, hb1⟩
      rw [HV.out]
      have hbw := nx hb00 hb1
      have hownw := hown0.keep hb1
      obtain ⟨hcB, hfB⟩ := bcell hb1
      go_wp2_with fail
      go_loopw [3, 4, 5] (fun r s q wr => ∃ (acc : List (List UInt8)) (l : List UInt8) (k : Nat), s = .string (str l) ∧ q = .int .i64 k ∧ OwnL w.heap.size r acc wr ∧ foldF f = acc ++ foldL l (k + 1) ∧ 1 ≤ k ∧ k ≤ 99 ∧ l.length ≤ 182 ∧ acc.length + l.length ≤ 182 ∧ Below w.heap.size w wr) (fun _ s _ _ => Lib.strSize s)
      case atStart => exact ⟨[], ln, ki, by rw [← HLN.out], by rw [HK.out], hownw, HGS.out, hki.2, hki.1, hll, by simp; omega, hbw⟩
      case round =>
        obtain ⟨acc, l, k, rfl, rfl, hown, hg, hk1, hk2, hl1, hl2, hb⟩ := hrel
        have HG := Lib.hid hg
        have hown1 := hown
        unfold OwnL at hown1
        have hbs := hb.size
        have hlz := str_size l
        have HLI := Lib.hid (str_list l)
        have HSS : Hid (Lib.strSize (.string (str l)) = l.length) := by show Lib.strSize _ = _; rw [Lib.strSize_string, hlz]
        clear hg
        by_cases h40 : 40 < l.length
        · have h40' : 40 < (str l).size := by omega
          cases hbk : brk l (k + 1) with
          | none =>
            have HE : Hid (foldF f = acc ++ [(str l).data.toList]) := by show _ = _; rw [HG.out, str_list, foldL_stop hbk]
            have HB : Hid (brk (str l).data.toList (k + 1) = none) := by show _ = _; rw [str_list]; exact hbk
            clear hbk
            generalize str l = px at *
            go_wp2_with fail
            refine (l3Break_any px k _ (by omega) hk1 (by omega)).mono ?_
            rintro e w2 ⟨rfl, rfl⟩
            rw [HB.out, idxI_none]
            go_wp2_with (at_builtin; refine wpList_append_own _ rfl _ _ 23 rfl w.heap.size 9 i0 (.string ⟨#[]⟩) 1 16 Tryz.underlying23 hi hz0 hz1 hz2 rfl (by decide) _ _ _ rfl (World.ownsRow.alloc hown1 _) ⟨wr.heap.size, 0, none⟩ 1 1 [.string px] rfl rfl ?q1 ?q2 ?q3 ?q4 ?q5 ?_)
            case q1 =>
              intro u v hj
              match u, hj with
              | 0, hj => simp at hj; subst hj; simp [Addr.add]
            case q2 => intro u hu; simp at hu; subst hu; rfl
            case q3 => unfold maxLen; omega
            case q4 => omega
            case q5 => simp; omega
            intro v' w3 hown' hgrow _
            have hO3 := own_snoc hown'
            have hb3 : Below w.heap.size wr w3 := ((Below.refl _ _).alloc (by omega) _).grown hgrow (by simp; omega) (fun k hk => (World.ownsRow.lt hown1 k hk).1)
            go_wp2
            go_ret
            exact ⟨v', rfl, by rw [HE.out]; exact hO3, hb.trans hb3⟩
          | some a =>
            obtain ⟨ha1, ha2, _, _⟩ := brk_some hbk
            have HE : Hid (foldF f = (acc ++ [((str l).extract 0 a).data.toList]) ++ foldL (l.drop a) 2) := by show _ = _; rw [HG.out, foldL_cut h40 (by omega) hbk, ext_tk, str_list]; simp
            have HB : Hid (brk (str l).data.toList (k + 1) = some a) := by show _ = _; rw [str_list]; exact hbk
            have HX : Hid ((str l).extract a l.length = str (l.drop a)) := by show _ = _; rw [← ext_dr l a, hlz]
            have ha3 : a ≤ (str l).size := by omega
            have ha4 : a ≤ 182 := by omega
            have hdl : (l.drop a).length + a = l.length := by rw [List.length_drop]; omega
            have HDL := Lib.hid hdl
            clear hbk hdl
            generalize hpx : str l = px at *
            have HPX := Lib.hid hpx
            clear hpx
            go_wp2_with fail
            refine (l3Break_any px k _ (by omega) hk1 (by omega)).mono ?_
            rintro e w2 ⟨rfl, rfl⟩
            rw [HB.out, idxI_some]
            go_wp2_with (at_builtin; refine wpList_append_own _ rfl _ _ 23 rfl w.heap.size 9 i0 (.string ⟨#[]⟩) 1 16 Tryz.underlying23 hi hz0 hz1 hz2 rfl (by decide) _ _ _ rfl (World.ownsRow.alloc hown1 _) ⟨wr.heap.size, 0, none⟩ 1 1 [.string (px.extract 0 a)] rfl rfl ?c1 ?c2 ?c3 ?c4 ?c5 ?_)
            case c1 =>
              intro u v hj
              match u, hj with
              | 0, hj => simp at hj; subst hj; simp [Addr.add]
            case c2 => intro u hu; simp at hu; subst hu; rfl
            case c3 => unfold maxLen; omega
            case c4 => omega
            case c5 => simp; omega
            intro v' w3 hown' hgrow _
            have hO3 := own_snoc hown'
            have hb3 : Below w.heap.size wr w3 := ((Below.refl _ _).alloc (by omega) _).grown hgrow (by simp; omega) (fun k hk => (World.ownsRow.lt hown1 k hk).1)
            go_wp2
            go_roundw
            case rel => exact ⟨_, l.drop a, 1, by rw [← HX.out], rfl, hO3, HE.out, by omega, by omega, by have := HDL.out; omega, by have := HDL.out; simp only [List.length_append, List.length_singleton]; omega, hb.trans hb3⟩
            case measure =>
              show Lib.strSize _ < Lib.strSize _
              rw [HX.out, Lib.strSize_string, Lib.strSize_string, str_size, hlz]
              have := HDL.out; omega
        · have h40' : ¬ 40 < (str l).size := by omega
          have HE : Hid (foldF f = acc ++ [(str l).data.toList]) := by show _ = _; rw [HG.out, str_list, foldL_short (by omega)]
          generalize str l = px at *
          go_wp2_with (at_builtin; refine wpList_append_own _ rfl _ _ 23 rfl w.heap.size 9 i0 (.string ⟨#[]⟩) 1 16 Tryz.underlying23 hi hz0 hz1 hz2 rfl (by decide) _ _ _ rfl (World.ownsRow.alloc hown1 _) ⟨wr.heap.size, 0, none⟩ 1 1 [.string px] rfl rfl ?r1 ?r2 ?r3 ?r4 ?r5 ?_)
          case r1 =>
            intro u v hj
            match u, hj with
            | 0, hj => simp at hj; subst hj; simp [Addr.add]
          case r2 => intro u hu; simp at hu; subst hu; rfl
          case r3 => unfold maxLen; omega
          case r4 => omega
          case r5 => simp; omega
          intro v' w3 hown' hgrow _
          have hO3 := own_snoc hown'
          have hb3 : Below w.heap.size wr w3 := ((Below.refl _ _).alloc (by omega) _).grown hgrow (by simp; omega) (fun k hk => (World.ownsRow.lt hown1 k hk).1)
          go_wp2
          go_ret
          exact ⟨v', rfl, by rw [HE.out]; exact hO3, hb.trans hb3⟩
end Go.Proofs.YtbeaaodhcipdgaaGreatDoor
end

section
namespace Go.Proofs.YtbeaaodhcipdgaaGreatDoor
open Go.RowKit

def FoldRet (xs : List Fld) (w : World) (e : Ending) (w' : World) : Prop := ∃ v, e = .returned (.tuple #[v, .bool (fldsOk xs)]) ∧ OwnL w.heap.size v (foldFs xs) w' ∧ Below w.heap.size w w'
theorem foldRet_none {xs : List Fld} {w w' : World} {v : Value} (h : fldsOk xs = false) (ho : OwnL w.heap.size v [] w') (hb : Below w.heap.size w w') : FoldRet xs w (.returned (.tuple #[v, .bool false])) w' :=
  ⟨v, by rw [h], by unfold foldFs; rw [if_neg (by simp [h])]; exact ho, hb⟩
theorem foldRet_some {xs : List Fld} {w w' : World} {v : Value} (h : fldsOk xs = true) (ho : OwnL w.heap.size v (foldFs xs) w') (hb : Below w.heap.size w w') : FoldRet xs w (.returned (.tuple #[v, .bool true])) w' :=
  ⟨v, by rw [h], ho, hb⟩
set_option maxRecDepth 100000 in
set_option maxHeartbeats 1000000 in
theorem foldFields_any (a : Option Addr) (n c : Nat) (xs : List Fld) (w : World) (hr : RdF w a n xs) (hn : n ≤ 1073741824) (hx : ∀ x ∈ xs, SmallF 1073741000 x) :
    Calls Tryz.prog 65 #[.slice a n c] w (FoldRet xs w) := by
  have HX := Lib.hid hx
  have HR := Lib.hid hr
  cases hok : fldsOk xs
  · have HV := Lib.hid hok
    clear hok hx
    go_enter Tryz.func65, Tryz.ntmps65
    go_wp2_with fail
    refine (fieldsValid_any a n c xs _ hr hn HX.out).mono ?_
    rintro e w1 ⟨rfl, hb1⟩
    rw [HV.out]
    go_wp2
    go_ret2
    exact foldRet_none HV.out (OwnL.nil _ _) hb1
  · have hall := (fldsOk_iff.1 hok).1
    have hl20 := (fldsOk_iff.1 hok).2
    have HV := Lib.hid hok
    have HALL := Lib.hid hall
    have hn20 : n ≤ 20 := by have := hr.1; omega
    have HLEN := Lib.hid hr.1
    clear hok hall hx
    go_enter Tryz.func65, Tryz.ntmps65
    go_wp2_with fail
    refine (fieldsValid_any a n c xs _ hr hn HX.out).mono ?_
    rintro e w1 ⟨rfl, hb1⟩
    rw [HV.out]
    have hB1 := hb1
    clear hr hl20
    go_wp2_with fail
    go_loopw [4, 12] (fun v i wr => ∃ (k : Nat) (acc : List (List UInt8)), k ≤ n ∧ i = .int .i64 k ∧ acc.length ≤ 183 * k ∧ (xs.take k).flatMap foldF = acc ∧ OwnL w.heap.size v acc wr ∧ Below w.heap.size w wr) (fun _ i _ => n - (intOf i).toNat)
    case atStart => exact ⟨0, [], Nat.zero_le _, rfl, Nat.zero_le _, rfl, OwnL.nil _ _, hB1⟩
    case round =>
      obtain ⟨k, acc, hk, rfl, hal, hacc, hown, hb⟩ := hrel
      have HACC := Lib.hid hacc
      clear hacc
      by_cases hlt : k < n
      · have hkx : k < xs.length := by rw [HLEN.out]; exact hlt
        obtain ⟨b, off, rfl, hbl, hcell⟩ := HR.out.2.resolve_left (by omega)
        obtain ⟨q0, q1⟩ := RdR.fld hcell hkx
        rw [← below_at hb hbl] at q0 q1
        have HSM := Lib.hid (HX.out _ (List.getElem_mem hkx))
        have HST : Hid ((xs.take (k + 1)).flatMap foldF = acc ++ foldF xs[k]) := by show _ = _; rw [List.take_succ_eq_append_getElem hkx, List.flatMap_append, HACC.out]; simp
        have hfl := (foldF_len xs[k]).1
        have HFC := Lib.hid (foldField_any xs[k])
        clear hcell
        generalize foldF xs[k] = fs at *
        generalize str xs[k].name = s0 at *
        generalize str xs[k].val = s1 at *
        have HOWN := Lib.hid hown
        clear hown
        have hbA : Below wr.heap.size wr (wr.alloc (.cells #[.string s0, .string s1] 78)) := (Below.refl _ _).alloc (Nat.le_refl _) _
        go_wp2_with fail
        refine (HFC.out _ HSM.out).mono ?_
        rintro e w2 ⟨v2, rfl, ho2, hb2⟩
        have hO2 := HOWN.out.keep (nx hbA hb2)
        have hB2 := nx hb (nx hbA hb2)
        have hsz := hB2.size
        go_wp2_with (at_builtin; refine wpList_append_LL rfl _ _ rfl w.heap.size _ _ _ acc fs rfl rfl hO2 ho2 hsz (by omega) ?_)
        intro v' w3 ho3 hb3
        go_wp2
        go_roundw
        case rel => exact ⟨k + 1, _, by omega, by go_num, by rw [List.length_append]; omega, HST.out, ho3, hB2.trans hb3⟩
        case measure => simp [intOf]; omega
      · have HE : Hid (foldFs xs = acc) := by
          show _ = _
          rw [← HACC.out, List.take_of_length_le (by rw [HLEN.out]; omega), foldAll_map HALL.out]
          unfold foldFs; rw [if_pos HV.out]
        go_wp2
        go_ret2
        exact foldRet_some HV.out (by rw [HE.out]; exact hown) hb
set_option maxRecDepth 100000 in
set_option maxHeartbeats 1000000 in
theorem foldFieldsS_any (a : Option Addr) (n c : Nat) (xs : List Fld) (w : World) (hr : RdF w a n xs) (hn : n ≤ 1073741824) (hx : ∀ x ∈ xs, SmallF 1073741000 x) :
    Calls Tryz.prog 68 #[.slice a n c] w (FoldRet xs w) := by
  have HX := Lib.hid hx
  have HR := Lib.hid hr
  have hb00 : Below w.heap.size w (w.alloc (.cells #[] 9)) := (Below.refl _ _).alloc (Nat.le_refl _) _
  have HOW : Hid (OwnL w.heap.size (.slice (some ⟨w.heap.size, 0, none⟩) 0 0) [] (w.alloc (.cells #[] 9))) := OwnL.empty _
  cases hok : fldsOk xs
  · have HV := Lib.hid hok
    clear hok hx
    go_enter Tryz.func68, Tryz.ntmps68
    go_wp2_with fail
    refine (l3Valid_any a n c xs _ (hr.below hb00) hn HX.out).mono ?_
    rintro e w1 ⟨rfl, hb1⟩
    rw [HV.out]
    go_wp2
    go_ret2
    exact foldRet_none HV.out (HOW.out.keep hb1) (nx hb00 hb1)
  · have hall := (fldsOk_iff.1 hok).1
    have hl20 := (fldsOk_iff.1 hok).2
    have HV := Lib.hid hok
    have HALL := Lib.hid hall
    have hn20 : n ≤ 20 := by have := hr.1; omega
    have HLEN := Lib.hid hr.1
    clear hok hall hx
    go_enter Tryz.func68, Tryz.ntmps68
    go_wp2_with fail
    refine (l3Valid_any a n c xs _ (hr.below hb00) hn HX.out).mono ?_
    rintro e w1 ⟨rfl, hb1⟩
    rw [HV.out]
    have hB1 := (nx hb00 hb1)
    clear hr hl20
    go_wp2_with fail
    go_loopw [4, 5] (fun v i wr => ∃ (k : Nat) (acc : List (List UInt8)), k ≤ n ∧ i = .int .i64 k ∧ acc.length ≤ 183 * k ∧ (xs.take k).flatMap foldF = acc ∧ OwnL w.heap.size v acc wr ∧ Below w.heap.size w wr) (fun _ i _ => n - (intOf i).toNat)
    case atStart => exact ⟨0, [], Nat.zero_le _, rfl, Nat.zero_le _, rfl, HOW.out.keep hb1, hB1⟩
    case round =>
      obtain ⟨k, acc, hk, rfl, hal, hacc, hown, hb⟩ := hrel
      have HACC := Lib.hid hacc
      clear hacc
      by_cases hlt : k < n
      · have hkx : k < xs.length := by rw [HLEN.out]; exact hlt
        obtain ⟨b, off, rfl, hbl, hcell⟩ := HR.out.2.resolve_left (by omega)
        obtain ⟨q0, q1⟩ := RdR.fld hcell hkx
        rw [← below_at hb hbl] at q0 q1
        have HSM := Lib.hid (HX.out _ (List.getElem_mem hkx))
        have HST : Hid ((xs.take (k + 1)).flatMap foldF = acc ++ foldF xs[k]) := by show _ = _; rw [List.take_succ_eq_append_getElem hkx, List.flatMap_append, HACC.out]; simp
        have hfl := (foldF_len xs[k]).1
        have HFC := Lib.hid (foldFieldS_any xs[k])
        clear hcell
        generalize foldF xs[k] = fs at *
        generalize str xs[k].name = s0 at *
        generalize str xs[k].val = s1 at *
        have HOWN := Lib.hid hown
        clear hown
        go_wp2_with fail
        refine (HFC.out _ HSM.out).mono ?_
        rintro e w2 ⟨v2, rfl, ho2, hb2⟩
        have hO2 := HOWN.out.keep hb2
        have hB2 := nx hb hb2
        have hsz := hB2.size
        go_wp2_with (at_builtin; refine wpList_append_LL rfl _ _ rfl w.heap.size _ _ _ acc fs rfl rfl hO2 ho2 hsz (by omega) ?_)
        intro v' w3 ho3 hb3
        go_wp2
        go_roundw
        case rel => exact ⟨k + 1, _, by omega, by go_num, by rw [List.length_append]; omega, HST.out, ho3, hB2.trans hb3⟩
        case measure => simp [intOf]; omega
      · have HE : Hid (foldFs xs = acc) := by
          show _ = _
          rw [← HACC.out, List.take_of_length_le (by rw [HLEN.out]; omega), foldAll_map HALL.out]
          unfold foldFs; rw [if_pos HV.out]
        go_wp2
        go_ret2
        exact foldRet_some HV.out (by rw [HE.out]; exact hown) hb
end Go.Proofs.YtbeaaodhcipdgaaGreatDoor
end

section
namespace Go.Proofs.YtbeaaodhcipdgaaGreatDoor
open Go.RowKit

theorem linesRet_noneE {o : Option (List (List UInt8))} {w w' : World} (h : o = none) (hb : Below w.heap.size w w') : LinesRet o w (.returned (.tuple #[.slice (some ⟨w'.heap.size, 0, none⟩) 0 0, .bool false])) (w'.alloc (.cells #[] 9)) := by
  subst h; exact ⟨_, rfl, (OwnL.empty w').base hb.size, hb.alloc hb.size _⟩
theorem linesRet_noneO {o : Option (List (List UInt8))} {w w' : World} {v : Value} (h : o = none) (ho : OwnL w.heap.size v [] w') (hb : Below w.heap.size w w') : LinesRet o w (.returned (.tuple #[v, .bool false])) w' := by
  subst h; exact ⟨v, rfl, ho, hb⟩
set_option maxRecDepth 100000 in
set_option maxHeartbeats 4000000 in
theorem joinPartsS_any (a : Option Addr) (n c : Nat) (ps : List (List (List UInt8))) (s : ByteArray) (w : World) (hr : RdSS w a n ps) (hn : n ≤ 1048576) (hps : sumP ps ≤ 4000000) (hs : s.size ≤ 1073741824) :
    Calls Tryz.prog 69 #[.slice a n c, .string s] w (LinesRet (joinP ps s.data.toList) w) := by
  obtain ⟨hl, hr2⟩ := hr
  have HLEN := Lib.hid hl
  have HR := Lib.hid hr2
  have hbA : Below w.heap.size w (w.alloc (.cells #[] 9)) := (Below.refl _ _).alloc (Nat.le_refl _) _
  have HE : Hid (OwnL w.heap.size (.slice (some ⟨w.heap.size, 0, none⟩) 0 0) [] (w.alloc (.cells #[] 9))) := OwnL.empty w
  clear hl hr2
  cases hv : isBnd s.data.toList
  · have HP := Lib.hid (joinP_no (ps := ps) hv)
    have HV := Lib.hid hv
    clear hv
    go_enter Tryz.func69, Tryz.ntmps69
    go_wp2_with fail
    refine (l7Boundary_any s _ hs).mono ?_
    rintro e w1 ⟨rfl, rfl⟩
    rw [HV.out]
    go_wp2
    go_ret2
    exact linesRet_noneO HP.out HE.out hbA
  · have hz := bnd_size hv
    have HV := Lib.hid hv
    by_cases h0 : n = 0
    · have HP : Hid (joinP ps s.data.toList = none) := by show _ = _; rw [List.length_eq_zero_iff.1 (HLEN.out.trans h0), joinP_nil]
      subst h0
      clear hv hz
      go_enter Tryz.func69, Tryz.ntmps69
      go_wp2_with fail
      refine (l7Boundary_any s _ hs).mono ?_
      rintro e w1 ⟨rfl, rfl⟩
      rw [HV.out]
      go_wp2
      go_ret2
      exact linesRet_noneO HP.out HE.out hbA
    have HPN : Hid (ps ≠ []) := by show _ ≠ _; intro e; exact h0 (by rw [← HLEN.out, e]; rfl)
    have e0 : ((n : Int) == 0) = false := by rw [beq_eq_false_iff_ne]; omega
    have HS4 := Lib.hid hps
    have HB := Lib.hid (beg_str s)
    have HB2 : Hid ((⟨#[45, 45]⟩ : ByteArray) ++ s ++ ⟨#[45, 45]⟩ = str (endL s.data.toList)) := by show _ = _; rw [HB.out]; exact end_str s
    have HBL : Hid (((⟨#[45, 45]⟩ : ByteArray) ++ s).data.toList = begL s.data.toList) := by show _ = _; rw [HB.out, str_list]
    have HBL2 : Hid (((⟨#[45, 45]⟩ : ByteArray) ++ s ++ ⟨#[45, 45]⟩).data.toList = endL s.data.toList) := by show _ = _; rw [HB2.out, str_list]
    have z2 : (⟨#[45, 45]⟩ : ByteArray).size = 2 := rfl
    obtain ⟨b, off, rfl, hbl, hcell⟩ := HR.out.resolve_left h0
    have HC := Lib.hid hcell
    have hs6 : s.size ≤ 1000000 := by omega
    clear hv hps hcell h0
    go_enter Tryz.func69, Tryz.ntmps69
    go_wp2_with fail
    refine (l7Boundary_any s _ hs).mono ?_
    rintro e w1 ⟨rfl, rfl⟩
    rw [HV.out]
    go_wp2_with fail
    go_loopw [6, 7] (fun v i wr => ∃ (k : Nat), k ≤ n ∧ i = .int .i64 k ∧ (∀ j, j < k → (hj : j < ps.length) → freeB s.data.toList ps[j] = true) ∧ OwnL w.heap.size v (partsL s.data.toList (ps.take k)) wr ∧ Below w.heap.size w wr) (fun _ i _ => n - (intOf i).toNat)
    case atStart => exact ⟨0, Nat.zero_le _, rfl, (fun j hj => by omega), HE.out, hbA⟩
    case round =>
      obtain ⟨k, hk, rfl, hall, ho, hb⟩ := hrel
      have HALL := Lib.hid hall
      have HO := Lib.hid ho
      have hbs := hb.size
      have hpl := partsL_len s.data.toList (ps.take k)
      have hpt := sumP_take ps k
      have hs4 := HS4.out
      have hlen4 : (partsL s.data.toList (ps.take k)).length ≤ 4000000 := by omega
      clear hall hpl hpt hs4 ho
      by_cases hlt : k < n
      · have hkx : k < ps.length := by rw [HLEN.out]; exact hlt
        obtain ⟨a5, c5, q0, hd5, hac5, hnc5⟩ := HC.out k hkx
        have HQ0 := Lib.hid q0
        rw [← below_at hb hbl] at q0
        have hpk : ps[k].length ≤ 4000000 := by have := sumP_mem (List.getElem_mem hkx); have := HS4.out; omega
        have HSU := Lib.hid (partsL_succ s.data.toList ps k hkx)
        have HPT : Hid ((partsL s.data.toList (ps.take k)).length + 1 + ps[k].length ≤ 4000000) := by
          have h1 := partsL_len s.data.toList (ps.take (k + 1))
          have h2 := sumP_take ps (k + 1)
          have h3 := HS4.out
          show _ ≤ _
          rw [HSU.out, List.length_append, List.length_append, List.length_singleton] at h1
          omega
        have HD5 := Lib.hid hd5
        have hps1 := HPT.out
        obtain ⟨P, hP⟩ : ∃ P, P = partsL s.data.toList (ps.take k) := ⟨_, rfl⟩
        have HPP := Lib.hid hP
        rw [← hP] at HO hlen4 hps1
        obtain ⟨p, hp⟩ : ∃ p, p = ps[k] := ⟨_, rfl⟩
        have HPK := Lib.hid hp
        rw [← hp] at hpk hps1 q0 HQ0 hnc5 HD5
        clear hd5 hac5 hP hp
        obtain ⟨a6, c6, rfl, _, _, _, hnc6⟩ := HO.out.readc
        have HA : Hid (OwnL w.heap.size (.slice a6 P.length c6) P (wr.alloc (.cells #[.string ((⟨#[45, 45]⟩ : ByteArray) ++ s)] 9))) := HO.out.keep ((Below.refl _ _).alloc (Nat.le_refl _) _)
        go_wp2_with (at_builtin; refine wpList_append_1L rfl _ _ rfl w.heap.size _ P ((⟨#[45, 45]⟩ : ByteArray) ++ s) wr.heap.size rfl rfl (by rw [World.cell?_alloc_at _ _ _ _ rfl]; rfl) HA.out ?c2 ?c3 ?_)
        case c2 => first | omega | (simp; omega)
        case c3 => omega
        intro v4 w4 hO4 hgr4 _
        have hb4 : Below w.heap.size w w4 := (hb.alloc hbs _).grown hgr4 (by simp; omega) (fun g hg => (HA.out.lt g hg).1)
        have HO4 : Hid (OwnL w.heap.size v4 (P ++ [begL s.data.toList]) w4) := by show OwnL _ _ _ _; rw [← HBL.out]; exact hO4
        clear hO4 hgr4
        go_wp2_with fail
        obtain ⟨wo, rfl⟩ : ∃ wo : World, wo = wr := ⟨_, rfl⟩
        go_loopw [6, 8] (fun v i wq => ∃ (j : Nat), j ≤ p.length ∧ i = .int .i64 j ∧ (∀ t, t < j → (ht : t < p.length) → looksB s.data.toList p[t] = false) ∧ OwnL w.heap.size v (P ++ [begL s.data.toList] ++ p.take j) wq ∧ Below w.heap.size w wq) (fun _ i _ => p.length - (intOf i).toNat)
        case atStart => exact ⟨0, Nat.zero_le _, rfl, (fun t ht => by omega), by rw [List.take_zero, List.append_nil]; exact HO4.out, hb4⟩
        case round =>
          obtain ⟨j, hj, rfl, hfr, ho, hb⟩ := hrel
          have HFR := Lib.hid hfr
          have HO5 := Lib.hid ho
          have hbs5 := hb.size
          clear hfr ho q0
          have q0 : wr.cell? ⟨b, off + k, none⟩ = some (.slice a5 p.length c5) := by rw [below_at hb hbl]; exact HQ0.out
          obtain ⟨P2, hP2⟩ : ∃ P2, P2 = P ++ [begL s.data.toList] ++ p.take j := ⟨_, rfl⟩
          have hP2l : P2.length ≤ 4000000 := by rw [hP2, List.length_append, List.length_append, List.length_singleton, List.length_take]; omega
          have HP2 := Lib.hid hP2
          rw [← hP2] at HO5
          clear hP2
          obtain ⟨a7, c7, rfl, _, _, _, hnc7⟩ := HO5.out.readc
          by_cases hjl : j < p.length
          · obtain ⟨b2, off2, ha5, hbl2, hc2⟩ := HD5.out.2.resolve_left (by omega)
            subst ha5
            have q1 : wr.cell? ⟨b2, off2 + j, none⟩ = some (.string (str p[j])) := by rw [below_at hb hbl2]; exact hc2 j hjl
            have HTK := Lib.hid (List.take_succ_eq_append_getElem hjl)
            have HFB : Hid (looksB s.data.toList p[j] = true → freeB s.data.toList p = false) := fun h => freeB_f hjl h
            obtain ⟨x, hx⟩ : ∃ x, x = p[j] := ⟨_, rfl⟩
            have HX := Lib.hid hx
            rw [← hx] at q1 HTK HFB
            clear hc2 hx
            cases hlo : looksB s.data.toList x
            · have HLO := Lib.hid hlo
              have HLC : Hid (∀ u, Calls Tryz.prog 63 #[.string (str x), .string s] u fun e w' => e = .returned (.bool false) ∧ u = w') := fun u => by have := l7Looks_any x s u hs6; rw [hlo] at this; exact this
              have HXS : Hid ((str x).data.toList = x) := str_list x
              clear hlo
              obtain ⟨X, hX⟩ : ∃ X, X = str x := ⟨_, rfl⟩
              rw [← hX] at q1 HLC HXS
              clear hX
              go_wp2_with fail
              refine (HLC.out _).mono ?_
              rintro e w5 ⟨rfl, rfl⟩
              have HA5 : Hid (OwnL w.heap.size (.slice a7 P2.length c7) P2 (wr.alloc (.cells #[.string X] 9))) := HO5.out.keep ((Below.refl _ _).alloc (Nat.le_refl _) _)
              go_wp2_with (at_builtin; refine wpList_append_1L rfl _ _ rfl w.heap.size _ P2 X wr.heap.size rfl rfl (by rw [World.cell?_alloc_at _ _ _ _ rfl]; rfl) HA5.out ?c2 ?c3 ?_)
              case c2 => first | omega | (simp; omega)
              case c3 => omega
              intro v6 w6 hO6 hgr6 _
              have hb6 : Below w.heap.size w w6 := (hb.alloc hbs5 _).grown hgr6 (by simp; omega) (fun g hg => (HA5.out.lt g hg).1)
              have HN : Hid (OwnL w.heap.size v6 (P ++ [begL s.data.toList] ++ p.take (j + 1)) w6) := by
                show OwnL _ _ _ _
                rw [HTK.out, ← List.append_assoc, ← HP2.out, ← HXS.out]; exact hO6
              clear hO6 hgr6
              go_wp2
              go_roundw
              case rel => exact ⟨j + 1, by omega, by go_num, (fun t ht htl => by
                by_cases e : t = j
                · subst e; have := HLO.out; rw [HX.out] at this; exact this
                · exact HFR.out t (by omega) htl), HN.out, hb6⟩
              case measure => simp [intOf]; omega
            · have HP : Hid (joinP ps s.data.toList = none) := by
                have h1 := HFB.out hlo
                rw [HPK.out] at h1
                exact joinP_bad (okParts_bad hkx h1)
              have HLC : Hid (∀ u, Calls Tryz.prog 63 #[.string (str x), .string s] u fun e w' => e = .returned (.bool true) ∧ u = w') := fun u => by have := l7Looks_any x s u hs6; rw [hlo] at this; exact this
              clear hlo
              obtain ⟨X, hX⟩ : ∃ X, X = str x := ⟨_, rfl⟩
              rw [← hX] at q1 HLC
              clear hX
              go_wp2_with fail
              refine (HLC.out _).mono ?_
              rintro e w5 ⟨rfl, rfl⟩
              go_wp2
              go_ret2
              exact linesRet_noneE HP.out hb
          · have hjp : j = p.length := by omega
            have HN : Hid (P2 = partsL s.data.toList (ps.take (k + 1))) := by
              show _ = _
              rw [HP2.out, HSU.out, ← HPP.out, ← HPK.out, hjp, List.take_length]
            have HFK : Hid (freeB s.data.toList p = true) := freeB_t (fun t ht => HFR.out t (by omega) ht)
            clear hjp
            go_wp2
            go_roundw
            case rel => exact ⟨k + 1, by omega, by go_num, (fun t ht htl => by
              by_cases e : t = k
              · subst e; rw [← HPK.out]; exact HFK.out
              · exact HALL.out t (by omega) htl), by rw [← HN.out]; exact HO5.out, hb⟩
            case measure => simp [intOf]; omega
      · have hkn : k = ps.length := by rw [HLEN.out]; omega
        have HT : Hid (ps.take k = ps) := by show _ = _; rw [hkn, List.take_length]
        rw [HT.out] at HO hlen4
        have HP : Hid (joinP ps s.data.toList = some (partsL s.data.toList ps ++ [endL s.data.toList])) := by
          show _ = _
          exact joinP_yes HV.out HPN.out (okParts_good fun j hj => HALL.out j (by omega) hj)
        clear hkn
        obtain ⟨P, hP⟩ : ∃ P, P = partsL s.data.toList ps := ⟨_, rfl⟩
        rw [← hP] at HO hlen4 HP
        clear hP
        obtain ⟨a6, c6, rfl, _, _, _, hnc6⟩ := HO.out.readc
        have HA : Hid (OwnL w.heap.size (.slice a6 P.length c6) P (wr.alloc (.cells #[.string ((⟨#[45, 45]⟩ : ByteArray) ++ s ++ ⟨#[45, 45]⟩)] 9))) := HO.out.keep ((Below.refl _ _).alloc (Nat.le_refl _) _)
        go_wp2_with (at_builtin; refine wpList_append_1L rfl _ _ rfl w.heap.size _ P ((⟨#[45, 45]⟩ : ByteArray) ++ s ++ ⟨#[45, 45]⟩) wr.heap.size rfl rfl (by rw [World.cell?_alloc_at _ _ _ _ rfl]; rfl) HA.out ?c2 ?c3 ?_)
        case c2 => first | omega | (simp; omega)
        case c3 => omega
        intro v4 w4 hO4 hgr4 _
        have hb4 : Below w.heap.size w w4 := (hb.alloc hbs _).grown hgr4 (by simp; omega) (fun g hg => (HA.out.lt g hg).1)
        go_wp2
        go_ret2
        exact linesRet_some HP.out (by rw [← HBL2.out]; exact hO4) hb4
end Go.Proofs.YtbeaaodhcipdgaaGreatDoor
end

section
namespace Go.Proofs.YtbeaaodhcipdgaaGreatDoor
open Go.RowKit

theorem PartsRet.none' {w : World} {e : Ending} {w' : World} (h : PartsRet none w e w') : ∃ a c, e = .returned (.tuple #[.slice a 0 c, .bool false]) ∧ Below w.heap.size w w' := by
  obtain ⟨v, us, rfl, ho, hb⟩ := h
  obtain ⟨a, c, rfl, _⟩ := ho.read
  exact ⟨a, c, rfl, hb⟩
theorem PartsRet.some' {ps : List (List (List UInt8))} {w : World} {e : Ending} {w' : World} (h : PartsRet (some ps) w e w') : ∃ a c us, e = .returned (.tuple #[.slice a ps.length c, .bool true]) ∧ OwnSS w.heap.size (.slice a ps.length c) us ps w' ∧ RdSS w' a ps.length ps ∧ Below w.heap.size w w' := by
  obtain ⟨v, us, rfl, ho, hb⟩ := h
  have ho : OwnSS w.heap.size v us ps w' := ho
  obtain ⟨a, c, rfl, hr, _⟩ := ho.read
  exact ⟨a, c, us, rfl, ho, hr, hb⟩
theorem LinesRet.none' {w : World} {e : Ending} {w' : World} (h : LinesRet none w e w') : ∃ a c, e = .returned (.tuple #[.slice a 0 c, .bool false]) ∧ RdL w' a 0 [] ∧ Below w.heap.size w w' := by
  obtain ⟨v, rfl, ho, hb⟩ := h
  have ho : OwnL w.heap.size v [] w' := ho
  obtain ⟨a, c, rfl, hr, _⟩ := ho.read
  exact ⟨a, c, rfl, hr, hb⟩
theorem LinesRet.some' {ls : List (List UInt8)} {w : World} {e : Ending} {w' : World} (h : LinesRet (some ls) w e w') : ∃ a c, e = .returned (.tuple #[.slice a ls.length c, .bool true]) ∧ OwnL w.heap.size (.slice a ls.length c) ls w' ∧ RdL w' a ls.length ls ∧ Below w.heap.size w w' := by
  obtain ⟨v, rfl, ho, hb⟩ := h
  have ho : OwnL w.heap.size v ls w' := ho
  obtain ⟨a, c, rfl, hr, _⟩ := ho.read
  exact ⟨a, c, rfl, ho, hr, hb⟩
theorem RdSS.cellT {W0 wr : World} {a : Option Addr} {n : Nat} {ps : List (List (List UInt8))} (h : RdSS W0 a n ps) (hb : Below W0.heap.size W0 wr) {k : Nat} (hk : k < ps.length) :
    ∃ b off a' c', a = some ⟨b, off, none⟩ ∧ (∀ y : BelowT wr, y.val.cell? ⟨b, off + k, none⟩ = some (.slice a' ps[k].length c')) ∧ (∀ y : BelowT wr, RdL y.val a' ps[k].length ps[k]) ∧ ps[k].length ≤ c' := by
  obtain ⟨b, off, ha, hbl, hc⟩ := h.2.resolve_left (by have := h.1; omega)
  obtain ⟨a', c', h1, h2, _, h4⟩ := hc k hk
  exact ⟨b, off, a', c', ha, fun y => by rw [below_at (nx hb y.below) hbl, h1], fun y => h2.below (nx hb y.below), h4⟩
theorem RdSS.cellW {W0 wr : World} {a : Option Addr} {n : Nat} {ps : List (List (List UInt8))} (h : RdSS W0 a n ps) (hb : Below W0.heap.size W0 wr) {k : Nat} (hk : k < ps.length) :
    ∃ b off a' c', a = some ⟨b, off, none⟩ ∧ wr.cell? ⟨b, off + k, none⟩ = some (.slice a' ps[k].length c') ∧ RdL wr a' ps[k].length ps[k] ∧ ps[k].length ≤ c' := by
  obtain ⟨b, off, a', c', ha, h1, h2, h3⟩ := h.cellT hb hk
  exact ⟨b, off, a', c', ha, h1 ⟨wr, Below.refl _ _⟩, h2 ⟨wr, Below.refl _ _⟩, h3⟩
end Go.Proofs.YtbeaaodhcipdgaaGreatDoor
end

section
namespace Go.Proofs.YtbeaaodhcipdgaaGreatDoor
open Go.RowKit

set_option maxRecDepth 100000 in
set_option maxHeartbeats 1000000 in
theorem boundaryOfFields_any (a : Option Addr) (n c : Nat) (fs : List Fld) (w : World) (tab : Tab w) (hr : RdF w a n fs) (hn : n ≤ 1048576) (hx : ∀ x ∈ fs, SmallF 1048576 x) :
    Calls Tryz.prog 74 #[.slice a n c] w (BndRet (bndF fs) w) := by
  have HG := Lib.hid (getField_any a n c fs ⟨#[67, 111, 110, 116, 101, 110, 116, 45, 84, 121, 112, 101]⟩ w hr (by omega) (fun x h => (hx x h).up (by omega)) (by decide))
  unfold GetRet at HG
  have hgl : (str (getR fs typeL)).size ≤ 1048576 := by rw [str_size]; exact getR_len hx
  have HP : Hid (∀ u, Below w.heap.size w u → Calls Tryz.prog 103 #[.string (str (getR fs typeL))] u (PKL (parseK (getR fs typeL)) u)) := fun u h => by
    have := parseKind_k (str (getR fs typeL)) u (tab.below h) (by omega)
    rw [str_list] at this; exact this
  have HB : Hid (∀ u b f, Below w.heap.size w u → RdK u (parseKR (getR fs typeL)) b f → Calls Tryz.prog 104 #[.agg #[.string (str (parseKR (getR fs typeL)).main), .string (str (parseKR (getR fs typeL)).sub), .slice b (parseKR (getR fs typeL)).params.length f]] u (BndRet (bndF fs) u)) := fun u b f h k => boundaryOf_k u (tab.below h) k
  have HE : Hid (str (getR fs ((⟨#[67, 111, 110, 116, 101, 110, 116, 45, 84, 121, 112, 101]⟩ : ByteArray).data.toList)) = str (getR fs typeL)) := rfl
  unfold PKL at HP
  have HKE : Hid ((parseK (getR fs typeL)).getD knd0 = parseKR (getR fs typeL)) := rfl
  rw [HKE.out] at HP
  rw [HE.out] at HG
  clear hr hx tab HE HKE
  generalize (getF fs ((⟨#[67, 111, 110, 116, 101, 110, 116, 45, 84, 121, 112, 101]⟩ : ByteArray).data.toList)).isSome = gs at *
  generalize (parseK (getR fs typeL)).isSome = ps at *
  generalize str (getR fs typeL) = GT at *
  generalize parseKR (getR fs typeL) = q at *
  generalize q.params.length = nq at *
  generalize str q.main = MQ at *
  generalize str q.sub = SQ at *
  unfold BndRet at *
  generalize str ((bndF fs).getD []) = BS at *
  generalize (bndF fs).isSome = bs at *
  go_enter Tryz.func74, Tryz.ntmps74
  go_wp2_with fail
  refine HG.out.mono ?_
  rintro e w1 ⟨rfl, hb1⟩
  go_wp2_with fail
  refine (HP.out _ hb1).mono ?_
  rintro e w2 ⟨b2, f2, rfl, hr2, hb2⟩
  have hb12 := nx hb1 hb2
  go_wp2_with fail
  first
    | refine (HB.out _ _ _ hb12 hr2).mono ?_
    | refine (HB.out _ _ _ (nx hb12 ((Below.refl _ _).alloc (Nat.le_refl _) _)) (hr2.below ((Below.refl _ _).alloc (Nat.le_refl _) _))).mono ?_
  rintro e w3 ⟨rfl, hb3⟩
  go_wp2
  go_ret2
  first
    | exact ⟨rfl, nx hb12 hb3⟩
    | exact ⟨rfl, nx (nx hb12 ((Below.refl _ _).alloc (Nat.le_refl _) _)) hb3⟩
end Go.Proofs.YtbeaaodhcipdgaaGreatDoor
end

section
namespace Go.Proofs.YtbeaaodhcipdgaaGreatDoor
open Go.RowKit

theorem pow5 {d : Nat} (h : d ≤ 3) : 5 ^ d ≤ 125 := Nat.pow_le_pow_right (n := 5) (by omega) h
set_option maxRecDepth 100000 in
set_option maxHeartbeats 1000000 in
theorem bodyValid_any (a : Option Addr) (n c : Nat) (xs : List (List UInt8)) (w : World) (hr : RdL w a n xs) (hn : n ≤ 1048576) (hx : ∀ x ∈ xs, x.length ≤ 1048576) :
    Calls Tryz.prog 95 #[.slice a n c] w fun e w' => e = .returned (.bool (okBody xs)) ∧ Below w.heap.size w w' := by
  have HLEN := Lib.hid hr.1
  have HR := Lib.hid hr.2
  have HX := Lib.hid hx
  clear hr hx
  by_cases h30 : 30 < n
  · have d1 : decide ((30 : Int) < n) = true := by simp; omega
    have HN := Lib.hid (okBody_long (b := xs) (by rw [HLEN.out]; exact h30))
    go_enter Tryz.func95, Tryz.ntmps95
    go_wp2
    go_ret
    exact ⟨ret_bool HN.out.symm, Below.refl _ _⟩
  · have d1 : decide ((30 : Int) < n) = false := by simp; omega
    go_enter Tryz.func95, Tryz.ntmps95
    go_wp2_with fail
    go_loopw [10] (fun i wr => ∃ (k : Nat), k ≤ n ∧ i = .int .i64 k ∧ wr = w ∧ ∀ j, j < k → (hj : j < xs.length) → isText xs[j] = true) (fun i _ => n - (intOf i).toNat)
    case atStart => exact ⟨0, Nat.zero_le _, rfl, rfl, fun j h => by omega⟩
    case round =>
      obtain ⟨k, hk, rfl, rfl, hall⟩ := hrel
      have HA := Lib.hid hall
      clear hall
      by_cases hlt : k < n
      · have hkx : k < xs.length := by rw [HLEN.out]; exact hlt
        obtain ⟨b, off, rfl, hbl, hcell⟩ := HR.out.resolve_left (by omega)
        have q0 := hcell k hkx
        have hz : (str xs[k]).size ≤ 1048576 := by rw [str_size]; exact HX.out _ (List.getElem_mem hkx)
        have HTX : Hid (∀ u : World, Calls Tryz.prog 129 #[.string (str xs[k])] u fun e w' => e = .returned (.bool (isText xs[k])) ∧ u = w') := fun u => by
          have := textValid_any (str xs[k]) u (by unfold maxLen; omega)
          rw [str_list] at this; exact this
        have HBAD : Hid (isText xs[k] = false → okBody xs = false) := fun h => okBody_bad hkx h
        have HAK : Hid (isText xs[k] = true → ∀ j, j < k + 1 → (hj : j < xs.length) → isText xs[j] = true) := fun h j hj hjx => by
          by_cases e : j = k
          · subst e; exact h
          · exact HA.out j (by omega) hjx
        clear hcell
        generalize isText xs[k] = q at *
        generalize str xs[k] = S at *
        cases q
        · have HB := Lib.hid (HBAD.out rfl)
          go_wp2_with fail
          refine (HTX.out _).mono ?_
          rintro e w1 ⟨rfl, rfl⟩
          go_wp2
          go_ret
          exact ⟨ret_bool HB.out.symm, Below.refl _ _⟩
        · have HN := Lib.hid (HAK.out rfl)
          go_wp2_with fail
          refine (HTX.out _).mono ?_
          rintro e w1 ⟨rfl, rfl⟩
          go_wp2
          go_roundw
          case rel =>
            first
              | exact ⟨k + 1, by omega, by go_num, rfl, HN.out⟩
              | exact ⟨k + 1, by omega, by go_num, trivial, HN.out⟩
              | exact ⟨k + 1, by omega, by go_num, HN.out⟩
          case measure => simp [intOf]; omega
      · have HG := Lib.hid (okBody_good (b := xs) (fun j hj => HA.out j (by have := HLEN.out; omega) hj) (by have := HLEN.out; omega))
        go_wp2
        go_ret
        exact ⟨ret_bool HG.out.symm, Below.refl _ _⟩
theorem mapO_take {α β : Type} {f : α → Option β} {xs : List α} {ys : List β} {k : Nat} (hk : k < xs.length) {y : β} (h : mapO f (xs.take k) = some ys) (hy : f xs[k] = some y) : mapO f (xs.take (k + 1)) = some (ys ++ [y]) := by
  rw [List.take_succ_eq_append_getElem hk, mapO_snoc, h, Option.bind_some, hy]; rfl
def LinesAt (d : Nat) : Prop := ∀ (f : Nat) (v : Value) (p : Prt) (u : World), Tab u → RdT u f v p → Calls Tryz.prog 39 #[v, .int .i64 (d : Int)] u (LinesRet (linesT d p) u)
set_option maxRecDepth 100000 in
set_option maxHeartbeats 2000000 in
theorem linesOfKids_of (d : Nat) (hd : d ≤ 3) (IH : LinesAt d) (f : Nat) (a : Option Addr) (n c : Nat) (ks : List Prt) (s : ByteArray) (w : World) (tab : Tab w) (hr : RdKs w f a ks) (hn : ks.length = n) (hn2 : n ≤ 1048576) (hs : s.size ≤ 1048576) :
    Calls Tryz.prog 94 #[.slice a n c, .string s, .int .i64 (d : Int)] w (LinesRet (kidsO d ks s.data.toList) w) := by
  have HLEN := Lib.hid hn
  have HR := Lib.hid hr
  clear hr hn
  by_cases h4 : 4 < n
  · have d1 : decide ((4 : Int) < n) = true := by simp; omega
    have HN := Lib.hid (kidsO_long (d := d) (ks := ks) (b := s.data.toList) (by rw [HLEN.out]; exact h4))
    go_enter Tryz.func94, Tryz.ntmps94
    go_wp2
    go_ret2
    exact linesRet_none HN.out (Below.refl _ _)
  · have d1 : decide ((4 : Int) < n) = false := by simp; omega
    go_enter Tryz.func94, Tryz.ntmps94
    go_wp2_with fail
    go_loopw [8, 18] (fun v i wr => ∃ (k : Nat) (us : List Value) (ps : List (List (List UInt8))), k ≤ n ∧ i = .int .i64 k ∧ mapO (linesT d) (ks.take k) = some ps ∧ OwnSS w.heap.size v us ps wr ∧ ps.length = k ∧ Below w.heap.size w wr) (fun _ i _ => n - (intOf i).toNat)
    case atStart => exact ⟨0, [], [], Nat.zero_le _, rfl, rfl, OwnSS.nil _ _, rfl, Below.refl _ _⟩
    case round =>
      obtain ⟨k, us, ps, hk, rfl, hm, hown, hpl, hb⟩ := hrel
      have HM := Lib.hid hm
      have HO := Lib.hid hown
      have HPL := Lib.hid hpl
      have hbs := hb.size
      clear hm hown hpl
      by_cases hlt : k < n
      · have hkx : k < ks.length := by rw [HLEN.out]; exact hlt
        obtain ⟨b, off, rfl, hbl, a1, c1, a2, c2, a3, c3, g0, g1, g2, g3⟩ := (HR.out.below hb).at hkx
        have HT := Lib.hid g3
        have tabr := tab.below hb
        have HC := Lib.hid (fun u (h : Below wr.heap.size wr u) => IH f _ ks[k] u (tabr.below h) (g3.below h f))
        have hAr : Below wr.heap.size wr (wr.alloc (.cells #[.slice a1 ks[k].fields.length c1, .slice a2 ks[k].body.length c2, .slice a3 ks[k].kids.length c3] 32)) := (Below.refl _ _).alloc (Nat.le_refl _) _
        have HTK : Hid (∀ y, linesT d ks[k] = some y → mapO (linesT d) (ks.take (k + 1)) = some (ps ++ [y])) := fun y h => mapO_take hkx HM.out h
        have HBAD := Lib.hid (kidsO_bad (d := d) (b := s.data.toList) hkx)
        clear g3
        generalize linesT d ks[k] = o at *
        generalize ks[k].fields.length = n1 at *
        generalize ks[k].body.length = n2 at *
        generalize ks[k].kids.length = n3 at *
        cases o with
        | none =>
          have HN := Lib.hid (HBAD.out rfl)
          clear HTK HBAD
          go_wp2_with fail
          refine (HC.out _ hAr).mono ?_
          intro e w1 hret
          obtain ⟨ax, cx, rfl, _, hb1⟩ := hret.none'
          go_wp2
          go_ret2
          exact linesRet_none HN.out (nx hb (nx hAr hb1))
        | some ls =>
          have HN := Lib.hid (HTK.out _ rfl)
          clear HTK HBAD
          obtain ⟨a9, c9, rfl, _, _, _, _⟩ := HO.out.read
          go_wp2_with fail
          refine (HC.out _ hAr).mono ?_
          intro e w1 hret
          obtain ⟨ax, cx, rfl, ho1', _, hb1'⟩ := hret.some'
          have hb1 := nx hAr hb1'
          have ho1 := ho1'.base hAr.size
          have hbs1 := hb1.size
          clear hret ho1' hb1'
          have hA1 : Below w1.heap.size w1 (w1.alloc (.cells #[.slice ax ls.length cx] 23)) := (Below.refl _ _).alloc (Nat.le_refl _) _
          have HOU : Hid (OwnL w.heap.size (.slice ax ls.length cx) ls (w1.alloc (.cells #[.slice ax ls.length cx] 23))) := (ho1.keep hA1).base hbs
          have HOV : Hid (OwnSS w.heap.size (.slice a9 ps.length c9) us ps (w1.alloc (.cells #[.slice ax ls.length cx] 23))) := (HO.out.keep hb1).keep hA1
          have HO1 := Lib.hid ho1
          have hpk : ps.length ≤ 4 := by have := HPL.out; omega
          clear ho1
          go_wp2_with (at_builtin; refine wpList_append_SS rfl _ _ rfl w.heap.size _ (.slice ax ls.length cx) us ps ls w1.heap.size rfl rfl ?c1 rfl HOV.out HOU.out ?c4 ?c5 ?c2 ?c3 ?_)
          case c1 => rw [World.cell?_alloc_at _ _ _ _ rfl]; rfl
          case c4 => exact fun g hg e => by have := (HO1.out.lt g hg).1; have := (HO.out.lt.1 g e).2; omega
          case c5 => exact fun i z g hz hg e => by have := (HO1.out.lt g hg).1; have := (HO.out.lt.2 i z g hz e).2; omega
          case c2 => simp; omega
          case c3 => omega
          intro v' w6 hO6 hgr6 _
          have hb6 : Below w.heap.size w w6 := ((nx hb hb1).alloc (nx hb hb1).size _).grown hgr6 (by simp; omega) (fun g hg => (HOV.out.lt.1 g hg).1)
          have HN6 := Lib.hid hO6
          have hpl6 : (ps ++ [ls]).length = k + 1 := by rw [List.length_append, HPL.out]; rfl
          have HPL6 := Lib.hid hpl6
          obtain ⟨ys, hys⟩ : ∃ ys, ys = ps ++ [ls] := ⟨_, rfl⟩
          rw [← hys] at HN HN6 HPL6
          clear hO6 hgr6 hys hpl6
          go_wp2
          go_roundw
          case rel => exact ⟨k + 1, _, ys, by omega, by go_num, HN.out, HN6.out, HPL6.out, hb6⟩
          case measure => simp [intOf]; omega
      · have hkn : k = n := by omega
        have HMA : Hid (mapO (linesT d) ks = some ps) := by
          have := HM.out
          rw [List.take_of_length_le (by rw [HLEN.out]; omega)] at this; exact this
        have HKO : Hid (kidsO d ks s.data.toList = joinP ps s.data.toList) := kidsO_all (by rw [HLEN.out]; omega) HMA.out
        have hsum := mapO_sum hd (by rw [HLEN.out]; omega) HMA.out
        obtain ⟨a9, c9, rfl, hrd, _, _, _⟩ := HO.out.read
        have hpk : ps.length ≤ 4 := by have := HPL.out; omega
        have HJ := Lib.hid (joinParts_any a9 ps.length c9 ps s wr hrd (by omega) (by omega) (by omega))
        rw [← HKO.out] at HJ
        clear hrd hsum hkn
        generalize ps.length = np at *
        go_wp2_with fail
        refine HJ.out.mono ?_
        rintro e w1 ⟨v1, rfl, ho1, hb1⟩
        go_wp2
        go_ret2
        exact ⟨v1, rfl, ho1.base hbs, nx hb hb1⟩
/-- What stands behind the fields, where it is right. -/
def RestRet (o : Option (List (List UInt8))) (W0 w : World) (e : Ending) (w' : World) : Prop := ∃ (a : Option Addr) (n c : Nat), e = .returned (.tuple #[.slice a n c, .bool o.isSome]) ∧ (∀ r, o = some r → n = r.length ∧ (a = none → c = 0) ∧ (RdL W0 a r.length r ∨ OwnL w.heap.size (.slice a r.length c) r w')) ∧ Below w.heap.size w w'
set_option maxRecDepth 100000 in
set_option maxHeartbeats 2000000 in
theorem linesBehind_of (d : Nat) (hd : d ≤ 2) (IH : LinesAt d) (f : Nat) (v : Value) (p : Prt) (W0 w : World) (hw0 : Below W0.heap.size W0 w) (tab : Tab w) (hr : RdT W0 f v p) :
    Calls Tryz.prog 66 #[v, .int .i64 ((d : Int) + 1)] w (RestRet (restO d p) W0 w) := by
  obtain ⟨f', a1, c1, a2, c2, a3, c3, rfl, rfl, ⟨hf, hfc⟩, ⟨hbd, hbc, hbn⟩, hkc, hpf, hks⟩ := hr.open
  have HBD := Lib.hid hbd
  replace hf := hf.below hw0
  replace hbd := hbd.below hw0
  replace hks := hks.below hw0
  clear hw0
  have hA : Below w.heap.size w (w.alloc (.cells #[.slice a1 p.fields.length c1, .slice a2 p.body.length c2, .slice a3 p.kids.length c3] 32)) := (Below.refl _ _).alloc (Nat.le_refl _) _
  have HX := Lib.hid (KK3.new w (.slice a1 p.fields.length c1) (.slice a2 p.body.length c2) (.slice a3 p.kids.length c3) 32)
  have HB := Lib.hid (boundaryOfFields_any a1 p.fields.length c1 p.fields _ (tab.below hA) (hf.below hA) hpf.1 hpf.2.1)
  have HK : Hid (∀ (b : List UInt8) u, b.length ≤ 20 → Below w.heap.size w u → Calls Tryz.prog 94 #[.slice a3 p.kids.length c3, .string (str b), .int .i64 (d : Int)] u (LinesRet (kidsO d p.kids b) u)) := fun b u hbl h => by
    have := linesOfKids_of d (by omega) IH f' a3 p.kids.length c3 p.kids (str b) u (tab.below h) (hks.below h) rfl hpf.2.2.2.2 (by rw [str_size]; omega)
    rw [str_list] at this; exact this
  have HV : Hid (∀ u, Below w.heap.size w u → Calls Tryz.prog 95 #[.slice a2 p.body.length c2] u fun e w' => e = .returned (.bool (okBody p.body)) ∧ Below u.heap.size u w') := fun u h => bodyValid_any a2 p.body.length c2 p.body u (hbd.below h) hpf.2.2.1 hpf.2.2.2.1
  have HBN := Lib.hid hbn
  have HPF := Lib.hid hpf
  have hnb : p.body.length ≤ 1048576 := hpf.2.2.1
  have hnk : p.kids.length ≤ 1048576 := hpf.2.2.2.2
  clear hf hfc hbd hbc hbn hkc hpf hks tab hr
  unfold BndRet at HB
  cases hq : bndF p.fields with
  | none =>
    have HL := Lib.hid (restO_leaf (d := d) hq)
    rw [hq] at HB
    clear HK hq
    by_cases hk0 : p.kids.length = 0
    · have HKN : Hid (p.kids = []) := List.length_eq_zero_iff.1 hk0
      have e0 : ((p.kids.length : Int) == 0) = true := by rw [beq_iff_eq]; omega
      cases hv : okBody p.body
      · have HN : Hid (restO d p = none) := by show _ = _; rw [HL.out, if_neg (fun c => by rw [hv] at c; cases c.1)]
        rw [hv] at HV
        clear hv hk0
        generalize p.kids.length = nk at *
        generalize p.body.length = nb at *
        generalize p.fields.length = nf at *
        go_enter Tryz.func66, Tryz.ntmps66
        go_wp2_with fail
        refine HB.out.mono ?_
        rintro e w1 ⟨rfl, hb1⟩
        obtain ⟨y0, y1, y2⟩ := HX.out.below hb1
        have hb01 := nx hA hb1
        have z0 : ∀ y : BelowT w1, y.val.cell? ⟨w.heap.size, 0, none⟩ = some (.slice a1 nf c1) := fun y => ((HX.out.below hb1).below y.below).1
        have z1 : ∀ y : BelowT w1, y.val.cell? ⟨w.heap.size, 1, none⟩ = some (.slice a2 nb c2) := fun y => ((HX.out.below hb1).below y.below).2.1
        have z2 : ∀ y : BelowT w1, y.val.cell? ⟨w.heap.size, 2, none⟩ = some (.slice a3 nk c3) := fun y => ((HX.out.below hb1).below y.below).2.2
        go_wp2_with fail
        refine wp_region_quietB (W := w1) (by kernel_rfl) (by kernel_rfl) (Below.refl _ _) ?_
        repeat (go_big_quiet_step (first
          | (go_at_call 95; exact calls_belowT (HV.out _ (nx hb01 (BelowT.below _))))))
        refine wpQuiet_nil ?_
        intro wz hwz
        obtain ⟨x9, rfl⟩ := hwz
        have hbx := nx hb01 x9.below
        clear z0 z1 z2 y0 y1 y2
        generalize x9.val = w9 at *
        go_wp2
        go_ret2
        exact ⟨_, _, _, by rw [HN.out]; rfl, (fun r hr => by rw [HN.out] at hr; cases hr), hbx⟩
      · have HN : Hid (restO d p = some p.body) := by show _ = _; rw [HL.out, if_pos ⟨hv, HKN.out⟩]
        rw [hv] at HV
        clear hv hk0
        have HNB : Hid (p.body.length = p.body.length) := rfl
        generalize p.kids.length = nk at *
        generalize hnbq : p.body.length = nb at *
        have HNQ := Lib.hid hnbq
        clear hnbq
        generalize p.fields.length = nf at *
        go_enter Tryz.func66, Tryz.ntmps66
        go_wp2_with fail
        refine HB.out.mono ?_
        rintro e w1 ⟨rfl, hb1⟩
        obtain ⟨y0, y1, y2⟩ := HX.out.below hb1
        have hb01 := nx hA hb1
        have z0 : ∀ y : BelowT w1, y.val.cell? ⟨w.heap.size, 0, none⟩ = some (.slice a1 nf c1) := fun y => ((HX.out.below hb1).below y.below).1
        have z1 : ∀ y : BelowT w1, y.val.cell? ⟨w.heap.size, 1, none⟩ = some (.slice a2 nb c2) := fun y => ((HX.out.below hb1).below y.below).2.1
        have z2 : ∀ y : BelowT w1, y.val.cell? ⟨w.heap.size, 2, none⟩ = some (.slice a3 nk c3) := fun y => ((HX.out.below hb1).below y.below).2.2
        go_wp2_with fail
        refine wp_region_quietB (W := w1) (by kernel_rfl) (by kernel_rfl) (Below.refl _ _) ?_
        repeat (go_big_quiet_step (first
          | (go_at_call 95; exact calls_belowT (HV.out _ (nx hb01 (BelowT.below _))))))
        refine wpQuiet_nil ?_
        intro wz hwz
        obtain ⟨x9, rfl⟩ := hwz
        have hbx := nx hb01 x9.below
        clear z0 z1 z2 y0 y1 y2
        generalize x9.val = w9 at *
        go_wp2
        go_ret2
        exact ⟨_, _, _, by rw [HN.out]; rfl, (fun r hr => by
          rw [HN.out] at hr; injection hr with hr; subst hr
          exact ⟨HNQ.out.symm, HBN.out, .inl (by rw [HNQ.out]; exact HBD.out)⟩), hbx⟩
    · have HN : Hid (restO d p = none) := by show _ = _; rw [HL.out, if_neg (fun c => hk0 (by rw [c.2]; rfl))]
      have e0 : ((p.kids.length : Int) == 0) = false := by rw [beq_eq_false_iff_ne]; omega
      clear hk0
      generalize okBody p.body = ob at *
      generalize p.kids.length = nk at *
      generalize p.body.length = nb at *
      generalize p.fields.length = nf at *
      cases ob
      all_goals
        go_enter Tryz.func66, Tryz.ntmps66
        go_wp2_with fail
        refine HB.out.mono ?_
        rintro e w1 ⟨rfl, hb1⟩
        obtain ⟨y0, y1, y2⟩ := HX.out.below hb1
        have hb01 := nx hA hb1
        have z0 : ∀ y : BelowT w1, y.val.cell? ⟨w.heap.size, 0, none⟩ = some (.slice a1 nf c1) := fun y => ((HX.out.below hb1).below y.below).1
        have z1 : ∀ y : BelowT w1, y.val.cell? ⟨w.heap.size, 1, none⟩ = some (.slice a2 nb c2) := fun y => ((HX.out.below hb1).below y.below).2.1
        have z2 : ∀ y : BelowT w1, y.val.cell? ⟨w.heap.size, 2, none⟩ = some (.slice a3 nk c3) := fun y => ((HX.out.below hb1).below y.below).2.2
        go_wp2_with fail
        refine wp_region_quietB (W := w1) (by kernel_rfl) (by kernel_rfl) (Below.refl _ _) ?_
        repeat (go_big_quiet_step (first
          | (go_at_call 95; exact calls_belowT (HV.out _ (nx hb01 (BelowT.below _))))))
        refine wpQuiet_nil ?_
        intro wz hwz
        obtain ⟨x9, rfl⟩ := hwz
        have hbx := nx hb01 x9.below
        clear z0 z1 z2 y0 y1 y2
        generalize x9.val = w9 at *
        go_wp2
        go_ret2
        exact ⟨_, _, _, by rw [HN.out]; rfl, (fun r hr => by rw [HN.out] at hr; cases hr), hbx⟩
  | some b =>
    have HL := Lib.hid (restO_many (d := d) hq)
    have hbl : b.length ≤ 20 := by have := bndF_bnd hq; unfold isBnd at this; simp at this; omega
    rw [hq] at HB
    have HK2 := Lib.hid (fun u h => HK.out b u hbl h)
    have HB : Hid (Calls Tryz.prog 74 #[.slice a1 p.fields.length c1] (w.alloc (.cells #[.slice a1 p.fields.length c1, .slice a2 p.body.length c2, .slice a3 p.kids.length c3] 32)) fun e w' => e = .returned (.tuple #[.string (str b), .bool true]) ∧ Below (w.alloc (.cells #[.slice a1 p.fields.length c1, .slice a2 p.body.length c2, .slice a3 p.kids.length c3] 32)).heap.size (w.alloc (.cells #[.slice a1 p.fields.length c1, .slice a2 p.body.length c2, .slice a3 p.kids.length c3] 32)) w') := HB.out
    have hbz : (str b).size ≤ 20 := by rw [str_size]; exact hbl
    clear HK hq HV hbl
    generalize hX : str b = X at *
    clear hX
    generalize kidsO d p.kids b = O at *
    by_cases hb0 : p.body.length = 0
    · have HBE : Hid (p.body = []) := List.length_eq_zero_iff.1 hb0
      have HRO : Hid (restO d p = O) := by show _ = _; rw [HL.out, if_pos HBE.out]
      have e0 : ((p.body.length : Int) == 0) = true := by rw [beq_iff_eq]; omega
      clear hb0 HL HBD
      generalize p.kids.length = nk at *
      generalize p.body.length = nb at *
      generalize p.fields.length = nf at *
      go_enter Tryz.func66, Tryz.ntmps66
      go_wp2_with fail
      refine HB.out.mono ?_
      rintro e w1 ⟨rfl, hb1⟩
      obtain ⟨y0, y1, y2⟩ := HX.out.below hb1
      go_wp2_with fail
      refine (HK2.out _ (nx hA hb1)).mono ?_
      intro e w2 hret
      cases O with
      | none =>
        obtain ⟨ax, cx, rfl, _, hb2⟩ := hret.none'
        have HX2 := Lib.hid ((HX.out.below hb1).below hb2)
        clear y0 y1 y2 hret
        have hb02 := nx (nx hA hb1) hb2
        have z1 : ∀ y : BelowT w2, y.val.cell? ⟨w.heap.size, 1, none⟩ = some (.slice a2 nb c2) := fun y => (HX2.out.below y.below).2.1
        go_wp2_with fail
        refine wp_region_quietB (W := w2) (by kernel_rfl) (by kernel_rfl) (Below.refl _ _) ?_
        repeat (go_big_quiet_step (fail))
        refine wpQuiet_nil ?_
        intro wz hwz
        obtain ⟨x9, rfl⟩ := hwz
        have hbx := nx hb02 x9.below
        have hbx2 := x9.below
        clear z1
        generalize x9.val = w9 at *
        go_wp2
        go_ret2
        exact ⟨_, _, _, by rw [HRO.out]; rfl, (fun r hr => by rw [HRO.out] at hr; cases hr), hbx⟩
      | some ls =>
        obtain ⟨ax, cx, rfl, ho2, hr2, hb2⟩ := hret.some'
        have HX2 := Lib.hid ((HX.out.below hb1).below hb2)
        have HO2 := Lib.hid (ho2.base (nx hA hb1).size)
        have HAC : Hid (ax = none → cx = 0) := by
          obtain ⟨_, _, e, _, _, h, _⟩ := ho2.readc
          injection e with e1 _ e3
          subst e1 e3; exact h
        clear y0 y1 y2 hret ho2 hr2
        have hb02 := nx (nx hA hb1) hb2
        have z1 : ∀ y : BelowT w2, y.val.cell? ⟨w.heap.size, 1, none⟩ = some (.slice a2 nb c2) := fun y => (HX2.out.below y.below).2.1
        go_wp2_with fail
        refine wp_region_quietB (W := w2) (by kernel_rfl) (by kernel_rfl) (Below.refl _ _) ?_
        repeat (go_big_quiet_step (fail))
        refine wpQuiet_nil ?_
        intro wz hwz
        obtain ⟨x9, rfl⟩ := hwz
        have hbx := nx hb02 x9.below
        have hbx2 := x9.below
        clear z1
        generalize x9.val = w9 at *
        go_wp2
        go_ret2
        exact ⟨_, _, _, by rw [HRO.out]; rfl, (fun r hr => by rw [HRO.out] at hr; injection hr with hr; subst hr; exact ⟨rfl, HAC.out, .inr (HO2.out.keep hbx2)⟩), hbx⟩
    · have HRO : Hid (restO d p = none) := by show _ = _; rw [HL.out, if_neg (fun c => hb0 (by rw [c]; rfl))]
      have e0 : ((p.body.length : Int) == 0) = false := by rw [beq_eq_false_iff_ne]; omega
      clear hb0 HL HBD
      generalize p.kids.length = nk at *
      generalize p.body.length = nb at *
      generalize p.fields.length = nf at *
      go_enter Tryz.func66, Tryz.ntmps66
      go_wp2_with fail
      refine HB.out.mono ?_
      rintro e w1 ⟨rfl, hb1⟩
      obtain ⟨y0, y1, y2⟩ := HX.out.below hb1
      go_wp2_with fail
      refine (HK2.out _ (nx hA hb1)).mono ?_
      intro e w2 hret
      have hret2 : ∃ ax nx' cx, e = .returned (.tuple #[.slice ax nx' cx, .bool O.isSome]) ∧ Below w1.heap.size w1 w2 := by
        cases O with
        | none => obtain ⟨ax, cx, rfl, _, hb2⟩ := hret.none'; exact ⟨_, _, _, rfl, hb2⟩
        | some ls => obtain ⟨ax, cx, rfl, _, _, hb2⟩ := hret.some'; exact ⟨_, _, _, rfl, hb2⟩
      obtain ⟨ax, nx', cx, rfl, hb2⟩ := hret2
      have HX2 := Lib.hid ((HX.out.below hb1).below hb2)
      clear y0 y1 y2 hret
      generalize O.isSome = oq at *
      cases oq
      all_goals
        have hb02 := nx (nx hA hb1) hb2
        have z1 : ∀ y : BelowT w2, y.val.cell? ⟨w.heap.size, 1, none⟩ = some (.slice a2 nb c2) := fun y => (HX2.out.below y.below).2.1
        go_wp2_with fail
        refine wp_region_quietB (W := w2) (by kernel_rfl) (by kernel_rfl) (Below.refl _ _) ?_
        repeat (go_big_quiet_step (fail))
        refine wpQuiet_nil ?_
        intro wz hwz
        obtain ⟨x9, rfl⟩ := hwz
        have hbx := nx hb02 x9.below
        have hbx2 := x9.below
        clear z1
        generalize x9.val = w9 at *
        go_wp2
        go_ret2
        exact ⟨_, _, _, by rw [HRO.out]; rfl, (fun r hr => by rw [HRO.out] at hr; cases hr), hbx⟩
theorem lines_zero : LinesAt 0 := by
  intro f v p u tab hr
  obtain ⟨f', a1, c1, a2, c2, a3, c3, rfl, rfl, _⟩ := hr.open
  generalize p.fields.length = n1 at *
  generalize p.body.length = n2 at *
  generalize p.kids.length = n3 at *
  go_enter Tryz.func39, Tryz.ntmps39
  go_wp2
  go_ret2
  first
    | exact linesRet_none rfl (Below.refl _ _)
    | exact linesRet_none rfl ((Below.refl _ _).alloc (Nat.le_refl _) _)
theorem ownL_rd' {B : Nat} {a : Option Addr} {n c : Nat} {xs : List (List UInt8)} {w : World} (h : OwnL B (.slice a n c) xs w) : RdL w a n xs := by
  obtain ⟨a', c', e, hr, _⟩ := h.read
  injection e with e1 e2 e3
  subst e1 e2
  exact hr
set_option maxRecDepth 100000 in
set_option maxHeartbeats 2000000 in
theorem lines_step (d : Nat) (hd : d ≤ 2) (IH : LinesAt d) : LinesAt (d + 1) := by
  intro f v p w tab hr
  have HBEH : Hid (∀ u, Below w.heap.size w u → Calls Tryz.prog 66 #[v, .int .i64 ((d : Int) + 1)] u (RestRet (restO d p) w u)) := fun u h => linesBehind_of d hd IH f v p w u h (tab.below h) hr
  have HT := Lib.hid hr
  obtain ⟨f', a1, c1, a2, c2, a3, c3, rfl, rfl, ⟨hf, hfc⟩, _, _, hpf, _⟩ := hr.open
  have HF : Hid (∀ u, Below w.heap.size w u → Calls Tryz.prog 65 #[.slice a1 p.fields.length c1] u (FoldRet p.fields u)) := fun u h => foldFields_any a1 p.fields.length c1 p.fields u (hf.below h) (by have := hpf.1; omega) (fun x hx => (hpf.2.1 x hx).up (by omega))
  have HPF := Lib.hid hpf
  have HL := Lib.hid (linesT_rest d p)
  have hA : Below w.heap.size w (w.alloc (.cells #[.slice a1 p.fields.length c1, .slice a2 p.body.length c2, .slice a3 p.kids.length c3] 32)) := (Below.refl _ _).alloc (Nat.le_refl _) _
  have HX := Lib.hid (KK3.new w (.slice a1 p.fields.length c1) (.slice a2 p.body.length c2) (.slice a3 p.kids.length c3) 32)
  have e0 : ((d : Int) + 1 == 0) = false := by rw [beq_eq_false_iff_ne]; omega
  have hdd : (((d + 1 : Nat) : Int)) = (d : Int) + 1 := by omega
  rw [hdd]
  clear hf hfc hpf hdd hr
  unfold FoldRet at HF
  cases hok : fldsOk p.fields with
  | false =>
    have HN : Hid (linesT (d + 1) p = none) := by show _ = _; rw [HL.out, hok]; rfl
    rw [hok] at HF
    clear hok HL
    generalize p.kids.length = nk at *
    generalize p.body.length = nb at *
    generalize p.fields.length = nf at *
    go_enter Tryz.func39, Tryz.ntmps39
    go_wp2_with fail
    refine (HF.out _ hA).mono ?_
    rintro e w1 ⟨v1, rfl, ho1, hb1⟩
    obtain ⟨a9, c9, rfl, _⟩ := ho1.read
    clear ho1
    generalize (foldFs p.fields).length = nz at *
    go_wp2
    go_ret2
    exact linesRet_none HN.out (nx hA hb1)
  | true =>
    rw [hok] at HF HL
    have hFL := foldFs_len hok
    clear hok
    generalize hFS : foldFs p.fields = FS at *
    clear hFS
    unfold RestRet at HBEH
    cases hro : restO d p with
    | none =>
      have HN : Hid (linesT (d + 1) p = none) := by show _ = _; rw [HL.out, hro]; rfl
      rw [hro] at HBEH
      clear hro HL
      generalize p.kids.length = nk at *
      generalize p.body.length = nb at *
      generalize p.fields.length = nf at *
      go_enter Tryz.func39, Tryz.ntmps39
      go_wp2_with fail
      refine (HF.out _ hA).mono ?_
      rintro e w1 ⟨v1, rfl, ho1, hb1⟩
      obtain ⟨a9, c9, rfl, _⟩ := ho1.read
      clear ho1
      obtain ⟨y0, y1, y2⟩ := HX.out.below hb1
      go_wp2_with fail
      refine (HBEH.out _ (nx hA hb1)).mono ?_
      rintro e w2 ⟨a8, n8, c8, rfl, _, hb2⟩
      go_wp2
      go_ret2
      exact linesRet_none HN.out (nx (nx hA hb1) hb2)
    | some r =>
      have HN : Hid (linesT (d + 1) p = some (FS ++ [] :: r)) := by show _ = _; rw [HL.out, hro]; rfl
      have hrl : r.length ≤ 500000 := by
        have h1 := linesT_len (d + 1) p _ HN.out
        have h5 : 5 ^ (d + 1) ≤ 125 := pow5 (by omega)
        rw [List.length_append, List.length_cons] at h1; omega
      have HR : Hid (∀ u, Below w.heap.size w u → Calls Tryz.prog 66 #[.agg #[.slice a1 p.fields.length c1, .slice a2 p.body.length c2, .slice a3 p.kids.length c3], .int .i64 ((d : Int) + 1)] u fun e w' => ∃ (a : Option Addr) (c : Nat), e = .returned (.tuple #[.slice a r.length c, .bool true]) ∧ (a = none → c = 0) ∧ (RdL w a r.length r ∨ OwnL u.heap.size (.slice a r.length c) r w') ∧ Below u.heap.size u w') := fun u h => (HBEH.out u h).mono fun e w' q => by
        rw [hro] at q
        obtain ⟨a, n, c, he, hq, hb⟩ := q
        obtain ⟨rfl, h1, h2⟩ := hq r rfl
        exact ⟨a, c, he, h1, h2, hb⟩
      clear hro HL HBEH
      generalize p.kids.length = nk at *
      generalize p.body.length = nb at *
      generalize p.fields.length = nf at *
      go_enter Tryz.func39, Tryz.ntmps39
      go_wp2_with fail
      refine (HF.out _ hA).mono ?_
      rintro e w1 ⟨v1, rfl, ho1, hb1⟩
      have HO1 := Lib.hid (ho1.base hA.size)
      obtain ⟨a9, c9, rfl, _⟩ := ho1.read
      have HO1 : Hid (OwnL w.heap.size (.slice a9 FS.length c9) FS w1) := HO1
      clear ho1
      obtain ⟨y0, y1, y2⟩ := HX.out.below hb1
      have hb01 := nx hA hb1
      go_wp2_with fail
      refine (HR.out _ hb01).mono ?_
      rintro e w2 ⟨a8, c8, rfl, hac2, hr2, hb2⟩
      have hb02 := nx hb01 hb2
      have hbs2 := hb02.size
      have HR2 := Lib.hid hr2
      have HAC := Lib.hid hac2
      have HA : Hid (OwnL w.heap.size (.slice a9 FS.length c9) FS (w2.alloc (.cells #[.string ⟨#[]⟩] 9))) := (HO1.out.keep hb2).keep ((Below.refl _ _).alloc (Nat.le_refl _) _)
      clear hr2 hac2 y0 y1 y2
      go_wp2_with (at_builtin; refine wpList_append_1L rfl _ _ rfl w.heap.size _ FS ⟨#[]⟩ w2.heap.size rfl rfl ?c1 HA.out ?c2 ?c3 ?_)
      case c1 => rw [World.cell?_alloc_at _ _ _ _ rfl]; rfl
      case c2 => simp; omega
      case c3 => omega
      intro v4 w4 hO4 hgr4 _
      have hb4 : Below w.heap.size w w4 := (hb02.alloc hbs2 _).grown hgr4 (by simp; omega) (fun g hg => (HA.out.lt g hg).1)
      have HR4 : Hid (RdL w4 a8 r.length r) := by
        show RdL _ _ _ _
        rcases HR2.out with h | h
        · exact h.below hb4
        · refine ownL_rd' (OwnL.grown (h.keep ((Below.refl _ _).alloc (Nat.le_refl _) _)) hgr4 fun g hg e => ?_)
          have h1 := (h.lt g hg).1
          have h2 := (HO1.out.lt g e).2
          omega
      have HO4 := Lib.hid hO4
      have hbs4 := hb4.size
      clear hO4 hgr4
      go_wp2_with (at_builtin; refine wpList_append_RL rfl _ _ rfl w.heap.size _ (FS ++ [[]]) r a8 r.length c8 rfl rfl HO4.out HR4.out HAC.out hbs4 ?d1 ?_)
      case d1 => rw [List.length_append, List.length_singleton]; omega
      intro v5 w5 hO5 hgr5 _
      have hb5 : Below w.heap.size w w5 := hb4.grown hgr5 hbs4 (fun g hg => (HO4.out.lt g hg).1)
      have HO5 : Hid (OwnL w.heap.size v5 (FS ++ [] :: r) w5) := by
        show OwnL _ _ _ _
        first
          | exact hO5
          | (have := hO5; rw [List.append_assoc] at this; exact this)
      clear hO5 hgr5
      go_wp2
      go_ret2
      exact linesRet_some HN.out HO5.out hb5
theorem lines_all : ∀ d, d ≤ 3 → LinesAt d
  | 0, _ => lines_zero
  | d + 1, h => lines_step d (by omega) (lines_all d (by omega))
end Go.Proofs.YtbeaaodhcipdgaaGreatDoor
end

section
namespace Go.Proofs.YtbeaaodhcipdgaaGreatDoor
open Go.RowKit

theorem parseK_nil : parseK [] = none := by decide +kernel
theorem bndOf_zero : bndOf knd0 = none := bndOf_no1 (by decide +kernel)
/-- Fields that have a boundary have the field, and a kind in it. -/
theorem bndF_has {fs : List Fld} (h : (bndF fs).isSome = true) : (getF fs typeL).isSome = true ∧ (parseK (getR fs typeL)).isSome = true := by
  have h2 : (parseK (getR fs typeL)).isSome = true := by
    cases hq : parseK (getR fs typeL) with
    | some k => rfl
    | none =>
      unfold bndF parseKR at h
      rw [hq] at h
      have h : (bndOf knd0).isSome = true := h
      rw [bndOf_zero] at h; cases h
  refine ⟨?_, h2⟩
  cases hq : getF fs typeL with
  | some k => rfl
  | none =>
    unfold getR at h2
    rw [hq] at h2
    have h2 : (parseK []).isSome = true := h2
    rw [parseK_nil] at h2; cases h2
set_option maxRecDepth 100000 in
set_option maxHeartbeats 2000000 in
theorem l8Boundary_any (a : Option Addr) (n c : Nat) (fs : List Fld) (w : World) (hr : RdF w a n fs) (hn : n ≤ 1048576) (hx : ∀ x ∈ fs, SmallF 1048576 x) :
    Calls Tryz.prog 61 #[.slice a n c] w (BndRet (bndF fs) w) := by
  have HG := Lib.hid (getFieldS_any a n c fs ⟨#[67, 111, 110, 116, 101, 110, 116, 45, 84, 121, 112, 101]⟩ w hr (by omega) (fun x h => (hx x h).up (by omega)) (by decide))
  unfold GetRet at HG
  have hgl : (str (getR fs typeL)).size ≤ 1048576 := by rw [str_size]; exact getR_len hx
  have HP : Hid (∀ u, Calls Tryz.prog 90 #[.string (str (getR fs typeL))] u (PKL (parseK (getR fs typeL)) u)) := fun u => by
    have := parseKindS_k (str (getR fs typeL)) u (by omega)
    rw [str_list] at this; exact this
  have HB : Hid (∀ u b f, RdK u (parseKR (getR fs typeL)) b f → Calls Tryz.prog 91 #[.agg #[.string (str (parseKR (getR fs typeL)).main), .string (str (parseKR (getR fs typeL)).sub), .slice b (parseKR (getR fs typeL)).params.length f]] u (BndRet (bndF fs) u)) := fun u b f k => boundaryOfS_k u k
  have HE : Hid (str (getR fs ((⟨#[67, 111, 110, 116, 101, 110, 116, 45, 84, 121, 112, 101]⟩ : ByteArray).data.toList)) = str (getR fs typeL)) := rfl
  have HE2 : Hid (getF fs ((⟨#[67, 111, 110, 116, 101, 110, 116, 45, 84, 121, 112, 101]⟩ : ByteArray).data.toList) = getF fs typeL) := rfl
  unfold PKL at HP
  have HKE : Hid ((parseK (getR fs typeL)).getD knd0 = parseKR (getR fs typeL)) := rfl
  rw [HKE.out] at HP
  rw [HE.out, HE2.out] at HG
  have HH := Lib.hid (bndF_has (fs := fs))
  clear hr hx HE HE2 HKE
  generalize (getF fs typeL).isSome = gs at *
  generalize (parseK (getR fs typeL)).isSome = ps at *
  generalize str (getR fs typeL) = GT at *
  generalize parseKR (getR fs typeL) = q at *
  generalize q.params.length = nq at *
  generalize str q.main = MQ at *
  generalize str q.sub = SQ at *
  unfold BndRet at *
  generalize str ((bndF fs).getD []) = BS at *
  generalize (bndF fs).isSome = bs at *
  cases gs <;> cases ps <;> cases bs
  all_goals first
    | (have hx := HH.out rfl; first | (cases hx.1; done) | (cases hx.2; done))
    | (clear HH
       go_enter Tryz.func61, Tryz.ntmps61
       go_wp2_with fail
       refine HG.out.mono ?_
       rintro e w1 ⟨rfl, hb1⟩
       go_wp2_with fail
       refine (HP.out _).mono ?_
       rintro e w2 ⟨b2, f2, rfl, hr2, hb2⟩
       have hb12 := nx hb1 hb2
       go_wp2_with fail
       have hA2 : Below w2.heap.size w2 (w2.alloc (.cells #[.string MQ, .string SQ, .slice b2 nq f2] 98)) := (Below.refl _ _).alloc (Nat.le_refl _) _
       refine (HB.out _ _ _ (hr2.below hA2)).mono ?_
       rintro e w3 ⟨rfl, hb3⟩
       go_wp2
       go_ret2
       exact ⟨rfl, nx hb12 (nx hA2 hb3)⟩)
set_option maxRecDepth 100000 in
set_option maxHeartbeats 1000000 in
theorem l8Body_any (a : Option Addr) (n c : Nat) (xs : List (List UInt8)) (w : World) (hr : RdL w a n xs) (hn : n ≤ 1048576) (hx : ∀ x ∈ xs, x.length ≤ 1048576) :
    Calls Tryz.prog 62 #[.slice a n c] w fun e w' => e = .returned (.bool (okBody xs)) ∧ Below w.heap.size w w' := by
  have HLEN := Lib.hid hr.1
  have HR := Lib.hid hr.2
  have HX := Lib.hid hx
  clear hr hx
  go_enter Tryz.func62, Tryz.ntmps62
  go_wp2_with fail
  go_loopw [3] (fun i wr => ∃ (k : Nat), k ≤ n ∧ k ≤ 31 ∧ i = .int .i64 k ∧ wr = w ∧ ∀ j, j < k → (hj : j < xs.length) → isText xs[j] = true) (fun i _ => n - (intOf i).toNat)
  case atStart => exact ⟨0, Nat.zero_le _, by omega, rfl, rfl, fun j h => by omega⟩
  case round =>
    obtain ⟨k, hk, hk31, rfl, rfl, hall⟩ := hrel
    have HA := Lib.hid hall
    clear hall
    by_cases hlt : k < n ∧ k ≤ 30
    · obtain ⟨hlt, h30⟩ := hlt
      have d1 : decide ((k : Int) < n) = true := by simp; omega
      have d2 : decide ((k : Int) ≤ 30) = true := by simp; omega
      have hkx : k < xs.length := by rw [HLEN.out]; exact hlt
      obtain ⟨b, off, rfl, hbl, hcell⟩ := HR.out.resolve_left (by omega)
      have q0 := hcell k hkx
      have hz : (str xs[k]).size ≤ 1048576 := by rw [str_size]; exact HX.out _ (List.getElem_mem hkx)
      have HTX : Hid (∀ u : World, Calls Tryz.prog 81 #[.string (str xs[k])] u fun e w' => e = .returned (.bool (isText xs[k])) ∧ u = w') := fun u => by
        have := textValidS_any (str xs[k]) u (by unfold maxLen; omega)
        rw [str_list] at this; exact this
      have HBAD : Hid (isText xs[k] = false → okBody xs = false) := fun h => okBody_bad hkx h
      have HAK : Hid (isText xs[k] = true → ∀ j, j < k + 1 → (hj : j < xs.length) → isText xs[j] = true) := fun h j hj hjx => by
        by_cases e : j = k
        · subst e; exact h
        · exact HA.out j (by omega) hjx
      clear hcell
      generalize isText xs[k] = q at *
      generalize str xs[k] = S at *
      cases q
      · have HB := Lib.hid (HBAD.out rfl)
        go_wp2_with fail
        refine (HTX.out _).mono ?_
        rintro e w1 ⟨rfl, rfl⟩
        go_wp2
        go_ret
        exact ⟨ret_bool HB.out.symm, Below.refl _ _⟩
      · have HN := Lib.hid (HAK.out rfl)
        go_wp2_with fail
        refine (HTX.out _).mono ?_
        rintro e w1 ⟨rfl, rfl⟩
        go_wp2
        go_roundw
        case rel =>
          first
            | exact ⟨k + 1, by omega, by omega, by go_num, rfl, HN.out⟩
            | exact ⟨k + 1, by omega, by omega, by go_num, trivial, HN.out⟩
            | exact ⟨k + 1, by omega, by omega, by go_num, HN.out⟩
        case measure => simp [intOf]; omega
    · have HD : Hid (decide ((n : Int) ≤ 30) = okBody xs) := by
        show _ = _
        by_cases h : n ≤ 30
        · rw [okBody_good (b := xs) (fun j hj => HA.out j (by have := HLEN.out; omega) hj) (by have := HLEN.out; omega)]
          simp; omega
        · rw [okBody_long (b := xs) (by have := HLEN.out; omega)]
          simp; omega
      by_cases hln : k < n
      · have d1 : decide ((k : Int) < n) = true := by simp; omega
        have d2 : decide ((k : Int) ≤ 30) = false := by simp; omega
        go_wp2
        go_ret
        exact ⟨ret_bool HD.out, Below.refl _ _⟩
      · have d1 : decide ((k : Int) < n) = false := by simp; omega
        go_wp2
        go_ret
        exact ⟨ret_bool HD.out, Below.refl _ _⟩
def FmtAt (d : Nat) : Prop := ∀ (f : Nat) (v : Value) (p : Prt) (u : World) (ls : List (List UInt8)), RdT u f v p → linesT d p = some ls →
  Calls Tryz.prog 42 #[v] u fun e w' => ∃ v', e = .returned v' ∧ OwnL u.heap.size v' ls w' ∧ Below u.heap.size u w'
set_option maxRecDepth 100000 in
set_option maxHeartbeats 4000000 in
theorem fmt_step (d : Nat) (hd : d ≤ 2) (IH : FmtAt d) : FmtAt (d + 1) := by
  intro f v p w ls hr hls
  have hll := linesT_len (d + 1) p _ hls
  have hll5 : ls.length ≤ 500000 := by
    have h5 : 5 ^ (d + 1) ≤ 125 := pow5 (by omega)
    omega
  obtain ⟨hok, r, hlr, hrest⟩ := linesT_some hls
  obtain ⟨f', a1, c1, a2, c2, a3, c3, rfl, rfl, ⟨hf, hfc⟩, ⟨hbd, hbc, hbn⟩, hkc, hpf, hks⟩ := hr.open
  have hFL := foldFs_len hok
  have HF : Hid (∀ u, Below w.heap.size w u → Calls Tryz.prog 68 #[.slice a1 p.fields.length c1] u (FoldRet p.fields u)) := fun u h => foldFieldsS_any a1 p.fields.length c1 p.fields u (hf.below h) (by have := hpf.1; omega) (fun x hx => (hpf.2.1 x hx).up (by omega))
  have HBO : Hid (∀ u, Below w.heap.size w u → Calls Tryz.prog 61 #[.slice a1 p.fields.length c1] u (BndRet (bndF p.fields) u)) := fun u h => l8Boundary_any a1 p.fields.length c1 p.fields u (hf.below h) hpf.1 hpf.2.1
  have HPF := Lib.hid hpf
  have HBD := Lib.hid hbd
  have HBN := Lib.hid hbn
  have HKS := Lib.hid hks
  have hA : Below w.heap.size w (w.alloc (.cells #[.slice a1 p.fields.length c1, .slice a2 p.body.length c2, .slice a3 p.kids.length c3] 32)) := (Below.refl _ _).alloc (Nat.le_refl _) _
  have HX := Lib.hid (KK3.new w (.slice a1 p.fields.length c1) (.slice a2 p.body.length c2) (.slice a3 p.kids.length c3) 32)
  have hrl : (foldFs p.fields).length + r.length + 1 ≤ 500000 := by
    rw [hlr, List.length_append, List.length_cons] at hll5; omega
  clear hf hfc hbd hbc hbn hkc hpf hks hr hls hll hll5 hFL
  unfold FoldRet at HF
  unfold BndRet at HBO
  rw [hok] at HF
  have HLR := Lib.hid hlr
  clear hok hlr
  rcases hrest with ⟨h1, h2, h3, h4⟩ | ⟨b, ps, h1, h2, h3, h4, h5⟩
  · rw [h1] at HBO
    have HRB := Lib.hid h4
    rw [h4] at hrl
    clear h1 h2 h3 h4
    generalize foldFs p.fields = FS at *
    generalize hnbq : p.body.length = nb at *
    have HNQ := Lib.hid hnbq
    clear hnbq
    generalize p.kids.length = nk at *
    generalize p.fields.length = nf at *
    go_enter Tryz.func42, Tryz.ntmps42
    go_wp2_with fail
    refine (HF.out _ hA).mono ?_
    rintro e w1 ⟨v1, rfl, ho1, hb1⟩
    have HO0 := Lib.hid ho1
    obtain ⟨a9, c9, rfl, _⟩ := ho1.read
    clear ho1
    generalize w.alloc (.cells #[.slice a1 nf c1, .slice a2 nb c2, .slice a3 nk c3] 32) = W at *
    have HO1 : Hid (OwnL W.heap.size (.slice a9 FS.length c9) FS w1) := HO0
    clear HO0
    have hWs := hA.size
    have hs1 := hb1.size
    have hWl : w.heap.size < W.heap.size := lt_of_cell HX.out.1
    have HA : Hid (OwnL W.heap.size (.slice a9 FS.length c9) FS (w1.alloc (.cells #[.string ⟨#[]⟩] 9))) := HO1.out.keep ((Below.refl _ _).alloc (Nat.le_refl _) _)
    obtain ⟨y0, y1, y2⟩ := HX.out.below hb1
    go_wp2_with (at_builtin; refine wpList_append_1L rfl _ _ rfl W.heap.size _ FS ⟨#[]⟩ w1.heap.size rfl rfl ?c1 HA.out ?c2 ?c3 ?_)
    case c1 => rw [World.cell?_alloc_at _ _ _ _ rfl]; rfl
    case c2 => simp; omega
    case c3 => omega
    intro v4 w4 hO4 hgr4 _
    have hb4 : Below W.heap.size W w4 := (hb1.alloc hs1 _).grown hgr4 (by simp; omega) (fun g hg => (HA.out.lt g hg).1)
    have HO4 : Hid (OwnL W.heap.size v4 (FS ++ [[]]) w4) := hO4
    have hb04 := nx hA hb4
    clear y0 y1 y2 hgr4 hO4 HA HO1
    obtain ⟨y0, y1, y2⟩ := HX.out.below hb4
    go_wp2_with fail
    refine (HBO.out _ hb04).mono ?_
    rintro e w5 ⟨rfl, hb5⟩
    have hb15 := nx hb4 hb5
    have hs5 := hb15.size
    clear y0 y1 y2
    obtain ⟨y0, y1, y2⟩ := HX.out.below hb15
    have HO5 := Lib.hid (HO4.out.keep hb5)
    go_wp2_with (at_builtin; refine wpList_append_RL rfl _ _ rfl W.heap.size _ (FS ++ [[]]) p.body a2 nb c2 rfl rfl HO5.out (HBD.out.below (nx hA hb15)) HBN.out hs5 ?d1 ?_)
    case d1 => rw [List.length_append, List.length_singleton, HNQ.out]; omega
    intro v6 w6 hO6 hgr6 _
    have hb6 : Below W.heap.size W w6 := hb15.grown hgr6 hs5 (fun g hg => (HO5.out.lt g hg).1)
    have HO6 : Hid (OwnL w.heap.size v6 ls w6) := by
      show OwnL _ _ _ _
      rw [HLR.out, HRB.out]
      have := hO6.base hWs
      first
        | exact this
        | (rw [List.append_assoc] at this; exact this)
    clear hO6 hgr6
    go_wp2
    go_ret
    exact ⟨_, rfl, HO6.out, nx hA hb6⟩
  · rw [h1] at HBO
    have HB : Hid (∀ u, Below w.heap.size w u → Calls Tryz.prog 61 #[.slice a1 p.fields.length c1] u fun e w' => e = .returned (.tuple #[.string (str b), .bool true]) ∧ Below u.heap.size u w') := HBO
    have hbl : b.length ≤ 20 := by have := bndF_bnd h1; unfold isBnd at this; simp at this; omega
    have hbz : (str b).size ≤ 20 := by rw [str_size]; exact hbl
    have hms := mapO_some h4
    have HMS := Lib.hid hms.2
    have hpl := hms.1
    have HPL := Lib.hid hpl
    have hpk4 : ps.length ≤ 4 := by omega
    have hsum := mapO_sum (by omega) h3 h4
    have HPM : Hid (∀ i, (h : i < ps.length) → ps[i].length ≤ 500000) := fun i h => by
      have h5 : 5 ^ d ≤ 125 := pow5 (by omega)
      have := linesT_len d _ _ (hms.2 i (by omega) h); omega
    have HJ : Hid (∀ a c u, RdSS u a ps.length ps → Calls Tryz.prog 69 #[.slice a ps.length c, .string (str b)] u (LinesRet (some r) u)) := fun a c u h => by
      have := joinPartsS_any a ps.length c ps (str b) u h (by omega) (by omega) (by omega)
      rw [str_list, h5] at this; exact this
    obtain ⟨nk, hnk⟩ : ∃ nk, nk = ps.length := ⟨_, rfl⟩
    have HKK : Hid (p.kids.length = nk) := hpl.symm.trans hnk.symm
    have HNK : Hid (ps.length = nk) := hnk.symm
    rw [← hnk] at hpk4 HJ
    clear HBO h1 h2 h3 h4 h5 hms hpl hbl hsum hnk
    rw [HKK.out] at HX hA ⊢
    generalize str b = BB at *
    generalize foldFs p.fields = FS at *
    generalize p.body.length = nb at *
    generalize p.fields.length = nf at *
    have HBO := HB
    clear HB
    go_enter Tryz.func42, Tryz.ntmps42
    go_wp2_with fail
    refine (HF.out _ hA).mono ?_
    rintro e w1 ⟨v1, rfl, ho1, hb1⟩
    have HO0 := Lib.hid ho1
    obtain ⟨a9, c9, rfl, _⟩ := ho1.read
    clear ho1
    generalize w.alloc (.cells #[.slice a1 nf c1, .slice a2 nb c2, .slice a3 nk c3] 32) = W at *
    have HO1 : Hid (OwnL W.heap.size (.slice a9 FS.length c9) FS w1) := HO0
    clear HO0
    have hWs := hA.size
    have hs1 := hb1.size
    have hWl : w.heap.size < W.heap.size := lt_of_cell HX.out.1
    have HA : Hid (OwnL W.heap.size (.slice a9 FS.length c9) FS (w1.alloc (.cells #[.string ⟨#[]⟩] 9))) := HO1.out.keep ((Below.refl _ _).alloc (Nat.le_refl _) _)
    obtain ⟨y0, y1, y2⟩ := HX.out.below hb1
    go_wp2_with (at_builtin; refine wpList_append_1L rfl _ _ rfl W.heap.size _ FS ⟨#[]⟩ w1.heap.size rfl rfl ?c1 HA.out ?c2 ?c3 ?_)
    case c1 => rw [World.cell?_alloc_at _ _ _ _ rfl]; rfl
    case c2 => simp; omega
    case c3 => omega
    intro v4 w4 hO4 hgr4 _
    have hb4 : Below W.heap.size W w4 := (hb1.alloc hs1 _).grown hgr4 (by simp; omega) (fun g hg => (HA.out.lt g hg).1)
    have HO4 : Hid (OwnL W.heap.size v4 (FS ++ [[]]) w4) := hO4
    have hb04 := nx hA hb4
    clear y0 y1 y2 hgr4 hO4 HA HO1
    obtain ⟨y0, y1, y2⟩ := HX.out.below hb4
    go_wp2_with fail
    refine (HBO.out _ hb04).mono ?_
    rintro e w5 ⟨rfl, hb5⟩
    have hb15 := nx hb4 hb5
    have hs5 := hb15.size
    clear y0 y1 y2
    obtain ⟨y0, y1, y2⟩ := HX.out.below hb15
    have HO5 := Lib.hid (HO4.out.keep hb5)
    have HB15 := Lib.hid hb15
    go_wp2_with fail
    go_loopw [7, 8] (fun v i wr => ∃ (k : Nat) (us : List Value), k ≤ nk ∧ i = .int .i64 k ∧ OwnSS w5.heap.size v us (ps.take k) wr ∧ Below w5.heap.size w5 wr) (fun _ i _ => nk - (intOf i).toNat)
    case atStart =>
      exact ⟨0, [], Nat.zero_le _, rfl, (OwnSS.empty w5), (Below.refl _ _).alloc (Nat.le_refl _) _⟩
    case round =>
      obtain ⟨k, us, hk, rfl, hown, hb⟩ := hrel
      have HO := Lib.hid hown
      have hbs := hb.size
      have hb1r := nx hb15 hb
      have hpt : (ps.take k).length = k := by rw [List.length_take]; have := HNK.out; omega
      have HPT := Lib.hid hpt
      clear hown hpt y0 y1 y2
      obtain ⟨y0, y1, y2⟩ := HX.out.below hb1r
      by_cases hlt : k < nk
      · have d1 : decide ((k : Int) < nk) = true := by simp; omega
        have hkp : k < ps.length := by rw [HNK.out]; exact hlt
        have hkx : k < p.kids.length := by rw [HKK.out]; exact hlt
        obtain ⟨bk, off, rfl, hbl, b1, e1, b2, e2, b3, e3, g0, g1, g2, g3⟩ := (HKS.out.below (nx hA hb1r)).at hkx
        have HC := Lib.hid (IH f' _ p.kids[k] wr ps[k] g3 (HMS.out k hkx hkp))
        have HTK : Hid (ps.take (k + 1) = ps.take k ++ [ps[k]]) := List.take_succ_eq_append_getElem hkp
        clear g3
        generalize p.kids[k].fields.length = n1 at *
        generalize p.kids[k].body.length = n2 at *
        generalize p.kids[k].kids.length = n3 at *
        obtain ⟨X, hX⟩ : ∃ X, X = ps[k] := ⟨_, rfl⟩
        have hXl : X.length ≤ 500000 := by rw [hX]; exact HPM.out k hkp
        rw [← hX] at HC HTK
        clear hX
        obtain ⟨a10, c10, rfl, _, _, _, _⟩ := HO.out.read
        rw [HPT.out] at HO ⊢
        go_wp2_with fail
        refine HC.out.mono ?_
        rintro e w6 ⟨v7, rfl, ho7, hb7⟩
        have hbs7 := hb7.size
        obtain ⟨ax, cx, rfl, _⟩ := ho7.read
        have hA1 : Below w6.heap.size w6 (w6.alloc (.cells #[.slice ax X.length cx] 23)) := (Below.refl _ _).alloc (Nat.le_refl _) _
        have HOU : Hid (OwnL w5.heap.size (.slice ax X.length cx) X (w6.alloc (.cells #[.slice ax X.length cx] 23))) := (ho7.keep hA1).base hbs
        have HOV : Hid (OwnSS w5.heap.size (.slice a10 k c10) us (ps.take k) (w6.alloc (.cells #[.slice ax X.length cx] 23))) := (HO.out.keep hb7).keep hA1
        have HO7 := Lib.hid ho7
        clear ho7 y0 y1 y2
        go_wp2_with (at_builtin; refine wpList_append_SS rfl _ _ rfl w5.heap.size _ (.slice ax X.length cx) us (ps.take k) X w6.heap.size rfl rfl ?q1 rfl HOV.out HOU.out ?q4 ?q5 ?q2 ?q3 ?_)
        case q1 => rw [World.cell?_alloc_at _ _ _ _ rfl]; rfl
        case q4 => exact fun g hg e => by have := (HO7.out.lt g hg).1; have := (HO.out.lt.1 g e).2; omega
        case q5 => exact fun i z g hz hg e => by have := (HO7.out.lt g hg).1; have := (HO.out.lt.2 i z g hz e).2; omega
        case q2 => simp; omega
        case q3 => rw [HPT.out]; omega
        intro v' w8 hO8 hgr8 _
        have hb8 : Below w5.heap.size w5 w8 := ((nx hb hb7).alloc (nx hb hb7).size _).grown hgr8 (by simp; omega) (fun g hg => (HOV.out.lt.1 g hg).1)
        rw [← HTK.out] at hO8
        have HN8 := Lib.hid hO8
        clear hO8 hgr8
        go_wp2
        go_roundw
        case rel => exact ⟨k + 1, _, by omega, by go_num, HN8.out, hb8⟩
        case measure => simp [intOf]; omega
      · have hkn : k = nk := by omega
        have d1 : decide ((k : Int) < nk) = false := by simp; omega
        have HT : Hid (ps.take k = ps) := by show _ = _; rw [hkn, ← HNK.out, List.take_length]
        rw [HT.out] at HO
        obtain ⟨a10, c10, rfl, hrd, _, _, _⟩ := HO.out.read
        have HRD := Lib.hid hrd
        clear hrd
        have HJ2 : Hid (Calls Tryz.prog 69 #[.slice a10 nk c10, .string BB] wr (LinesRet (some r) wr)) := HJ.out a10 c10 wr (by have := HRD.out; rw [HNK.out] at this; exact this)
        rw [HNK.out] at HO ⊢
        clear hkn HRD
        go_wp2_with fail
        refine HJ2.out.mono ?_
        intro e w6 hret
        obtain ⟨ax, cx, rfl, ho6, _, hb6⟩ := hret.some'
        have hb56 := nx hb hb6
        have hb16 := nx hb15 hb56
        have hs6 := hb16.size
        have HO6 := Lib.hid (HO5.out.keep hb56)
        have HR6 := Lib.hid (ownL_rd' ho6)
        have HAC : Hid (ax = none → cx = 0) := by
          obtain ⟨_, _, e, _, _, h, _⟩ := ho6.readc
          injection e with e1 _ e3
          subst e1 e3; exact h
        clear ho6 hret y0 y1 y2
        go_wp2_with (at_builtin; refine wpList_append_RL rfl _ _ rfl W.heap.size _ (FS ++ [[]]) r ax r.length cx rfl rfl HO6.out HR6.out HAC.out hs6 ?d1 ?_)
        case d1 => rw [List.length_append, List.length_singleton]; omega
        intro v9 w9 hO9 hgr9 _
        have hb9 : Below W.heap.size W w9 := hb16.grown hgr9 hs6 (fun g hg => (HO6.out.lt g hg).1)
        have HO9 : Hid (OwnL w.heap.size v9 ls w9) := by
          show OwnL _ _ _ _
          rw [HLR.out]
          have := hO9.base hWs
          first
            | exact this
            | (rw [List.append_assoc] at this; exact this)
        clear hO9 hgr9
        go_wp2
        go_ret
        exact ⟨_, rfl, HO9.out, nx hA hb9⟩
theorem fmt_all : ∀ d, d ≤ 3 → FmtAt d
  | 0, _ => fun _ _ _ _ _ _ h => by cases h
  | d + 1, h => fmt_step d (by omega) (fmt_all d (by omega))
theorem linesT_restSome {d : Nat} {p : Prt} (h : fldsOk p.fields = true) : (linesT (d + 1) p).isSome = (restO d p).isSome := by
  rw [linesT_rest, if_pos h]; cases restO d p <;> rfl
def ValidAt (d : Nat) : Prop := ∀ (f : Nat) (v : Value) (p : Prt) (u : World), RdT u f v p → Calls Tryz.prog 36 #[v, .int .i64 (d : Int)] u fun e w' => e = .returned (.bool (linesT d p).isSome) ∧ Below u.heap.size u w'
set_option maxRecDepth 100000 in
set_option maxHeartbeats 1000000 in
theorem valid_zero : ValidAt 0 := by
  intro f v p w hr
  obtain ⟨f', a1, c1, a2, c2, a3, c3, rfl, rfl, ⟨hf, hfc⟩, _, _, hpf, _⟩ := hr.open
  have HV : Hid (∀ u, Below w.heap.size w u → Calls Tryz.prog 60 #[.slice a1 p.fields.length c1] u fun e w' => e = .returned (.bool (fldsOk p.fields)) ∧ Below u.heap.size u w') := fun u h => l3Valid_any a1 p.fields.length c1 p.fields u (hf.below h) (by have := hpf.1; omega) (fun x hx => (hpf.2.1 x hx).up (by omega))
  have hA : Below w.heap.size w (w.alloc (.cells #[.slice a1 p.fields.length c1, .slice a2 p.body.length c2, .slice a3 p.kids.length c3] 32)) := (Below.refl _ _).alloc (Nat.le_refl _) _
  have HN : Hid ((linesT 0 p).isSome = false) := rfl
  clear hf hfc hpf hr
  rw [HN.out]
  generalize fldsOk p.fields = ok at *
  generalize p.fields.length = n1 at *
  generalize p.body.length = n2 at *
  generalize p.kids.length = n3 at *
  cases ok
  all_goals
    go_enter Tryz.func36, Tryz.ntmps36
    go_wp2_with fail
    refine (HV.out _ hA).mono ?_
    rintro e w1 ⟨rfl, hb1⟩
    go_wp2
    go_ret
    exact ⟨rfl, nx hA hb1⟩
set_option maxRecDepth 100000 in
set_option maxHeartbeats 4000000 in
theorem valid_step (d : Nat) (hd : d ≤ 2) (IH : ValidAt d) : ValidAt (d + 1) := by
  intro f v p w hr
  obtain ⟨f', a1, c1, a2, c2, a3, c3, rfl, rfl, ⟨hf, hfc⟩, ⟨hbd, hbc, hbn⟩, hkc, hpf, hks⟩ := hr.open
  have HV : Hid (∀ u, Below w.heap.size w u → Calls Tryz.prog 60 #[.slice a1 p.fields.length c1] u fun e w' => e = .returned (.bool (fldsOk p.fields)) ∧ Below u.heap.size u w') := fun u h => l3Valid_any a1 p.fields.length c1 p.fields u (hf.below h) (by have := hpf.1; omega) (fun x hx => (hpf.2.1 x hx).up (by omega))
  have HBO : Hid (∀ u, Below w.heap.size w u → Calls Tryz.prog 61 #[.slice a1 p.fields.length c1] u (BndRet (bndF p.fields) u)) := fun u h => l8Boundary_any a1 p.fields.length c1 p.fields u (hf.below h) hpf.1 hpf.2.1
  have HBY : Hid (∀ u, Below w.heap.size w u → Calls Tryz.prog 62 #[.slice a2 p.body.length c2] u fun e w' => e = .returned (.bool (okBody p.body)) ∧ Below u.heap.size u w') := fun u h => l8Body_any a2 p.body.length c2 p.body u (hbd.below h) hpf.2.2.1 hpf.2.2.2.1
  have HKS := Lib.hid hks
  have hnb : p.body.length ≤ 1048576 := hpf.2.2.1
  have hnk : p.kids.length ≤ 1048576 := hpf.2.2.2.2
  have hA : Below w.heap.size w (w.alloc (.cells #[.slice a1 p.fields.length c1, .slice a2 p.body.length c2, .slice a3 p.kids.length c3] 32)) := (Below.refl _ _).alloc (Nat.le_refl _) _
  have HX := Lib.hid (KK3.new w (.slice a1 p.fields.length c1) (.slice a2 p.body.length c2) (.slice a3 p.kids.length c3) 32)
  have hdd : (((d + 1 : Nat) : Int)) = (d : Int) + 1 := by omega
  have e1 : decide ((d : Int) + 1 < 1) = false := by simp; omega
  rw [hdd]
  clear hf hfc hbd hbc hbn hkc hpf hks hr hdd
  cases hok : fldsOk p.fields with
  | false =>
    have HN : Hid ((linesT (d + 1) p).isSome = false) := by show _ = _; rw [linesT_no hok]; rfl
    rw [hok] at HV
    rw [HN.out]
    clear hok HKS HBO HBY
    generalize p.fields.length = n1 at *
    generalize p.body.length = n2 at *
    generalize p.kids.length = n3 at *
    go_enter Tryz.func36, Tryz.ntmps36
    go_wp2_with fail
    refine (HV.out _ hA).mono ?_
    rintro e w1 ⟨rfl, hb1⟩
    go_wp2
    go_ret
    exact ⟨rfl, nx hA hb1⟩
  | true =>
    rw [linesT_restSome hok]
    rw [hok] at HV
    clear hok
    unfold BndRet at HBO
    cases hq : bndF p.fields with
    | none =>
      have HL := Lib.hid (restO_leaf (d := d) hq)
      rw [hq] at HBO
      clear hq HKS
      by_cases hk0 : p.kids.length = 0
      · have HKN : Hid (p.kids = []) := List.length_eq_zero_iff.1 hk0
        have e0 : ((p.kids.length : Int) == 0) = true := by rw [beq_iff_eq]; omega
        have HN : Hid ((restO d p).isSome = okBody p.body) := by
          show _ = _
          rw [HL.out]
          cases hv : okBody p.body
          · rw [if_neg (fun c => by cases c.1)]; rfl
          · rw [if_pos ⟨rfl, HKN.out⟩]; rfl
        rw [HN.out]
        clear hk0 HL
        generalize okBody p.body = ob at *
        generalize p.fields.length = n1 at *
        generalize p.body.length = n2 at *
        generalize p.kids.length = n3 at *
        go_enter Tryz.func36, Tryz.ntmps36
        go_wp2_with fail
        refine (HV.out _ hA).mono ?_
        rintro e w1 ⟨rfl, hb1⟩
        have hb01 := nx hA hb1
        obtain ⟨y0, y1, y2⟩ := HX.out.below hb1
        go_wp2_with fail
        refine (HBO.out _ hb01).mono ?_
        rintro e w2 ⟨rfl, hb2⟩
        have hb02 := nx hb01 hb2
        clear y0 y1 y2
        obtain ⟨y0, y1, y2⟩ := HX.out.below (nx hb1 hb2)
        go_wp2_with fail
        refine (HBY.out _ hb02).mono ?_
        rintro e w3 ⟨rfl, hb3⟩
        go_wp2
        go_ret
        exact ⟨rfl, nx hb02 hb3⟩
      · have HN : Hid ((restO d p).isSome = false) := by show _ = _; rw [HL.out, if_neg (fun c => hk0 (by rw [c.2]; rfl))]; rfl
        have e0 : ((p.kids.length : Int) == 0) = false := by rw [beq_eq_false_iff_ne]; omega
        rw [HN.out]
        clear hk0 HL HBY
        generalize p.fields.length = n1 at *
        generalize p.body.length = n2 at *
        generalize p.kids.length = n3 at *
        go_enter Tryz.func36, Tryz.ntmps36
        go_wp2_with fail
        refine (HV.out _ hA).mono ?_
        rintro e w1 ⟨rfl, hb1⟩
        have hb01 := nx hA hb1
        obtain ⟨y0, y1, y2⟩ := HX.out.below hb1
        go_wp2_with fail
        refine (HBO.out _ hb01).mono ?_
        rintro e w2 ⟨rfl, hb2⟩
        have hb02 := nx hb01 hb2
        clear y0 y1 y2
        obtain ⟨y0, y1, y2⟩ := HX.out.below (nx hb1 hb2)
        go_wp2
        go_ret
        exact ⟨rfl, hb02⟩
    | some b =>
      have HL := Lib.hid (restO_many (d := d) hq)
      have HBD := Lib.hid (bndF_bnd hq)
      have hbl : b.length ≤ 20 := by have := bndF_bnd hq; unfold isBnd at this; simp at this; omega
      have hbz : (str b).size ≤ 20 := by rw [str_size]; exact hbl
      rw [hq] at HBO
      have HB : Hid (∀ u, Below w.heap.size w u → Calls Tryz.prog 61 #[.slice a1 p.fields.length c1] u fun e w' => e = .returned (.tuple #[.string (str b), .bool true]) ∧ Below u.heap.size u w') := HBO.out
      have HLK : Hid (∀ (x : List UInt8) u, Calls Tryz.prog 63 #[.string (str x), .string (str b)] u fun e w' => e = .returned (.bool (looksB b x)) ∧ u = w') := fun x u => by
        have := l7Looks_any x (str b) u (by omega)
        rw [str_list] at this; exact this
      clear hq hbl HBO HBY
      generalize str b = BB at *
      by_cases hgo : p.body.length = 0 ∧ 1 ≤ p.kids.length ∧ p.kids.length ≤ 4
      · obtain ⟨hb0, hk1, hk4⟩ := hgo
        have HBE : Hid (p.body = []) := List.length_eq_zero_iff.1 hb0
        have HRO : Hid ((restO d p).isSome = (kidsO d p.kids b).isSome) := by show _ = _; rw [HL.out, if_pos HBE.out]
        have d1 : decide (0 < p.body.length) = false := decide_eq_false (by omega)
        have d2 : decide ((p.kids.length : Int) < 1) = false := decide_eq_false (by omega)
        have d3 : decide ((4 : Int) < p.kids.length) = false := decide_eq_false (by omega)
        rw [HRO.out]
        clear HL HRO HBE hb0
        generalize hnkq : p.kids.length = nk at *
        have HNK := Lib.hid hnkq
        clear hnkq
        generalize p.body.length = nb at *
        generalize p.fields.length = nf at *
        go_enter Tryz.func36, Tryz.ntmps36
        go_wp2_with fail
        refine (HV.out _ hA).mono ?_
        rintro e w1 ⟨rfl, hb1⟩
        have hb01 := nx hA hb1
        obtain ⟨y0, y1, y2⟩ := HX.out.below hb1
        go_wp2_with fail
        refine (HB.out _ hb01).mono ?_
        rintro e w2 ⟨rfl, hb2⟩
        have hb02 := nx hb01 hb2
        have hb12 := nx hb1 hb2
        clear y0 y1 y2
        obtain ⟨y0, y1, y2⟩ := HX.out.below hb12
        go_wp2_with fail
        go_loopw [7] (fun i wr => ∃ (k : Nat), k ≤ nk ∧ i = .int .i64 k ∧ (∀ j, j < k → (hj : j < p.kids.length) → kidGood d b p.kids[j]) ∧ Below w2.heap.size w2 wr) (fun i _ => nk - (intOf i).toNat)
        case atStart => exact ⟨0, Nat.zero_le _, rfl, (fun j h => by omega), Below.refl _ _⟩
        case round =>
          obtain ⟨k, hk, rfl, hall, hb⟩ := hrel
          have HALL := Lib.hid hall
          have hb0r := nx hb02 hb
          have hb1r := nx hb12 hb
          clear hall y0 y1 y2
          obtain ⟨y0, y1, y2⟩ := HX.out.below hb1r
          by_cases hlt : k < nk
          · have d4 : decide ((k : Int) < nk) = true := decide_eq_true (by omega)
            have hkx : k < p.kids.length := by rw [HNK.out]; exact hlt
            obtain ⟨bk, off, rfl, hbl, b1, e1, b2, e2, b3, e3, g0, g1, g2, g3⟩ := (HKS.out.below hb0r).at hkx
            have HC := Lib.hid (IH f' _ p.kids[k] wr g3)
            have HFM : Hid (∀ u ls, Below wr.heap.size wr u → linesT d p.kids[k] = some ls → Calls Tryz.prog 42 #[.agg #[.slice b1 p.kids[k].fields.length e1, .slice b2 p.kids[k].body.length e2, .slice b3 p.kids[k].kids.length e3]] u fun e w' => ∃ v', e = .returned v' ∧ OwnL u.heap.size v' ls w' ∧ Below u.heap.size u w') := fun u ls h hl => fmt_all d (by omega) f' _ p.kids[k] u ls (g3.below h f') hl
            have hblr := lt_of_cell g0
            have HG : Hid (∀ u, Below wr.heap.size wr u → u.cell? ⟨bk, off + k * 3, none⟩ = some (.slice b1 p.kids[k].fields.length e1) ∧ u.cell? ⟨bk, off + k * 3 + 1, none⟩ = some (.slice b2 p.kids[k].body.length e2) ∧ u.cell? ⟨bk, off + k * 3 + 2, none⟩ = some (.slice b3 p.kids[k].kids.length e3)) := fun u h => ⟨by rw [below_at h hblr, g0], by rw [below_at h hblr, g1], by rw [below_at h hblr, g2]⟩
            have HBAD := Lib.hid (kidsO_bad (d := d) (b := b) hkx)
            have HSZ : Hid (∀ ls, linesT d p.kids[k] = some ls → ls.length ≤ 500000) := fun ls h => by
              have h5 : 5 ^ d ≤ 125 := pow5 (by omega)
              have := linesT_len d _ _ h; omega
            have HLO : Hid (∀ ls, linesT d p.kids[k] = some ls → freeB b ls = false → kidsO d p.kids b = none) := fun ls h1 h2 => kidsO_looks hkx h1 h2
            have HGO : Hid (∀ ls, linesT d p.kids[k] = some ls → freeB b ls = true → ∀ j, j < k + 1 → (hj : j < p.kids.length) → kidGood d b p.kids[j]) := fun ls h1 h2 j hj hjx => by
              by_cases e : j = k
              · subst e; exact ⟨ls, h1, h2⟩
              · exact HALL.out j (by omega) hjx
            clear g3
            generalize p.kids[k].fields.length = n1 at *
            generalize p.kids[k].body.length = n2 at *
            generalize p.kids[k].kids.length = n3 at *
            generalize linesT d p.kids[k] = o at *
            cases o with
            | none =>
              have HN : Hid ((kidsO d p.kids b).isSome = false) := by show _ = _; rw [HBAD.out rfl]; rfl
              clear HFM HLO HGO HBAD
              go_wp2_with fail
              refine HC.out.mono ?_
              rintro e w6 ⟨rfl, hb6⟩
              go_wp2
              go_ret
              exact ⟨ret_bool HN.out.symm, nx hb0r hb6⟩
            | some ls =>
              have HF6 := Lib.hid (fun u h => HFM.out u ls h rfl)
              have HL6 := Lib.hid (HLO.out ls rfl)
              have HG6 := Lib.hid (HGO.out ls rfl)
              clear HFM HLO HGO HBAD
              go_wp2_with fail
              refine HC.out.mono ?_
              rintro e w6 ⟨rfl, hb6⟩
              have hb16 := nx hb1r hb6
              clear y0 y1 y2 g0 g1 g2
              obtain ⟨y0, y1, y2⟩ := HX.out.below hb16
              obtain ⟨g0, g1, g2⟩ := HG.out _ hb6
              go_wp2_with fail
              refine (HF6.out _ hb6).mono ?_
              rintro e w7 ⟨v7, rfl, ho7, hb7⟩
              have hb17 := nx hb16 hb7
              have hb67 := nx hb6 hb7
              clear y0 y1 y2 g0 g1 g2
              obtain ⟨y0, y1, y2⟩ := HX.out.below hb17
              obtain ⟨a7, c7, rfl, hr7, _⟩ := ho7.read
              have HR7 := Lib.hid hr7
              clear ho7 hr7
              have hm : ls.length ≤ 500000 := HSZ.out ls rfl
              obtain ⟨m, hmq⟩ : ∃ m, m = ls.length := ⟨_, rfl⟩
              rw [← hmq] at HR7 hm ⊢
              have HM := Lib.hid hmq
              clear hmq
              go_wp2_with fail
              go_loopw [9] (fun i wq => ∃ (t : Nat), t ≤ m ∧ i = .int .i64 t ∧ wq = w7 ∧ (∀ s, s < t → (hs : s < ls.length) → looksB b ls[s] = false)) (fun i _ => m - (intOf i).toNat)
              case atStart => exact ⟨0, Nat.zero_le _, rfl, rfl, (fun s h => by omega)⟩
              case round =>
                obtain ⟨t, ht, rfl, rfl, hal⟩ := hrel
                have HAL := Lib.hid hal
                clear hal
                by_cases htl : t < m
                · have d5 : decide ((t : Int) < m) = true := decide_eq_true (by omega)
                  have htx : t < ls.length := by rw [← HM.out]; exact htl
                  obtain ⟨b7, o7, rfl, hb7l, hc7⟩ := HR7.out.2.resolve_left (by omega)
                  have q7 := hc7 t htx
                  have HLL := Lib.hid (HLK.out ls[t])
                  have HBD7 : Hid (looksB b ls[t] = true → (kidsO d p.kids b).isSome = false) := fun h => by rw [HL6.out (freeB_f htx h)]; rfl
                  have HNX : Hid (looksB b ls[t] = false → ∀ s, s < t + 1 → (hs : s < ls.length) → looksB b ls[s] = false) := fun h s hs hsx => by
                    by_cases e : s = t
                    · subst e; exact h
                    · exact HAL.out s (by omega) hsx
                  clear hc7
                  generalize looksB b ls[t] = q at *
                  generalize str ls[t] = S at *
                  cases q
                  · have HN := Lib.hid (HNX.out rfl)
                    go_wp2_with fail
                    refine (HLL.out _).mono ?_
                    rintro e w9 ⟨rfl, rfl⟩
                    go_wp2
                    go_roundw
                    case rel =>
                      first
                        | exact ⟨t + 1, by omega, by go_num, rfl, HN.out⟩
                        | exact ⟨t + 1, by omega, by go_num, trivial, HN.out⟩
                        | exact ⟨t + 1, by omega, by go_num, HN.out⟩
                    case measure => simp [intOf]; omega
                  · have HN := Lib.hid (HBD7.out rfl)
                    go_wp2_with fail
                    refine (HLL.out _).mono ?_
                    rintro e w9 ⟨rfl, rfl⟩
                    go_wp2
                    go_ret
                    exact ⟨ret_bool HN.out.symm, nx hb0r hb67⟩
                · have d5 : decide ((t : Int) < m) = false := decide_eq_false (by omega)
                  have HN := Lib.hid (HG6.out (freeB_t fun s hs => HAL.out s (by have := HM.out; omega) hs))
                  go_wp2
                  go_roundw
                  case rel => exact ⟨k + 1, by omega, by go_num, HN.out, nx hb hb67⟩
                  case measure => simp [intOf]; omega
          · have d4 : decide ((k : Int) < nk) = false := decide_eq_false (by omega)
            have HN : Hid ((kidsO d p.kids b).isSome = true) := kidsO_good HBD.out (fun e => by have := HNK.out; rw [e] at this; simp at this; omega) (by rw [HNK.out]; exact hk4) (fun i hi => HALL.out i (by have := HNK.out; omega) hi)
            go_wp2
            go_ret
            exact ⟨ret_bool HN.out.symm, hb0r⟩
      · have HN : Hid ((restO d p).isSome = false) := by
          show _ = _
          rw [HL.out]
          by_cases hb0 : p.body = []
          · rw [if_pos hb0]
            by_cases h4 : p.kids.length ≤ 4
            · have : p.kids = [] := by
                refine List.length_eq_zero_iff.1 ?_
                have : p.body.length = 0 := by rw [hb0]; rfl
                omega
              rw [this, kidsO_nil]; rfl
            · rw [kidsO_long (by omega)]; rfl
          · rw [if_neg hb0]; rfl
        rw [HN.out]
        clear HL HN HKS HBD
        by_cases hb0 : p.body.length = 0
        · have d1 : decide (0 < p.body.length) = false := decide_eq_false (by omega)
          by_cases hk1 : p.kids.length < 1
          · have d2 : decide ((p.kids.length : Int) < 1) = true := decide_eq_true (by omega)
            clear hgo hb0 hk1
            generalize p.fields.length = n1 at *
            generalize p.body.length = n2 at *
            generalize p.kids.length = n3 at *
            go_enter Tryz.func36, Tryz.ntmps36
            go_wp2_with fail
            refine (HV.out _ hA).mono ?_
            rintro e w1 ⟨rfl, hb1⟩
            have hb01 := nx hA hb1
            obtain ⟨y0, y1, y2⟩ := HX.out.below hb1
            go_wp2_with fail
            refine (HB.out _ hb01).mono ?_
            rintro e w2 ⟨rfl, hb2⟩
            have hb02 := nx hb01 hb2
            clear y0 y1 y2
            obtain ⟨y0, y1, y2⟩ := HX.out.below (nx hb1 hb2)
            go_wp2
            go_ret
            exact ⟨rfl, hb02⟩
          · have d2 : decide ((p.kids.length : Int) < 1) = false := decide_eq_false (by omega)
            have d3 : decide ((4 : Int) < p.kids.length) = true := decide_eq_true (by omega)
            clear hgo hb0 hk1
            generalize p.fields.length = n1 at *
            generalize p.body.length = n2 at *
            generalize p.kids.length = n3 at *
            go_enter Tryz.func36, Tryz.ntmps36
            go_wp2_with fail
            refine (HV.out _ hA).mono ?_
            rintro e w1 ⟨rfl, hb1⟩
            have hb01 := nx hA hb1
            obtain ⟨y0, y1, y2⟩ := HX.out.below hb1
            go_wp2_with fail
            refine (HB.out _ hb01).mono ?_
            rintro e w2 ⟨rfl, hb2⟩
            have hb02 := nx hb01 hb2
            clear y0 y1 y2
            obtain ⟨y0, y1, y2⟩ := HX.out.below (nx hb1 hb2)
            go_wp2
            go_ret
            exact ⟨rfl, hb02⟩
        · have d1 : decide (0 < p.body.length) = true := decide_eq_true (by omega)
          clear hgo hb0
          generalize p.fields.length = n1 at *
          generalize p.body.length = n2 at *
          generalize p.kids.length = n3 at *
          go_enter Tryz.func36, Tryz.ntmps36
          go_wp2_with fail
          refine (HV.out _ hA).mono ?_
          rintro e w1 ⟨rfl, hb1⟩
          have hb01 := nx hA hb1
          obtain ⟨y0, y1, y2⟩ := HX.out.below hb1
          go_wp2_with fail
          refine (HB.out _ hb01).mono ?_
          rintro e w2 ⟨rfl, hb2⟩
          have hb02 := nx hb01 hb2
          clear y0 y1 y2
          obtain ⟨y0, y1, y2⟩ := HX.out.below (nx hb1 hb2)
          go_wp2
          go_ret
          exact ⟨rfl, hb02⟩
theorem valid_all : ∀ d, d ≤ 3 → ValidAt d
  | 0, _ => valid_zero
  | d + 1, h => valid_step d (by omega) (valid_all d (by omega))
end Go.Proofs.YtbeaaodhcipdgaaGreatDoor
end

section
namespace Go.Proofs.YtbeaaodhcipdgaaGreatDoor
open Go.RowKit

set_option maxRecDepth 100000 in
set_option maxHeartbeats 1000000 in
theorem partValid_any (f : Nat) (v : Value) (p : Prt) (w : World) (tab : Tab w) (hr : RdT w f v p) :
    Calls Tryz.prog 12 #[v] w fun e w' => e = .returned (.bool (isPrt p)) ∧ Below w.heap.size w w' := by
  have HL : Hid (∀ u, Below w.heap.size w u → Calls Tryz.prog 39 #[v, .int .i64 3] u (LinesRet (linesT 3 p) u)) := fun u h => lines_all 3 (by omega) f v p u (tab.below h) (hr.below h f)
  have HQ : Hid ((linesT 3 p).isSome = isPrt p) := rfl
  obtain ⟨f', a1, c1, a2, c2, a3, c3, hff, rfl, _⟩ := hr.open
  have hA : Below w.heap.size w (w.alloc (.cells #[.slice a1 p.fields.length c1, .slice a2 p.body.length c2, .slice a3 p.kids.length c3] 32)) := (Below.refl _ _).alloc (Nat.le_refl _) _
  clear hr tab hff
  unfold LinesRet at HL
  rw [HQ.out] at HL
  generalize isPrt p = q at *
  generalize p.fields.length = n1 at *
  generalize p.body.length = n2 at *
  generalize p.kids.length = n3 at *
  go_enter Tryz.func12, Tryz.ntmps12
  go_wp2_with fail
  refine (HL.out _ hA).mono ?_
  rintro e w1 ⟨v', rfl, _, hb1⟩
  go_wp2
  go_ret
  exact ⟨rfl, nx hA hb1⟩
set_option maxRecDepth 100000 in
set_option maxHeartbeats 1000000 in
theorem partValidS_any (f : Nat) (v : Value) (p : Prt) (w : World) (hr : RdT w f v p) :
    Calls Tryz.prog 10 #[v] w fun e w' => e = .returned (.bool (isPrt p)) ∧ Below w.heap.size w w' := by
  have HL : Hid (∀ u, Below w.heap.size w u → Calls Tryz.prog 36 #[v, .int .i64 3] u fun e w' => e = .returned (.bool (isPrt p)) ∧ Below u.heap.size u w') := fun u h => valid_all 3 (by omega) f v p u (hr.below h f)
  obtain ⟨f', a1, c1, a2, c2, a3, c3, hff, rfl, _⟩ := hr.open
  have hA : Below w.heap.size w (w.alloc (.cells #[.slice a1 p.fields.length c1, .slice a2 p.body.length c2, .slice a3 p.kids.length c3] 32)) := (Below.refl _ _).alloc (Nat.le_refl _) _
  clear hr hff
  generalize isPrt p = q at *
  generalize p.fields.length = n1 at *
  generalize p.body.length = n2 at *
  generalize p.kids.length = n3 at *
  go_enter Tryz.func10, Tryz.ntmps10
  go_wp2_with fail
  refine (HL.out _ hA).mono ?_
  rintro e w1 ⟨rfl, hb1⟩
  go_wp2
  go_ret
  exact ⟨rfl, nx hA hb1⟩
end Go.Proofs.YtbeaaodhcipdgaaGreatDoor
end

section
namespace Go.Proofs.YtbeaaodhcipdgaaGreatDoor
open Go.RowKit

theorem kids_valid {d : Nat} {p : Prt} {ls : List (List UInt8)} (h : linesT (d + 1) p = some ls) : p.kids.length ≤ 4 ∧ ∀ i, (hi : i < p.kids.length) → (linesT d p.kids[i]).isSome = true := by
  obtain ⟨_, r, _, hr⟩ := linesT_some h
  rcases hr with ⟨_, _, h3, _⟩ | ⟨b, ps, _, _, h4, h5, _⟩
  · exact ⟨by rw [h3]; simp, fun i hi => by rw [h3] at hi; simp at hi⟩
  · obtain ⟨g1, g2⟩ := mapO_some h5
    exact ⟨h4, fun i hi => by rw [g2 i hi (by omega)]; rfl⟩
theorem sum_takeT (g : Prt → Nat) (ks : List Prt) (k : Nat) (h : k < ks.length) : ((ks.take (k + 1)).map g).sum = ((ks.take k).map g).sum + g ks[k] := by
  rw [List.take_succ_eq_append_getElem h, List.map_append, List.sum_append]; simp
theorem sum_leT {g : Prt → Nat} {M : Nat} : ∀ {ks : List Prt}, (∀ i, (h : i < ks.length) → g ks[i] ≤ M) → (ks.map g).sum ≤ ks.length * M
  | [], _ => by simp
  | x :: ks, h => by
    have h1 : g x ≤ M := h 0 (by simp)
    have h2 := sum_leT (g := g) (M := M) (ks := ks) (fun i hi => h (i + 1) (by simpa using hi))
    rw [List.map_cons, List.sum_cons, List.length_cons, Nat.add_mul]; omega
theorem countT_le : ∀ (d : Nat) (p : Prt), (linesT d p).isSome = true → countT d p ≤ 4 ^ d
  | 0, p, h => by cases h
  | d + 1, p, h => by
    obtain ⟨ls, hls⟩ := Option.isSome_iff_exists.1 h
    obtain ⟨h4, hv⟩ := kids_valid hls
    show (if p.kids = [] then 1 else (p.kids.map (countT d)).sum) ≤ _
    have h1 : 1 ≤ 4 ^ d := Nat.one_le_pow _ _ (by omega)
    rw [Nat.pow_succ]
    split
    · omega
    · have hs := sum_leT (g := countT d) (M := 4 ^ d) (ks := p.kids) (fun i hi => countT_le d _ (hv i hi))
      have : p.kids.length * 4 ^ d ≤ 4 * 4 ^ d := Nat.mul_le_mul_right _ h4
      omega
theorem pow4 {d : Nat} (h : d ≤ 3) : 4 ^ d ≤ 64 := Nat.pow_le_pow_right (n := 4) (by omega) h
/-- How many parts without further parts a part has, where it is valid. -/
def cntT (p : Prt) : Nat := if isPrt p then countT 3 p else 0
def cntAt (d : Nat) : Prop := ∀ (f : Nat) (v : Value) (p : Prt) (u : World), RdT u f v p → (linesT d p).isSome = true → Calls Tryz.prog 52 #[v] u fun e w' => e = .returned (.int .i64 (countT d p : Nat)) ∧ Below u.heap.size u w'
def cntSAt (d : Nat) : Prop := ∀ (f : Nat) (v : Value) (p : Prt) (u : World), RdT u f v p → (linesT d p).isSome = true → Calls Tryz.prog 51 #[v] u fun e w' => e = .returned (.int .i64 (countT d p : Nat)) ∧ Below u.heap.size u w'
set_option maxRecDepth 100000 in
set_option maxHeartbeats 2000000 in
theorem cnt_step (d : Nat) (hd : d ≤ 2) (IH : cntAt d) : cntAt (d + 1) := by
  intro f v p w hr hv
  obtain ⟨ls, hls⟩ := Option.isSome_iff_exists.1 hv
  obtain ⟨hk4, hkv⟩ := kids_valid hls
  obtain ⟨f', a1, c1, a2, c2, a3, c3, rfl, rfl, _, _, _, _, hks⟩ := hr.open
  have hA : Below w.heap.size w (w.alloc (.cells #[.slice a1 p.fields.length c1, .slice a2 p.body.length c2, .slice a3 p.kids.length c3] 32)) := (Below.refl _ _).alloc (Nat.le_refl _) _
  have HCT : Hid (countT (d + 1) p = if p.kids = [] then 1 else (p.kids.map (countT d)).sum) := rfl
  by_cases h0 : p.kids.length = 0
  · have HN : Hid (countT (d + 1) p = 1) := by show _ = _; rw [HCT.out, if_pos (List.length_eq_zero_iff.1 h0)]
    have e0 : ((p.kids.length : Int) == 0) = true := by rw [beq_iff_eq]; omega
    rw [HN.out]
    clear hr hv hls hks HCT h0 hk4 hkv
    generalize p.fields.length = n1 at *
    generalize p.body.length = n2 at *
    generalize p.kids.length = n3 at *
    go_enter Tryz.func52, Tryz.ntmps52
    go_wp2
    go_ret
    exact ⟨rfl, hA⟩
  · have HN : Hid (countT (d + 1) p = (p.kids.map (countT d)).sum) := by show _ = _; rw [HCT.out, if_neg (fun c => h0 (by rw [c]; rfl))]
    have e0 : ((p.kids.length : Int) == 0) = false := by rw [beq_eq_false_iff_ne]; omega
    have HKV := Lib.hid hkv
    have HKS := Lib.hid hks
    have hbnd := pow4 (d := d) (by omega)
    have HBD : Hid (∀ i, (h : i < p.kids.length) → countT d p.kids[i] ≤ 64) := fun i h => Nat.le_trans (countT_le d _ (hkv i h)) hbnd
    rw [HN.out]
    clear hr hv hls hks HCT h0 hkv hbnd
    generalize p.fields.length = n1 at *
    generalize p.body.length = n2 at *
    obtain ⟨n3, hn3⟩ : ∃ n, n = p.kids.length := ⟨_, rfl⟩
    have HN3 := Lib.hid hn3
    rw [← hn3] at hk4 e0 hA ⊢
    clear hn3
    go_enter Tryz.func52, Tryz.ntmps52
    go_wp2_with fail
    go_loopw [3, 13] (fun c i wr => ∃ (k S : Nat), k ≤ n3 ∧ i = .int .i64 k ∧ c = .int .i64 S ∧ S = ((p.kids.take k).map (countT d)).sum ∧ S ≤ k * 64 ∧ Below w.heap.size w wr) (fun _ i _ => n3 - (intOf i).toNat)
    case atStart => exact ⟨0, 0, Nat.zero_le _, rfl, rfl, rfl, by omega, hA⟩
    case round =>
      obtain ⟨k, S, hk, rfl, rfl, hS, hS2, hb⟩ := hrel
      have HS := Lib.hid hS
      clear hS
      by_cases hlt : k < n3
      · have hkx : k < p.kids.length := by rw [← HN3.out]; exact hlt
        have hS3 : S ≤ 1000 := by omega
        obtain ⟨b, off, rfl, hbl, b1, e1, b2, e2, b3, e3, g0, g1, g2, g3⟩ := (HKS.out.below (nx (Below.refl _ _) hb)).at hkx
        have hAr : Below wr.heap.size wr (wr.alloc (.cells #[.slice b1 p.kids[k].fields.length e1, .slice b2 p.kids[k].body.length e2, .slice b3 p.kids[k].kids.length e3] 32)) := (Below.refl _ _).alloc (Nat.le_refl _) _
        have HC := Lib.hid (fun u (h : Below wr.heap.size wr u) => IH f' _ p.kids[k] u (g3.below h f') (HKV.out k hkx))
        have HNX : Hid (S + countT d p.kids[k] = ((p.kids.take (k + 1)).map (countT d)).sum) := by show _ = _; rw [sum_takeT _ _ _ hkx, HS.out]
        have hC := HBD.out k hkx
        clear g3
        generalize countT d p.kids[k] = C at *
        generalize p.kids[k].fields.length = m1 at *
        generalize p.kids[k].body.length = m2 at *
        generalize p.kids[k].kids.length = m3 at *
        go_wp2_with fail
        refine (HC.out _ hAr).mono ?_
        rintro e w1 ⟨rfl, hb1⟩
        go_wp2
        go_roundw
        case rel => exact ⟨k + 1, S + C, by omega, by go_num, by go_num, HNX.out, by omega, nx hb (nx hAr hb1)⟩
        case measure => simp [intOf]; omega
      · have hkn : k = n3 := by omega
        have HE : Hid ((p.kids.map (countT d)).sum = S) := by
          show _ = _
          rw [HS.out, List.take_of_length_le (by have := HN3.out; omega)]
        go_wp2
        go_ret
        exact ⟨by rw [HE.out]; rfl, hb⟩
theorem cnt_all : ∀ d, d ≤ 3 → cntAt d
  | 0, _ => fun _ _ _ _ _ h => by cases h
  | d + 1, h => cnt_step d (by omega) (cnt_all d (by omega))
set_option maxRecDepth 100000 in
set_option maxHeartbeats 2000000 in
theorem cntS_step (d : Nat) (hd : d ≤ 2) (IH : cntSAt d) : cntSAt (d + 1) := by
  intro f v p w hr hv
  obtain ⟨ls, hls⟩ := Option.isSome_iff_exists.1 hv
  obtain ⟨hk4, hkv⟩ := kids_valid hls
  obtain ⟨f', a1, c1, a2, c2, a3, c3, rfl, rfl, _, _, _, _, hks⟩ := hr.open
  have hA : Below w.heap.size w (w.alloc (.cells #[.slice a1 p.fields.length c1, .slice a2 p.body.length c2, .slice a3 p.kids.length c3] 32)) := (Below.refl _ _).alloc (Nat.le_refl _) _
  have HX := Lib.hid (KK3.new w (.slice a1 p.fields.length c1) (.slice a2 p.body.length c2) (.slice a3 p.kids.length c3) 32)
  have HCT : Hid (countT (d + 1) p = if p.kids = [] then 1 else (p.kids.map (countT d)).sum) := rfl
  have HKV := Lib.hid hkv
  have HKS := Lib.hid hks
  have hbnd := pow4 (d := d) (by omega)
  have HBD : Hid (∀ i, (h : i < p.kids.length) → countT d p.kids[i] ≤ 64) := fun i h => Nat.le_trans (countT_le d _ (hkv i h)) hbnd
  have HE0 : Hid (p.kids.length = 0 → countT (d + 1) p = 1) := fun h => by rw [HCT.out, if_pos (List.length_eq_zero_iff.1 h)]
  have HE1 : Hid (p.kids.length ≠ 0 → countT (d + 1) p = (p.kids.map (countT d)).sum) := fun h => by rw [HCT.out, if_neg (fun c => h (by rw [c]; rfl))]
  clear hr hv hls hks HCT hkv hbnd
  generalize countT (d + 1) p = R at *
  generalize p.fields.length = n1 at *
  generalize p.body.length = n2 at *
  obtain ⟨n3, hn3⟩ : ∃ n, n = p.kids.length := ⟨_, rfl⟩
  have HN3 := Lib.hid hn3
  rw [← hn3] at hk4 hA HX HE0 HE1 ⊢
  clear hn3
  go_enter Tryz.func51, Tryz.ntmps51
  go_wp2_with fail
  go_loopw [3, 4] (fun c i wr => ∃ (k S : Nat), k ≤ n3 ∧ i = .int .i64 k ∧ c = .int .i64 S ∧ S = ((p.kids.take k).map (countT d)).sum ∧ S ≤ k * 64 ∧ Below (w.alloc (.cells #[.slice a1 n1 c1, .slice a2 n2 c2, .slice a3 n3 c3] 32)).heap.size (w.alloc (.cells #[.slice a1 n1 c1, .slice a2 n2 c2, .slice a3 n3 c3] 32)) wr) (fun _ i _ => n3 - (intOf i).toNat)
  case atStart => exact ⟨0, 0, Nat.zero_le _, rfl, rfl, rfl, by omega, Below.refl _ _⟩
  case round =>
    obtain ⟨k, S, hk, rfl, rfl, hS, hS2, hb⟩ := hrel
    have HS := Lib.hid hS
    have hb0 := nx hA hb
    have HBW := Lib.hid hb
    obtain ⟨y0, y1, y2⟩ := HX.out.below hb
    clear hS hb
    by_cases hlt : k < n3
    · have dk : decide ((k : Int) < n3) = true := decide_eq_true (by omega)
      have hkx : k < p.kids.length := by rw [← HN3.out]; exact hlt
      have hS3 : S ≤ 1000 := by omega
      obtain ⟨b, off, rfl, hbl, b1, e1, b2, e2, b3, e3, g0, g1, g2, g3⟩ := (HKS.out.below hb0).at hkx
      have HC := Lib.hid (IH f' _ p.kids[k] wr g3 (HKV.out k hkx))
      have HNX : Hid (S + countT d p.kids[k] = ((p.kids.take (k + 1)).map (countT d)).sum) := by show _ = _; rw [sum_takeT _ _ _ hkx, HS.out]
      have hC := HBD.out k hkx
      clear g3
      generalize countT d p.kids[k] = C at *
      generalize p.kids[k].fields.length = m1 at *
      generalize p.kids[k].body.length = m2 at *
      generalize p.kids[k].kids.length = m3 at *
      go_wp2_with fail
      refine HC.out.mono ?_
      rintro e w1 ⟨rfl, hb1⟩
      go_wp2
      go_roundw
      case rel => exact ⟨k + 1, S + C, by omega, by go_num, by go_num, HNX.out, by omega, nx HBW.out hb1⟩
      case measure => simp [intOf]; omega
    · have dk : decide ((k : Int) < n3) = false := decide_eq_false (by omega)
      by_cases h0 : n3 = 0
      · have e0 : ((n3 : Int) == 0) = true := by rw [beq_iff_eq]; omega
        have HR := Lib.hid (HE0.out h0)
        clear h0
        go_wp2
        go_ret
        exact ⟨by rw [HR.out]; rfl, hb0⟩
      · have e0 : ((n3 : Int) == 0) = false := by rw [beq_eq_false_iff_ne]; omega
        have hkn : k = n3 := by omega
        have HR : Hid (R = S) := by
          show _ = _
          rw [HE1.out h0, HS.out, List.take_of_length_le (by have := HN3.out; omega)]
        clear hkn
        go_wp2
        go_ret
        exact ⟨by rw [HR.out]; rfl, hb0⟩
theorem cntS_all : ∀ d, d ≤ 3 → cntSAt d
  | 0, _ => fun _ _ _ _ _ h => by cases h
  | d + 1, h => cntS_step d (by omega) (cntS_all d (by omega))
set_option maxRecDepth 100000 in
set_option maxHeartbeats 1000000 in
theorem countParts_any (f : Nat) (v : Value) (p : Prt) (w : World) (tab : Tab w) (hr : RdT w f v p) :
    Calls Tryz.prog 26 #[v] w fun e w' => e = .returned (.int .i64 (cntT p : Nat)) ∧ Below w.heap.size w w' := by
  have ht := tab
  have HV : Hid (∀ u, Below w.heap.size w u → Calls Tryz.prog 12 #[v] u fun e w' => e = .returned (.bool (isPrt p)) ∧ Below u.heap.size u w') := fun u h => by
    first
      | exact partValid_any f v p u (hr.below h f)
      | exact partValid_any f v p u (tab.below h) (hr.below h f)
  have HC : Hid (isPrt p = true → ∀ u, Below w.heap.size w u → Calls Tryz.prog 52 #[v] u fun e w' => e = .returned (.int .i64 (countT 3 p : Nat)) ∧ Below u.heap.size u w') := fun hp u h => cnt_all 3 (by omega) f v p u (hr.below h f) hp
  have HCT : Hid (cntT p = if isPrt p then countT 3 p else 0) := rfl
  obtain ⟨f', a1, c1, a2, c2, a3, c3, hff, rfl, _⟩ := hr.open
  have hA : Below w.heap.size w (w.alloc (.cells #[.slice a1 p.fields.length c1, .slice a2 p.body.length c2, .slice a3 p.kids.length c3] 32)) := (Below.refl _ _).alloc (Nat.le_refl _) _
  have HX := Lib.hid (KK3.new w (.slice a1 p.fields.length c1) (.slice a2 p.body.length c2) (.slice a3 p.kids.length c3) 32)
  clear hr hff tab ht
  generalize cntT p = R at *
  generalize isPrt p = q at *
  generalize countT 3 p = K at *
  generalize p.fields.length = n1 at *
  generalize p.body.length = n2 at *
  generalize p.kids.length = n3 at *
  cases q
  · have HR : Hid (R = 0) := HCT.out
    clear HCT HC
    go_enter Tryz.func26, Tryz.ntmps26
    go_wp2_with fail
    refine (HV.out _ hA).mono ?_
    rintro e w1 ⟨rfl, hb1⟩
    go_wp2
    go_ret
    exact ⟨by rw [HR.out]; rfl, nx hA hb1⟩
  · have HR : Hid (R = K) := HCT.out
    have HC2 := Lib.hid (HC.out rfl)
    clear HCT HC
    go_enter Tryz.func26, Tryz.ntmps26
    go_wp2_with fail
    refine (HV.out _ hA).mono ?_
    rintro e w1 ⟨rfl, hb1⟩
    have hb01 := nx hA hb1
    obtain ⟨y0, y1, y2⟩ := HX.out.below hb1
    go_wp2_with fail
    refine (HC2.out _ hb01).mono ?_
    rintro e w2 ⟨rfl, hb2⟩
    go_wp2
    go_ret
    exact ⟨by rw [HR.out]; rfl, nx hb01 hb2⟩
set_option maxRecDepth 100000 in
set_option maxHeartbeats 1000000 in
theorem countPartsS_any (f : Nat) (v : Value) (p : Prt) (w : World) (tab : True) (hr : RdT w f v p) :
    Calls Tryz.prog 25 #[v] w fun e w' => e = .returned (.int .i64 (cntT p : Nat)) ∧ Below w.heap.size w w' := by
  have ht := tab
  have HV : Hid (∀ u, Below w.heap.size w u → Calls Tryz.prog 10 #[v] u fun e w' => e = .returned (.bool (isPrt p)) ∧ Below u.heap.size u w') := fun u h => by
    first
      | exact partValidS_any f v p u (hr.below h f)
      | exact partValidS_any f v p u (tab.below h) (hr.below h f)
  have HC : Hid (isPrt p = true → ∀ u, Below w.heap.size w u → Calls Tryz.prog 51 #[v] u fun e w' => e = .returned (.int .i64 (countT 3 p : Nat)) ∧ Below u.heap.size u w') := fun hp u h => cntS_all 3 (by omega) f v p u (hr.below h f) hp
  have HCT : Hid (cntT p = if isPrt p then countT 3 p else 0) := rfl
  obtain ⟨f', a1, c1, a2, c2, a3, c3, hff, rfl, _⟩ := hr.open
  have hA : Below w.heap.size w (w.alloc (.cells #[.slice a1 p.fields.length c1, .slice a2 p.body.length c2, .slice a3 p.kids.length c3] 32)) := (Below.refl _ _).alloc (Nat.le_refl _) _
  have HX := Lib.hid (KK3.new w (.slice a1 p.fields.length c1) (.slice a2 p.body.length c2) (.slice a3 p.kids.length c3) 32)
  clear hr hff tab ht
  generalize cntT p = R at *
  generalize isPrt p = q at *
  generalize countT 3 p = K at *
  generalize p.fields.length = n1 at *
  generalize p.body.length = n2 at *
  generalize p.kids.length = n3 at *
  cases q
  · have HR : Hid (R = 0) := HCT.out
    clear HCT HC
    go_enter Tryz.func25, Tryz.ntmps25
    go_wp2_with fail
    refine (HV.out _ hA).mono ?_
    rintro e w1 ⟨rfl, hb1⟩
    go_wp2
    go_ret
    exact ⟨by rw [HR.out]; rfl, nx hA hb1⟩
  · have HR : Hid (R = K) := HCT.out
    have HC2 := Lib.hid (HC.out rfl)
    clear HCT HC
    go_enter Tryz.func25, Tryz.ntmps25
    go_wp2_with fail
    refine (HV.out _ hA).mono ?_
    rintro e w1 ⟨rfl, hb1⟩
    have hb01 := nx hA hb1
    obtain ⟨y0, y1, y2⟩ := HX.out.below hb1
    go_wp2_with fail
    refine (HC2.out _ hb01).mono ?_
    rintro e w2 ⟨rfl, hb2⟩
    go_wp2
    go_ret
    exact ⟨by rw [HR.out]; rfl, nx hb01 hb2⟩
end Go.Proofs.YtbeaaodhcipdgaaGreatDoor
end
