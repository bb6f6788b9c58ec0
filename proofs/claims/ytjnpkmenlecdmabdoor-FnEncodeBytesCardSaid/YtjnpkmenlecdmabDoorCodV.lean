/-
  Codes of bytes: quoted lines read: what the program's functions return. No statement is proved here.
-/
import Derived.Test.YtjnpkmenlecdmabDoorCodU
import Derived.Outline
namespace Go.Proofs.YtjnpkmenlecdmabDoor
open Go.RowKit

def cutL (l : List UInt8) : List UInt8 × Bool := if l.getLast? = some 61 then (l.dropLast, true) else (l, false)
theorem uq_cut (l : List UInt8) : uq l = (rq (cutL l).1).map (·, (cutL l).2) := by
  unfold cutL
  by_cases h : l.getLast? = some 61
  · rw [if_pos h]
    have hne : l ≠ [] := fun e => by rw [e] at h; simp at h
    have h2 : l = l.dropLast ++ [61] := by
      have := List.dropLast_concat_getLast hne
      rw [List.getLast?_eq_some_getLast hne] at h
      injection h with h
      rw [h] at this; exact this.symm
    conv => lhs; rw [h2]
    exact uq_soft _ _ (Nat.le_refl _)
  · rw [if_neg h]; exact uq_hard _ _ (Nat.le_refl _) h
theorem cutL_len (l : List UInt8) : (cutL l).1.length ≤ l.length := by unfold cutL; split <;> simp
theorem suffix_eq (r : List UInt8) : Lib.hasSuffix r [61] = decide (r.getLast? = some 61) := by
  unfold Lib.hasSuffix
  rw [Bool.eq_iff_iff, decide_eq_true_iff, List.isSuffixOf_iff_suffix]
  constructor
  · rintro ⟨t, rfl⟩; simp
  · intro h
    refine ⟨r.dropLast, ?_⟩
    have hne : r ≠ [] := fun e => by rw [e] at h; simp at h
    have := List.dropLast_concat_getLast hne
    rw [List.getLast?_eq_some_getLast hne] at h
    injection h with h
    rw [h] at this; exact this
theorem cutSuffix_any (r : List UInt8) (w : World) (hr : r.length ≤ 1073741824) :
    Calls Tryd.prog 54 #[.string (str r), .string ⟨#[61]⟩] w fun e w' => e = .returned (.tuple #[.string (str (cutL r).1), .bool (cutL r).2]) ∧ w' = w := by
  refine (Tryd.strings_CutSuffix (str r) ⟨#[61]⟩ w (by rw [str_size]; omega)).mono ?_
  rintro e w' ⟨rfl, rfl⟩
  refine ⟨?_, rfl⟩
  rw [str_list, show (⟨#[61]⟩ : ByteArray).data.toList = [61] from rfl, suffix_eq]
  unfold cutL Lib.trimSuffix
  rw [suffix_eq]
  by_cases h : r.getLast? = some 61
  · rw [if_pos h, decide_eq_true h]
    simp [str, List.dropLast_eq_take]
  · rw [if_neg h, decide_eq_false h]
    simp [str]
theorem decG_step (g : Bool) (l : List UInt8) (ls : List (List UInt8)) : decG g (l :: ls) = match rq (cutL l).1 with | none => none | some p => (decG (cutL l).2 ls).map fun t => (if g then [] else [10]) ++ p ++ t := by
  rw [decG, uq_cut]
  cases rq (cutL l).1 <;> rfl
theorem rq_len : ∀ (n : Nat) (l : List UInt8), l.length ≤ n → ∀ p, rq l = some p → p.length ≤ l.length
  | _, [], _, p, h => by simp [rq] at h; subst h; simp
  | n + 1, c :: l, hn, p, h => by
    rw [List.length_cons] at hn
    cases h2 : okB c
    · rw [rq_bad _ h2] at h; cases h
    by_cases h61 : c = 61
    · subst h61
      match l, hn, h with
      | [], _, h => rw [rq_end] at h; cases h
      | [x], _, h => rw [rq_short] at h; cases h
      | x :: y :: m, hn, h =>
        cases hx : hexV x with
        | none => rw [rq_nohex _ (.inl hx)] at h; cases h
        | some a =>
          cases hy : hexV y with
          | none => rw [rq_nohex _ (.inr hy)] at h; cases h
          | some b =>
            rw [rq_hex _ hx hy] at h
            obtain ⟨q, hq, rfl⟩ := Option.map_eq_some_iff.1 h
            have := rq_len n m (by simp only [List.length_cons] at hn; omega) q hq
            simp only [List.length_cons]; omega
    · rw [rq_plain _ h61 h2] at h
      obtain ⟨q, hq, rfl⟩ := Option.map_eq_some_iff.1 h
      have := rq_len n l (by omega) q hq
      simp only [List.length_cons]; omega
theorem uq_len (l : List UInt8) : ∀ y, uq l = some y → y.1.length ≤ l.length := by
  intro y h
  rw [uq_cut] at h
  obtain ⟨p, hp, rfl⟩ := Option.map_eq_some_iff.1 h
  have := rq_len _ _ (Nat.le_refl _) p hp
  have := cutL_len l
  show p.length ≤ _
  omega
theorem lim_map_none {o : Option (List UInt8)} {acc : List UInt8} (h : 300 < acc.length) : lim (o.map (acc ++ ·)) = none := by
  cases o with
  | none => rfl
  | some t => exact lim_out (by rw [List.length_append]; omega)
theorem drop_cons (xs : List (List UInt8)) (k : Nat) (h : k < xs.length) : xs.drop k = xs[k] :: xs.drop (k + 1) := List.drop_eq_getElem_cons h
set_option maxRecDepth 100000 in
set_option maxHeartbeats 4000000 in
theorem decodeQuoted_any (a : Option Addr) (n c : Nat) (xs : List (List UInt8)) (w : World) (hr : RdL w a n xs) (hn : n ≤ 1073741824) (hx : ∀ x ∈ xs, x.length ≤ 1073741000) :
    Calls Tryd.prog 24 #[.slice a n c] w (DecRet (decQ xs) w) := by
  have HX := Lib.hid hx
  have HLEN := Lib.hid hr.1
  have HR := Lib.hid hr.2
  clear hx hr
  go_enter Tryd.func24, Tryd.ntmps24
  go_wp2_with fail
  go_loopw [5, 12] (fun g i wr => ∃ (k : Nat) (gb : Bool) (acc : List UInt8), k ≤ n ∧ i = .int .i64 k ∧ g = .bool gb ∧ acc.length ≤ 300 ∧ decG true xs = (decG gb (xs.drop k)).map (acc ++ ·) ∧ Bld w.heap.size w.heap.size acc wr ∧ Below w.heap.size w wr) (fun _ i _ => n - (intOf i).toNat)
  case atStart => exact ⟨0, true, [], by omega, rfl, rfl, by simp, by rw [List.drop_zero]; cases decG true xs <;> simp, bld_fresh w, (Below.refl _ _).alloc (Nat.le_refl _) _⟩
  case round =>
    obtain ⟨k, gb, acc, hk, rfl, rfl, hal, hg, hB, hb⟩ := hrel
    have HG := Lib.hid hg
    clear hg
    by_cases hlt : k < n
    · have hkx : k < xs.length := by rw [HLEN.out]; exact hlt
      obtain ⟨b, off, rfl, hbl, hcell⟩ := HR.out.resolve_left (by omega)
      have c0 : wr.cell? ⟨b, off + k, none⟩ = some (.string (str xs[k])) := by rw [below_at hb hbl]; exact hcell k hkx
      have hzx : xs[k].length ≤ 1073741000 := HX.out _ (List.getElem_mem hkx)
      have HST : Hid (decG gb (xs.drop k) = match rq (cutL xs[k]).1 with | none => none | some p => (decG (cutL xs[k]).2 (xs.drop (k + 1))).map fun t => (if gb then [] else [10]) ++ p ++ t) := by show _ = _; rw [drop_cons xs k hkx, decG_step]
      have HCS := Lib.hid (fun u => cutSuffix_any xs[k] u (by omega))
      have hcl := cutL_len xs[k]
      have HRQ : Hid (∀ u, Calls Tryd.prog 55 #[.string (str (cutL xs[k]).1)] u (DecRet (rq (cutL xs[k]).1) u)) := fun u => by
        have := readQuotedLine_any (str (cutL xs[k]).1) u (by rw [str_size]; omega)
        rw [str_list] at this; exact this
      have HRL := Lib.hid (rq_len _ (cutL xs[k]).1 (Nat.le_refl _))
      generalize (cutL xs[k]).2 = g2 at *
      generalize (cutL xs[k]).1 = cl at *
      generalize str xs[k] = x at *
      clear hcell
      obtain ⟨pre, HPRE⟩ : ∃ pre : List UInt8, Hid (pre = if gb then [] else [10]) := ⟨_, rfl⟩
      have hpl : pre.length ≤ 1 := by rw [HPRE.out]; split <;> simp
      cases hq : rq cl with
      | none =>
        have HN : Hid (decQ xs = none) := by show lim _ = _; rw [HG.out, HST.out, hq]; rfl
        rw [hq] at HRQ
        clear hq
        cases gb
        all_goals
          go_wp2_with fail
          first
            | (refine (writeByte_any _ _ _ 10 _ hB (by omega)).mono ?_
               rintro e w2 ⟨rfl, hB2, hb2⟩
               have c1 := hb2
               go_wp2_with fail)
            | skip
          refine (HCS.out _).mono ?_
          rintro e w3 ⟨rfl, rfl⟩
          go_wp2_with fail
          refine (HRQ.out _).mono ?_
          rintro e w4 ⟨rfl, hb4⟩
          go_wp2
          go_ret2
          exact decRet_none HN.out rfl (by first | exact nx (hb.trans hb2) hb4 | exact nx hb hb4)
      | some p =>
        have hpz := HRL.out p hq
        obtain ⟨acc5, hacc5⟩ : ∃ acc5, acc5 = acc ++ (if gb then [] else [10]) ++ p := ⟨_, rfl⟩
        have HGN : Hid (decG true xs = (decG g2 (xs.drop (k + 1))).map (acc5 ++ ·)) := by
          show _ = _; rw [HG.out, HST.out, hq, hacc5]; dsimp only
          cases decG g2 (xs.drop (k + 1)) <;> simp
        rw [hq] at HRQ
        clear hq HPRE hpl
        cases gb
        · go_wp2_with fail
          refine (writeByte_any _ _ _ 10 _ hB (by omega)).mono ?_
          rintro e w2 ⟨rfl, hB2, hb2⟩
          go_wp2_with fail
          refine (HCS.out _).mono ?_
          rintro e w3 ⟨rfl, rfl⟩
          go_wp2_with fail
          refine (HRQ.out _).mono ?_
          rintro e w4 ⟨rfl, hb4⟩
          have hb14 := nx (hb.trans hb2) hb4
          have hB4 := Bld.keep hB2 hb4
          go_wp2_with fail
          refine (writeString_any _ _ _ (str p) _ hB4 (by rw [str_size]; first | omega | (simp only [List.length_append, List.length_singleton]; omega))).mono ?_
          rintro e w5 ⟨rfl, hB5, hb5⟩
          rw [str_list] at hB5
          have hb15 := hb14.trans hb5
          have HA5 : Hid (acc ++ [10] ++ p = acc5) := by show _ = _; rw [hacc5]; simp
          rw [HA5.out] at hB5
          have hl5 : acc5.length ≤ 1073742000 := by rw [← HA5.out]; simp only [List.length_append, List.length_cons, List.length_nil]; omega
          clear hacc5
          go_wp2_with fail
          refine (bLen_any _ _ _ _ hB5).mono ?_
          rintro e w6 ⟨rfl, rfl⟩
          by_cases h300 : 300 < acc5.length
          · have HN : Hid (decQ xs = none) := by show lim _ = _; rw [HGN.out]; exact lim_map_none h300
            go_wp2
            go_ret2
            exact decRet_none HN.out rfl hb15
          · go_wp2
            go_roundw
            case rel => exact ⟨k + 1, g2, acc5, by omega, by go_num, rfl, by omega, HGN.out, hB5, hb15⟩
            case measure => simp [intOf]; omega
        · go_wp2_with fail
          refine (HCS.out _).mono ?_
          rintro e w3 ⟨rfl, rfl⟩
          go_wp2_with fail
          refine (HRQ.out _).mono ?_
          rintro e w4 ⟨rfl, hb4⟩
          have hb14 := nx hb hb4
          have hB4 := Bld.keep hB hb4
          go_wp2_with fail
          refine (writeString_any _ _ _ (str p) _ hB4 (by rw [str_size]; first | omega | (simp only [List.length_append, List.length_singleton]; omega))).mono ?_
          rintro e w5 ⟨rfl, hB5, hb5⟩
          rw [str_list] at hB5
          have hb15 := hb14.trans hb5
          have HA5 : Hid (acc ++ p = acc5) := by show _ = _; rw [hacc5]; simp
          rw [HA5.out] at hB5
          have hl5 : acc5.length ≤ 1073742000 := by rw [← HA5.out]; simp only [List.length_append]; omega
          clear hacc5
          go_wp2_with fail
          refine (bLen_any _ _ _ _ hB5).mono ?_
          rintro e w6 ⟨rfl, rfl⟩
          by_cases h300 : 300 < acc5.length
          · have HN : Hid (decQ xs = none) := by show lim _ = _; rw [HGN.out]; exact lim_map_none h300
            go_wp2
            go_ret2
            exact decRet_none HN.out rfl hb15
          · go_wp2
            go_roundw
            case rel => exact ⟨k + 1, g2, acc5, by omega, by go_num, rfl, by omega, HGN.out, hB5, hb15⟩
            case measure => simp [intOf]; omega
    · cases gb
      · have HN : Hid (decQ xs = some acc) := by show lim _ = _; rw [HG.out, List.drop_eq_nil_of_le (by rw [HLEN.out]; omega)]; show lim (some (acc ++ [])) = _; rw [List.append_nil]; exact lim_in hal
        go_wp2_with fail
        refine (bString_any _ _ _ _ hB).mono ?_
        rintro e w5 ⟨rfl, hb5⟩
        go_wp2
        go_ret2
        exact decRet_some HN.out rfl (hb.trans hb5)
      · have HN : Hid (decQ xs = none) := by show lim _ = _; rw [HG.out, List.drop_eq_nil_of_le (by rw [HLEN.out]; omega)]; rfl
        go_wp2
        go_ret2
        exact decRet_none HN.out rfl hb
theorem decG_end (g : Bool) : decG g [] = if g then none else some [] := rfl
set_option maxRecDepth 100000 in
set_option maxHeartbeats 4000000 in
theorem decodeQuotedS_any (a : Option Addr) (n c : Nat) (xs : List (List UInt8)) (w : World) (hr : RdL w a n xs) (hn : n ≤ 1073741824) (hx : ∀ x ∈ xs, x.length ≤ 1073741000) :
    Calls Tryd.prog 26 #[.slice a n c] w (DecRet (decQ xs) w) := by
  have HX := Lib.hid hx
  have HLEN := Lib.hid hr.1
  have HR := Lib.hid hr.2
  clear hx hr
  go_enter Tryd.func26, Tryd.ntmps26
  go_wp2_with fail
  go_loopw [4, 5] (fun o i wr => ∃ (k : Nat) (acc : List UInt8), k ≤ n ∧ i = .int .i64 k ∧ o = .string (str acc) ∧ acc.length ≤ 300 ∧ ((k < n ∧ decG true xs = (decG true (xs.drop k)).map (acc ++ ·)) ∨ (k = n ∧ 0 < n ∧ decG true xs = some acc) ∨ (n = 0 ∧ acc = [])) ∧ Below w.heap.size w wr) (fun _ i _ => n - (intOf i).toNat)
  case atStart =>
    refine ⟨0, [], by omega, rfl, rfl, by simp, ?_, Below.refl _ _⟩
    by_cases h0 : n = 0
    · exact .inr (.inr ⟨h0, rfl⟩)
    · exact .inl ⟨by omega, by rw [List.drop_zero]; cases decG true xs <;> simp⟩
  case round =>
    obtain ⟨k, acc, hk, rfl, rfl, hal, hst, hb⟩ := hrel
    have haz := str_size acc
    by_cases hlt : k < n
    · obtain ⟨_, hg⟩ : k < n ∧ decG true xs = (decG true (xs.drop k)).map (acc ++ ·) := by
        rcases hst with h | h | h
        · exact h
        · omega
        · omega
      have HG := Lib.hid hg
      clear hg hst
      have hkx : k < xs.length := by rw [HLEN.out]; exact hlt
      obtain ⟨b, off, rfl, hbl, hcell⟩ := HR.out.resolve_left (by omega)
      have c0 : wr.cell? ⟨b, off + k, none⟩ = some (.string (str xs[k])) := by rw [below_at hb hbl]; exact hcell k hkx
      have hzx : xs[k].length ≤ 1073741000 := HX.out _ (List.getElem_mem hkx)
      have HDC := Lib.hid (drop_cons xs k hkx)
      have HUQ : Hid (∀ u, Calls Tryd.prog 58 #[.string (str xs[k])] u (UqRet (uq xs[k]) u)) := fun u => by
        have := l5Unquote_any (str xs[k]) u (by rw [str_size]; omega)
        rw [str_list] at this; exact this
      have HUL := Lib.hid (uq_len xs[k])
      generalize hxk : xs[k] = x at *
      clear hcell hxk
      cases hu : uq x with
      | none =>
        have HN : Hid (decQ xs = none) := by show lim _ = _; rw [HG.out, HDC.out, decG_none _ hu]; rfl
        rw [hu] at HUQ
        clear hu
        go_wp2_with fail
        refine (HUQ.out _).mono ?_
        rintro e w2 ⟨rfl, hb2⟩
        go_wp2
        go_ret2
        exact decRet_none HN.out rfl (nx hb hb2)
      | some y =>
        obtain ⟨r, g⟩ := y
        have hrl := HUL.out _ hu
        have hrz := str_size r
        have HDS : Hid (decG true (xs.drop k) = (decG g (xs.drop (k + 1))).map (r ++ ·)) := by show _ = _; rw [HDC.out, decG_some _ hu]; cases decG g (xs.drop (k + 1)) <;> simp
        rw [hu] at HUQ
        have hap : (str acc ++ str r).size = acc.length + r.length := by rw [ByteArray.size_append, haz, hrz]
        have HAR : Hid (str acc ++ str r = str (acc ++ r)) := str_app acc r
        clear hu
        by_cases hlast : k + 1 = n
        · have el : (((k : Int) + 1) == (n : Int)) = true := by rw [beq_iff_eq]; omega
          have HNIL : Hid (xs.drop (k + 1) = []) := List.drop_eq_nil_of_le (by rw [HLEN.out]; omega)
          cases g
          · have HF : Hid (decG true xs = some (acc ++ r)) := by show _ = _; rw [HG.out, HDS.out, HNIL.out]; simp [decG]
            by_cases h300 : 300 < acc.length + r.length
            · have HN : Hid (decQ xs = none) := by show lim _ = _; rw [HF.out]; exact lim_out (by rw [List.length_append]; exact h300)
              clear hlast
              go_wp2_with fail
              refine (HUQ.out _).mono ?_
              rintro e w2 ⟨rfl, hb2⟩
              go_wp2
              go_ret2
              exact decRet_none HN.out rfl (nx hb hb2)
            · have HNN : Hid (k + 1 = n) := hlast
              clear hlast
              go_wp2_with fail
              refine (HUQ.out _).mono ?_
              rintro e w2 ⟨rfl, hb2⟩
              go_wp2
              go_roundw
              case rel => exact ⟨k + 1, acc ++ r, by omega, by go_num, by rw [HAR.out], by rw [List.length_append]; omega, .inr (.inl ⟨HNN.out, by omega, HF.out⟩), nx hb hb2⟩
              case measure => simp [intOf]; omega
          · have HN : Hid (decQ xs = none) := by show lim _ = _; rw [HG.out, HDS.out, HNIL.out]; rfl
            clear hlast
            go_wp2_with fail
            refine (HUQ.out _).mono ?_
            rintro e w2 ⟨rfl, hb2⟩
            go_wp2
            go_ret2
            exact decRet_none HN.out rfl (nx hb hb2)
        · have el : (((k : Int) + 1) == (n : Int)) = false := by rw [beq_eq_false_iff_ne]; omega
          have hk1 : k + 1 < n := by omega
          have HNE : Hid (xs.drop (k + 1) ≠ []) := by show _ ≠ _; intro e; have := congrArg List.length e; rw [List.length_drop, HLEN.out] at this; simp at this; omega
          clear hlast
          cases g
          · have HF : Hid (decG true xs = (decG true (xs.drop (k + 1))).map ((acc ++ r ++ [10]) ++ ·)) := by
              show _ = _; rw [HG.out, HDS.out, decG_false HNE.out]; cases decG true (xs.drop (k + 1)) <;> simp
            have hap2 : (str acc ++ str r ++ (ByteArray.mk #[10])).size = acc.length + r.length + 1 := by rw [ByteArray.size_append, hap]; rfl
            have HAR2 : Hid (str acc ++ str r ++ (ByteArray.mk #[10]) = str (acc ++ r ++ [10])) := by show _ = _; rw [str_app, show (ByteArray.mk #[10]) = str [10] from rfl, str_app]
            by_cases h300 : 300 < acc.length + r.length + 1
            · have HN : Hid (decQ xs = none) := by show lim _ = _; rw [HF.out]; exact lim_map_none (by simp only [List.length_append, List.length_singleton]; omega)
              go_wp2_with fail
              refine (HUQ.out _).mono ?_
              rintro e w2 ⟨rfl, hb2⟩
              go_wp2
              go_ret2
              exact decRet_none HN.out rfl (nx hb hb2)
            · go_wp2_with fail
              refine (HUQ.out _).mono ?_
              rintro e w2 ⟨rfl, hb2⟩
              go_wp2
              go_roundw
              case rel => exact ⟨k + 1, acc ++ r ++ [10], by omega, by go_num, by rw [HAR2.out], by simp only [List.length_append, List.length_singleton]; omega, .inl ⟨hk1, HF.out⟩, nx hb hb2⟩
              case measure => simp [intOf]; omega
          · have HF : Hid (decG true xs = (decG true (xs.drop (k + 1))).map ((acc ++ r) ++ ·)) := by
              show _ = _; rw [HG.out, HDS.out]; cases decG true (xs.drop (k + 1)) <;> simp
            by_cases h300 : 300 < acc.length + r.length
            · have HN : Hid (decQ xs = none) := by show lim _ = _; rw [HF.out]; exact lim_map_none (by rw [List.length_append]; omega)
              go_wp2_with fail
              refine (HUQ.out _).mono ?_
              rintro e w2 ⟨rfl, hb2⟩
              go_wp2
              go_ret2
              exact decRet_none HN.out rfl (nx hb hb2)
            · go_wp2_with fail
              refine (HUQ.out _).mono ?_
              rintro e w2 ⟨rfl, hb2⟩
              go_wp2
              go_roundw
              case rel => exact ⟨k + 1, acc ++ r, by omega, by go_num, by rw [HAR.out], by rw [List.length_append]; omega, .inl ⟨hk1, HF.out⟩, nx hb hb2⟩
              case measure => simp [intOf]; omega
    · by_cases h0 : 0 < n
      · have HN : Hid (decQ xs = some acc) := by
          rcases hst with ⟨h, _⟩ | ⟨_, _, h⟩ | ⟨h, _⟩
          · omega
          · show lim _ = _; rw [h]; exact lim_in hal
          · omega
        clear hst
        go_wp2
        go_ret2
        exact decRet_some HN.out rfl hb
      · have h00 : n = 0 := by omega
        have HN : Hid (decQ xs = none) := by
          have : xs = [] := List.length_eq_zero_iff.1 (by rw [HLEN.out]; exact h00)
          show lim _ = _; rw [this]; rfl
        have HAC : Hid (str acc = str []) := by
          rcases hst with ⟨h, _⟩ | ⟨_, h, _⟩ | ⟨_, h⟩
          · omega
          · omega
          · show _ = _; rw [h]
        clear hst h00
        go_wp2
        go_ret2
        exact decRet_none HN.out HAC.out hb
end Go.Proofs.YtjnpkmenlecdmabDoor
