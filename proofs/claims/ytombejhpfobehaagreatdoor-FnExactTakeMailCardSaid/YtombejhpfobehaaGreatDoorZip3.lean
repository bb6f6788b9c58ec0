/-
  Several texts in one. No statement is proved here.
-/
import Derived.Test.YtombejhpfobehaaGreatDoorZip1
import Derived.Test.YtombejhpfobehaaGreatDoorZip2
import Derived.Deep.RegionLaw
import Derived.Deep.Cut
import Derived.Deep.QuietTactic
import Derived.BigQuiet
section
namespace Go.Proofs.YtombejhpfobehaaGreatDoor
open Go.RowKit

theorem flat_next {ys : List MlA} {R : List Value} {k : Nat} {x : MlA} (hC : ∀ a, (mlC a).length = 3) (hl : ys.length = k) (hR : 3 ≤ R.length) :
    ∃ R', (((ys.flatMap mlC ++ R).set (k * 3) (.string (str x.m.frm))).set (k * 3 + 1) (.slice x.a1 x.m.to.length x.c1)).set (k * 3 + 2) (.slice x.a2 x.m.lines.length x.c2) = (ys ++ [x]).flatMap mlC ++ R' := by
  have hf : (ys.flatMap mlC).length = k * 3 := by rw [flat_len mlC 3 hC, hl]
  match R, hR with
  | r0 :: r1 :: r2 :: R', _ =>
    refine ⟨R', ?_⟩
    rw [List.set_append_right _ _ (by omega), List.set_append_right _ _ (by omega), List.set_append_right _ _ (by omega), hf, Nat.sub_self, show k * 3 + 1 - k * 3 = 1 by omega, show k * 3 + 2 - k * 3 = 2 by omega, List.flatMap_append]
    simp [mlC]
theorem flat_nextB {ys : List BxA} {R : List Value} {k : Nat} {x : BxA} (hC : ∀ a, (bxC a).length = 2) (hl : ys.length = k) (hR : 2 ≤ R.length) :
    ∃ R', ((ys.flatMap bxC ++ R).set (k * 2) (.string (str x.path))).set (k * 2 + 1) (.slice x.a x.xs.length x.c) = (ys ++ [x]).flatMap bxC ++ R' := by
  have hf : (ys.flatMap bxC).length = k * 2 := by rw [flat_len bxC 2 hC, hl]
  match R, hR with
  | r0 :: r1 :: R', _ =>
    refine ⟨R', ?_⟩
    rw [List.set_append_right _ _ (by omega), List.set_append_right _ _ (by omega), hf, Nat.sub_self, show k * 2 + 1 - k * 2 = 1 by omega, List.flatMap_append]
    simp [bxC]
/-- A row of mails of the call's own, of full capacity. -/
def MlsN (ms : List Ml) (n : Nat) (w : World) (e : Ending) (w' : World) : Prop := ∃ (a : Option Addr) (ys : List MlA), e = .returned (.slice a n n) ∧ ys.map (·.m) = ms ∧ ys.length = n ∧ OwnMs w.heap.size (.slice a n n) ys w' ∧ (a = none → n = 0) ∧ Below w.heap.size w w'
set_option maxRecDepth 100000 in
set_option maxHeartbeats 4000000 in
theorem toMailS_own (a : Option Addr) (n c : Nat) (xs : List MlA) (w : World) (hx : xs.length = n) (h1 : RdMs 1048576 w a xs) (hn : n ≤ 1048576) :
    Calls Tryz.prog 79 #[.slice a n c] w (MlsN (xs.map (·.m)) n w) := by
  obtain ⟨i0, hi, hz0, hz1, hz2⟩ := info_parts mlInfo
  have HLEN := Lib.hid hx
  have HR := Lib.hid h1
  clear hx h1
  go_enter Tryz.func79, Tryz.ntmps79
  go_wp2_with (at_make; refine wpList_make_full _ rfl _ _ 58 rfl w.heap.size 33 i0 (.agg #[.string ⟨#[]⟩, .slice none 0 0, .slice none 0 0]) 3 Tryz.underlying58 hi hz0 hz1 _ _ (n : Int) (n : Int) n rfl rfl rfl rfl ?c1 ?c2 ?c3 ?_)
  case c1 => rw [hz2]; omega
  case c2 => unfold maxLen; omega
  case c3 => exact Nat.le_refl _
  intro w1 hown hgrow
  have hb1 : Below w.heap.size w w1 := (Below.refl _ _).grown hgrow (Nat.le_refl _) (fun k hk => by cases hk)
  have hsz1 := (hown.lt w.heap.size rfl).2
  go_wp2_with fail
  go_loopw [4] (fun i wr => ∃ (k : Nat) (ys : List MlA) (R : List Value), k ≤ n ∧ i = .int .i64 k ∧ Below w.heap.size w wr ∧ wr.ownsRow w.heap.size 33 3 (.slice (some ⟨w.heap.size, 0, none⟩) n n) n (ys.flatMap mlC ++ R) ∧ w.heap.size < wr.heap.size ∧ ys.length = k ∧ ys.map (·.m) = (xs.take k).map (·.m) ∧ (∀ y ∈ ys, OwnM (w.heap.size + 1) wr y) ∧ ys.Pairwise ApM) (fun i _ => n - (intOf i).toNat)
  case atStart => exact ⟨0, [], _, Nat.zero_le _, rfl, hb1, hown, hsz1, rfl, by simp, (fun y hy => by cases hy), List.Pairwise.nil⟩
  case round =>
    obtain ⟨k, ys, R, hk, rfl, hb, hO, hzr, hyl, hym, hyo, hyp⟩ := hrel
    have HYL := Lib.hid hyl
    have HYM := Lib.hid hym
    have HYO := Lib.hid hyo
    have HYP := Lib.hid hyp
    have HRL : Hid (R.length = (n - k) * 3) := by
      have h := hO.1
      rw [List.length_append, flat_len mlC 3 mlC_len, hyl] at h
      show _ = _
      omega
    clear hyl hym hyo hyp
    by_cases hlt : k < n
    · have dk : decide ((k : Int) < n) = true := decide_eq_true (by omega)
      have hkx : k < xs.length := by rw [HLEN.out]; exact hlt
      obtain ⟨b, off, rfl, hbl, q0, q1, q2, q3⟩ := (HR.out.below hb).at hkx
      have HC : Hid (Calls Tryz.prog 23 #[.agg #[.string (str xs[k].m.frm), .slice xs[k].a1 xs[k].m.to.length xs[k].c1, .slice xs[k].a2 xs[k].m.lines.length xs[k].c2]] wr (MalRet xs[k].m wr)) := toMail_any xs[k] wr q3
      have hlL : (ys.flatMap mlC ++ R).length = n * 3 := hO.1
      have HT := Lib.hid (take_mls hkx)
      clear q3
      obtain ⟨q, hq⟩ : ∃ q, q = xs[k].m := ⟨_, rfl⟩
      have HQ := Lib.hid hq
      rw [← hq] at HC q0 q1 q2
      clear hq
      generalize xs[k].a1 = aa1 at *
      generalize xs[k].a2 = aa2 at *
      generalize xs[k].c1 = cc1 at *
      generalize xs[k].c2 = cc2 at *
      go_wp2_with fail
      refine HC.out.mono ?_
      rintro e w2 ⟨x, hxq, rfl, hox, hb2⟩
      have HOX := Lib.hid hox
      have HXQ := Lib.hid hxq
      have hO2 := row_keepM hO hb2
      have hb02 := nx hb hb2
      have hz2' : w.heap.size < w2.heap.size := Nat.lt_of_lt_of_le hzr hb2.size
      obtain ⟨v0, hv0⟩ := row_cellM hO2 (k * 3) (by omega)
      obtain ⟨v1, hv1⟩ := row_cellM hO2 (k * 3 + 1) (by omega)
      obtain ⟨v2, hv2⟩ := row_cellM hO2 (k * 3 + 2) (by omega)
      have f0 : w2.frozen? ⟨w.heap.size, k * 3, none⟩ = false := hO2.frozenAt _
      have f1 : w2.frozen? ⟨w.heap.size, k * 3 + 1, none⟩ = false := hO2.frozenAt _
      have f2 : w2.frozen? ⟨w.heap.size, k * 3 + 2, none⟩ = false := hO2.frozenAt _
      have hmV : mlV x = .agg #[.string (str x.m.frm), .slice x.a1 x.m.to.length x.c1, .slice x.a2 x.m.lines.length x.c2] := rfl
      rw [hmV]
      have HST := Lib.hid (((hO2.stored (k * 3) (.string (str x.m.frm))).1.stored (k * 3 + 1) (.slice x.a1 x.m.to.length x.c1)).1.stored (k * 3 + 2) (.slice x.a2 x.m.lines.length x.c2)).1
      have hsz2 : wr.heap.size ≤ w2.heap.size := hb2.size
      have HNX : Hid (∃ R', (((w2.setCell ⟨w.heap.size, k * 3, none⟩ (.string (str x.m.frm))).setCell ⟨w.heap.size, k * 3 + 1, none⟩ (.slice x.a1 x.m.to.length x.c1)).setCell ⟨w.heap.size, k * 3 + 2, none⟩ (.slice x.a2 x.m.lines.length x.c2)).ownsRow w.heap.size 33 3 (.slice (some ⟨w.heap.size, 0, none⟩) n n) n ((ys ++ [x]).flatMap mlC ++ R')) := by
        obtain ⟨R', hR'⟩ := flat_next mlC_len HYL.out (by rw [HRL.out]; omega) (x := x) (R := R)
        refine ⟨R', ?_⟩
        have h := HST.out
        rw [hR'] at h; exact h
      have HNY : Hid ((∀ y ∈ ys ++ [x], OwnM (w.heap.size + 1) (((w2.setCell ⟨w.heap.size, k * 3, none⟩ (.string (str x.m.frm))).setCell ⟨w.heap.size, k * 3 + 1, none⟩ (.slice x.a1 x.m.to.length x.c1)).setCell ⟨w.heap.size, k * 3 + 2, none⟩ (.slice x.a2 x.m.lines.length x.c2)) y) ∧ (ys ++ [x]).Pairwise ApM) := by
        refine ⟨fun y hy => ?_, List.pairwise_append.2 ⟨HYP.out, List.pairwise_singleton _ _, fun z hz u hu => ?_⟩⟩
        · rcases List.mem_append.1 hy with hy | hy
          · exact ((((HYO.out y hy).keep hb2).low (Nat.lt_succ_self _) _).low (Nat.lt_succ_self _) _).low (Nat.lt_succ_self _) _
          · rw [List.mem_singleton.1 hy]
            exact (((OwnM.base HOX.out (by omega)).low (Nat.lt_succ_self _) _).low (Nat.lt_succ_self _) _).low (Nat.lt_succ_self _) _
        · rw [List.mem_singleton.1 hu]; exact apM_new (HYO.out z hz) HOX.out (Nat.le_refl _)
      have HNL : Hid ((ys ++ [x]).length = k + 1) := by show _ = _; rw [List.length_append, HYL.out]; rfl
      have HNM : Hid ((ys ++ [x]).map (·.m) = (xs.take (k + 1)).map (·.m)) := by show _ = _; rw [HT.out, List.map_append, HYM.out]; show _ ++ [x.m] = _; rw [HXQ.out, HQ.out]
      obtain ⟨R', hR'⟩ := HNX.out
      have HR' := Lib.hid hR'
      obtain ⟨ZS, hZS⟩ : ∃ Z, Z = ys ++ [x] := ⟨_, rfl⟩
      rw [← hZS] at HNY HNL HNM HR'
      clear hZS hR' HNX HST
      clear hlL hO hO2 hox hxq hmV
      generalize str x.m.frm = xs0 at *
      generalize x.m.to.length = xn at *
      generalize x.m.lines.length = xk at *
      generalize x.a1 = xa at *
      generalize x.a2 = xb at *
      generalize x.c1 = xc at *
      generalize x.c2 = xd at *
      go_wp2
      go_roundw
      case rel => exact ⟨k + 1, ZS, R', by omega, by go_num, (((hb02.setCell (by simp) _).setCell (by simp) _).setCell (by simp) _), HR'.out, by simpa using hz2', HNL.out, HNM.out, HNY.out.1, HNY.out.2⟩
      case measure => simp [intOf]; omega
    · have dk : decide ((k : Int) < n) = false := decide_eq_false (by omega)
      have HYS : Hid (OwnMs w.heap.size (.slice (some ⟨w.heap.size, 0, none⟩) n n) ys wr ∧ ys.map (·.m) = xs.map (·.m) ∧ ys.length = n) := by
        have hkn : k = n := by omega
        have hR0 : R = [] := List.eq_nil_of_length_eq_zero (by rw [HRL.out, hkn]; omega)
        refine ⟨⟨?_, fun y hy => (HYO.out y hy).base (Nat.le_succ _), HYP.out⟩, by rw [HYM.out, List.take_of_length_le (by have := HLEN.out; omega)], by rw [HYL.out, hkn]⟩
        unfold OwnR
        rw [hR0, List.append_nil] at hO
        rw [HYL.out, hkn]; exact hO
      clear hO
      go_wp2
      go_ret
      exact ⟨_, ys, rfl, HYS.out.2.1, HYS.out.2.2, HYS.out.1, (fun h => by cases h), hb⟩
/-- A box whose row of mails is the call's own. -/
def BoxT (b : Bx) (w : World) (e : Ending) (w' : World) : Prop := ∃ x : BxA, x.b = b ∧ e = .returned (.agg #[.string (str x.path), .slice x.a x.xs.length x.c]) ∧ OwnMs w.heap.size (.slice x.a x.xs.length x.c) x.xs w' ∧ Below w.heap.size w w'
set_option maxRecDepth 100000 in
set_option maxHeartbeats 4000000 in
theorem toBox_own (x : BxA) (w : World) (h : RdBx 1048576 w x) :
    Calls Tryz.prog 47 #[.agg #[.string (str x.path), .slice x.a x.xs.length x.c]] w (BoxT x.b w) := by
  have hn : x.xs.length ≤ 1048576 := h.2.2.1
  have HD : Hid (∀ (a' : Option Addr) (ys : List MlA) (w' : World), ys.map (·.m) = x.xs.map (·.m) → ys.length = x.xs.length → OwnMs w.heap.size (.slice a' x.xs.length x.xs.length) ys w' → (a' = none → x.xs.length = 0) → Below w.heap.size w w' → BoxT x.b w (.returned (.agg #[.string (str x.path), .slice a' x.xs.length x.xs.length])) w') :=
    fun a' ys w' h1 h2 h3 _ h5 => ⟨⟨x.path, ys, a', x.xs.length⟩, by unfold BxA.b; dsimp only; rw [h1], by dsimp only; rw [h2], by dsimp only; rw [h2]; exact h3, h5⟩
  have HM : Hid (∀ u, Below w.heap.size w u → Calls Tryz.prog 79 #[.slice x.a x.xs.length x.c] u (MlsN (x.xs.map (·.m)) x.xs.length u)) := fun u hb => toMailS_own x.a x.xs.length x.c x.xs u rfl (h.1.below hb) hn
  clear h
  generalize x.b = bb at *
  generalize x.xs.map (·.m) = ms at *
  generalize x.xs.length = n1 at *
  generalize str x.path = s1 at *
  generalize x.a = a1 at *
  generalize x.c = c1 at *
  have hbP : Below w.heap.size w (w.alloc (.cells #[.string s1, .slice a1 n1 c1] 75)) := (Below.refl _ _).alloc (Nat.le_refl _) _
  have hz1 : (w.alloc (.cells #[.string s1, .slice a1 n1 c1] 75)).heap.size = w.heap.size + 1 := by simp
  have hbZ : Below (w.alloc (.cells #[.string s1, .slice a1 n1 c1] 75)).heap.size (w.alloc (.cells #[.string s1, .slice a1 n1 c1] 75)) ((w.alloc (.cells #[.string s1, .slice a1 n1 c1] 75)).alloc (.cells #[.string ⟨#[]⟩, .slice none 0 0] 78)) := (Below.refl _ _).alloc (Nat.le_refl _) _
  have hz2 : ((w.alloc (.cells #[.string s1, .slice a1 n1 c1] 75)).alloc (.cells #[.string ⟨#[]⟩, .slice none 0 0] 78)).heap.size = w.heap.size + 1 + 1 := by simp
  have hbO : Below ((w.alloc (.cells #[.string s1, .slice a1 n1 c1] 75)).alloc (.cells #[.string ⟨#[]⟩, .slice none 0 0] 78)).heap.size ((w.alloc (.cells #[.string s1, .slice a1 n1 c1] 75)).alloc (.cells #[.string ⟨#[]⟩, .slice none 0 0] 78)) (((w.alloc (.cells #[.string s1, .slice a1 n1 c1] 75)).alloc (.cells #[.string ⟨#[]⟩, .slice none 0 0] 78)).alloc (.cells #[.string s1, .slice none 0 0] 78)) := (Below.refl _ _).alloc (Nat.le_refl _) _
  have HZ : Hid (MF2 (((w.alloc (.cells #[.string s1, .slice a1 n1 c1] 75)).alloc (.cells #[.string ⟨#[]⟩, .slice none 0 0] 78)).alloc (.cells #[.string s1, .slice none 0 0] 78)) (w.heap.size + 1) (.string ⟨#[]⟩) (.slice none 0 0)) := by
    have := (MF2.new (w.alloc (.cells #[.string s1, .slice a1 n1 c1] 75)) (.string ⟨#[]⟩) (.slice none 0 0) 78).below hbO
    rw [hz1] at this; exact this
  have HO : Hid (MF2 (((w.alloc (.cells #[.string s1, .slice a1 n1 c1] 75)).alloc (.cells #[.string ⟨#[]⟩, .slice none 0 0] 78)).alloc (.cells #[.string s1, .slice none 0 0] 78)) (w.heap.size + 1 + 1) (.string s1) (.slice none 0 0)) := by
    have := MF2.new ((w.alloc (.cells #[.string s1, .slice a1 n1 c1] 75)).alloc (.cells #[.string ⟨#[]⟩, .slice none 0 0] 78)) (.string s1) (.slice none 0 0) 78
    rw [hz2] at this; exact this
  have hb0 := nx hbP (nx hbZ hbO)
  have hsz : w.heap.size + 1 + 1 < (((w.alloc (.cells #[.string s1, .slice a1 n1 c1] 75)).alloc (.cells #[.string ⟨#[]⟩, .slice none 0 0] 78)).alloc (.cells #[.string s1, .slice none 0 0] 78)).heap.size := by simp
  clear hbP hbZ hbO hz1 hz2
  go_enter Tryz.func47, Tryz.ntmps47
  go_wp2_with fail
  generalize (((w.alloc (.cells #[.string s1, .slice a1 n1 c1] 75)).alloc (.cells #[.string ⟨#[]⟩, .slice none 0 0] 78)).alloc (.cells #[.string s1, .slice none 0 0] 78)) = W0 at *
  refine (HM.out W0 hb0).mono ?_
  rintro e w1 ⟨a2, ys, rfl, hy1, hy2, hy3, hy4, hb1⟩
  have HY1 := Lib.hid hy1
  have HY2 := Lib.hid hy2
  have HY3 := Lib.hid hy3
  have HY4 := Lib.hid hy4
  have HZ1 := Lib.hid (HZ.out.below hb1)
  have HO1 := Lib.hid (HO.out.below hb1)
  have hb01 := nx hb0 hb1
  clear hy1 hy2 hy3 hy4 hb1
  obtain ⟨⟨o0, o1⟩, of⟩ := HO1.out
  obtain ⟨⟨q0, q1⟩, qf⟩ := HZ1.out
  go_wp2
  refine bodyPost_ret (v := .agg #[.string s1, .slice a2 n1 n1]) (by simp [results, Tryz.results47, go_sem, q0, q1]) rfl ?_
  exact HD.out a2 ys _ HY1.out HY2.out ((((HY3.out.off (g := w.heap.size + 1 + 1) (i := 1) (by omega) _).off (g := w.heap.size + 1) (i := 0) (by omega) _).off (g := w.heap.size + 1) (i := 1) (by omega) _).base (by omega)) HY4.out (((hb01.setCell (by show w.heap.size ≤ w.heap.size + 1 + 1; omega) _).setCell (by show w.heap.size ≤ w.heap.size + 1; omega) _).setCell (by show w.heap.size ≤ w.heap.size + 1; omega) _)
/-- A row of boxes of the call's own, of full capacity. -/
def BxsN (bs : List Bx) (n : Nat) (w : World) (e : Ending) (w' : World) : Prop := ∃ (a : Option Addr) (ys : List BxA), e = .returned (.slice a n n) ∧ ys.map BxA.b = bs ∧ ys.length = n ∧ OwnBs w.heap.size (.slice a n n) ys w' ∧ (a = none → n = 0) ∧ Below w.heap.size w w'
set_option maxRecDepth 100000 in
set_option maxHeartbeats 4000000 in
theorem toBoxS_own (a : Option Addr) (n c : Nat) (xs : List BxA) (w : World) (hx : xs.length = n) (h1 : RdBs 1048576 w a xs) (hn : n ≤ 1048576) :
    Calls Tryz.prog 11 #[.slice a n c] w (BxsN (xs.map BxA.b) n w) := by
  obtain ⟨i0, hi, hz0, hz1, hz2⟩ := info_parts bxInfo
  have HLEN := Lib.hid hx
  have HR := Lib.hid h1
  clear hx h1
  go_enter Tryz.func11, Tryz.ntmps11
  go_wp2_with (at_make; refine wpList_make_full _ rfl _ _ 24 rfl w.heap.size 78 i0 (.agg #[.string ⟨#[]⟩, .slice none 0 0]) 2 Tryz.underlying24 hi hz0 hz1 _ _ (n : Int) (n : Int) n rfl rfl rfl rfl ?c1 ?c2 ?c3 ?_)
  case c1 => rw [hz2]; omega
  case c2 => unfold maxLen; omega
  case c3 => exact Nat.le_refl _
  intro w1 hown hgrow
  have hb1 : Below w.heap.size w w1 := (Below.refl _ _).grown hgrow (Nat.le_refl _) (fun k hk => by cases hk)
  have hsz1 := (hown.lt w.heap.size rfl).2
  go_wp2_with fail
  go_loopw [4] (fun i wr => ∃ (k : Nat) (ys : List BxA) (R : List Value), k ≤ n ∧ i = .int .i64 k ∧ Below w.heap.size w wr ∧ wr.ownsRow w.heap.size 78 2 (.slice (some ⟨w.heap.size, 0, none⟩) n n) n (ys.flatMap bxC ++ R) ∧ w.heap.size < wr.heap.size ∧ ys.length = k ∧ ys.map BxA.b = (xs.take k).map BxA.b ∧ (∀ y ∈ ys, OwnMs (w.heap.size + 1) (.slice y.a y.xs.length y.c) y.xs wr) ∧ ys.Pairwise ApB) (fun i _ => n - (intOf i).toNat)
  case atStart => exact ⟨0, [], _, Nat.zero_le _, rfl, hb1, hown, hsz1, rfl, by simp, (fun y hy => by cases hy), List.Pairwise.nil⟩
  case round =>
    obtain ⟨k, ys, R, hk, rfl, hb, hO, hzr, hyl, hym, hyo, hyp⟩ := hrel
    have HYL := Lib.hid hyl
    have HYM := Lib.hid hym
    have HYO := Lib.hid hyo
    have HYP := Lib.hid hyp
    have HRL : Hid (R.length = (n - k) * 2) := by
      have h := hO.1
      rw [List.length_append, flat_len bxC 2 bxC_len, hyl] at h
      show _ = _
      omega
    clear hyl hym hyo hyp
    by_cases hlt : k < n
    · have dk : decide ((k : Int) < n) = true := decide_eq_true (by omega)
      have hkx : k < xs.length := by rw [HLEN.out]; exact hlt
      obtain ⟨b, off, rfl, hbl, q0, q1, q3⟩ := (HR.out.below hb).at hkx
      have HC : Hid (Calls Tryz.prog 47 #[.agg #[.string (str xs[k].path), .slice xs[k].a xs[k].xs.length xs[k].c]] wr (BoxT xs[k].b wr)) := toBox_own xs[k] wr q3
      have hlL : (ys.flatMap bxC ++ R).length = n * 2 := hO.1
      have HT := Lib.hid (take_bxs hkx)
      clear q3
      obtain ⟨q, hq⟩ : ∃ q, q = xs[k].b := ⟨_, rfl⟩
      have HQ := Lib.hid hq
      rw [← hq] at HC
      clear hq
      generalize str xs[k].path = ss1 at *
      generalize xs[k].a = aa1 at *
      generalize xs[k].xs.length = nn1 at *
      generalize xs[k].c = cc1 at *
      go_wp2_with fail
      refine HC.out.mono ?_
      rintro e w2 ⟨x, hxq, rfl, hox, hb2⟩
      have HOX := Lib.hid hox
      have HXQ := Lib.hid hxq
      have hO2 := row_keepM hO hb2
      have hb02 := nx hb hb2
      have hz2' : w.heap.size < w2.heap.size := Nat.lt_of_lt_of_le hzr hb2.size
      obtain ⟨v0, hv0⟩ := row_cellM hO2 (k * 2) (by omega)
      obtain ⟨v1, hv1⟩ := row_cellM hO2 (k * 2 + 1) (by omega)
      have f0 : w2.frozen? ⟨w.heap.size, k * 2, none⟩ = false := hO2.frozenAt _
      have f1 : w2.frozen? ⟨w.heap.size, k * 2 + 1, none⟩ = false := hO2.frozenAt _
      have HST := Lib.hid ((hO2.stored (k * 2) (.string (str x.path))).1.stored (k * 2 + 1) (.slice x.a x.xs.length x.c)).1
      have hsz2 : wr.heap.size ≤ w2.heap.size := hb2.size
      have HNX : Hid (∃ R', ((w2.setCell ⟨w.heap.size, k * 2, none⟩ (.string (str x.path))).setCell ⟨w.heap.size, k * 2 + 1, none⟩ (.slice x.a x.xs.length x.c)).ownsRow w.heap.size 78 2 (.slice (some ⟨w.heap.size, 0, none⟩) n n) n ((ys ++ [x]).flatMap bxC ++ R')) := by
        obtain ⟨R', hR'⟩ := flat_nextB bxC_len HYL.out (by rw [HRL.out]; omega) (x := x) (R := R)
        refine ⟨R', ?_⟩
        have h := HST.out
        rw [hR'] at h; exact h
      have HNY : Hid ((∀ y ∈ ys ++ [x], OwnMs (w.heap.size + 1) (.slice y.a y.xs.length y.c) y.xs ((w2.setCell ⟨w.heap.size, k * 2, none⟩ (.string (str x.path))).setCell ⟨w.heap.size, k * 2 + 1, none⟩ (.slice x.a x.xs.length x.c))) ∧ (ys ++ [x]).Pairwise ApB) := by
        refine ⟨fun y hy => ?_, List.pairwise_append.2 ⟨HYP.out, List.pairwise_singleton _ _, fun z hz u hu => ?_⟩⟩
        · rcases List.mem_append.1 hy with hy | hy
          · exact (((HYO.out y hy).keep hb2).off (Nat.lt_succ_self _) _).off (Nat.lt_succ_self _) _
          · rw [List.mem_singleton.1 hy]
            exact ((OwnMs.base HOX.out (by omega)).off (Nat.lt_succ_self _) _).off (Nat.lt_succ_self _) _
        · rw [List.mem_singleton.1 hu]; exact apB_new (HYO.out z hz) HOX.out (Nat.le_refl _)
      have HNL : Hid ((ys ++ [x]).length = k + 1) := by show _ = _; rw [List.length_append, HYL.out]; rfl
      have HNM : Hid ((ys ++ [x]).map BxA.b = (xs.take (k + 1)).map BxA.b) := by show _ = _; rw [HT.out, List.map_append, HYM.out]; show _ ++ [x.b] = _; rw [HXQ.out, HQ.out]
      obtain ⟨R', hR'⟩ := HNX.out
      have HR' := Lib.hid hR'
      obtain ⟨ZS, hZS⟩ : ∃ Z, Z = ys ++ [x] := ⟨_, rfl⟩
      rw [← hZS] at HNY HNL HNM HR'
      clear hZS hR' HNX HST
      clear hlL hO hO2 hox hxq
      generalize str x.path = xs0 at *
      generalize x.xs.length = xn at *
      generalize x.a = xa at *
      generalize x.c = xc at *
      go_wp2
      go_roundw
      case rel => exact ⟨k + 1, ZS, R', by omega, by go_num, ((hb02.setCell (by simp) _).setCell (by simp) _), HR'.out, by simpa using hz2', HNL.out, HNM.out, HNY.out.1, HNY.out.2⟩
      case measure => simp [intOf]; omega
    · have dk : decide ((k : Int) < n) = false := decide_eq_false (by omega)
      have HYS : Hid (OwnBs w.heap.size (.slice (some ⟨w.heap.size, 0, none⟩) n n) ys wr ∧ ys.map BxA.b = xs.map BxA.b ∧ ys.length = n) := by
        have hkn : k = n := by omega
        have hR0 : R = [] := List.eq_nil_of_length_eq_zero (by rw [HRL.out, hkn]; omega)
        refine ⟨⟨?_, fun y hy => (HYO.out y hy).base (Nat.le_succ _), HYP.out⟩, by rw [HYM.out, List.take_of_length_le (by have := HLEN.out; omega)], by rw [HYL.out, hkn]⟩
        unfold OwnR
        rw [hR0, List.append_nil] at hO
        rw [HYL.out, hkn]; exact hO
      clear hO
      go_wp2
      go_ret
      exact ⟨_, ys, rfl, HYS.out.2.1, HYS.out.2.2, HYS.out.1, (fun h => by cases h), hb⟩
end Go.Proofs.YtombejhpfobehaaGreatDoor
end

section
namespace Go.Proofs.YtombejhpfobehaaGreatDoor
open Go.RowKit

theorem setCells_row {g : Nat} {t : TypeId} : ∀ (vs : List Value) (o : Nat) (cur : List Value) (w : World), w.heap[g]? = some (.cells cur.toArray t (0, 0)) → o + vs.length ≤ cur.length → w.setCells g o vs = w.setRow g (splice cur o vs).toArray
  | [], o, cur, w, hg, _ => by
    have := setRow_self w g cur.toArray t (0, 0) hg
    simp only [World.setCells, splice, List.nil_append, List.length_nil, Nat.add_zero, List.take_append_drop]
    exact this.symm
  | v :: rest, o, cur, w, hg, hl => by
    have h1 : o + 1 + rest.length ≤ cur.length := by simp at hl; omega
    have hs := setCell_eq_setRow w g o cur.toArray t (0, 0) v hg
    rw [World.setCells, hs]
    have hg2 : (w.setRow g (cur.toArray.setIfInBounds o v)).heap[g]? = some (.cells (cur.set o v).toArray t (0, 0)) := by
      have := setRow_heap w g cur.toArray (cur.toArray.setIfInBounds o v) t (0, 0) hg
      rw [this]; simp
    rw [setCells_row rest (o + 1) (cur.set o v) _ hg2 (by rw [List.length_set]; exact h1), setRow_setRow]
    congr 2
    unfold splice
    have e := list_seg_step cur o v rest (by omega)
    rw [List.length_cons]
    simpa [List.append_assoc] using e
theorem run_clear_rowK {P : Program} (w : World) (t e ty : TypeId) (z : Value) (Z : List Value) (ht : P.underlying t = some (.slice e)) (hv : ∀ w, (zeroValue e).run P w = .ok z w) (g o n c : Nat) (cur : List Value) (T : TypeId) (hn : 0 < n)
    (hz : (Builtin.zeroCells z.cells n).toList = Z) (h1 : ∀ v ∈ Z, v.oneCell' = true) (hg : w.heap[g]? = some (.cells cur.toArray T (0, 0))) (hfit : o + Z.length ≤ cur.length) :
    (Builtin.clear_ #[t] ty #[.slice (some ⟨g, o, none⟩) n c]).run P w = .ok (.tuple #[]) (w.setRow g (splice cur o Z).toArray) := by
  have hst := run_storeCells_at P g o T Z 0 cur.toArray w hg (by simpa using hfit) h1
  obtain ⟨m, rfl⟩ : ∃ m, n = m + 1 := ⟨n - 1, by omega⟩
  simp [Builtin.clear_, run_underlying ht, hv, hz, hst, splice]
/-- What a row holds whose first thing was taken out: the others, then what is no longer in it. -/
theorem splice_del {D Z X : List Value} {J K : Nat} (hD : K + J ≤ D.length) (hX : X = (D.take (K + J)).drop K) (hZ : Z.length = K) : (splice (splice D 0 X) J Z).take J = (D.take (K + J)).drop K := by
  have hXl : X.length = J := by rw [hX, List.length_drop, List.length_take]; omega
  have hXe : ∀ j, X[j]? = if j < J then D[K + j]? else none := fun j => by
    rw [hX, List.getElem?_drop, List.getElem?_take]
    by_cases h : j < J
    · rw [if_pos h, if_pos (by omega)]
    · rw [if_neg h, if_neg (by omega)]
  rw [← hX]
  clear hX
  unfold splice
  apply List.ext_getElem?
  intro j
  simp only [List.getElem?_take, List.getElem?_append, List.getElem?_drop, List.length_append, List.length_take, List.length_drop, hXl, hZ, hXe, List.take_zero, List.nil_append]
  by_cases h1 : j < J
  · repeat' split
    all_goals first | rfl | omega | (congr 1; omega)
  · rw [if_neg h1, if_neg h1]
theorem mlC_one (x : MlA) : ∀ v ∈ mlC x, v.oneCell' = true := fun v hv => by
  unfold mlC at hv
  simp at hv
  rcases hv with rfl | rfl | rfl <;> rfl
def DelRet (B g n c : Nat) (L : List Value) (w : World) (e : Ending) (w' : World) : Prop := e = .returned (.slice (some ⟨g, 0, none⟩) (n - 1) c) ∧ w'.ownsRow B 33 3 (.slice (some ⟨g, 0, none⟩) (n - 1) c) (n - 1) (L.drop 3) ∧ Only (some g) w w'
set_option maxRecDepth 100000 in
set_option maxHeartbeats 4000000 in
theorem delM_row (B g n c : Nat) (L D : List Value) (w : World) (hn : 1 ≤ n) (hnc : n ≤ c) (hc : c ≤ maxLen) (hL : L = D.take (n * 3)) (hD : D.length = c * 3) (hg : w.heap[g]? = some (.cells D.toArray 33 (0, 0))) (hB : B ≤ g) (hL1 : ∀ v ∈ L, v.oneCell' = true) :
    Calls Tryz.prog 59 #[.slice (some ⟨g, 0, none⟩) n c, .int .i64 0, .int .i64 1] w (DelRet B g n c L w) := by
  obtain ⟨i0, hi0, hz0, hzs, hzb⟩ := info_parts mlInfoC
  unfold maxLen at hc
  have HG := Lib.hid hg
  obtain ⟨X, hX⟩ : ∃ X, X = L.drop 3 := ⟨_, rfl⟩
  have hXl : X.length = (n - 1) * 3 := by rw [hX, hL, List.length_drop, List.length_take]; omega
  have hX1 : ∀ v ∈ X, v.oneCell' = true := fun v hv => hL1 v (List.mem_of_mem_drop (hX ▸ hv))
  have hXc : ∀ j u, X[j]? = some u → w.cell? ⟨g, 3 + j, none⟩ = some u := fun j u hu => by
    rw [hX, List.getElem?_drop, hL, List.getElem?_take] at hu
    split at hu
    · unfold World.cell?
      simp only [hg]
      simpa using hu
    · cases hu
  obtain ⟨A, hA, hsrc⟩ : ∃ A : Addr, (if c = 1 then some (⟨g, 0, none⟩ : Addr) else some ⟨g, 3, none⟩) = some A ∧ Hid (∀ j u, X[j]? = some u → w.drew.cell? (A.add j) = some u) := by
    by_cases h : c = 1
    · refine ⟨⟨g, 0, none⟩, by simp [h], fun t u hu => ?_⟩
      have h0 : X.length = 0 := by omega
      rw [List.length_eq_zero_iff.1 h0] at hu
      simp at hu
    · exact ⟨⟨g, 3, none⟩, by simp [h], fun t u hu => by rw [Addr.add_lit]; exact hXc t u hu⟩
  have HZ : Hid ((Builtin.zeroCells (Value.agg #[.string ⟨#[]⟩, .slice none 0 0, .slice none 0 0]).cells 1).toList = [.string ⟨#[]⟩, .slice none 0 0, .slice none 0 0]) := by show _ = _; kernel_rfl
  obtain ⟨W1, hW1⟩ : ∃ W1, W1 = w.drew.setRow g (splice D 0 X).toArray := ⟨_, rfl⟩
  have hg1 : W1.heap[g]? = some (.cells (splice D 0 X).toArray 33 (0, 0)) := by rw [hW1]; exact setRow_heap w.drew g _ _ _ _ hg
  have hl1 : (splice D 0 X).length = D.length := length_splice _ _ _ (by omega)
  obtain ⟨W2, hW2⟩ : ∃ W2, W2 = W1.setRow g (splice (splice D 0 X) ((n - 1) * 3) [.string ⟨#[]⟩, .slice none 0 0, .slice none 0 0]).toArray := ⟨_, rfl⟩
  have hcl : ∀ ty k, (Builtin.clear_ #[58] ty #[.slice (some ⟨g, (n - 1) * 3, none⟩) (n - (n - 1)) k]).run Tryz.prog W1 = .ok (.tuple #[]) W2 := fun ty k => by
    rw [hW2, show n - (n - 1) = 1 by omega]
    exact run_clear_rowK W1 _ _ ty _ _ Tryz.underlying58 (fun w => by kernel_rfl) g ((n - 1) * 3) 1 k _ 33 (by omega) HZ.out (fun v hv => by simp at hv; rcases hv with rfl | rfl | rfl <;> rfl) hg1 (by rw [hl1, hD]; simp; omega)
  have HEND : Hid (DelRet B g n c L w (.returned (.slice (some ⟨g, 0, none⟩) (n - 1) c)) W2) := by
    have hg2 : W2.heap[g]? = some (.cells (splice (splice D 0 X) ((n - 1) * 3) [.string ⟨#[]⟩, .slice none 0 0, .slice none 0 0]).toArray 33 (0, 0)) := by rw [hW2]; exact setRow_heap W1 g _ _ _ _ hg1
    have l2 : (splice (splice D 0 X) ((n - 1) * 3) [Value.string ⟨#[]⟩, .slice none 0 0, .slice none 0 0]).length = D.length := by rw [length_splice _ _ _ (by rw [hl1, hD]; simp; omega), hl1]
    have hsd := splice_del (D := D) (Z := [Value.string ⟨#[]⟩, .slice none 0 0, .slice none 0 0]) (X := X) (J := (n - 1) * 3) (K := 3) (by omega) (by rw [hX, hL, show 3 + (n - 1) * 3 = n * 3 by omega]) rfl
    refine ⟨rfl, ⟨by rw [← hX]; exact hXl, .inr ⟨g, c, _, rfl, hB, hg2, by omega, by unfold maxLen; omega, by simp [l2, hD], ?_⟩⟩, ?_⟩
    · rw [List.toList_toArray, hsd, hL, show 3 + (n - 1) * 3 = n * 3 by omega]
    · refine Only.trans (b := W1) ?_ (by rw [hW2]; exact only_setRow _ _)
      rw [hW1]
      exact (Only.of_below ((Below.refl _ _).drew)).trans (only_setRow _ _)
  have hsc : w.drew.setCells g 0 X = W1 := by rw [hW1]; exact setCells_row X 0 D w.drew hg (by omega)
  have s3 : Hid (∀ j, j < X.length → (w.drew.cell? ⟨g, 0 + 0 * 3 + j, none⟩).isSome = true ∧ w.drew.frozen? ⟨g, 0 + 0 * 3 + j, none⟩ = false) := fun j hj => by
    have e : (0 + 0 * 3 + j) = j := by omega
    rw [e]
    refine ⟨?_, ?_⟩
    · show (w.cell? _).isSome = true
      unfold World.cell?
      simp only [hg]
      simp
      omega
    · show w.frozen? _ = false
      unfold World.frozen?
      simp [hg]
  have HXL : Hid (X.length = (n - 1) * 3) := hXl
  have HX1 := Lib.hid hX1
  have hn1 : ((1 : Nat) : Int) ≤ (n : Int) := by omega
  have hn0 : (1 : Int) ≤ (n : Int) := by omega
  have hcn : (n : Int) ≤ (c : Int) := by omega
  have hc1 : (1 : Int) ≤ (c : Int) := by omega
  clear hX hXl hX1 hXc hW1 hW2 hg1 hl1 hL hD hL1 hg HZ hz0
  go_enter Tryz.func59, Tryz.ntmps59
  go_wp2_with fail
  go_region_law (refine step_append_room rfl (.tmp 22) (.tmp 25) 58 rfl 33 i0 3 Tryz.underlying58 hi0 hzs g 0 0 c (by simp [Act.eval, Act.put]) A (n - 1) (c - 1) X (by simp [Act.eval, Act.put]) HXL.out hsrc.out HX1.out (by omega) s3.out ?_; rw [show 0 + 0 * 3 = 0 from rfl, hsc])
  go_wp2_with (simp only [hcl])
  go_ret
  exact HEND.out
/-- The first mail taken out of a row of mails of the call's own. -/
theorem delM_any (B : Nat) (a : Option Addr) (n c : Nat) (x : MlA) (xs : List MlA) (w : World) (h : OwnMs B (.slice a n c) (x :: xs) w) :
    Calls Tryz.prog 59 #[.slice a n c, .int .i64 0, .int .i64 1] w fun e w' => e = .returned (.slice a xs.length c) ∧ OwnMs B (.slice a xs.length c) xs w' ∧ OwnM B w' x ∧ Only (Value.slice a n c).ownBlock w w' := by
  have hr := h.1
  unfold OwnR at hr
  rcases hr.2 with ⟨_, h0⟩ | ⟨g, cap, cur, hv, hBg, hg, hnc, hcm, hsz, htk⟩
  · simp at h0
  · injection hv with e1 e2 e3
    subst e1 e2 e3
    have hn : (x :: xs).length - 1 = xs.length := by simp
    refine (delM_row B g (x :: xs).length c _ cur.toList w (by simp) hnc hcm htk.symm (by simpa using hsz) (by simpa using hg) hBg (fun v hv => by
      obtain ⟨y, _, hy⟩ := List.mem_flatMap.1 hv
      exact mlC_one y v hy)).mono ?_
    rintro e w' ⟨rfl, hr', ho⟩
    rw [hn] at hr'
    have hk : ∀ y, y ∈ x :: xs → OwnM B w' y := fun y hy => (h.2.1 y hy).turned (Turn.only (P := fun q => q = g) ho (fun q hq => by injection hq with hq; exact hq.symm)) (fun q hq e => by
      rcases hq with hq | hq
      · exact strs_mails h.1 (h.2.1 y hy).1 q hq (by rw [e]; rfl)
      · exact strs_mails h.1 (h.2.1 y hy).2.1 q hq (by rw [e]; rfl))
    refine ⟨by rw [hn], ⟨?_, fun y hy => hk y (List.mem_cons_of_mem _ hy), (List.pairwise_cons.1 h.2.2).2⟩, hk x List.mem_cons_self, ho⟩
    unfold OwnR
    rw [List.flatMap_cons, List.drop_left' (mlC_len x)] at hr'
    exact hr'
end Go.Proofs.YtombejhpfobehaaGreatDoor
end

section
namespace Go.Proofs.YtombejhpfobehaaGreatDoor
open Go.RowKit

def bx0 : Bx := ⟨[], []⟩
/-- The place of the mailbox out of which a mail can be taken. -/
def takeAt (p : List UInt8) (bs : List Bx) : Option Nat := if isBxs bs then (match fndP p (bs.map (·.path)) with | some k => if (bs.getD k bx0).mails = [] then none else some k | none => none) else none
def takeBs (p : List UInt8) (bs : List Bx) : List Bx := match takeAt p bs with | some k => bs.set k ⟨(bs.getD k bx0).path, (bs.getD k bx0).mails.tail⟩ | none => []
def takeMl (p : List UInt8) (bs : List Bx) : Ml := match takeAt p bs with | some k => (bs.getD k bx0).mails.headD ml0 | none => ml0
theorem takeAt_no1 {p : List UInt8} {bs : List Bx} (h : isBxs bs = false) : takeAt p bs = none := by unfold takeAt; rw [h]; rfl
theorem takeAt_no2 {p : List UInt8} {bs : List Bx} (h : fndP p (bs.map (·.path)) = none) : takeAt p bs = none := by
  unfold takeAt; rw [h]; split <;> rfl
theorem takeAt_no3 {p : List UInt8} {bs : List Bx} {k : Nat} (h : fndP p (bs.map (·.path)) = some k) (hm : (bs.getD k bx0).mails = []) : takeAt p bs = none := by
  unfold takeAt; rw [h]; simp only []; rw [if_pos hm]; split <;> rfl
theorem takeAt_yes {p : List UInt8} {bs : List Bx} {k : Nat} (hv : isBxs bs = true) (h : fndP p (bs.map (·.path)) = some k) (hm : (bs.getD k bx0).mails ≠ []) : takeAt p bs = some k := by
  unfold takeAt; rw [hv, h, if_pos rfl]; simp only []; rw [if_neg hm]
theorem takeBs_no {p : List UInt8} {bs : List Bx} (h : takeAt p bs = none) : takeBs p bs = [] := by unfold takeBs; rw [h]
theorem takeMl_no {p : List UInt8} {bs : List Bx} (h : takeAt p bs = none) : takeMl p bs = ml0 := by unfold takeMl; rw [h]
/-- Boxes and a mail of the call's own are returned, and whether there is one. -/
def TakeRet (bs : List Bx) (m : Ml) (ok : Bool) (w : World) (e : Ending) (w' : World) : Prop := ∃ (v : Value) (ys : List BxA) (x : MlA), e = .returned (.tuple #[v, .agg #[.string (str x.m.frm), .slice x.a1 x.m.to.length x.c1, .slice x.a2 x.m.lines.length x.c2], .bool ok]) ∧ ys.map BxA.b = bs ∧ x.m = m ∧ OwnBs w.heap.size v ys w' ∧ OwnM w.heap.size w' x ∧ (∀ g, blkB v ys g → ¬ blk1 x g) ∧ Below w.heap.size w w'
theorem ownM_nil (B : Nat) (w : World) : OwnM B w ⟨ml0, none, 0, none, 0⟩ := ⟨OwnL.nil B w, OwnL.nil B w, fun g h => by cases h⟩
theorem takeRet_no {p : List UInt8} {bs : List Bx} {w w' : World} (h : takeAt p bs = none) (hb : Below w.heap.size w w') : TakeRet (takeBs p bs) (takeMl p bs) (takeAt p bs).isSome w (.returned (.tuple #[.slice none 0 0, .agg #[.string ⟨#[]⟩, .slice none 0 0, .slice none 0 0], .bool false])) w' := by
  rw [h, takeBs_no h, takeMl_no h]
  exact ⟨_, [], ⟨ml0, none, 0, none, 0⟩, rfl, rfl, rfl, OwnBs.nil _ _, ownM_nil _ _, fun g hg => (by
    rcases hg with hg | ⟨x, hx, _⟩
    · cases hg
    · cases hx), hb⟩
/-- A box's row of mails is another one, of its own. -/
def BxA.row' (y : BxA) (ys : List MlA) (a : Option Addr) (c : Nat) : BxA := ⟨y.path, ys, a, c⟩
theorem OwnMs.off' {B g i : Nat} {w : World} {v : Value} {xs : List MlA} (h : OwnMs B v xs w) (hne : ∀ q, blkM v xs q → q ≠ g) (u : Value) : OwnMs B v xs (w.setCell ⟨g, i, none⟩ u) :=
  h.turned ((Turn.refl (fun q => q = g) w).setCell (show g = g from rfl) u) (fun q hq e => hne q hq e)
/-- In a row of boxes one box gets another row of mails, which shares nothing with the other boxes. -/
theorem OwnBs.setRow {B g c n k : Nat} {xs : List BxA} {w : World} {y : BxA} {ys : List MlA} {a' : Option Addr} {c' : Nat} (h : OwnR 78 2 bxC B (.slice (some ⟨g, 0, none⟩) n c) xs w) (hk : k < xs.length) (hy : xs[k] = y)
    (ho : ∀ j (hj : j < xs.length), j ≠ k → OwnMs B (.slice xs[j].a xs[j].xs.length xs[j].c) xs[j].xs w) (hn : OwnMs B (.slice a' ys.length c') ys w) (hp : xs.Pairwise ApB) (hap : ∀ j (hj : j < xs.length), j ≠ k → ApB (y.row' ys a' c') xs[j]) :
    OwnBs B (.slice (some ⟨g, 0, none⟩) n c) (xs.set k (y.row' ys a' c')) (w.setCell ⟨g, k * 2 + 1, none⟩ (.slice a' ys.length c')) := by
  subst hy
  have hr := h
  unfold OwnR at hr
  have hn' : xs.length = n := by
    rcases hr.2 with ⟨e, h0⟩ | ⟨g1, cap1, cur1, e1, _⟩
    · cases e
    · injection e1 with _ e1 _; exact e1.symm
  subst hn'
  have key : ∀ {us : List MlA} {u : Value}, OwnMs B u us w → OwnMs B u us (w.setCell ⟨g, k * 2 + 1, none⟩ (.slice a' ys.length c')) := fun {us u} hu => hu.off' (fun q hq e => by
    subst e
    rcases hq with hq | ⟨m, hm, hq⟩
    · exact mails_boxes h hu.1 q hq rfl
    · rcases hq with hq | hq
      · exact strs_boxes h (hu.2.1 m hm).1 q hq rfl
      · exact strs_boxes h (hu.2.1 m hm).2.1 q hq rfl) _
  refine ⟨?_, fun z hz => ?_, ?_⟩
  · unfold OwnR
    have h3 := (hr.stored (k * 2 + 1) (.slice a' ys.length c')).1
    obtain ⟨c0, _⟩ := flat_cellsB hk
    have e : (xs.set k (xs[k].row' ys a' c')).flatMap bxC = (xs.flatMap bxC).set (k * 2 + 1) (.slice a' ys.length c') := by
      rw [flat_setB hk]
      show ((xs.flatMap bxC).set (k * 2) (.string (str xs[k].path))).set (k * 2 + 1) (.slice a' ys.length c') = _
      rw [set_self2 c0]
    rw [e, List.length_set]; exact h3
  · obtain ⟨i, hi, rfl⟩ := List.getElem_of_mem hz
    have hi' : i < xs.length := by simpa using hi
    by_cases e : k = i
    · subst e
      rw [List.getElem_set_self]; exact key hn
    · rw [List.getElem_set_ne e]; exact key (ho i hi' (fun e' => e e'.symm))
  · rw [List.pairwise_iff_getElem] at hp ⊢
    intro i j hi hj hij
    have hi' : i < xs.length := by simpa using hi
    have hj' : j < xs.length := by simpa using hj
    by_cases e1 : k = i
    · subst e1
      rw [List.getElem_set_self, List.getElem_set_ne (by omega)]
      exact hap j hj' (by omega)
    · by_cases e2 : k = j
      · subst e2
        rw [List.getElem_set_self, List.getElem_set_ne e1]
        exact (hap i hi' (by omega)).symm
      · rw [List.getElem_set_ne e1, List.getElem_set_ne e2]
        exact hp i j hi' hj' hij
/-- The first mail of a box taken out of its row. -/
theorem OwnBs.took {B g c n k : Nat} {xs : List BxA} {w w' : World} {y : BxA} {x : MlA} {rest : List MlA} (h : OwnBs B (.slice (some ⟨g, 0, none⟩) n c) xs w) (hk : k < xs.length) (hy : xs[k] = y) (hx : y.xs = x :: rest)
    (hr : OwnMs B (.slice y.a rest.length y.c) rest w') (hm : OwnM B w' x) (ho : Only (Value.slice y.a y.xs.length y.c).ownBlock w w') :
    OwnBs B (.slice (some ⟨g, 0, none⟩) n c) (xs.set k (y.row' rest y.a y.c)) (w'.setCell ⟨g, k * 2 + 1, none⟩ (.slice y.a rest.length y.c)) ∧ OwnM B (w'.setCell ⟨g, k * 2 + 1, none⟩ (.slice y.a rest.length y.c)) x ∧ (∀ q, blkB (.slice (some ⟨g, 0, none⟩) n c) (xs.set k (y.row' rest y.a y.c)) q → ¬ blk1 x q) := by
  have hky := List.getElem_mem hk
  rw [hy] at hky
  have hyo := h.2.1 y hky
  have t : Turn (fun q => (Value.slice y.a y.xs.length y.c).ownBlock = some q) w w' := Turn.only ho (fun _ e => e)
  have hap : ∀ j (hj : j < xs.length), j ≠ k → ApB y xs[j] := fun j hj hne => by
    have hp := List.pairwise_iff_getElem.1 h.2.2
    rw [← hy]
    rcases Nat.lt_or_ge k j with h1 | h1
    · exact hp k j hk hj h1
    · exact (hp j k hj hk (by omega)).symm
  have hxy : x ∈ y.xs := by rw [hx]; exact List.mem_cons_self
  have hrx : ∀ z ∈ rest, z ∈ y.xs := fun z hz => by rw [hx]; exact List.mem_cons_of_mem _ hz
  have hrow : OwnR 78 2 bxC B (.slice (some ⟨g, 0, none⟩) n c) xs w' := h.1.turned t (fun q hq e => own_row_mails h hky (g := q) hq (.inl e))
  have hb1 : ∀ q, blk1 x q → q ≠ g := fun q hq e => by
    subst e
    exact own_row_mails h hky (g := q) rfl (.inr ⟨x, hxy, hq⟩)
  refine ⟨OwnBs.setRow hrow hk hy (fun j hj hne => (h.2.1 _ (List.getElem_mem hj)).turned t (fun q hq e => apB_blk (hap j hj hne) hyo (h.2.1 _ (List.getElem_mem hj)) (.inl e) hq)) hr h.2.2 (fun j hj hne => ⟨fun q hq => (hap j hj hne).1 q (by
      have e : (Value.slice y.a y.xs.length y.c).ownBlock = (Value.slice y.a rest.length y.c).ownBlock := by cases y.a <;> rfl
      rw [e]; exact hq), fun m hm m' hm' => (hap j hj hne).2 m (hrx m hm) m' hm'⟩), ?_, fun q hq hx1 => ?_⟩
  · exact hm.turned ((Turn.refl (fun q => q = g) w').setCell (show g = g from rfl) _) (fun q hq e => hb1 q hq e)
  · rcases hq with hq | ⟨z, hz, hq⟩
    · injection hq with hq; exact hb1 q hx1 hq.symm
    · obtain ⟨i, hi, rfl⟩ := List.getElem_of_mem hz
      have hi' : i < xs.length := by simpa using hi
      by_cases e : k = i
      · subst e
        rw [List.getElem_set_self] at hq
        rcases hq with hq | ⟨m, hm', hq⟩
        · have e : (Value.slice y.a y.xs.length y.c).ownBlock = (Value.slice y.a rest.length y.c).ownBlock := by cases y.a <;> rfl
          have hq' : (Value.slice y.a y.xs.length y.c).ownBlock = some q := by rw [e]; exact hq
          rcases hx1 with h1 | h1
          · exact strs_mails hyo.1 (hyo.2.1 x hxy).1 q h1 hq'
          · exact strs_mails hyo.1 (hyo.2.1 x hxy).2.1 q h1 hq'
        · have hp := hyo.2.2
          rw [hx] at hp
          exact (List.pairwise_cons.1 hp).1 m hm' q hx1 hq
      · rw [List.getElem_set_ne e] at hq
        exact apB_blk (hap i hi' (fun e' => e e'.symm)) hyo (h.2.1 _ (List.getElem_mem hi')) (.inr ⟨x, hxy, hx1⟩) hq
theorem rowB_cells {B g n c k : Nat} {L : List BxA} {w : World} {y : BxA} (h : OwnR 78 2 bxC B (.slice (some ⟨g, 0, none⟩) n c) L w) (hk : k < L.length) (hy : L[k] = y) :
    (w.cell? ⟨g, k * 2, none⟩ = some (.string (str y.path)) ∧ w.cell? ⟨g, k * 2 + 1, none⟩ = some (.slice y.a y.xs.length y.c)) ∧ w.frozen? ⟨g, k * 2 + 1, none⟩ = false := by
  subst hy
  have hr := h
  unfold OwnR at hr
  have hn : L.length = n := by
    rcases hr.2 with ⟨e, h0⟩ | ⟨g1, cap1, cur1, e1, _⟩
    · cases e
    · injection e1 with _ e1 _; exact e1.symm
  subst hn
  obtain ⟨c0, c1⟩ := flat_cellsB hk
  have C : ∀ j z, (L.flatMap bxC)[j]? = some z → w.cell? ⟨g, j, none⟩ = some z := fun j z hz => by
    have := hr.cells (g := g) rfl j z hz
    rw [add0] at this; exact this
  exact ⟨⟨C _ _ c0, C _ _ c1⟩, hr.frozenAt _⟩
theorem cell_only {o : Option Nat} {w w' : World} {g i : Nat} {v : Value} (h : w.cell? ⟨g, i, none⟩ = some v) (t : Only o w w') (hne : o ≠ some g) : w'.cell? ⟨g, i, none⟩ = some v := by
  have e := t.block g (lt_of_cell h) (fun e => hne e.symm)
  unfold World.cell? at h ⊢
  rw [e]; exact h
theorem MF3.only {o : Option Nat} {w w' : World} {g : Nat} {v0 v1 v2 : Value} (h : MF3 w g v0 v1 v2) (t : Only o w w') (hne : o ≠ some g) : MF3 w' g v0 v1 v2 := by
  refine ⟨⟨cell_only h.1.1 t hne, cell_only h.1.2.1 t hne, cell_only h.1.2.2 t hne⟩, fun i => ?_⟩
  have e := t.block g (lt_of_cell h.1.1) (fun e => hne e.symm)
  have := h.2 i
  unfold World.frozen? at this ⊢
  rw [e]; exact this
theorem OwnBs.low {B g i : Nat} {v : Value} {xs : List BxA} {w : World} (h : OwnBs B v xs w) (hg : g < B) (u : Value) : OwnBs B v xs (w.setCell ⟨g, i, none⟩ u) :=
  h.turned ((Turn.refl (fun q => q = g) w).setCell (show g = g from rfl) u) (fun q hq e => by have := (h.lt hq).1; omega)
theorem OwnM.low' {B g i : Nat} {x : MlA} {w : World} (h : OwnM B w x) (hg : g < B) (u : Value) : OwnM B (w.setCell ⟨g, i, none⟩ u) x :=
  h.turned ((Turn.refl (fun q => q = g) w).setCell (show g = g from rfl) u) (fun q hq e => by have := (h.lt hq).1; omega)
set_option maxRecDepth 100000 in
set_option maxHeartbeats 4000000 in
theorem takeMail_any (M : Nat) (a : Option Addr) (n c : Nat) (xs : List BxA) (p : List UInt8) (w : World) (en : Env w) (hx : xs.length = n) (h1 : RdBs M w a xs) (hM : M ≤ 1073741000) (hn : n ≤ 1073741000) :
    Calls Tryz.prog 17 #[.slice a n c, .string (str p)] w (TakeRet (takeBs p (xs.map BxA.b)) (takeMl p (xs.map BxA.b)) (takeAt p (xs.map BxA.b)).isSome w) := by
  have hA0 : Below w.heap.size w (w.alloc (.cells #[.string ⟨#[]⟩, .slice none 0 0, .slice none 0 0] 33)) := (Below.refl _ _).alloc (Nat.le_refl _) _
  have HR0 := Lib.hid (MF3.new w (.string ⟨#[]⟩) (.slice none 0 0) (.slice none 0 0) 33)
  have hz0 : (w.alloc (.cells #[.string ⟨#[]⟩, .slice none 0 0, .slice none 0 0] 33)).heap.size = w.heap.size + 1 := by simp
  have HV : Hid (∀ u, Below w.heap.size w u → Calls Tryz.prog 48 #[.slice a n c] u fun e w' => e = .returned (.bool (isBxs (xs.map BxA.b))) ∧ Below u.heap.size u w') := fun u hb => boxesValid_any M a n c xs u (en.below hb) hx (h1.below hb) hM hn
  have HF : Hid (isBxs (xs.map BxA.b) = true → ∀ u, Below w.heap.size w u → Calls Tryz.prog 50 #[.slice a n c, .string (str p)] u fun e w' => e = .returned (.tuple #[.int .i64 (cntP p ((xs.map BxA.b).map (·.path)) : Nat), .bool (decide (fndP p ((xs.map BxA.b).map (·.path)) ≠ none))]) ∧ Below u.heap.size u w') := fun hq u hb => findBox_any M a n c xs p u hx (h1.below hb) hn (isBxs_upBx hq).1
  have HC : Hid (isBxs (xs.map BxA.b) = true → ∀ u, Below w.heap.size w u → Calls Tryz.prog 52 #[.slice a n c] u (BxsRet (xs.map BxA.b) u)) := fun hq u hb => by
    have h8 := (isBxs_upBx hq).2.1
    rw [List.length_map] at h8
    exact copyBoxes_any a n c xs u hx ((h1.below hb).up (fun x hx => (isBxs_small hq x.b (List.mem_map_of_mem hx)).up (by omega))) (by omega)
  have HL : Hid ((xs.map BxA.b).length = n) := by show _ = _; rw [List.length_map]; exact hx
  have HRD : Hid (∀ k (hk : k < (xs.map BxA.b).length) u, Below w.heap.size w u → ∃ b1 o1 a1 c1, a = some ⟨b1, o1, none⟩ ∧ u.cell? ⟨b1, o1 + k * 2 + 1, none⟩ = some (.slice a1 ((xs.map BxA.b).getD k bx0).mails.length c1)) := fun k hk u hu => by
    have hkx : k < xs.length := by simpa using hk
    obtain ⟨b1, o1, ha, _, _, p1, _⟩ := (h1.below hu).at hkx
    refine ⟨b1, o1, xs[k].a, xs[k].c, ha, ?_⟩
    rw [p1]
    have : (xs.map BxA.b).getD k bx0 = xs[k].b := by rw [List.getD_eq_getElem?_getD, List.getElem?_map, List.getElem?_eq_getElem hkx]; rfl
    rw [this]; unfold BxA.b; simp
  clear h1 hM hx en
  obtain ⟨bs, hbs⟩ : ∃ bs, bs = xs.map BxA.b := ⟨_, rfl⟩
  rw [← hbs] at HV HF HC HL HRD ⊢
  clear hbs
  have HNO := Lib.hid (fun (h : takeAt p bs = none) (w' : World) (hb : Below w.heap.size w w') => takeRet_no h hb)
  obtain ⟨S, hS⟩ : ∃ S, S = str p := ⟨_, rfl⟩
  rw [← hS] at HF ⊢
  clear hS
  cases hq : isBxs bs with
  | false =>
    have HN := Lib.hid (HNO.out (takeAt_no1 hq))
    have HV0 := Lib.hid (HV.out _ hA0)
    rw [hq] at HV0
    clear hq HNO HF HC HRD HV
    generalize takeBs p bs = TB at *
    generalize takeMl p bs = TM at *
    generalize (takeAt p bs).isSome = ok at *
    go_enter Tryz.func17, Tryz.ntmps17
    go_wp2_with fail
    refine HV0.out.mono ?_
    rintro e w1 ⟨rfl, hb1⟩
    obtain ⟨⟨q0, q1, q2⟩, qf⟩ := HR0.out.below hb1
    have hb01 := nx hA0 hb1
    go_wp2
    refine bodyPost_ret (v := .tuple #[.slice none 0 0, .agg #[.string ⟨#[]⟩, .slice none 0 0, .slice none 0 0], .bool false]) (by simp [results, Tryz.results17, go_sem, q0, q1, q2]) rfl ?_
    exact HN.out _ (((hb01.setCell (Nat.le_refl _) _).setCell (Nat.le_refl _) _).setCell (Nat.le_refl _) _)
  | true =>
    have HC1 := Lib.hid (HC.out hq)
    have HF1 := Lib.hid (HF.out hq)
    have HV0 := Lib.hid (HV.out _ hA0)
    rw [hq] at HV0
    cases hf : fndP p (bs.map (·.path)) with
    | none =>
      have HN := Lib.hid (HNO.out (takeAt_no2 hf))
      rw [hf] at HF1
      have hd : decide ((none : Option Nat) ≠ none) = false := by simp
      rw [hd] at HF1
      clear hq hf HNO HF HC HC1 HRD HV hd
      generalize takeBs p bs = TB at *
      generalize takeMl p bs = TM at *
      generalize (takeAt p bs).isSome = ok at *
      go_enter Tryz.func17, Tryz.ntmps17
      go_wp2_with fail
      refine HV0.out.mono ?_
      rintro e w1 ⟨rfl, hb1⟩
      have hb01 := nx hA0 hb1
      go_wp2_with fail
      refine (HF1.out _ hb01).mono ?_
      rintro e w2 ⟨rfl, hb2⟩
      obtain ⟨⟨q0, q1, q2⟩, qf⟩ := HR0.out.below (nx hb1 hb2)
      have hb02 := nx hb01 hb2
      go_wp2
      refine bodyPost_ret (v := .tuple #[.slice none 0 0, .agg #[.string ⟨#[]⟩, .slice none 0 0, .slice none 0 0], .bool false]) (by simp [results, Tryz.results17, go_sem, q0, q1, q2]) rfl ?_
      exact HN.out _ (((hb02.setCell (Nat.le_refl _) _).setCell (Nat.le_refl _) _).setCell (Nat.le_refl _) _)
    | some k =>
      have hup := (isBxs_upBx hq).1
      have hck := fnd_cnt hup hf
      rw [hck] at HF1
      have hd : decide (fndP p (bs.map (·.path)) ≠ none) = true := by rw [hf]; simp
      rw [hd] at HF1
      have hkb : k < bs.length := by obtain ⟨h, _⟩ := fndP_some hf; simpa using h
      have hkn : k < n := by have := HL.out; omega
      have HR1 := Lib.hid (HRD.out k hkb)
      have hkn' : (k : Int) < (n : Int) := by omega
      have hk0 : (0 : Int) ≤ (k : Int) := by omega
      by_cases hm : (bs.getD k bx0).mails = []
      · have HN := Lib.hid (HNO.out (takeAt_no3 hf hm))
        rw [hm] at HR1
        clear hq hf HNO HF HC HC1 HRD HV hd hck hup hm
        generalize takeBs p bs = TB at *
        generalize takeMl p bs = TM at *
        generalize (takeAt p bs).isSome = ok at *
        go_enter Tryz.func17, Tryz.ntmps17
        go_wp2_with fail
        refine HV0.out.mono ?_
        rintro e w1 ⟨rfl, hb1⟩
        have hb01 := nx hA0 hb1
        go_wp2_with fail
        refine (HF1.out _ hb01).mono ?_
        rintro e w2 ⟨rfl, hb2⟩
        obtain ⟨⟨q0, q1, q2⟩, qf⟩ := HR0.out.below (nx hb1 hb2)
        have hb02 := nx hb01 hb2
        obtain ⟨b1, o1, a1, c1, rfl, p1⟩ := HR1.out w2 hb02
        replace p1 : w2.cell? ⟨b1, o1 + k * 2 + 1, none⟩ = some (.slice a1 0 c1) := p1
        go_wp2
        refine bodyPost_ret (v := .tuple #[.slice none 0 0, .agg #[.string ⟨#[]⟩, .slice none 0 0, .slice none 0 0], .bool false]) (by simp [results, Tryz.results17, go_sem, q0, q1, q2]) rfl ?_
        exact HN.out _ (((hb02.setCell (Nat.le_refl _) _).setCell (Nat.le_refl _) _).setCell (Nat.le_refl _) _)
      · have hta := takeAt_yes hq hf hm
        have HE : Hid (∀ (v : Value) (ys : List BxA) (x : MlA) (w' : World), ys.map BxA.b = bs.set k ⟨(bs.getD k bx0).path, (bs.getD k bx0).mails.tail⟩ → x.m = (bs.getD k bx0).mails.headD ml0 → OwnBs w.heap.size v ys w' → OwnM w.heap.size w' x → (∀ g, blkB v ys g → ¬ blk1 x g) → Below w.heap.size w w' → TakeRet (takeBs p bs) (takeMl p bs) (takeAt p bs).isSome w (.returned (.tuple #[v, .agg #[.string (str x.m.frm), .slice x.a1 x.m.to.length x.c1, .slice x.a2 x.m.lines.length x.c2], .bool true])) w') := fun v ys x w' k1 k2 k3 k4 k5 k6 => ⟨v, ys, x, by rw [hta]; rfl, by unfold takeBs; rw [hta]; exact k1, by unfold takeMl; rw [hta]; exact k2, k3, k4, k5, k6⟩
        have hml : 0 < (bs.getD k bx0).mails.length := List.length_pos_iff.2 hm
        have hml2 : (bs.getD k bx0).mails.length ≤ 1000000 := by
          have : bs.getD k bx0 ∈ bs := by rw [List.getD_eq_getElem?_getD, List.getElem?_eq_getElem hkb]; exact List.getElem_mem hkb
          have := (isBxs_small hq _ this).2.1
          omega
        clear hq hf HNO HF HC HRD HV hd hck hup hta
        generalize takeBs p bs = TB at *
        generalize takeMl p bs = TM at *
        generalize (takeAt p bs).isSome = ok at *
        have e0 : (((bs.getD k bx0).mails.length : Int) == 0) = false := by rw [beq_eq_false_iff_ne]; omega
        have HML : Hid (0 < (bs.getD k bx0).mails.length) := hml
        have HG : Hid (∀ (ys : List BxA) (h : k < ys.length), ys.map BxA.b = bs → ys[k].b = bs.getD k bx0) := fun ys h e => by
          rw [← e, List.getD_eq_getElem?_getD, List.getElem?_map, List.getElem?_eq_getElem h]; rfl
        have HHE : Hid (∀ x : MlA, ∀ rest : List MlA, (bs.getD k bx0).mails = x.m :: rest.map (·.m) → x.m = (bs.getD k bx0).mails.headD ml0 ∧ (bs.getD k bx0).mails.tail = rest.map (·.m)) := fun x rest h => by rw [h]; exact ⟨rfl, rfl⟩
        generalize hmle : (bs.getD k bx0).mails.length = ml at *
        have HMLE := Lib.hid hmle
        clear hmle
        go_enter Tryz.func17, Tryz.ntmps17
        go_wp2_with fail
        refine HV0.out.mono ?_
        rintro e w1 ⟨rfl, hb1⟩
        have hb01 := nx hA0 hb1
        go_wp2_with fail
        refine (HF1.out _ hb01).mono ?_
        rintro e w2 ⟨rfl, hb2⟩
        have hb02 := nx hb01 hb2
        have hb12 := nx hb1 hb2
        obtain ⟨b1, o1, a1, c1, rfl, p1⟩ := HR1.out w2 hb02
        go_wp2_with fail
        refine (HC1.out _ hb02).mono ?_
        rintro e w4 ⟨v4, ys, rfl, hys, hO, hb4⟩
        obtain ⟨a4, c4, hv4, _⟩ := hO.1.read bxC_len
        have hyl : ys.length = n := by rw [← HL.out, ← hys, List.length_map]
        rw [hyl] at hv4
        subst hv4
        have hky : k < ys.length := by rw [hyl]; exact hkn
        have hyb := HG.out ys hky hys
        obtain ⟨y, hy⟩ : ∃ y, ys[k] = y := ⟨_, rfl⟩
        rw [hy] at hyb
        have hyx : y.xs.length = ml := by rw [← HMLE.out, ← hyb]; unfold BxA.b; simp
        obtain ⟨x, rest, hxr⟩ : ∃ x rest, y.xs = x :: rest := by
          cases hc : y.xs with
          | nil => rw [hc] at hyx; simp at hyx; omega
          | cons x rest => exact ⟨x, rest, rfl⟩
        have hmm : (bs.getD k bx0).mails = x.m :: rest.map (·.m) := by rw [← hyb]; unfold BxA.b; rw [hxr]; rfl
        obtain ⟨hh1, hh2⟩ := HHE.out x rest hmm
        obtain ⟨g4, rfl⟩ : ∃ g, a4 = some ⟨g, 0, none⟩ := by
          rcases hO.1.2 with ⟨_, h0⟩ | ⟨g, cap, cur, hv, _⟩
          · exfalso; omega
          · injection hv with e1 _ _; exact ⟨g, e1⟩
        have hymo : OwnMs w2.heap.size (.slice y.a y.xs.length y.c) y.xs w4 := hO.2.1 y (hy ▸ List.getElem_mem hky)
        obtain ⟨gm, hgm⟩ : ∃ g, y.a = some ⟨g, 0, none⟩ := by
          rcases hymo.1.2 with ⟨_, h0⟩ | ⟨g, cap, cur, hv, _⟩
          · exfalso; rw [hxr] at h0; simp at h0
          · injection hv with e1 _ _; exact ⟨g, e1⟩
        have hgl : gm < w4.heap.size := (hymo.1.lt gm (by rw [hgm]; rfl)).2
        have HY4 : Hid (OwnMs w2.heap.size (.slice (some ⟨gm, 0, none⟩) ml y.c) (x :: rest) w4) := by
          have h := hymo
          show OwnMs _ _ _ _
          rw [hgm, hyx, hxr] at h; exact h
        obtain ⟨⟨r0, r1, r2⟩, _, _⟩ := HY4.out.cellsK (k := 0) (by simp) rfl
        obtain ⟨⟨p0, p2⟩, _, _⟩ := hO.cellsK hky hy
        rw [hgm, hyx] at p2
        have HO4 := Lib.hid hO
        have HYS := Lib.hid hys
        have HH1 := Lib.hid hh1
        have HH2 := Lib.hid hh2
        have HKY := Lib.hid hky
        have HY := Lib.hid hy
        have HXR := Lib.hid hxr
        have HYX := Lib.hid hyx
        have HGM := Lib.hid hgm
        have HYB := Lib.hid hyb
        have hb04 := nx hb02 hb4
        have hs24 := hb4.size
        have hmi : (0 : Int) < (ml : Int) := by omega
        clear hO hys hyb hh1 hh2 hmm hymo hyl hy hxr hyx hgm p1 hm
        go_upto_region 8 with fail
        have hA5 : Below w4.heap.size w4 (w4.alloc (.cells #[.string (str x.m.frm), .slice x.a1 x.m.to.length x.c1, .slice x.a2 x.m.lines.length x.c2] 33)) := (Below.refl _ _).alloc (Nat.le_refl _) _
        have HT5 := Lib.hid (MF3.new w4 (.string (str x.m.frm)) (.slice x.a1 x.m.to.length x.c1) (.slice x.a2 x.m.lines.length x.c2) 33)
        clear r0 r1 r2 p0 p2
        have HO5 := Lib.hid (HO4.out.keep hA5)
        have HY5 := Lib.hid (HY4.out.keep hA5)
        have hb05 := nx hb04 hA5
        have hb15 := nx (nx hb12 hb4) hA5
        have hgs : w4.heap.size < (w4.alloc (.cells #[.string (str x.m.frm), .slice x.a1 x.m.to.length x.c1, .slice x.a2 x.m.lines.length x.c2] 33)).heap.size := by simp
        clear hA5 hb4
        generalize w4.alloc (.cells #[.string (str x.m.frm), .slice x.a1 x.m.to.length x.c1, .slice x.a2 x.m.lines.length x.c2] 33) = W5 at *
        obtain ⟨⟨p0, p2⟩, _⟩ := rowB_cells HO5.out.1 HKY.out HY.out
        rw [HGM.out, HYX.out] at p2
        have HD5 : Hid (Calls Tryz.prog 59 #[.slice (some ⟨gm, 0, none⟩) ml y.c, .int .i64 0, .int .i64 1] W5 fun e w' => e = .returned (.slice (some ⟨gm, 0, none⟩) rest.length y.c) ∧ OwnMs w2.heap.size (.slice (some ⟨gm, 0, none⟩) rest.length y.c) rest w' ∧ OwnM w2.heap.size w' x ∧ Only (some gm) W5 w') := delM_any w2.heap.size (some ⟨gm, 0, none⟩) ml y.c x rest W5 HY5.out
        go_wp2_with fail
        refine HD5.out.mono ?_
        rintro e w6 ⟨rfl, hr6, hm6, ho6⟩
        have hg4gm : some gm ≠ some g4 := fun e => by
          injection e with e
          exact own_row_mails HO5.out (List.getElem_mem HKY.out) (g := gm) (by rw [e]; rfl) (.inl (by rw [HY.out, HGM.out]; rfl))
        have HROW : Hid (OwnR 78 2 bxC w2.heap.size (.slice (some ⟨g4, 0, none⟩) n c4) ys w6) := HO5.out.1.turned (P := fun q => q = gm) (Turn.only ho6 (fun q hq => by injection hq with hq; exact hq.symm)) (fun q hq e => by
          injection hq with hq
          have hq' : g4 = q := hq
          exact hg4gm (by rw [hq', e]))
        have HTK : Hid (OwnBs w2.heap.size (.slice (some ⟨g4, 0, none⟩) n c4) (ys.set k (y.row' rest y.a y.c)) (w6.setCell ⟨g4, k * 2 + 1, none⟩ (.slice (some ⟨gm, 0, none⟩) rest.length y.c)) ∧ OwnM w2.heap.size (w6.setCell ⟨g4, k * 2 + 1, none⟩ (.slice (some ⟨gm, 0, none⟩) rest.length y.c)) x ∧ (∀ q, blkB (.slice (some ⟨g4, 0, none⟩) n c4) (ys.set k (y.row' rest y.a y.c)) q → ¬ blk1 x q)) := by
          have h := OwnBs.took (rest := rest) (x := x) (w' := w6) HO5.out HKY.out HY.out HXR.out (by rw [HGM.out]; exact hr6) hm6 (by rw [HGM.out]; exact ho6)
          rw [HGM.out] at h ⊢
          exact h
        have HT6 := Lib.hid (HT5.out.only ho6 (fun e => by injection e with e; omega))
        have hgB : w2.heap.size ≤ g4 ∧ g4 < w4.heap.size := HO4.out.1.lt g4 rfl
        have hgmB : w2.heap.size ≤ gm := (HY4.out.1.lt gm rfl).1
        have HR6 : Hid (MF3 w6 w.heap.size (.string ⟨#[]⟩) (.slice none 0 0) (.slice none 0 0)) := (HR0.out.below hb15).only ho6 (fun e => by
          injection e with e
          have := hb02.size
          have := hb12.size
          omega)
        have hb06 : Below w.heap.size w w6 := hb05.trans (ho6.below (fun q hq => by injection hq with hq; have := hb02.size; omega) hb05.size)
        have HMAP : Hid ((ys.set k (y.row' rest y.a y.c)).map BxA.b = bs.set k ⟨(bs.getD k bx0).path, (bs.getD k bx0).mails.tail⟩) := by
          show _ = _
          rw [List.map_set, HYS.out, HH2.out, ← HYB.out]; rfl
        clear p0 p2 hr6 hm6 ho6 hg4gm HD5
        obtain ⟨⟨p0, p2⟩, pf⟩ := rowB_cells HROW.out HKY.out HY.out
        rw [HGM.out, HYX.out] at p2
        go_upto_region 9 with fail
        clear p0 p2 pf
        have HT7 := Lib.hid (HT6.out.off (h := g4) (i := k * 2 + 1) (by omega) (.slice (some ⟨gm, 0, none⟩) rest.length y.c))
        have hRw : w.heap.size < w2.heap.size := by have := hb12.size; rw [hz0] at this; omega
        have HR7 := Lib.hid (HR6.out.off (h := g4) (i := k * 2 + 1) (by omega) (.slice (some ⟨gm, 0, none⟩) rest.length y.c))
        have hb07 : Below w.heap.size w (w6.setCell ⟨g4, k * 2 + 1, none⟩ (.slice (some ⟨gm, 0, none⟩) rest.length y.c)) := hb06.setCell (by show w.heap.size ≤ g4; omega) _
        have hTR : w4.heap.size ≠ w.heap.size := by omega
        clear HT6 HR6 hb06 HROW
        generalize w6.setCell ⟨g4, k * 2 + 1, none⟩ (.slice (some ⟨gm, 0, none⟩) rest.length y.c) = w7 at *
        have HFIN : Hid (∀ w', OwnBs w2.heap.size (.slice (some ⟨g4, 0, none⟩) n c4) (ys.set k (y.row' rest y.a y.c)) w' → OwnM w2.heap.size w' x → Below w.heap.size w w' → TakeRet TB TM ok w (.returned (.tuple #[.slice (some ⟨g4, 0, none⟩) n c4, .agg #[.string (str x.m.frm), .slice x.a1 x.m.to.length x.c1, .slice x.a2 x.m.lines.length x.c2], .bool true])) w') := fun w' k1 k2 k3 => HE.out _ _ x w' HMAP.out HH1.out (k1.base (by omega)) (k2.base (by omega)) HTK.out.2.2 k3
        have HX7 := Lib.hid HTK.out.1
        have HM7 := Lib.hid HTK.out.2.1
        clear HTK HE HMAP HH1 HH2 HYB HYS HG HHE HO4 HO5 HY4 HY5 HT5
        generalize str x.m.frm = xs0 at *
        generalize x.m.to.length = xn at *
        generalize x.m.lines.length = xk at *
        obtain ⟨⟨q0, q1, q2⟩, qf⟩ := HR7.out
        obtain ⟨⟨t0, t1, t2⟩, tf⟩ := HT7.out
        generalize w4.heap.size = TT at *
        go_region
        all_goals
          go_wp2
          refine bodyPost_ret (v := .tuple #[.slice (some ⟨g4, 0, none⟩) n c4, .agg #[.string xs0, .slice x.a1 xn x.c1, .slice x.a2 xk x.c2], .bool true]) (by simp [results, Tryz.results17, go_sem, q0, q1, q2]) rfl ?_
          exact HFIN.out _ (((HX7.out.low hRw _).low hRw _).low hRw _) (((HM7.out.low' hRw _).low' hRw _).low' hRw _) ((((hb07.setCell (Nat.le_refl _) _).setCell (Nat.le_refl _) _).setCell (Nat.le_refl _) _).drew)
end Go.Proofs.YtombejhpfobehaaGreatDoor
end

section
namespace Go.Proofs.YtombejhpfobehaaGreatDoor
open Go.RowKit

/-- Boxes and a mail to be copied once more. -/
def TakeRaw (bs : List Bx) (m : Ml) (ok : Bool) (w : World) (e : Ending) (w' : World) : Prop := ∃ (a : Option Addr) (n c : Nat) (ys : List BxA) (x : MlA), e = .returned (.tuple #[.slice a n c, .agg #[.string (str x.m.frm), .slice x.a1 x.m.to.length x.c1, .slice x.a2 x.m.lines.length x.c2], .bool ok]) ∧ ys.map BxA.b = bs ∧ x.m = m ∧ ys.length = n ∧ n ≤ 1000000 ∧ RdBs 1000000 w' a ys ∧ RdM 1048576 w' x ∧ Below w.heap.size w w'
theorem takeRaw_no {p : List UInt8} {bs : List Bx} {w w' : World} (h : takeAt p bs = none) (g : Nat) (hb : Below w.heap.size w w') : TakeRaw (takeBs p bs) (takeMl p bs) (takeAt p bs).isSome w (.returned (.tuple #[.slice (some ⟨g, 0, none⟩) 0 0, .agg #[.string ⟨#[]⟩, .slice none 0 0, .slice none 0 0], .bool false])) w' := by
  rw [h, takeBs_no h, takeMl_no h]
  exact ⟨some ⟨g, 0, none⟩, 0, 0, [], ⟨ml0, none, 0, none, 0⟩, rfl, rfl, rfl, rfl, by omega, ⟨⟨rfl, .inl rfl⟩, fun x hx => by cases hx⟩, (ownM_nil 0 w').rd ⟨Nat.zero_le _, Nat.zero_le _, (fun x hx => by cases hx), Nat.zero_le _, (fun x hx => by cases hx)⟩, hb⟩
set_option maxRecDepth 100000 in
set_option maxHeartbeats 400000 in
/-- Several mails behind a row of the call's own, whose mails may share rows. -/
theorem wpList_append_Mm {ops : Array Oper} {rest : List Oper} {o : Oper} {Q : Exit → Act → World → Prop} {a : Act} {w : World} (hg : Region.wanted o (yielded ops a.tmps) = true) (s x : Operand)
    (ho : o.op = .call { callee := .builtin .append, args := #[s, x], argTypes := #[58, 58] })
    (B : Nat) (v : Value) (xs ys : List MlA) (ad : Addr) (m c : Nat) (hs : a.eval s = v) (hx : a.eval x = .slice (some ad) m c) (hown1 : OwnR 33 3 mlC B v xs w) (hm : ys.length = m) (hc : ∀ j u, (ys.flatMap mlC)[j]? = some u → w.cell? (ad.add j) = some u) (hB : B ≤ w.heap.size) (hl : xs.length + m ≤ 1000000)
    (h : ∀ v' w', OwnR 33 3 mlC B v' (xs ++ ys) w' → Only v.ownBlock w w' → (v'.ownBlock = v.ownBlock ∨ v'.ownBlock = some w.heap.size) → wpList Tryz.prog ops Q rest (a.put o.dst v') w') : wpList Tryz.prog ops Q (o :: rest) a w := by
  obtain ⟨i0, hi, hz0, hz1, hz2⟩ := info_parts mlInfoC
  refine wpList_unguardL hg ?_
  unfold OwnR at hown1
  refine wpList_append_own_at w rfl s x 58 ho B 33 i0 (.agg #[.string ⟨#[]⟩, .slice none 0 0, .slice none 0 0]) 3 64 Tryz.underlying58 hi hz0 hz1 hz2 rfl (by decide) v xs.length (xs.flatMap mlC) hs hown1 ad m c (ys.flatMap mlC) hx (by rw [flat_len mlC 3 mlC_len, hm]) hc ?_ ?_ ?_ hB ?_
  · intro z hz
    obtain ⟨y, _, hy⟩ := List.mem_flatMap.1 hz
    exact mlC_one y z hy
  · unfold maxLen; omega
  · omega
  · intro v' w' ho' hgr _ hat
    refine h v' w' ?_ (Only.of_grown hgr) hat
    unfold OwnR
    rw [List.length_append, hm, List.flatMap_append]; exact ho'
/-- A box gets another row of its own mails but the first. -/
theorem OwnBs.reRow {B g c n k : Nat} {xs : List BxA} {w w' : World} {y : BxA} {x : MlA} {rest : List MlA} {a8 : Option Addr} {c8 : Nat} (E : Nat) (h : OwnBs B (.slice (some ⟨g, 0, none⟩) n c) xs w) (hk : k < xs.length) (hy : xs[k] = y) (hx : y.xs = x :: rest)
    (hE : w.heap.size ≤ E) (hr : OwnR 33 3 mlC E (.slice a8 rest.length c8) rest w') (hb : Below w.heap.size w w') :
    OwnBs B (.slice (some ⟨g, 0, none⟩) n c) (xs.set k (y.row' rest a8 c8)) (w'.setCell ⟨g, k * 2 + 1, none⟩ (.slice a8 rest.length c8)) ∧ OwnM B (w'.setCell ⟨g, k * 2 + 1, none⟩ (.slice a8 rest.length c8)) x := by
  have hky := List.getElem_mem hk
  rw [hy] at hky
  have hyo := h.2.1 y hky
  have hBw : B ≤ w.heap.size := by
    have := h.1.lt g rfl
    omega
  have hap : ∀ j (hj : j < xs.length), j ≠ k → ApB y xs[j] := fun j hj hne => by
    have hp := List.pairwise_iff_getElem.1 h.2.2
    rw [← hy]
    rcases Nat.lt_or_ge k j with h1 | h1
    · exact hp k j hk hj h1
    · exact (hp j k hj hk (by omega)).symm
  have hxy : x ∈ y.xs := by rw [hx]; exact List.mem_cons_self
  have hrx : ∀ z ∈ rest, z ∈ y.xs := fun z hz => by rw [hx]; exact List.mem_cons_of_mem _ hz
  have hp2 : rest.Pairwise ApM := by
    have := hyo.2.2
    rw [hx] at this
    exact (List.pairwise_cons.1 this).2
  refine ⟨OwnBs.setRow (h.1.keep hb) hk hy (fun j hj hne => (h.2.1 _ (List.getElem_mem hj)).keep hb) ⟨hr.base (by omega), fun z hz => (hyo.2.1 z (hrx z hz)).keep hb, hp2⟩ h.2.2 (fun j hj hne => ⟨fun q hq hq' => ?_, fun m hm m' hm' => (hap j hj hne).2 m (hrx m hm) m' hm'⟩), ?_⟩
  · have h1 := (hr.lt q hq).1
    have h2 := ((h.2.1 _ (List.getElem_mem hj)).1.lt q hq').2
    omega
  · refine ((hyo.2.1 x hxy).keep hb).turned ((Turn.refl (fun q => q = g) w').setCell (show g = g from rfl) _) (fun q hq e => ?_)
    subst e
    exact own_row_mails h hky (g := q) rfl (.inr ⟨x, hxy, hq⟩)
set_option maxRecDepth 100000 in
set_option maxHeartbeats 4000000 in
theorem rawTakeMail_any (M : Nat) (a : Option Addr) (n c : Nat) (xs : List BxA) (p : List UInt8) (w : World) (hx : xs.length = n) (h1 : RdBs M w a xs) (hM : M ≤ 1073741000) (hn : n ≤ 1073741000) :
    Calls Tryz.prog 57 #[.slice a n c, .string (str p)] w (TakeRaw (takeBs p (xs.map BxA.b)) (takeMl p (xs.map BxA.b)) (takeAt p (xs.map BxA.b)).isSome w) := by
  have hA0 : Below w.heap.size w (w.alloc (.cells #[.string ⟨#[]⟩, .slice none 0 0, .slice none 0 0] 33)) := (Below.refl _ _).alloc (Nat.le_refl _) _
  have HR0 := Lib.hid (MF3.new w (.string ⟨#[]⟩) (.slice none 0 0) (.slice none 0 0) 33)
  have hz0 : (w.alloc (.cells #[.string ⟨#[]⟩, .slice none 0 0, .slice none 0 0] 33)).heap.size = w.heap.size + 1 := by simp
  have HV : Hid (∀ u, Below w.heap.size w u → Calls Tryz.prog 86 #[.slice a n c] u fun e w' => e = .returned (.bool (isBxs (xs.map BxA.b))) ∧ Below u.heap.size u w') := fun u hb => boxesValidS_any M a n c xs u hx (h1.below hb) hM hn
  have HF : Hid (∀ u, Below w.heap.size w u → Calls Tryz.prog 88 #[.slice a n c, .string (str p)] u fun e w' => e = .returned (.int .i64 (fndI (fndP p ((xs.map BxA.b).map (·.path))))) ∧ Below u.heap.size u w') := fun u hb => by
    have := l11Find_any M a n c xs p u hx (h1.below hb) hn
    rw [show (xs.map BxA.b).map (·.path) = xs.map (·.path) by rw [List.map_map]; rfl]; exact this
  have HC : Hid (isBxs (xs.map BxA.b) = true → ∀ u, Below w.heap.size w u → Calls Tryz.prog 89 #[.slice a n c] u (BxsRet (xs.map BxA.b) u)) := fun hq u hb => by
    have h8 := (isBxs_upBx hq).2.1
    rw [List.length_map] at h8
    exact l11Copy_any a n c xs u hx ((h1.below hb).up (fun x hx => (isBxs_small hq x.b (List.mem_map_of_mem hx)).up (by omega))) (by omega)
  have HL : Hid ((xs.map BxA.b).length = n) := by show _ = _; rw [List.length_map]; exact hx
  have HRD : Hid (∀ k (hk : k < (xs.map BxA.b).length) u, Below w.heap.size w u → ∃ b1 o1 a1 c1, a = some ⟨b1, o1, none⟩ ∧ u.cell? ⟨b1, o1 + k * 2 + 1, none⟩ = some (.slice a1 ((xs.map BxA.b).getD k bx0).mails.length c1)) := fun k hk u hu => by
    have hkx : k < xs.length := by simpa using hk
    obtain ⟨b1, o1, ha, _, _, p1, _⟩ := (h1.below hu).at hkx
    refine ⟨b1, o1, xs[k].a, xs[k].c, ha, ?_⟩
    rw [p1]
    have : (xs.map BxA.b).getD k bx0 = xs[k].b := by rw [List.getD_eq_getElem?_getD, List.getElem?_map, List.getElem?_eq_getElem hkx]; rfl
    rw [this]; unfold BxA.b; simp
  clear h1 hM hx
  obtain ⟨bs, hbs⟩ : ∃ bs, bs = xs.map BxA.b := ⟨_, rfl⟩
  rw [← hbs] at HV HF HC HL HRD ⊢
  clear hbs
  have HNO := Lib.hid (fun (h : takeAt p bs = none) (w' : World) (g : Nat) (hb : Below w.heap.size w w') => takeRaw_no h g hb)
  obtain ⟨S, hS⟩ : ∃ S, S = str p := ⟨_, rfl⟩
  rw [← hS] at HF ⊢
  clear hS
  cases hq : isBxs bs with
  | false =>
    have HN := Lib.hid (HNO.out (takeAt_no1 hq))
    rw [hq] at HV
    clear hq HNO HC HRD
    generalize fndI (fndP p (bs.map (·.path))) = K at *
    generalize takeBs p bs = TB at *
    generalize takeMl p bs = TM at *
    generalize (takeAt p bs).isSome = ok at *
    go_enter Tryz.func57, Tryz.ntmps57
    go_wp2_with fail
    refine (HF.out _ hA0).mono ?_
    rintro e w1 ⟨rfl, hb1⟩
    have hb01 := nx hA0 hb1
    have HVx := HV.out w1 hb01
    clear HV
    go_wp2_with fail
    refine HVx.mono ?_
    rintro e w2 ⟨rfl, hb2⟩
    obtain ⟨⟨q0, q1, q2⟩, qf⟩ := HR0.out.below (nx hb1 hb2)
    have hb02 := nx hb01 hb2
    have hlz : w.heap.size < w2.heap.size := by have := (nx hb1 hb2).size; rw [hz0] at this; omega
    have HMZ := ((((HR0.out.below (nx hb1 hb2)).set0 (.string ⟨#[]⟩)).set1 (.slice none 0 0)).set2 (.slice none 0 0)).below ((Below.refl _ _).alloc (Nat.le_refl _) (.cells #[] 78))
    obtain ⟨⟨z0, z1, z2⟩, _⟩ := HMZ
    go_wp2
    refine bodyPost_ret (v := .tuple #[.slice (some ⟨w2.heap.size, 0, none⟩) 0 0, .agg #[.string ⟨#[]⟩, .slice none 0 0, .slice none 0 0], .bool false]) (by simp [results, Tryz.results57, go_sem, z0, z1, z2]) rfl ?_
    exact HN.out _ _ ((((hb02.setCell (Nat.le_refl _) _).setCell (Nat.le_refl _) _).setCell (Nat.le_refl _) _).alloc (by simpa [World.setCell] using hb02.size) _)
  | true =>
    have HC1 := Lib.hid (HC.out hq)
    rw [hq] at HV
    cases hf : fndP p (bs.map (·.path)) with
    | none =>
      have HN := Lib.hid (HNO.out (takeAt_no2 hf))
      have hI : fndI (fndP p (bs.map (·.path))) = -1 := by rw [hf]; rfl
      rw [hI] at HF
      clear hq hf HNO HC HC1 HRD hI
      generalize takeBs p bs = TB at *
      generalize takeMl p bs = TM at *
      generalize (takeAt p bs).isSome = ok at *
      go_enter Tryz.func57, Tryz.ntmps57
      go_wp2_with fail
      refine (HF.out _ hA0).mono ?_
      rintro e w1 ⟨rfl, hb1⟩
      have hb01 := nx hA0 hb1
      have HVx := HV.out w1 hb01
      clear HV
      go_wp2_with fail
      refine HVx.mono ?_
      rintro e w2 ⟨rfl, hb2⟩
      obtain ⟨⟨q0, q1, q2⟩, qf⟩ := HR0.out.below (nx hb1 hb2)
      have hb02 := nx hb01 hb2
      have hlz : w.heap.size < w2.heap.size := by have := (nx hb1 hb2).size; rw [hz0] at this; omega
      have HMZ := ((((HR0.out.below (nx hb1 hb2)).set0 (.string ⟨#[]⟩)).set1 (.slice none 0 0)).set2 (.slice none 0 0)).below ((Below.refl _ _).alloc (Nat.le_refl _) (.cells #[] 78))
      obtain ⟨⟨z0, z1, z2⟩, _⟩ := HMZ
      go_wp2
      refine bodyPost_ret (v := .tuple #[.slice (some ⟨w2.heap.size, 0, none⟩) 0 0, .agg #[.string ⟨#[]⟩, .slice none 0 0, .slice none 0 0], .bool false]) (by simp [results, Tryz.results57, go_sem, z0, z1, z2]) rfl ?_
      exact HN.out _ _ ((((hb02.setCell (Nat.le_refl _) _).setCell (Nat.le_refl _) _).setCell (Nat.le_refl _) _).alloc (by simpa [World.setCell] using hb02.size) _)
    | some k =>
      have hI : fndI (fndP p (bs.map (·.path))) = (k : Int) := by rw [hf]; rfl
      rw [hI] at HF
      have hkb : k < bs.length := by obtain ⟨h, _⟩ := fndP_some hf; simpa using h
      have hkn : k < n := by have := HL.out; omega
      have HR1 := Lib.hid (HRD.out k hkb)
      have hkn' : (k : Int) < (n : Int) := by omega
      have hk0 : (0 : Int) ≤ (k : Int) := by omega
      have hk1 : ¬ ((k : Int) < 0) := by omega
      by_cases hm : (bs.getD k bx0).mails = []
      · have HN := Lib.hid (HNO.out (takeAt_no3 hf hm))
        rw [hm] at HR1
        clear hq hf HNO HC HC1 HRD hI hm
        generalize takeBs p bs = TB at *
        generalize takeMl p bs = TM at *
        generalize (takeAt p bs).isSome = ok at *
        go_enter Tryz.func57, Tryz.ntmps57
        go_wp2_with fail
        refine (HF.out _ hA0).mono ?_
        rintro e w1 ⟨rfl, hb1⟩
        have hb01 := nx hA0 hb1
        have HVx := HV.out w1 hb01
        clear HV
        go_wp2_with fail
        refine HVx.mono ?_
        rintro e w2 ⟨rfl, hb2⟩
        obtain ⟨b1, o1, a1, c1, rfl, p1⟩ := HR1.out w2 (nx hb01 hb2)
        replace p1 : w2.cell? ⟨b1, o1 + k * 2 + 1, none⟩ = some (.slice a1 0 c1) := p1
        obtain ⟨⟨q0, q1, q2⟩, qf⟩ := HR0.out.below (nx hb1 hb2)
        have hb02 := nx hb01 hb2
        have hlz : w.heap.size < w2.heap.size := by have := (nx hb1 hb2).size; rw [hz0] at this; omega
        have HMZ := ((((HR0.out.below (nx hb1 hb2)).set0 (.string ⟨#[]⟩)).set1 (.slice none 0 0)).set2 (.slice none 0 0)).below ((Below.refl _ _).alloc (Nat.le_refl _) (.cells #[] 78))
        obtain ⟨⟨z0, z1, z2⟩, _⟩ := HMZ
        go_wp2
        refine bodyPost_ret (v := .tuple #[.slice (some ⟨w2.heap.size, 0, none⟩) 0 0, .agg #[.string ⟨#[]⟩, .slice none 0 0, .slice none 0 0], .bool false]) (by simp [results, Tryz.results57, go_sem, z0, z1, z2]) rfl ?_
        exact HN.out _ _ ((((hb02.setCell (Nat.le_refl _) _).setCell (Nat.le_refl _) _).setCell (Nat.le_refl _) _).alloc (by simpa [World.setCell] using hb02.size) _)
      · have hta := takeAt_yes hq hf hm
        have hbm : bs.getD k bx0 ∈ bs := by rw [List.getD_eq_getElem?_getD, List.getElem?_eq_getElem hkb]; exact List.getElem_mem hkb
        have hbs2 := isBxs_small hq _ hbm
        have HSB : Hid (∀ b ∈ bs.set k ⟨(bs.getD k bx0).path, (bs.getD k bx0).mails.tail⟩, SmallBx 1000000 b) := fun b hb => by
          rcases List.mem_or_eq_of_mem_set hb with hb | rfl
          · exact (isBxs_small hq b hb).up (by omega)
          · exact ⟨by have := hbs2.1; show (bs.getD k bx0).path.length ≤ _; omega, by have := hbs2.2.1; show (bs.getD k bx0).mails.tail.length ≤ _; rw [List.length_tail]; omega, fun m hm => (hbs2.2.2 m (List.mem_of_mem_tail hm)).up (by omega)⟩
        have HSX : Hid (∀ x : MlA, x.m ∈ (bs.getD k bx0).mails → SmallM 1048576 x.m) := fun x hx => (hbs2.2.2 x.m hx).up (by omega)
        have HE : Hid (∀ (a9 : Option Addr) (c9 : Nat) (ys : List BxA) (x : MlA) (w' : World) (B : Nat), ys.map BxA.b = bs.set k ⟨(bs.getD k bx0).path, (bs.getD k bx0).mails.tail⟩ → x.m = (bs.getD k bx0).mails.headD ml0 → x.m ∈ (bs.getD k bx0).mails → ys.length = n → n ≤ 1000000 → OwnBs B (.slice a9 n c9) ys w' → OwnM B w' x → Below w.heap.size w w' → TakeRaw (takeBs p bs) (takeMl p bs) (takeAt p bs).isSome w (.returned (.tuple #[.slice a9 n c9, .agg #[.string (str x.m.frm), .slice x.a1 x.m.to.length x.c1, .slice x.a2 x.m.lines.length x.c2], .bool true])) w') := fun a9 c9 ys x w' B k1 k2 k2' k3 k4 k5 k6 k7 => ⟨a9, n, c9, ys, x, by rw [hta]; rfl, by unfold takeBs; rw [hta]; exact k1, by unfold takeMl; rw [hta]; exact k2, k3, k4, (k5.rd (fun z hz => HSB.out z.b (k1 ▸ List.mem_map_of_mem hz))).1, k6.rd (HSX.out x k2'), k7⟩
        have hn8 : n ≤ 1000000 := by have := (isBxs_upBx hq).2.1; have := HL.out; omega
        have hml : 0 < (bs.getD k bx0).mails.length := List.length_pos_iff.2 hm
        have hml2 : (bs.getD k bx0).mails.length ≤ 1000000 := by
          have : bs.getD k bx0 ∈ bs := by rw [List.getD_eq_getElem?_getD, List.getElem?_eq_getElem hkb]; exact List.getElem_mem hkb
          have := (isBxs_small hq _ this).2.1
          omega
        clear hq hf HNO HC HRD hI hta hbm hbs2
        generalize takeBs p bs = TB at *
        generalize takeMl p bs = TM at *
        generalize (takeAt p bs).isSome = ok at *
        have e0 : (((bs.getD k bx0).mails.length : Int) == 0) = false := by rw [beq_eq_false_iff_ne]; omega
        have HML : Hid (0 < (bs.getD k bx0).mails.length) := hml
        have HG : Hid (∀ (ys : List BxA) (h : k < ys.length), ys.map BxA.b = bs → ys[k].b = bs.getD k bx0) := fun ys h e => by
          rw [← e, List.getD_eq_getElem?_getD, List.getElem?_map, List.getElem?_eq_getElem h]; rfl
        have HHE : Hid (∀ x : MlA, ∀ rest : List MlA, (bs.getD k bx0).mails = x.m :: rest.map (·.m) → x.m = (bs.getD k bx0).mails.headD ml0 ∧ (bs.getD k bx0).mails.tail = rest.map (·.m)) := fun x rest h => by rw [h]; exact ⟨rfl, rfl⟩
        generalize hmle : (bs.getD k bx0).mails.length = ml at *
        have HMLE := Lib.hid hmle
        clear hmle
        go_enter Tryz.func57, Tryz.ntmps57
        go_wp2_with fail
        refine (HF.out _ hA0).mono ?_
        rintro e w1 ⟨rfl, hb1⟩
        have hb01 := nx hA0 hb1
        have HVx := Lib.hid (HV.out w1 hb01)
        clear HV
        go_wp2_with fail
        refine HVx.out.mono ?_
        rintro e w2 ⟨rfl, hb2⟩
        have hb02 := nx hb01 hb2
        have hb12 := nx hb1 hb2
        obtain ⟨b1, o1, a1, c1, rfl, p1⟩ := HR1.out w2 hb02
        go_wp2_with fail
        refine (HC1.out _ hb02).mono ?_
        rintro e w4 ⟨v4, ys, rfl, hys, hO, hb4⟩
        obtain ⟨a4, c4, hv4, _⟩ := hO.1.read bxC_len
        have hyl : ys.length = n := by rw [← HL.out, ← hys, List.length_map]
        rw [hyl] at hv4
        subst hv4
        have hky : k < ys.length := by rw [hyl]; exact hkn
        have hyb := HG.out ys hky hys
        obtain ⟨y, hy⟩ : ∃ y, ys[k] = y := ⟨_, rfl⟩
        rw [hy] at hyb
        have hyx : y.xs.length = ml := by rw [← HMLE.out, ← hyb]; unfold BxA.b; simp
        obtain ⟨x, rest, hxr⟩ : ∃ x rest, y.xs = x :: rest := by
          cases hc : y.xs with
          | nil => rw [hc] at hyx; simp at hyx; omega
          | cons x rest => exact ⟨x, rest, rfl⟩
        have hmm : (bs.getD k bx0).mails = x.m :: rest.map (·.m) := by rw [← hyb]; unfold BxA.b; rw [hxr]; rfl
        obtain ⟨hh1, hh2⟩ := HHE.out x rest hmm
        obtain ⟨g4, rfl⟩ : ∃ g, a4 = some ⟨g, 0, none⟩ := by
          rcases hO.1.2 with ⟨_, h0⟩ | ⟨g, cap, cur, hv, _⟩
          · exfalso; omega
          · injection hv with e1 _ _; exact ⟨g, e1⟩
        have hymo : OwnMs w2.heap.size (.slice y.a y.xs.length y.c) y.xs w4 := hO.2.1 y (hy ▸ List.getElem_mem hky)
        obtain ⟨gm, hgm⟩ : ∃ g, y.a = some ⟨g, 0, none⟩ := by
          rcases hymo.1.2 with ⟨_, h0⟩ | ⟨g, cap, cur, hv, _⟩
          · exfalso; rw [hxr] at h0; simp at h0
          · injection hv with e1 _ _; exact ⟨g, e1⟩
        have hgl : gm < w4.heap.size := (hymo.1.lt gm (by rw [hgm]; rfl)).2
        have HY4 : Hid (OwnMs w2.heap.size (.slice (some ⟨gm, 0, none⟩) ml y.c) (x :: rest) w4) := by
          have h := hymo
          show OwnMs _ _ _ _
          rw [hgm, hyx, hxr] at h; exact h
        obtain ⟨⟨r0, r1, r2⟩, _, _⟩ := HY4.out.cellsK (k := 0) (by simp) rfl
        obtain ⟨⟨p0, p2⟩, _, _⟩ := hO.cellsK hky hy
        rw [hgm, hyx] at p2
        have HO4 := Lib.hid hO
        have HYS := Lib.hid hys
        have HH1 := Lib.hid hh1
        have HH3 : Hid (x.m ∈ (bs.getD k bx0).mails) := by show _ ∈ _; rw [hmm]; exact List.mem_cons_self
        have HH2 := Lib.hid hh2
        have HKY := Lib.hid hky
        have HY := Lib.hid hy
        have HXR := Lib.hid hxr
        have HYX := Lib.hid hyx
        have HGM := Lib.hid hgm
        have HYB := Lib.hid hyb
        have hb04 := nx hb02 hb4
        have hs24 := hb4.size
        have hmi : (0 : Int) < (ml : Int) := by omega
        clear hO hys hyb hh1 hh2 hmm hymo hyl hy hxr hyx hgm p1 hm
        go_upto_region 6 with fail
        have hA5 : Below w4.heap.size w4 (w4.alloc (.cells #[.string (str x.m.frm), .slice x.a1 x.m.to.length x.c1, .slice x.a2 x.m.lines.length x.c2] 33)) := (Below.refl _ _).alloc (Nat.le_refl _) _
        have HT5 := Lib.hid (MF3.new w4 (.string (str x.m.frm)) (.slice x.a1 x.m.to.length x.c1) (.slice x.a2 x.m.lines.length x.c2) 33)
        clear r0 r1 r2 p0 p2
        have HO5 := Lib.hid (HO4.out.keep hA5)
        have HY5 := Lib.hid (HY4.out.keep hA5)
        have hb05 := nx hb04 hA5
        have hb15 := nx (nx hb12 hb4) hA5
        have hgs : w4.heap.size < (w4.alloc (.cells #[.string (str x.m.frm), .slice x.a1 x.m.to.length x.c1, .slice x.a2 x.m.lines.length x.c2] 33)).heap.size := by simp
        clear hA5 hb4
        generalize w4.alloc (.cells #[.string (str x.m.frm), .slice x.a1 x.m.to.length x.c1, .slice x.a2 x.m.lines.length x.c2] 33) = W5 at *
        obtain ⟨⟨p0, p2⟩, _⟩ := rowB_cells HO5.out.1 HKY.out HY.out
        rw [HGM.out, HYX.out] at p2
        have hg4l : g4 < W5.heap.size := lt_of_cell p0
        have hrl : rest.length = ml - 1 := by have := HYX.out; rw [HXR.out, List.length_cons] at this; omega
        have hmlc : ml ≤ y.c := by
          rcases HY5.out.1.2 with ⟨e, _⟩ | ⟨g, cap, cur, hv, _, _, hnc, _⟩
          · cases e
          · injection hv with _ _ e3
            rw [e3, ← HYX.out, HXR.out]; exact hnc
        have hmlc' : (ml : Int) ≤ (y.c : Int) := by omega
        have h1ml : (1 : Int) ≤ (ml : Int) := by omega
        have hycm : y.c ≤ 9223372036854775807 := by
          rcases HY5.out.1.2 with ⟨e, _⟩ | ⟨g, cap, cur, hv, _, _, _, hcm, _⟩
          · cases e
          · injection hv with _ _ e3
            rw [e3]; unfold maxLen at hcm; omega
        have hAe : Below W5.heap.size W5 (W5.alloc (.cells #[] 33)) := (Below.refl _ _).alloc (Nat.le_refl _) _
        have hXc : ∀ j u, (rest.flatMap mlC)[j]? = some u → W5.cell? ⟨gm, 3 + j, none⟩ = some u := fun j u hu => by
          have hr := HY5.out.1
          unfold OwnR at hr
          have := hr.cells (g := gm) rfl (3 + j) u (by rw [List.flatMap_cons, List.getElem?_append_right (by rw [mlC_len]; omega), mlC_len]; rw [Nat.add_sub_cancel_left]; exact hu)
          rw [add0] at this; exact this
        obtain ⟨A, hA, hsrc⟩ : ∃ A : Addr, (if y.c = 1 then some (⟨gm, 0, none⟩ : Addr) else some ⟨gm, 3, none⟩) = some A ∧ Hid (∀ j u, (rest.flatMap mlC)[j]? = some u → (W5.alloc (.cells #[] 33)).cell? (A.add j) = some u) := by
          by_cases h : y.c = 1
          · refine ⟨⟨gm, 0, none⟩, by simp [h], fun t u hu => ?_⟩
            have h0 : rest = [] := List.eq_nil_of_length_eq_zero (by omega)
            rw [h0] at hu
            simp at hu
          · exact ⟨⟨gm, 3, none⟩, by simp [h], fun t u hu => by rw [Addr.add_lit]; exact (below_at hAe (lt_of_cell (hXc t u hu))).trans (hXc t u hu)⟩
        have HOE := Lib.hid (OwnR.empty 33 3 mlC W5)
        have HRL := Lib.hid hrl
        have HRN : Hid (([] : List MlA).length + (ml - 1) ≤ 1000000) := by show 0 + _ ≤ _; omega
        have hle : W5.heap.size ≤ (W5.alloc (.cells #[] 33)).heap.size := hAe.size
        have hzl : (W5.alloc (.cells #[] 33)).heap.size = W5.heap.size + 1 := by simp
        clear hXc hrl
        go_wp2_with (at_builtin; refine wpList_append_Mm rfl _ _ rfl W5.heap.size _ [] rest A (ml - 1) (y.c - 1) rfl rfl HOE.out HRL.out hsrc.out (by omega) HRN.out ?_)
        intro v8 w8 hO8 ho8 hat8
        obtain ⟨a8, c8, hv8, _⟩ := hO8.read mlC_len
        replace hv8 : v8 = .slice a8 rest.length c8 := hv8
        subst hv8
        have hb58 : Below W5.heap.size W5 w8 := hAe.trans (ho8.below (fun q hq => by injection hq with hq; have : W5.heap.size = q := hq; omega) hle)
        have HTK := Lib.hid (OwnBs.reRow (rest := rest) (x := x) (a8 := a8) (c8 := c8) W5.heap.size HO5.out HKY.out HY.out HXR.out (Nat.le_refl _) hO8 hb58)
        have HT6 := Lib.hid (HT5.out.below hb58)
        have hgB : w2.heap.size ≤ g4 ∧ g4 < w4.heap.size := HO4.out.1.lt g4 rfl
        have HR6 := Lib.hid (HR0.out.below (nx hb15 hb58))
        have hb06 : Below w.heap.size w w8 := nx hb05 hb58
        have HMAP : Hid ((ys.set k (y.row' rest a8 c8)).map BxA.b = bs.set k ⟨(bs.getD k bx0).path, (bs.getD k bx0).mails.tail⟩) := by
          show _ = _
          rw [List.map_set, HYS.out, HH2.out, ← HYB.out]; rfl
        have HLY : Hid ((ys.set k (y.row' rest a8 c8)).length = n) := by show _ = _; rw [List.length_set, ← HL.out, ← HYS.out, List.length_map]
        have q2 : w8.cell? ⟨g4, k * 2 + 1, none⟩ = some (.slice (some ⟨gm, 0, none⟩) ml y.c) := (below_at hb58 hg4l).trans p2
        have qf : w8.frozen? ⟨g4, k * 2 + 1, none⟩ = false := (below_fz hb58 hg4l).trans (rowB_cells HO5.out.1 HKY.out HY.out).2
        clear p0 p2 hO8 ho8 hat8 hA hsrc HOE HRN hAe hle hzl
        go_upto_region 7 with fail
        clear q2 qf
        have HT7 := Lib.hid (HT6.out.off (h := g4) (i := k * 2 + 1) (by omega) (.slice a8 rest.length c8))
        have hRw : w.heap.size < w2.heap.size := by have := hb12.size; rw [hz0] at this; omega
        have HR7 := Lib.hid (HR6.out.off (h := g4) (i := k * 2 + 1) (by omega) (.slice a8 rest.length c8))
        have hb07 : Below w.heap.size w (w8.setCell ⟨g4, k * 2 + 1, none⟩ (.slice a8 rest.length c8)) := hb06.setCell (by show w.heap.size ≤ g4; omega) _
        have hTR : w4.heap.size ≠ w.heap.size := by omega
        clear HT6 HR6 hb06 hb58
        generalize w8.setCell ⟨g4, k * 2 + 1, none⟩ (.slice a8 rest.length c8) = w7 at *
        have HFIN : Hid (∀ w', OwnBs w2.heap.size (.slice (some ⟨g4, 0, none⟩) n c4) (ys.set k (y.row' rest a8 c8)) w' → OwnM w2.heap.size w' x → Below w.heap.size w w' → TakeRaw TB TM ok w (.returned (.tuple #[.slice (some ⟨g4, 0, none⟩) n c4, .agg #[.string (str x.m.frm), .slice x.a1 x.m.to.length x.c1, .slice x.a2 x.m.lines.length x.c2], .bool true])) w') := fun w' k1 k2 k3 => HE.out _ _ _ x w' _ HMAP.out HH1.out HH3.out HLY.out hn8 k1 k2 k3
        have HX7 := Lib.hid HTK.out.1
        have HM7 := Lib.hid HTK.out.2
        clear HTK HE HMAP HH1 HH2 HH3 HLY HYB HYS HG HHE HO4 HO5 HY4 HY5 HT5 HSB HSX
        generalize str x.m.frm = xs0 at *
        generalize x.m.to.length = xn at *
        generalize x.m.lines.length = xk at *
        obtain ⟨⟨q0, q1, q2⟩, qf⟩ := HR7.out
        obtain ⟨⟨t0, t1, t2⟩, tf⟩ := HT7.out
        generalize w4.heap.size = TT at *
        go_region
        all_goals
          go_wp2
          refine bodyPost_ret (v := .tuple #[.slice (some ⟨g4, 0, none⟩) n c4, .agg #[.string xs0, .slice x.a1 xn x.c1, .slice x.a2 xk x.c2], .bool true]) (by simp [results, Tryz.results57, go_sem, q0, q1, q2]) rfl ?_
          exact HFIN.out _ (((HX7.out.low hRw _).low hRw _).low hRw _) (((HM7.out.low' hRw _).low' hRw _).low' hRw _) ((((hb07.setCell (Nat.le_refl _) _).setCell (Nat.le_refl _) _).setCell (Nat.le_refl _) _).drew)
set_option maxRecDepth 100000 in
set_option maxHeartbeats 4000000 in
theorem takeMailS_any (M : Nat) (a : Option Addr) (n c : Nat) (xs : List BxA) (p : List UInt8) (w : World) (hx : xs.length = n) (h1 : RdBs M w a xs) (hM : M ≤ 1073741000) (hn : n ≤ 1073741000) :
    Calls Tryz.prog 16 #[.slice a n c, .string (str p)] w (TakeRet (takeBs p (xs.map BxA.b)) (takeMl p (xs.map BxA.b)) (takeAt p (xs.map BxA.b)).isSome w) := by
  have hA0 : Below w.heap.size w (w.alloc (.cells #[.string ⟨#[]⟩, .slice none 0 0, .slice none 0 0] 33)) := (Below.refl _ _).alloc (Nat.le_refl _) _
  have HR0 := Lib.hid (MF3.new w (.string ⟨#[]⟩) (.slice none 0 0) (.slice none 0 0) 33)
  have hz0 : (w.alloc (.cells #[.string ⟨#[]⟩, .slice none 0 0, .slice none 0 0] 33)).heap.size = w.heap.size + 1 := by simp
  have HR := Lib.hid (rawTakeMail_any M a n c xs p _ hx (h1.below hA0) hM hn)
  clear h1 hx
  generalize takeBs p (xs.map BxA.b) = TB at *
  generalize takeMl p (xs.map BxA.b) = TM at *
  generalize (takeAt p (xs.map BxA.b)).isSome = ok at *
  go_enter Tryz.func16, Tryz.ntmps16
  go_wp2_with fail
  refine HR.out.mono ?_
  rintro e w1 ⟨a1, n1, c1, ys, x, rfl, hys, hxm, hyl, hn1, hrd, hrx, hb1⟩
  have HYS := Lib.hid hys
  have HXM := Lib.hid hxm
  have hb01 := nx hA0 hb1
  have HLB : Hid (∀ u, Below w1.heap.size w1 u → Calls Tryz.prog 46 #[.slice a1 n1 c1] u (BxsRet (ys.map BxA.b) u)) := fun u hu => ownListBox_any a1 n1 c1 ys u hyl (hrd.below hu) hn1
  have HLM : Hid (∀ u, Below w1.heap.size w1 u → Calls Tryz.prog 58 #[.agg #[.string (str x.m.frm), .slice x.a1 x.m.to.length x.c1, .slice x.a2 x.m.lines.length x.c2]] u (MalRet x.m u)) := fun u hu => ownMail_any x u (hrx.below hu)
  have hRl : w.heap.size < w1.heap.size := by have := hb1.size; rw [hz0] at this; omega
  have HR1 := Lib.hid (HR0.out.below hb1)
  have HFIN : Hid (∀ (v : Value) (zs : List BxA) (z : MlA) (w' : World), zs.map BxA.b = ys.map BxA.b → z.m = x.m → OwnBs w.heap.size v zs w' → OwnM w.heap.size w' z → (∀ g, blkB v zs g → ¬ blk1 z g) → Below w.heap.size w w' → TakeRet TB TM ok w (.returned (.tuple #[v, .agg #[.string (str z.m.frm), .slice z.a1 z.m.to.length z.c1, .slice z.a2 z.m.lines.length z.c2], .bool ok])) w') := fun v zs z w' k1 k2 k3 k4 k5 k6 => ⟨v, zs, z, rfl, k1.trans HYS.out, k2.trans HXM.out, k3, k4, k5, k6⟩
  clear hys hxm hrd hrx HR hyl HR0 hA0 hb1 hz0
  generalize str x.m.frm = xs0 at *
  generalize x.m.to.length = xn at *
  generalize x.m.lines.length = xk at *
  generalize x.a1 = xa at *
  generalize x.a2 = xb at *
  generalize x.c1 = xc at *
  generalize x.c2 = xd at *
  go_upto_region 2 with fail
  have hA : Below w1.heap.size w1 (w1.alloc (.cells #[.string xs0, .slice xa xn xc, .slice xb xk xd] 33)) := (Below.refl _ _).alloc (Nat.le_refl _) _
  have HT := Lib.hid (MK3.new w1 (.string xs0) (.slice xa xn xc) (.slice xb xk xd) 33)
  have HR2 := Lib.hid (HR1.out.below hA)
  have hb02 := nx hb01 hA
  generalize w1.alloc (.cells #[.string xs0, .slice xa xn xc, .slice xb xk xd] 33) = W0 at *
  clear HR1
  obtain ⟨y0, y1, y2⟩ := HT.out
  have hA' := hA
  go_region_with (first
    | (go_at_call 46
       refine (HLB.out _ (nx hA ((Below.refl _ _).drew))).mono ?_
       rintro e wa ⟨va, zs, rfl, hzs, hOa, hba⟩
       have hba0 : Below W0.heap.size W0 wa := nx ((Below.refl _ _).drew) hba
       have HZS := Lib.hid hzs
       have HOA := Lib.hid hOa
       obtain ⟨y0', y1', y2'⟩ := HT.out.below hba0
       clear hzs hOa)
    | (go_at_call 58
       refine (HLM.out _ (nx hA hba0)).mono ?_
       rintro e wb ⟨z, hzm, rfl, hOz, hbb⟩
       have HZM := Lib.hid hzm
       have HOZ := Lib.hid hOz
       obtain ⟨⟨q0, q1, q2⟩, qf⟩ := HR2.out.below (nx hba0 hbb)
       have hmV : mlV z = .agg #[.string (str z.m.frm), .slice z.a1 z.m.to.length z.c1, .slice z.a2 z.m.lines.length z.c2] := rfl
       rw [hmV]
       clear hzm hOz hmV))
  all_goals
    have hW0 : w.heap.size < W0.heap.size := Nat.lt_of_lt_of_le hRl hA'.size
    have HAP : Hid (∀ g, blkB va zs g → ¬ blk1 z g) := fun g h1 h2 => by
      have k1 := (HOA.out.lt h1).2
      have k2 := (HOZ.out.lt h2).1
      omega
    have HOB := Lib.hid (HOA.out.keep hbb)
    have hwa : w.heap.size < wa.heap.size := Nat.lt_of_lt_of_le hW0 hba0.size
    have hb0b := nx hb02 (nx hba0 hbb)
    go_wp2
    refine bodyPost_ret (v := .tuple #[va, .agg #[.string (str z.m.frm), .slice z.a1 z.m.to.length z.c1, .slice z.a2 z.m.lines.length z.c2], .bool ok]) (by simp [results, Tryz.results16, go_sem, q0, q1, q2]) rfl ?_
    exact HFIN.out va zs z _ HZS.out HZM.out ((((HOB.out.low (show w.heap.size < _ from hW0) _).low (show w.heap.size < _ from hW0) _).low (show w.heap.size < _ from hW0) _).base (Nat.le_of_lt hW0)) ((((HOZ.out.low' hwa _).low' hwa _).low' hwa _).base (Nat.le_of_lt hwa)) HAP.out (((hb0b.setCell (Nat.le_refl _) _).setCell (Nat.le_refl _) _).setCell (Nat.le_refl _) _)
end Go.Proofs.YtombejhpfobehaaGreatDoor
end

section
namespace Go.Proofs.YtombejhpfobehaaGreatDoor
open Go.RowKit

theorem MK3.turned {P : Nat → Prop} {w w' : World} {g : Nat} {v0 v1 v2 : Value} (h : MK3 w g v0 v1 v2) (t : Turn P w w') (hne : ¬ P g) : MK3 w' g v0 v1 v2 := by
  have e := t.block g (lt_of_cell h.1) hne
  have hc : ∀ o, w'.cell? ⟨g, o, none⟩ = w.cell? ⟨g, o, none⟩ := fun o => by unfold World.cell?; rw [e]
  exact ⟨(hc 0).trans h.1, (hc 1).trans h.2.1, (hc 2).trans h.2.2⟩
/-- A mail whose rows are marked. -/
def mkMm (q : Nat) (x : MlA) : MlA := (x.to' (marksFrom q x.m.to.length)).ln' (marksFrom (q + x.m.to.length) x.m.lines.length)
theorem blk1_mm (q : Nat) (x : MlA) (g : Nat) : blk1 (mkMm q x) g ↔ blk1 x g := by
  have e1 : (mkMm q x).m.to.length = x.m.to.length := marksFrom_len _ _
  have e2 : (mkMm q x).m.lines.length = x.m.lines.length := marksFrom_len _ _
  unfold blk1
  rw [e1, e2]
  exact Iff.rfl
theorem ownM_mm {B q : Nat} {x : MlA} {w : World} (h1 : OwnL B (.slice x.a1 x.m.to.length x.c1) (marksFrom q x.m.to.length) w) (h2 : OwnL B (.slice x.a2 x.m.lines.length x.c2) (marksFrom (q + x.m.to.length) x.m.lines.length) w) (h3 : ∀ g, (Value.slice x.a1 x.m.to.length x.c1).ownBlock = some g → (Value.slice x.a2 x.m.lines.length x.c2).ownBlock ≠ some g) : OwnM B w (mkMm q x) := by
  have e1 : (mkMm q x).m.to.length = x.m.to.length := marksFrom_len _ _
  have e2 : (mkMm q x).m.lines.length = x.m.lines.length := marksFrom_len _ _
  unfold OwnM
  rw [e1, e2]
  exact ⟨h1, h2, h3⟩
set_option maxRecDepth 100000 in
set_option maxHeartbeats 2000000 in
theorem markMail_t (B q : Nat) (x : MlA) (w : World) (h : OwnM B w x) (hq : 0 < q) (hk : q + (x.m.to.length + x.m.lines.length) ≤ 1073741824) :
    Calls Tryz.prog 19 #[.agg #[.string (str x.m.frm), .slice x.a1 x.m.to.length x.c1, .slice x.a2 x.m.lines.length x.c2], .int .i64 q] w fun e w' => e = .returned (.int .i64 ((q + (x.m.to.length + x.m.lines.length) : Nat) : Int)) ∧ OwnM B w' (mkMm q x) ∧ Turn (blk1 x) w w' := by
  obtain ⟨h1, h2, h3⟩ := h
  have HFIN : Hid (∀ w', OwnL B (.slice x.a1 x.m.to.length x.c1) (marksFrom q x.m.to.length) w' → OwnL B (.slice x.a2 x.m.lines.length x.c2) (marksFrom (q + x.m.to.length) x.m.lines.length) w' → OwnM B w' (mkMm q x)) := fun w' k1 k2 => ownM_mm k1 k2 h3
  obtain ⟨P, hP⟩ : ∃ P, P = blk1 x := ⟨_, rfl⟩
  have HP1 : Hid (∀ g, (Value.slice x.a1 x.m.to.length x.c1).ownBlock = some g → P g) := fun g hg => by rw [hP]; exact .inl hg
  have HP2 : Hid (∀ g, (Value.slice x.a2 x.m.lines.length x.c2).ownBlock = some g → P g) := fun g hg => by rw [hP]; exact .inr hg
  rw [← hP]
  clear hP
  generalize mkMm q x = Y at *
  generalize hn : x.m.to.length = n at *
  generalize hk' : x.m.lines.length = k at *
  have HN := Lib.hid hn
  have HK := Lib.hid hk'
  clear hn hk'
  generalize str x.m.frm = s at *
  generalize x.a1 = a at *
  generalize x.a2 = b at *
  generalize x.c1 = c at *
  generalize x.c2 = d at *
  have hA : Below w.heap.size w (w.alloc (.cells #[.string s, .slice a n c, .slice b k d] 33)) := (Below.refl _ _).alloc (Nat.le_refl _) _
  have HX := Lib.hid (MK3.new w (.string s) (.slice a n c) (.slice b k d) 33)
  have L1 : Hid (∀ g, (Value.slice a n c).ownBlock = some g → g < w.heap.size) := fun g hg => (h1.lt g hg).2
  have L2 : Hid (∀ g, (Value.slice b k d).ownBlock = some g → g < w.heap.size) := fun g hg => (h2.lt g hg).2
  have H1 := Lib.hid (h1.keep hA)
  have H2 := Lib.hid (h2.keep hA)
  have H3 := Lib.hid h3
  clear h1 h2 h3
  have hT0 : Turn P w (w.alloc (.cells #[.string s, .slice a n c, .slice b k d] 33)) := Turn.of_below hA
  go_enter Tryz.func19, Tryz.ntmps19
  go_wp2_with fail
  generalize w.alloc (.cells #[.string s, .slice a n c, .slice b k d] 33) = W0 at *
  refine (markStringS_only B a n c x.m.to q W0 H1.out HN.out hq (by omega)).mono ?_
  rintro e w1 ⟨rfl, hm1, ho1⟩
  have hT1 := hT0.trans (Turn.only ho1 HP1.out)
  have HX1 : Hid (MK3 w1 w.heap.size (.string s) (.slice a n c) (.slice b k d)) := HX.out.turned (Turn.only (P := fun g => (Value.slice a n c).ownBlock = some g) ho1 (fun _ e => e)) (fun e => by have := L1.out _ e; omega)
  have H21 : Hid (OwnL B (.slice b k d) x.m.lines w1) := H2.out.turned (Turn.only (P := fun g => (Value.slice a n c).ownBlock = some g) ho1 (fun _ e => e)) (fun g hg e => H3.out g e hg)
  have HM1 := Lib.hid hm1
  clear ho1 hm1
  obtain ⟨y0, y1, y2⟩ := HX1.out
  go_wp2_with fail
  refine (markStringS_only B b k d x.m.lines (q + n) w1 H21.out HK.out (by omega) (by omega)).mono ?_
  rintro e w2 ⟨rfl, hm2, ho2⟩
  have hT2 := hT1.trans (Turn.only ho2 HP2.out)
  have HM12 : Hid (OwnL B (.slice a n c) (marksFrom q n) w2) := HM1.out.turned (Turn.only (P := fun g => (Value.slice b k d).ownBlock = some g) ho2 (fun _ e => e)) (fun g hg e => H3.out g hg e)
  have HE := Lib.hid (HFIN.out w2 HM12.out hm2)
  clear ho2 hm2
  go_wp2
  go_ret
  exact ⟨ret_int (by omega), HE.out, hT2⟩
/-- The marks of a mail's rows are held. -/
theorem heldMail_t (B q : Nat) (x : MlA) (w : World) (h : OwnM B w (mkMm q x)) (hq : 0 < q) (hk : q + (x.m.to.length + x.m.lines.length) ≤ 1073741824) :
    Calls Tryz.prog 20 #[.agg #[.string (str x.m.frm), .slice x.a1 x.m.to.length x.c1, .slice x.a2 x.m.lines.length x.c2], .int .i64 q] w fun e w' => e = .returned (.int .i64 ((q + (x.m.to.length + x.m.lines.length) : Nat) : Int)) ∧ Below w.heap.size w w' := by
  have e1 : (mkMm q x).m.to.length = x.m.to.length := marksFrom_len _ _
  have e2 : (mkMm q x).m.lines.length = x.m.lines.length := marksFrom_len _ _
  unfold OwnM at h
  rw [e1, e2] at h
  exact heldMail_h q (rdL_slc h.1) (rdL_slc h.2.1) hq hk
end Go.Proofs.YtombejhpfobehaaGreatDoor
end
