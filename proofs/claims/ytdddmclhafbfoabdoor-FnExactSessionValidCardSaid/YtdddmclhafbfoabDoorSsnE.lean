/-
  Sessions in the exact laws: sizes, copies, how a session that came in reads. No statement is proved here.
-/
import Derived.Test.YtdddmclhafbfoabDoorSsnB
import Derived.Test.YtdddmclhafbfoabDoorMalU
import Derived.Deep.Cut
namespace Go.Proofs.YtdddmclhafbfoabDoor
open Go.ChangeShapes Go.WideShapes Go.ChangeAt Go.RowKit
open Go.ChangeMaps (open_string shut_string)
open Go.Deep

def SizedNs (t : Int) (ms : List Ml) (w : World) (e : Ending) (w' : World) : Prop := ∃ r : Int, e = .returned (.int .i64 r) ∧ -1 ≤ r ∧ r ≤ t ∧ (0 ≤ r → ms.length ≤ 1048576 ∧ ∀ m ∈ ms, SmallM 1048576 m) ∧ Below w.heap.size w w'
theorem sizedNs_no {t : Int} {ms : List Ml} {w w' : World} (ht : 0 ≤ t) (hb : Below w.heap.size w w') : SizedNs t ms w (.returned (.int .i64 (-1))) w' := ⟨-1, rfl, by omega, by omega, fun h => by omega, hb⟩
set_option maxRecDepth 100000 in
set_option maxHeartbeats 4000000 in
theorem szMailS_any (a : Option Addr) (n c : Nat) (xs : List MlA) (t : Int) (w : World) (hx : xs.length = n) (h1 : RdMs maxLen w a xs) (hn : n ≤ maxLen) (ht0 : 0 ≤ t) (ht : t ≤ 1048576) :
    Calls Tryd.prog 31 #[.slice a n c, .int .i64 t] w (SizedNs t (xs.map (·.m)) w) := by
  unfold maxLen at hn
  have X1 := Lib.hid h1
  have L1 := Lib.hid hx
  clear h1 hx
  by_cases hbig : t - n < 0
  · go_enter Tryd.func31, Tryd.ntmps31
    go_wp2
    go_ret
    exact sizedNs_no ht0 (Below.refl _ _)
  · go_enter Tryd.func31, Tryd.ntmps31
    go_wp2_with fail
    go_loopw [1, 5] (fun l i wr => ∃ (k : Nat) (r : Int), k ≤ n ∧ i = .int .i64 k ∧ l = .int .i64 r ∧ 0 ≤ r ∧ r ≤ t ∧ Below w.heap.size w wr ∧ ∀ j, j < k → (hj : j < xs.length) → SmallM 1048576 xs[j].m) (fun _ i _ => n - (intOf i).toNat)
    case atStart => exact ⟨0, t - n, Nat.zero_le _, rfl, rfl, by omega, by omega, Below.refl _ _, fun j h => by omega⟩
    case round =>
      obtain ⟨k, r, hk, rfl, rfl, hr0, hrt, hb, hall⟩ := hrel
      have HALL := Lib.hid hall
      clear hall
      by_cases hlt : k < n
      · have j1 : k < xs.length := by rw [L1.out]; exact hlt
        obtain ⟨b1, o1, rfl, hb1, p0, p1, p2, p3⟩ := (X1.out.below hb).at j1
        have hkn : (k : Int) < (n : Int) := by omega
        have hk0 : (0 : Int) ≤ (k : Int) := by omega
        have HC : Hid (Calls Tryd.prog 10 #[.agg #[.string (str xs[k].m.frm), .slice xs[k].a1 xs[k].m.to.length xs[k].c1, .slice xs[k].a2 xs[k].m.lines.length xs[k].c2], .int .i64 r] wr (SizedN r xs[k].m wr)) := szMail_any xs[k] r wr p3 hr0 (by omega)
        clear p3
        obtain ⟨q, hq⟩ : ∃ q, q = xs[k].m := ⟨_, rfl⟩
        have HQ := Lib.hid hq
        rw [← hq] at HC p0 p1 p2
        clear hq
        generalize xs[k].a1 = aa1 at *
        generalize xs[k].a2 = aa2 at *
        generalize xs[k].c1 = cc1 at *
        generalize xs[k].c2 = cc2 at *
        go_wp2_with fail
        refine HC.out.mono ?_
        rintro e w5 ⟨r2, rfl, hr1, hr2, hsm, hb5⟩
        have HSM := Lib.hid hsm
        have hbx := nx hb hb5
        clear hsm p0 p1 p2
        by_cases hneg : r2 < 0
        · go_wp2
          go_ret
          exact sizedNs_no ht0 hbx
        · go_wp2
          go_roundw
          case rel => exact ⟨k + 1, r2, by omega, by go_num, rfl, by omega, by omega, hbx, fun j hj hjx => by
            by_cases e : j = k
            · subst e; rw [← HQ.out]; exact HSM.out (by omega)
            · exact HALL.out j (by omega) hjx⟩
          case measure => simp [intOf]; omega
      · go_wp2
        go_ret
        exact ⟨r, rfl, by omega, hrt, fun _ => ⟨by rw [List.length_map, L1.out]; omega, fun m hm => by
          obtain ⟨x, hx, rfl⟩ := List.mem_map.1 hm
          obtain ⟨j, hj, rfl⟩ := List.getElem_of_mem hx
          exact HALL.out j (by have := L1.out; omega) hj⟩, hb⟩
def SizedZ (t : Int) (S : Ssn) (w : World) (e : Ending) (w' : World) : Prop := ∃ r : Int, e = .returned (.int .i64 r) ∧ -1 ≤ r ∧ r ≤ t ∧ (0 ≤ r → SmallS 1048576 S) ∧ Below w.heap.size w w'
theorem sizedZ_no {t : Int} {S : Ssn} {w w' : World} (ht : 0 ≤ t) (hb : Below w.heap.size w w') : SizedZ t S w (.returned (.int .i64 (-1))) w' := ⟨-1, rfl, by omega, by omega, fun h => by omega, hb⟩
set_option maxRecDepth 100000 in
set_option maxHeartbeats 4000000 in
theorem szSession_any (z : SsV) (S : Ssn) (t : Int) (w : World) (h1 : RdZ maxLen w z S) (ht0 : 0 ≤ t) (ht : t ≤ 1048576) :
    Calls Tryd.prog 13 #[ssVal z, .int .i64 t] w (SizedZ t S w) := by
  obtain ⟨st1, hh, s1, a1, n1, c1, b1, k1, d1, e1, r1, q1⟩ := z
  obtain ⟨f1, f2, f3, f4, f5, f6, f7, xs, f8, f9, f10⟩ := h1
  dsimp only at f1 f2 f3 f4 f5 f6 f7 f9 f10
  unfold ssVal
  dsimp only
  have HM : Hid (∀ (q : Int) u, Below w.heap.size w u → 0 ≤ q → q ≤ 1048576 → Calls Tryd.prog 10 #[.agg #[.string s1, .slice a1 n1 c1, .slice b1 k1 d1], .int .i64 q] u (SizedN q S.draft u)) := fun q u hu h0 hq => szMail_v (f3.below hu) h0 hq
  have HD : Hid (∀ (q : Int) u, Below w.heap.size w u → 0 ≤ q → q ≤ 1048576 → Calls Tryd.prog 31 #[.slice e1 r1 q1, .int .i64 q] u (SizedNs q S.done u)) := fun q u hu h0 hq => by
    rw [← f8]; exact szMailS_any e1 r1 q1 xs q u f9 (f10.below hu) f5 h0 hq
  have HH : Hid (hh.size = S.host.length) := by show _ = _; rw [f2, str_size]
  have z0 : hh.size ≤ 9223372036854775807 := by rw [HH.out]; unfold maxLen at f4; omega
  clear f1 f2 f3 f4 f5 f6 f7 f8 f9 f10
  have hA : Below w.heap.size w (w.alloc (.cells #[.int .i64 st1, .string hh, .string s1, .slice a1 n1 c1, .slice b1 k1 d1, .slice e1 r1 q1] 36)) := (Below.refl _ _).alloc (Nat.le_refl _) _
  have HX := Lib.hid (SK6.new w (.int .i64 st1) (.string hh) (.string s1) (.slice a1 n1 c1) (.slice b1 k1 d1) (.slice e1 r1 q1) 36)
  by_cases k0 : t - hh.size < 0
  · go_enter Tryd.func13, Tryd.ntmps13
    go_wp2
    go_ret
    exact sizedZ_no ht0 hA
  · go_enter Tryd.func13, Tryd.ntmps13
    go_wp2_with fail
    refine (HM.out _ _ hA (by omega) (by omega)).mono ?_
    rintro e w1 ⟨r2, rfl, hr1, hr2, hsm, hb1⟩
    have HSM := Lib.hid hsm
    have hb01 := nx hA hb1
    obtain ⟨y0, y1, y2, y3, y4, y5⟩ := HX.out.below hb1
    clear hsm
    by_cases k1 : r2 < 0
    · go_wp2
      go_ret
      exact sizedZ_no ht0 hb01
    · go_wp2_with fail
      refine (HD.out _ _ hb01 (by omega) (by omega)).mono ?_
      rintro e w2 ⟨r3, rfl, hr3, hr4, hsn, hb2⟩
      have HSN := Lib.hid hsn
      have hb02 := nx hb01 hb2
      clear hsn y0 y1 y2 y3 y4 y5
      by_cases k2 : r3 < 0
      · go_wp2
        go_ret
        exact sizedZ_no ht0 hb02
      · go_wp2
        go_ret
        exact ⟨r3, rfl, by omega, by omega, fun h => ⟨by have := HH.out; omega, HSM.out (by omega), (HSN.out (by omega)).1, (HSN.out (by omega)).2⟩, hb02⟩
theorem mlInfo : (Tryd.prog.info? 25).map (fun i => (i.zero, i.size, i.bytes)) = some (some (.agg #[.string ⟨#[]⟩, .slice none 0 0, .slice none 0 0]), 3, 64) := by kernel_rfl
theorem row_keepM {T : TypeId} {k B n : Nat} {v : Value} {L : List Value} {w w' : World} (h : w.ownsRow B T k v n L) (b : Below w.heap.size w w') : w'.ownsRow B T k v n L := by
  refine ⟨h.1, ?_⟩
  rcases h.2 with hn | ⟨g, cap, cur, hv, hg1, hg2, rest⟩
  · exact .inl hn
  · exact .inr ⟨g, cap, cur, hv, hg1, by rw [b.block g (lt_of_block hg2), hg2], rest⟩
theorem row_cellM {T : TypeId} {k B n g c : Nat} {L : List Value} {w : World} (h : w.ownsRow B T k (.slice (some ⟨g, 0, none⟩) n c) n L) (j : Nat) (hj : j < L.length) : ∃ v, w.cell? ⟨g, j, none⟩ = some v := by
  have := h.cells (g := g) rfl j _ (List.getElem?_eq_getElem hj)
  rw [add0] at this; exact ⟨_, this⟩
theorem set3_getM {L : List Value} {k : Nat} (h : k * 3 + 2 < L.length) (s0 s1 s2 : Value) : (((L.set (k * 3) s0).set (k * 3 + 1) s1).set (k * 3 + 2) s2)[k * 3]? = some s0 ∧ (((L.set (k * 3) s0).set (k * 3 + 1) s1).set (k * 3 + 2) s2)[k * 3 + 1]? = some s1 ∧ (((L.set (k * 3) s0).set (k * 3 + 1) s1).set (k * 3 + 2) s2)[k * 3 + 2]? = some s2 ∧
    ∀ i, i < k * 3 → (((L.set (k * 3) s0).set (k * 3 + 1) s1).set (k * 3 + 2) s2)[i]? = L[i]? := by
  refine ⟨?_, ?_, ?_, fun i hi => ?_⟩
  · rw [List.getElem?_set_ne (by omega), List.getElem?_set_ne (by omega), List.getElem?_set_self (by omega)]
  · rw [List.getElem?_set_ne (by omega), List.getElem?_set_self (by simp; omega)]
  · rw [List.getElem?_set_self (by simp; omega)]
  · rw [List.getElem?_set_ne (by omega), List.getElem?_set_ne (by omega), List.getElem?_set_ne (by omega)]
/-- The row's k-th mail, in a row that is being made. -/
def mrow (B : Nat) (w : World) (L : List Value) (m : Ml) (j : Nat) : Prop := ∃ x : MlA, x.m = m ∧ L[j * 3]? = some (.string (str x.m.frm)) ∧ L[j * 3 + 1]? = some (.slice x.a1 x.m.to.length x.c1) ∧ L[j * 3 + 2]? = some (.slice x.a2 x.m.lines.length x.c2) ∧ OwnM B w x
theorem OwnM.low {B g i : Nat} {w : World} {x : MlA} (h : OwnM B w x) (hg : g < B) (z : Value) : OwnM B (w.setCell ⟨g, i, none⟩ z) x := ⟨h.1.off hg z, h.2.1.off hg z, h.2.2⟩
/-- A row of mails, all in blocks from B on. -/
def HiMs (B : Nat) (w : World) (a : Option Addr) (ys : List MlA) : Prop := (ys.length = 0 ∨ ∃ b, a = some ⟨b, 0, none⟩ ∧ B ≤ b ∧ b < w.heap.size ∧ ∀ i, (h : i < ys.length) → ∀ d v, (mlC ys[i])[d]? = some v → w.cell? ⟨b, 0 + i * 3 + d, none⟩ = some v) ∧ ∀ y ∈ ys, OwnM B w y
theorem HiMs.keep {B : Nat} {w w' : World} {a : Option Addr} {ys : List MlA} (h : HiMs B w a ys) (k : Below w.heap.size w w') : HiMs B w' a ys := by
  refine ⟨?_, fun y hy => (h.2 y hy).keep k⟩
  rcases h.1 with e | ⟨b, e, hB, hl, hc⟩
  · exact .inl e
  · exact .inr ⟨b, e, hB, Nat.lt_of_lt_of_le hl k.size, fun i hi d v hd => (below_at k hl).trans (hc i hi d v hd)⟩
theorem HiMs.low {B g i : Nat} {w : World} {a : Option Addr} {ys : List MlA} (h : HiMs B w a ys) (hg : g < B) (z : Value) : HiMs B (w.setCell ⟨g, i, none⟩ z) a ys := by
  refine ⟨?_, fun y hy => (h.2 y hy).low hg z⟩
  rcases h.1 with e | ⟨b, e, hB, hl, hc⟩
  · exact .inl e
  · exact .inr ⟨b, e, hB, by simpa [World.setCell] using hl, fun j hj d v hd => (cell_blk (by omega) _).trans (hc j hj d v hd)⟩
theorem HiMs.base {B C : Nat} {w : World} {a : Option Addr} {ys : List MlA} (h : HiMs B w a ys) (k : C ≤ B) : HiMs C w a ys := by
  refine ⟨?_, fun y hy => (h.2 y hy).base k⟩
  rcases h.1 with e | ⟨b, e, hB, hl, hc⟩
  · exact .inl e
  · exact .inr ⟨b, e, by omega, hl, hc⟩
theorem HiMs.rd {B M : Nat} {w : World} {a : Option Addr} {ys : List MlA} (h : HiMs B w a ys) (hs : ∀ y ∈ ys, SmallM M y.m) : RdMs M w a ys := by
  refine ⟨⟨rfl, ?_⟩, fun y hy => (h.2 y hy).rd (hs y hy)⟩
  rcases h.1 with e | ⟨b, e, hB, hl, hc⟩
  · exact .inl e
  · exact .inr ⟨b, 0, e, hl, hc⟩
/-- A row of mails of the call's own is returned. -/
def MsRet (ms : List Ml) (n : Nat) (w : World) (e : Ending) (w' : World) : Prop := ∃ (a : Option Addr) (ys : List MlA), e = .returned (.slice a n n) ∧ ys.map (·.m) = ms ∧ ys.length = n ∧ HiMs w.heap.size w' a ys ∧ (a = none → n = 0) ∧ Below w.heap.size w w'
set_option maxRecDepth 100000 in
set_option maxHeartbeats 4000000 in
theorem toMailS_any (a : Option Addr) (n c : Nat) (xs : List MlA) (w : World) (hx : xs.length = n) (h1 : RdMs 1048576 w a xs) (hn : n ≤ 1048576) :
    Calls Tryd.prog 33 #[.slice a n c] w (MsRet (xs.map (·.m)) n w) := by
  obtain ⟨i0, hi, hz0, hz1, hz2⟩ := info_parts mlInfo
  have HLEN := Lib.hid hx
  have HR := Lib.hid h1
  clear hx h1
  go_enter Tryd.func33, Tryd.ntmps33
  go_wp2_with (at_make; refine wpList_make_full _ rfl _ _ 39 rfl w.heap.size 25 i0 (.agg #[.string ⟨#[]⟩, .slice none 0 0, .slice none 0 0]) 3 Tryd.underlying39 hi hz0 hz1 _ _ (n : Int) (n : Int) n rfl rfl rfl rfl ?c1 ?c2 ?c3 ?_)
  case c1 => rw [hz2]; omega
  case c2 => unfold maxLen; omega
  case c3 => exact Nat.le_refl _
  intro w1 hown hgrow
  have hb1 : Below w.heap.size w w1 := (Below.refl _ _).grown hgrow (Nat.le_refl _) (fun k hk => by cases hk)
  have hsz1 := (hown.lt w.heap.size rfl).2
  go_wp2_with fail
  go_loopw [4] (fun i wr => ∃ (k : Nat) (L : List Value), k ≤ n ∧ i = .int .i64 k ∧ Below w.heap.size w wr ∧ wr.ownsRow w.heap.size 25 3 (.slice (some ⟨w.heap.size, 0, none⟩) n n) n L ∧ w.heap.size < wr.heap.size ∧ ∀ j, j < k → (hj : j < xs.length) → mrow (w.heap.size + 1) wr L xs[j].m j) (fun i _ => n - (intOf i).toNat)
  case atStart => exact ⟨0, _, Nat.zero_le _, rfl, hb1, hown, hsz1, fun j h => by omega⟩
  case round =>
    obtain ⟨k, L, hk, rfl, hb, hO, hzr, hL⟩ := hrel
    have HL := Lib.hid hL
    clear hL
    by_cases hlt : k < n
    · have dk : decide ((k : Int) < n) = true := decide_eq_true (by omega)
      have hkx : k < xs.length := by rw [HLEN.out]; exact hlt
      obtain ⟨b, off, rfl, hbl, q0, q1, q2, q3⟩ := (HR.out.below hb).at hkx
      have HC : Hid (Calls Tryd.prog 11 #[.agg #[.string (str xs[k].m.frm), .slice xs[k].a1 xs[k].m.to.length xs[k].c1, .slice xs[k].a2 xs[k].m.lines.length xs[k].c2]] wr (MalRet xs[k].m wr)) := toMail_any xs[k] wr q3
      have hlL : L.length = n * 3 := hO.1
      have h3 : k * 3 + 2 < L.length := by rw [hlL]; omega
      have HS3 := Lib.hid (set3_getM h3)
      clear q3
      obtain ⟨q, hq⟩ : ∃ q, q = xs[k].m := ⟨_, rfl⟩
      have HQ := Lib.hid hq
      rw [← hq] at HC q0 q1 q2
      clear hq
      generalize xs[k].a1 = aa1 at *
      generalize xs[k].a2 = aa2 at *
      generalize xs[k].c1 = cc1 at *
      generalize xs[k].c2 = cc2 at *
      go_wp2_with fail
      refine HC.out.mono ?_
      rintro e w2 ⟨x, hxq, rfl, hox, hb2⟩
      have HOX := Lib.hid hox
      have HXQ := Lib.hid hxq
      have hO2 := row_keepM hO hb2
      have hb02 := nx hb hb2
      have hz2' : w.heap.size < w2.heap.size := Nat.lt_of_lt_of_le hzr hb2.size
      obtain ⟨v0, hv0⟩ := row_cellM hO2 (k * 3) (by omega)
      obtain ⟨v1, hv1⟩ := row_cellM hO2 (k * 3 + 1) (by omega)
      obtain ⟨v2, hv2⟩ := row_cellM hO2 (k * 3 + 2) (by omega)
      have f0 : w2.frozen? ⟨w.heap.size, k * 3, none⟩ = false := hO2.frozenAt _
      have f1 : w2.frozen? ⟨w.heap.size, k * 3 + 1, none⟩ = false := hO2.frozenAt _
      have f2 : w2.frozen? ⟨w.heap.size, k * 3 + 2, none⟩ = false := hO2.frozenAt _
      have hmV : mlV x = .agg #[.string (str x.m.frm), .slice x.a1 x.m.to.length x.c1, .slice x.a2 x.m.lines.length x.c2] := rfl
      rw [hmV]
      have HST := Lib.hid (((hO2.stored (k * 3) (.string (str x.m.frm))).1.stored (k * 3 + 1) (.slice x.a1 x.m.to.length x.c1)).1.stored (k * 3 + 2) (.slice x.a2 x.m.lines.length x.c2)).1
      have HNX : Hid (∀ j, j < k + 1 → (hj : j < xs.length) → mrow (w.heap.size + 1) (((w2.setCell ⟨w.heap.size, k * 3, none⟩ (.string (str x.m.frm))).setCell ⟨w.heap.size, k * 3 + 1, none⟩ (.slice x.a1 x.m.to.length x.c1)).setCell ⟨w.heap.size, k * 3 + 2, none⟩ (.slice x.a2 x.m.lines.length x.c2)) (((L.set (k * 3) (.string (str x.m.frm))).set (k * 3 + 1) (.slice x.a1 x.m.to.length x.c1)).set (k * 3 + 2) (.slice x.a2 x.m.lines.length x.c2)) xs[j].m j) := fun j hj hjx => by
        obtain ⟨e0, e1, e2, e3⟩ := HS3.out (.string (str x.m.frm)) (.slice x.a1 x.m.to.length x.c1) (.slice x.a2 x.m.lines.length x.c2)
        by_cases e : j = k
        · subst e
          exact ⟨x, by rw [HXQ.out, HQ.out], e0, e1, e2, (((OwnM.base HOX.out (by omega)).low (Nat.lt_succ_self _) _).low (Nat.lt_succ_self _) _).low (Nat.lt_succ_self _) _⟩
        · obtain ⟨x0, k0, k1, k2, k3, k4⟩ := HL.out j (by omega) hjx
          exact ⟨x0, k0, by rw [e3 _ (by omega), k1], by rw [e3 _ (by omega), k2], by rw [e3 _ (by omega), k3], (((k4.keep hb2).low (Nat.lt_succ_self _) _).low (Nat.lt_succ_self _) _).low (Nat.lt_succ_self _) _⟩
      clear hlL h3 hO hO2 hox hxq hmV
      generalize str x.m.frm = xs0 at *
      generalize x.m.to.length = xn at *
      generalize x.m.lines.length = xk at *
      generalize x.a1 = xa at *
      generalize x.a2 = xb at *
      generalize x.c1 = xc at *
      generalize x.c2 = xd at *
      go_wp2
      go_roundw
      case rel => exact ⟨k + 1, _, by omega, by go_num, (((hb02.setCell (by simp) _).setCell (by simp) _).setCell (by simp) _), HST.out, by simpa using hz2', HNX.out⟩
      case measure => simp [intOf]; omega
    · have dk : decide ((k : Int) < n) = false := decide_eq_false (by omega)
      have hex : ∀ i, (h : i < xs.length) → ∃ x : MlA, x.m = xs[i].m ∧ L[i * 3]? = some (.string (str x.m.frm)) ∧ L[i * 3 + 1]? = some (.slice x.a1 x.m.to.length x.c1) ∧ L[i * 3 + 2]? = some (.slice x.a2 x.m.lines.length x.c2) ∧ OwnM (w.heap.size + 1) wr x := fun i h => HL.out i (by have := HLEN.out; omega) h
      have HYS : Hid (∃ ys : List MlA, ys.map (·.m) = xs.map (·.m) ∧ ys.length = n ∧ HiMs w.heap.size wr (some ⟨w.heap.size, 0, none⟩) ys) := by
        refine ⟨(List.range xs.length).map (fun i => if h : i < xs.length then Classical.choose (hex i h) else ⟨ml0, none, 0, none, 0⟩), ?_, by simp [HLEN.out], ?_⟩
        · apply List.ext_getElem (by simp)
          intro i h1 h2
          have hix : i < xs.length := by simpa using h2
          simp only [List.getElem_map, List.getElem_range]
          rw [dif_pos hix]
          exact (Classical.choose_spec (hex i hix)).1
        · have C : ∀ j z, L[j]? = some z → wr.cell? ⟨w.heap.size, 0 + j, none⟩ = some z := fun j z hz => by
            have := hO.cells (g := w.heap.size) rfl j z hz
            rw [add0] at this
            rw [Nat.zero_add]; exact this
          refine ⟨.inr ⟨w.heap.size, rfl, Nat.le_refl _, hzr, fun i hi d v hd => ?_⟩, fun x hx => ?_⟩
          · have hix : i < xs.length := by simpa using hi
            rw [List.getElem_map, List.getElem_range, dif_pos hix] at hd
            obtain ⟨_, k1, k2, k3, _⟩ := Classical.choose_spec (hex i hix)
            match d, hd with
            | 0, hd => injection hd with hd; subst hd; exact C _ _ k1
            | 1, hd => injection hd with hd; subst hd; rw [Nat.add_assoc]; exact C _ _ k2
            | 2, hd => injection hd with hd; subst hd; rw [Nat.add_assoc]; exact C _ _ k3
            | d + 3, hd => cases hd
          · obtain ⟨i, hi, rfl⟩ := List.mem_map.1 hx
            have hix : i < xs.length := List.mem_range.1 hi
            rw [dif_pos hix]
            obtain ⟨k0, _, _, _, k4⟩ := Classical.choose_spec (hex i hix)
            exact k4.base (Nat.le_succ _)
      clear hO hex
      go_wp2
      go_ret
      obtain ⟨ys, y1, y2, y3⟩ := HYS.out
      exact ⟨_, ys, rfl, y1, y2, y3, (fun h => by cases h), hb⟩
/-- Six cells that can be written. -/
def SF6 (w : World) (g : Nat) (v0 v1 v2 v3 v4 v5 : Value) : Prop := SK6 w g v0 v1 v2 v3 v4 v5 ∧ ∀ i, w.frozen? ⟨g, i, none⟩ = false
theorem SF6.new (w : World) (v0 v1 v2 v3 v4 v5 : Value) (t : TypeId) : SF6 (w.alloc (.cells #[v0, v1, v2, v3, v4, v5] t)) w.heap.size v0 v1 v2 v3 v4 v5 := ⟨SK6.new w v0 v1 v2 v3 v4 v5 t, fun i => by rw [World.frozen?_alloc_at _ _ _ _ rfl]⟩
theorem SF6.below {w w' : World} {g : Nat} {v0 v1 v2 v3 v4 v5 : Value} (h : SF6 w g v0 v1 v2 v3 v4 v5) (hb : Below w.heap.size w w') : SF6 w' g v0 v1 v2 v3 v4 v5 := by
  have hl := lt_of_cell h.1.1
  exact ⟨h.1.below hb, fun i => (below_fz hb hl).trans (h.2 i)⟩
theorem SF6.off {w : World} {g h i : Nat} {v0 v1 v2 v3 v4 v5 : Value} (k : SF6 w g v0 v1 v2 v3 v4 v5) (hne : h ≠ g) (u : Value) : SF6 (w.setCell ⟨h, i, none⟩ u) g v0 v1 v2 v3 v4 v5 :=
  ⟨⟨(cell_blk hne _).trans k.1.1, (cell_blk hne _).trans k.1.2.1, (cell_blk hne _).trans k.1.2.2.1, (cell_blk hne _).trans k.1.2.2.2.1, (cell_blk hne _).trans k.1.2.2.2.2.1, (cell_blk hne _).trans k.1.2.2.2.2.2⟩, fun j => (World.frozen?_setCell _ _ _ _).trans (k.2 j)⟩
theorem SK6.off {w : World} {g h i : Nat} {v0 v1 v2 v3 v4 v5 : Value} (k : SK6 w g v0 v1 v2 v3 v4 v5) (hne : h ≠ g) (u : Value) : SK6 (w.setCell ⟨h, i, none⟩ u) g v0 v1 v2 v3 v4 v5 :=
  ⟨(cell_blk hne _).trans k.1, (cell_blk hne _).trans k.2.1, (cell_blk hne _).trans k.2.2.1, (cell_blk hne _).trans k.2.2.2.1, (cell_blk hne _).trans k.2.2.2.2.1, (cell_blk hne _).trans k.2.2.2.2.2⟩
theorem SF6.mid {w : World} {g : Nat} {v0 v1 v2 v3 v4 v5 : Value} (h : SF6 w g v0 v1 v2 v3 v4 v5) (u2 u3 u4 : Value) : SF6 (((w.setCell ⟨g, 2, none⟩ u2).setCell ⟨g, 3, none⟩ u3).setCell ⟨g, 4, none⟩ u4) g v0 v1 u2 u3 u4 v5 := by
  obtain ⟨⟨h0, h1, h2, h3, h4, h5⟩, hf⟩ := h
  refine ⟨⟨?_, ?_, ?_, ?_, ?_, ?_⟩, fun i => ?_⟩
  · rw [cell_off (by omega), cell_off (by omega), cell_off (by omega)]; exact h0
  · rw [cell_off (by omega), cell_off (by omega), cell_off (by omega)]; exact h1
  · rw [cell_off (by omega), cell_off (by omega)]; exact cell_same h2 _
  · rw [cell_off (by omega)]; exact cell_same ((cell_off (by omega) _).trans h3) _
  · exact cell_same ((cell_off (by omega) _).trans ((cell_off (by omega) _).trans h4)) _
  · rw [cell_off (by omega), cell_off (by omega), cell_off (by omega)]; exact h5
  · rw [World.frozen?_setCell, World.frozen?_setCell, World.frozen?_setCell]; exact hf i
def SsRet (S : Ssn) (w : World) (e : Ending) (w' : World) : Prop := ∃ z : SsV, e = .returned (ssVal z) ∧ RdZ 1048576 w' z S ∧ Below w.heap.size w w'
theorem ssRet_mk {S : Ssn} {w w' : World} {st : Int} {hh : ByteArray} {x : MlA} {e : Option Addr} {r q B C : Nat} {ys : List MlA} (h1 : st = S.state) (h2 : hh = str S.host) (h3 : OwnM B w' x) (h4 : x.m = S.draft) (h5 : HiMs C w' e ys) (h6 : ys.map (·.m) = S.done) (h7 : ys.length = r) (h8 : r ≤ q) (h9 : e = none → q = 0) (hs : SmallS 1048576 S) (hb : Below w.heap.size w w') :
    SsRet S w (.returned (.agg #[.int .i64 st, .string hh, .string (str x.m.frm), .slice x.a1 x.m.to.length x.c1, .slice x.a2 x.m.lines.length x.c2, .slice e r q])) w' := by
  refine ⟨⟨st, hh, str x.m.frm, x.a1, x.m.to.length, x.c1, x.a2, x.m.lines.length, x.c2, e, r, q⟩, rfl, ⟨h1, h2, ?_, hs.1, ?_, h8, h9, ys, h6, h7, h5.rd (fun y hy => hs.2.2.2 y.m (by rw [← h6]; exact List.mem_map.2 ⟨y, hy, rfl⟩))⟩, hb⟩
  · have := RdV.of (h3.rd (M := 1048576) (by rw [h4]; exact hs.2.1))
    rw [h4] at this ⊢; exact this
  · have := hs.2.2.1
    rw [← h6, List.length_map, h7] at this; exact this
set_option maxRecDepth 100000 in
set_option maxHeartbeats 4000000 in
theorem toSession_any (z : SsV) (S : Ssn) (w : World) (h1 : RdZ 1048576 w z S) (hs : SmallS 1048576 S) :
    Calls Tryd.prog 15 #[ssVal z] w (SsRet S w) := by
  obtain ⟨st1, hh, s1, a1, n1, c1, b1, k1, d1, e1, r1, q1⟩ := z
  obtain ⟨f1, f2, f3, f4, f5, f6, f7, xs, f8, f9, f10⟩ := h1
  dsimp only at f1 f2 f3 f4 f5 f6 f7 f9 f10
  unfold ssVal
  dsimp only
  have HM : Hid (∀ u, Below w.heap.size w u → Calls Tryd.prog 11 #[.agg #[.string s1, .slice a1 n1 c1, .slice b1 k1 d1]] u (MalRet S.draft u)) := fun u hu => (f3.below hu).calls [] (fun x hx hr => hx ▸ toMail_any x u hr)
  have HD : Hid (∀ u, Below w.heap.size w u → Calls Tryd.prog 33 #[.slice e1 r1 q1] u (MsRet S.done r1 u)) := fun u hu => by
    rw [← f8]; exact toMailS_any e1 r1 q1 xs u f9 (f10.below hu) f5
  have F1 := Lib.hid f1
  have F2 := Lib.hid f2
  have HS := Lib.hid hs
  clear f1 f2 f3 f4 f5 f6 f7 f8 f9 f10 hs
  have hbA : Below w.heap.size w (w.alloc (.cells #[.int .i64 st1, .string hh, .string s1, .slice a1 n1 c1, .slice b1 k1 d1, .slice e1 r1 q1] 36)) := (Below.refl _ _).alloc (Nat.le_refl _) _
  have hbB : Below (w.alloc (.cells #[.int .i64 st1, .string hh, .string s1, .slice a1 n1 c1, .slice b1 k1 d1, .slice e1 r1 q1] 36)).heap.size (w.alloc (.cells #[.int .i64 st1, .string hh, .string s1, .slice a1 n1 c1, .slice b1 k1 d1, .slice e1 r1 q1] 36)) ((w.alloc (.cells #[.int .i64 st1, .string hh, .string s1, .slice a1 n1 c1, .slice b1 k1 d1, .slice e1 r1 q1] 36)).alloc (.cells #[.int .i64 0, .string ⟨#[]⟩, .string ⟨#[]⟩, .slice none 0 0, .slice none 0 0, .slice none 0 0] 41)) := (Below.refl _ _).alloc (Nat.le_refl _) _
  have hbC : Below ((w.alloc (.cells #[.int .i64 st1, .string hh, .string s1, .slice a1 n1 c1, .slice b1 k1 d1, .slice e1 r1 q1] 36)).alloc (.cells #[.int .i64 0, .string ⟨#[]⟩, .string ⟨#[]⟩, .slice none 0 0, .slice none 0 0, .slice none 0 0] 41)).heap.size ((w.alloc (.cells #[.int .i64 st1, .string hh, .string s1, .slice a1 n1 c1, .slice b1 k1 d1, .slice e1 r1 q1] 36)).alloc (.cells #[.int .i64 0, .string ⟨#[]⟩, .string ⟨#[]⟩, .slice none 0 0, .slice none 0 0, .slice none 0 0] 41)) (((w.alloc (.cells #[.int .i64 st1, .string hh, .string s1, .slice a1 n1 c1, .slice b1 k1 d1, .slice e1 r1 q1] 36)).alloc (.cells #[.int .i64 0, .string ⟨#[]⟩, .string ⟨#[]⟩, .slice none 0 0, .slice none 0 0, .slice none 0 0] 41)).alloc (.cells #[.int .i64 st1, .string hh, .string ⟨#[]⟩, .slice none 0 0, .slice none 0 0, .slice none 0 0] 41)) := (Below.refl _ _).alloc (Nat.le_refl _) _
  have hz1 : (w.alloc (.cells #[.int .i64 st1, .string hh, .string s1, .slice a1 n1 c1, .slice b1 k1 d1, .slice e1 r1 q1] 36)).heap.size = w.heap.size + 1 := by simp
  have hz2 : ((w.alloc (.cells #[.int .i64 st1, .string hh, .string s1, .slice a1 n1 c1, .slice b1 k1 d1, .slice e1 r1 q1] 36)).alloc (.cells #[.int .i64 0, .string ⟨#[]⟩, .string ⟨#[]⟩, .slice none 0 0, .slice none 0 0, .slice none 0 0] 41)).heap.size = w.heap.size + 1 + 1 := by simp
  have HP : Hid (SK6 (((w.alloc (.cells #[.int .i64 st1, .string hh, .string s1, .slice a1 n1 c1, .slice b1 k1 d1, .slice e1 r1 q1] 36)).alloc (.cells #[.int .i64 0, .string ⟨#[]⟩, .string ⟨#[]⟩, .slice none 0 0, .slice none 0 0, .slice none 0 0] 41)).alloc (.cells #[.int .i64 st1, .string hh, .string ⟨#[]⟩, .slice none 0 0, .slice none 0 0, .slice none 0 0] 41)) w.heap.size (.int .i64 st1) (.string hh) (.string s1) (.slice a1 n1 c1) (.slice b1 k1 d1) (.slice e1 r1 q1)) := ((SK6.new w _ _ _ _ _ _ _).below hbB).below hbC
  have HZ : Hid (SF6 (((w.alloc (.cells #[.int .i64 st1, .string hh, .string s1, .slice a1 n1 c1, .slice b1 k1 d1, .slice e1 r1 q1] 36)).alloc (.cells #[.int .i64 0, .string ⟨#[]⟩, .string ⟨#[]⟩, .slice none 0 0, .slice none 0 0, .slice none 0 0] 41)).alloc (.cells #[.int .i64 st1, .string hh, .string ⟨#[]⟩, .slice none 0 0, .slice none 0 0, .slice none 0 0] 41)) (w.heap.size + 1) (.int .i64 0) (.string ⟨#[]⟩) (.string ⟨#[]⟩) (.slice none 0 0) (.slice none 0 0) (.slice none 0 0)) := by
    have := (SF6.new (w.alloc (.cells #[.int .i64 st1, .string hh, .string s1, .slice a1 n1 c1, .slice b1 k1 d1, .slice e1 r1 q1] 36)) (.int .i64 0) (.string ⟨#[]⟩) (.string ⟨#[]⟩) (.slice none 0 0) (.slice none 0 0) (.slice none 0 0) 41).below hbC
    rw [hz1] at this; exact this
  have HO : Hid (SF6 (((w.alloc (.cells #[.int .i64 st1, .string hh, .string s1, .slice a1 n1 c1, .slice b1 k1 d1, .slice e1 r1 q1] 36)).alloc (.cells #[.int .i64 0, .string ⟨#[]⟩, .string ⟨#[]⟩, .slice none 0 0, .slice none 0 0, .slice none 0 0] 41)).alloc (.cells #[.int .i64 st1, .string hh, .string ⟨#[]⟩, .slice none 0 0, .slice none 0 0, .slice none 0 0] 41)) (w.heap.size + 1 + 1) (.int .i64 st1) (.string hh) (.string ⟨#[]⟩) (.slice none 0 0) (.slice none 0 0) (.slice none 0 0)) := by
    have := SF6.new ((w.alloc (.cells #[.int .i64 st1, .string hh, .string s1, .slice a1 n1 c1, .slice b1 k1 d1, .slice e1 r1 q1] 36)).alloc (.cells #[.int .i64 0, .string ⟨#[]⟩, .string ⟨#[]⟩, .slice none 0 0, .slice none 0 0, .slice none 0 0] 41)) (.int .i64 st1) (.string hh) (.string ⟨#[]⟩) (.slice none 0 0) (.slice none 0 0) (.slice none 0 0) 41
    rw [hz2] at this; exact this
  have hb0 := nx hbA (nx hbB hbC)
  have hsz : w.heap.size + 1 + 1 < (((w.alloc (.cells #[.int .i64 st1, .string hh, .string s1, .slice a1 n1 c1, .slice b1 k1 d1, .slice e1 r1 q1] 36)).alloc (.cells #[.int .i64 0, .string ⟨#[]⟩, .string ⟨#[]⟩, .slice none 0 0, .slice none 0 0, .slice none 0 0] 41)).alloc (.cells #[.int .i64 st1, .string hh, .string ⟨#[]⟩, .slice none 0 0, .slice none 0 0, .slice none 0 0] 41)).heap.size := by simp
  clear hbA hbB hbC hz1 hz2
  go_enter Tryd.func15, Tryd.ntmps15
  go_wp2_with fail
  generalize (((w.alloc (.cells #[.int .i64 st1, .string hh, .string s1, .slice a1 n1 c1, .slice b1 k1 d1, .slice e1 r1 q1] 36)).alloc (.cells #[.int .i64 0, .string ⟨#[]⟩, .string ⟨#[]⟩, .slice none 0 0, .slice none 0 0, .slice none 0 0] 41)).alloc (.cells #[.int .i64 st1, .string hh, .string ⟨#[]⟩, .slice none 0 0, .slice none 0 0, .slice none 0 0] 41)) = W0 at *
  refine (HM.out W0 hb0).mono ?_
  rintro e w1 ⟨x, hxm, rfl, ho1, hb1⟩
  have hs1 := hb1.size
  have hmV : mlV x = .agg #[.string (str x.m.frm), .slice x.a1 x.m.to.length x.c1, .slice x.a2 x.m.lines.length x.c2] := rfl
  rw [hmV]
  have HXM := Lib.hid hxm
  have HP1 := Lib.hid (HP.out.below hb1)
  have HZ1 := Lib.hid (HZ.out.below hb1)
  have HO1 := Lib.hid (HO.out.below hb1)
  have HW1 := Lib.hid ho1
  have hb01 := nx hb0 hb1
  clear ho1 hxm hmV
  obtain ⟨y0, y1, y2, y3, y4, y5⟩ := HP1.out
  obtain ⟨⟨o0, o1, o2, o3, o4, o5⟩, of⟩ := HO1.out
  obtain ⟨xs0, hxs0⟩ : ∃ v, v = str x.m.frm := ⟨_, rfl⟩
  obtain ⟨xn, hxn⟩ : ∃ v, v = x.m.to.length := ⟨_, rfl⟩
  obtain ⟨xk, hxk⟩ : ∃ v, v = x.m.lines.length := ⟨_, rfl⟩
  obtain ⟨xa, hxa⟩ : ∃ v, v = x.a1 := ⟨_, rfl⟩
  obtain ⟨xc, hxc⟩ : ∃ v, v = x.c1 := ⟨_, rfl⟩
  obtain ⟨xb, hxb⟩ : ∃ v, v = x.a2 := ⟨_, rfl⟩
  obtain ⟨xd, hxd⟩ : ∃ v, v = x.c2 := ⟨_, rfl⟩
  rw [← hxs0, ← hxn, ← hxk, ← hxa, ← hxc, ← hxb, ← hxd]
  have HXE : Hid (∀ v : Value, v = .agg #[.int .i64 st1, .string hh, .string xs0, .slice xa xn xc, .slice xb xk xd] → v = .agg #[.int .i64 st1, .string hh, .string (str x.m.frm), .slice x.a1 x.m.to.length x.c1, .slice x.a2 x.m.lines.length x.c2]) := fun v hv => by rw [hv, hxs0, hxn, hxk, hxa, hxc, hxb, hxd]
  have HRT : Hid (∀ (e : Option Addr) (r q B C : Nat) (ys : List MlA) (w' : World), OwnM B w' x → HiMs C w' e ys → ys.map (·.m) = S.done → ys.length = r → r ≤ q → (e = none → q = 0) → Below w.heap.size w w' → SsRet S w (.returned (.agg #[.int .i64 st1, .string hh, .string xs0, .slice xa xn xc, .slice xb xk xd, .slice e r q])) w') := fun e r q B C ys w' p1 p2 p3 p4 p5 p6 p7 => by
    rw [hxs0, hxn, hxk, hxa, hxc, hxb, hxd]
    exact ssRet_mk F1.out F2.out p1 HXM.out p2 p3 p4 p5 p6 HS.out p7
  clear hxs0 hxn hxk hxa hxc hxb hxd HXE
  go_upto_region 5 with fail
  clear y0 y1 y2 y3 y4 y5 o0 o1 o2 o3 o4 o5 of
  have hne : w.heap.size + 1 + 1 ≠ w.heap.size := by omega
  have hne2 : w.heap.size + 1 + 1 ≠ w.heap.size + 1 := by omega
  have HP2 := Lib.hid (((HP1.out.off (i := 2) hne (.string xs0)).off (i := 3) hne (.slice xa xn xc)).off (i := 4) hne (.slice xb xk xd))
  have HZ2 := Lib.hid (((HZ1.out.off (i := 2) hne2 (.string xs0)).off (i := 3) hne2 (.slice xa xn xc)).off (i := 4) hne2 (.slice xb xk xd))
  have HO2 := Lib.hid (HO1.out.mid (.string xs0) (.slice xa xn xc) (.slice xb xk xd))
  have HW2 := Lib.hid (((HW1.out.low (g := w.heap.size + 1 + 1) (i := 2) (by omega) (.string xs0)).low (g := w.heap.size + 1 + 1) (i := 3) (by omega) (.slice xa xn xc)).low (g := w.heap.size + 1 + 1) (i := 4) (by omega) (.slice xb xk xd))
  have hb2 : Below w.heap.size w (((w1.setCell ⟨w.heap.size + 1 + 1, 2, none⟩ (.string xs0)).setCell ⟨w.heap.size + 1 + 1, 3, none⟩ (.slice xa xn xc)).setCell ⟨w.heap.size + 1 + 1, 4, none⟩ (.slice xb xk xd)) := ((hb01.setCell (by show w.heap.size ≤ w.heap.size + 1 + 1; omega) _).setCell (by show w.heap.size ≤ w.heap.size + 1 + 1; omega) _).setCell (by show w.heap.size ≤ w.heap.size + 1 + 1; omega) _
  have hs2 : W0.heap.size ≤ (((w1.setCell ⟨w.heap.size + 1 + 1, 2, none⟩ (.string xs0)).setCell ⟨w.heap.size + 1 + 1, 3, none⟩ (.slice xa xn xc)).setCell ⟨w.heap.size + 1 + 1, 4, none⟩ (.slice xb xk xd)).heap.size := by simpa [World.setCell] using hs1
  generalize ((w1.setCell ⟨w.heap.size + 1 + 1, 2, none⟩ (.string xs0)).setCell ⟨w.heap.size + 1 + 1, 3, none⟩ (.slice xa xn xc)).setCell ⟨w.heap.size + 1 + 1, 4, none⟩ (.slice xb xk xd) = w2 at *
  clear HP1 HZ1 HO1 HW1 hb1 hb01 hs1 hne hne2
  obtain ⟨y0, y1, y2, y3, y4, y5⟩ := HP2.out
  go_wp2_with fail
  refine (HD.out w2 hb2).mono ?_
  rintro e w3 ⟨e3, ys, rfl, hy1, hy2, hy3, hy4, hb3⟩
  have hs3 := hb3.size
  have HZ3 := Lib.hid (HZ2.out.below hb3)
  have HO3 := Lib.hid (HO2.out.below hb3)
  have HW3 := Lib.hid (HW2.out.keep hb3)
  have HY3 := Lib.hid hy3
  have HYA := Lib.hid hy1
  have HYB := Lib.hid hy2
  have HYC := Lib.hid hy4
  have hb03 := nx hb2 hb3
  clear hy1 hy2 hy3 hy4 y0 y1 y2 y3 y4 y5 HP2 HZ2 HO2 HW2
  obtain ⟨⟨o0, o1, o2, o3, o4, o5⟩, of⟩ := HO3.out
  obtain ⟨⟨q0, q1', q2, q3, q4, q5⟩, qf⟩ := HZ3.out
  go_wp2
  refine bodyPost_ret (v := .agg #[.int .i64 st1, .string hh, .string xs0, .slice xa xn xc, .slice xb xk xd, .slice e3 r1 r1]) (by simp [results, Tryd.results15, go_sem, q0, q1', q2, q3, q4, q5]) rfl ?_
  exact HRT.out e3 r1 r1 W0.heap.size w2.heap.size ys _ (((((((HW3.out.low (g := w.heap.size + 1 + 1) (i := 5) (by omega) _).low (g := w.heap.size + 1) (i := 0) (by omega) _).low (g := w.heap.size + 1) (i := 1) (by omega) _).low (g := w.heap.size + 1) (i := 2) (by omega) _).low (g := w.heap.size + 1) (i := 3) (by omega) _).low (g := w.heap.size + 1) (i := 4) (by omega) _).low (g := w.heap.size + 1) (i := 5) (by omega) _) (((((((HY3.out.low (g := w.heap.size + 1 + 1) (i := 5) (by omega) _).low (g := w.heap.size + 1) (i := 0) (by omega) _).low (g := w.heap.size + 1) (i := 1) (by omega) _).low (g := w.heap.size + 1) (i := 2) (by omega) _).low (g := w.heap.size + 1) (i := 3) (by omega) _).low (g := w.heap.size + 1) (i := 4) (by omega) _).low (g := w.heap.size + 1) (i := 5) (by omega) _) HYA.out HYB.out (Nat.le_refl _) HYC.out (((((((hb03.setCell (by show w.heap.size ≤ w.heap.size + 1 + 1; omega) _).setCell (by show w.heap.size ≤ w.heap.size + 1; omega) _).setCell (by show w.heap.size ≤ w.heap.size + 1; omega) _).setCell (by show w.heap.size ≤ w.heap.size + 1; omega) _).setCell (by show w.heap.size ≤ w.heap.size + 1; omega) _).setCell (by show w.heap.size ≤ w.heap.size + 1; omega) _).setCell (by show w.heap.size ≤ w.heap.size + 1; omega) _)
end Go.Proofs.YtdddmclhafbfoabDoor
