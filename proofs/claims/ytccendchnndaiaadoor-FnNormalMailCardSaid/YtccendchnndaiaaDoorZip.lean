/-
  Several texts in one. No statement is proved here.
-/
import Derived.Test.YtccendchnndaiaaDoorGwM
import Derived.Test.YtccendchnndaiaaDoorMalI
import Derived.Test.YtccendchnndaiaaDoorMalO
import Derived.Test.YtccendchnndaiaaDoorCtn
import Derived.Test.YtccendchnndaiaaDoorStu
import Derived.Test.YtccendchnndaiaaDoorTail
import Derived.Deep.QuietTactic
import Derived.BigQuiet
import Derived.Test.YtccendchnndaiaaDoorParse
import Derived.Test.YtccendchnndaiaaDoorSplit
import Derived.Test.YtccendchnndaiaaDoorAddr2
import Derived.Deep.RegionWith
import Derived.Test.YtccendchnndaiaaDoorMal
import Derived.Test.YtccendchnndaiaaDoorDrMal
import Derived.Test.YtccendchnndaiaaDoorQuietB
import Derived.Deep.Cut
import Derived.Test.YtccendchnndaiaaDoorDraw2
section
namespace Go.Proofs.YtccendchnndaiaaDoor
open Go.RowKit

/-- A mail of the call's own, and whether there is one. -/
def NrmRet (m : Ml) (w : World) (e : Ending) (w' : World) : Prop := ∃ x : MlA, x.m = normO m ∧ e = .returned (.tuple #[mlV x, .bool (isMail m)]) ∧ OwnM w.heap.size w' x ∧ Below w.heap.size w w'
theorem nrmRet_none {m : Ml} {w w' : World} (h : isMail m = false) (hb : Below w.heap.size w w') : NrmRet m w (.returned (.tuple #[.agg #[.string ⟨#[]⟩, .slice none 0 0, .slice none 0 0], .bool false])) w' :=
  ⟨⟨ml0, none, 0, none, 0⟩, by unfold normO; rw [h]; rfl, by rw [h]; rfl, ⟨OwnL.nil _ _, OwnL.nil _ _, fun g hg => by cases hg⟩, hb⟩
theorem nrmRet_some {m : Ml} {w w' : World} {s : ByteArray} {a b : Option Addr} {n c k d : Nat} (h : isMail m = true) (hs : s = str m.frm) (hn : n = (nrm [] m.to).length) (hk : k = m.lines.length) (h1 : OwnL w.heap.size (.slice a n c) (nrm [] m.to) w') (h2 : OwnL w.heap.size (.slice b k d) m.lines w') (h3 : ∀ g, (Value.slice a n c).ownBlock = some g → (Value.slice b k d).ownBlock ≠ some g) (hb : Below w.heap.size w w') : NrmRet m w (.returned (.tuple #[.agg #[.string s, .slice a n c, .slice b k d], .bool true])) w' := by
  subst hs hn hk
  exact ⟨⟨normM m, a, c, b, d⟩, by unfold normO; rw [h]; rfl, by rw [h]; rfl, ⟨h1, h2, h3⟩, hb⟩
/-- A value laid twice: as an argument, and the result's place. -/
theorem two_mals (w : World) (v0 v1 v2 u0 u1 u2 : Value) (t : TypeId) : Below w.heap.size w ((w.alloc (.cells #[v0, v1, v2] t)).alloc (.cells #[u0, u1, u2] t)) ∧ MK3 ((w.alloc (.cells #[v0, v1, v2] t)).alloc (.cells #[u0, u1, u2] t)) w.heap.size v0 v1 v2 ∧ MF3 ((w.alloc (.cells #[v0, v1, v2] t)).alloc (.cells #[u0, u1, u2] t)) (w.heap.size + 1) u0 u1 u2 ∧ w.heap.size + 1 < ((w.alloc (.cells #[v0, v1, v2] t)).alloc (.cells #[u0, u1, u2] t)).heap.size := by
  have hA : Below w.heap.size w (w.alloc (.cells #[v0, v1, v2] t)) := (Below.refl _ _).alloc (Nat.le_refl _) _
  have hB : Below (w.alloc (.cells #[v0, v1, v2] t)).heap.size (w.alloc (.cells #[v0, v1, v2] t)) ((w.alloc (.cells #[v0, v1, v2] t)).alloc (.cells #[u0, u1, u2] t)) := (Below.refl _ _).alloc (Nat.le_refl _) _
  have e : (w.alloc (.cells #[v0, v1, v2] t)).heap.size = w.heap.size + 1 := by simp
  have h := MF3.new (w.alloc (.cells #[v0, v1, v2] t)) u0 u1 u2 t
  rw [e] at h
  exact ⟨nx hA hB, (MK3.new w v0 v1 v2 t).below hB, h, by simp⟩
set_option maxRecDepth 100000 in
set_option maxHeartbeats 2000000 in
theorem mailTo_any (s : ByteArray) (a : Option Addr) (n c : Nat) (b : Option Addr) (k d : Nat) (a' : Option Addr) (n' c' : Nat) (ls ts : List (List UInt8)) (w : World) (h1 : RdL w b k ls) (h2 : b = none → d = 0) (h3 : k ≤ 1048576) (k1 : RdL w a' n' ts) (k2 : a' = none → c' = 0) (k3 : n' ≤ 1048576) :
    Calls Tryd.prog 41 #[.agg #[.string s, .slice a n c, .slice b k d], .slice a' n' c'] w fun e w' => ∃ (p : Option Addr) (q : Nat) (p2 : Option Addr) (q2 : Nat), e = .returned (.agg #[.string s, .slice p n' q, .slice p2 k q2]) ∧ OwnL w.heap.size (.slice p n' q) ts w' ∧ OwnL w.heap.size (.slice p2 k q2) ls w' ∧ (∀ g, (Value.slice p n' q).ownBlock = some g → (Value.slice p2 k q2).ownBlock ≠ some g) ∧ Below w.heap.size w w' := by
  obtain ⟨hb0, hx0, hz0, hzl⟩ := two_mals w (.string s) (.slice a n c) (.slice b k d) (.string ⟨#[]⟩) (.slice none 0 0) (.slice none 0 0) 25
  have HX := Lib.hid hx0
  have HZ := Lib.hid hz0
  have HT : Hid (∀ u, Below w.heap.size w u → Calls Tryd.prog 73 #[.slice a' n' c'] u fun e w' => ∃ a2 c2, e = .returned (.slice a2 n' c2) ∧ OwnL u.heap.size (.slice a2 n' c2) ts w' ∧ Below u.heap.size u w') := fun u hb => cloneS_any a' n' c' ts u (k1.below hb) k2 k3
  have HL : Hid (∀ u, Below w.heap.size w u → Calls Tryd.prog 73 #[.slice b k d] u fun e w' => ∃ a2 c2, e = .returned (.slice a2 k c2) ∧ OwnL u.heap.size (.slice a2 k c2) ls w' ∧ Below u.heap.size u w') := fun u hb => cloneS_any b k d ls u (h1.below hb) h2 h3
  clear h1 h2 h3 k1 k2 k3 hx0 hz0
  go_enter Tryd.func41, Tryd.ntmps41
  go_wp2_with fail
  generalize ((w.alloc (.cells #[.string s, .slice a n c, .slice b k d] 25)).alloc (.cells #[.string ⟨#[]⟩, .slice none 0 0, .slice none 0 0] 25)) = W0 at *
  refine wp_region_tail (by kernel_rfl) ?_
  refine wpAny_tail (fuel := 8) (tf := 1) [8] (by kernel_rfl) ?_
  refine wpAnyZ_take (fuel := 3) [true, true, true, false, true, true] (by kernel_rfl) (by kernel_rfl) (by rfl) (by kernel_rfl) (by kernel_rfl) (by kernel_rfl) ?_
  apply Exists.intro
  refine ⟨fun x => ?_, ?_⟩
  · have y0 := fun (y : BelowT x.val) => (HX.out.below (nx ((Below.refl _ _).drew) (nx x.below y.below))).1
    have y1 := fun (y : BelowT x.val) => (HX.out.below (nx ((Below.refl _ _).drew) (nx x.below y.below))).2.1
    have y2 := fun (y : BelowT x.val) => (HX.out.below (nx ((Below.refl _ _).drew) (nx x.below y.below))).2.2
    simp only [pickL]
    repeat (go_big_quiet_step (fail))
    exact wpQuiet_nil rfl
  refine wpAnyZ_one (m := 3) (by kernel_rfl) (fun ua g1 => ?_)
  refine wpOp_at (o := _) (by rfl) (by rfl) ?_
  go_simp
  have hga : Below W0.heap.size W0 ua := nx ((Below.refl _ _).drew) g1
  refine (HT.out _ (nx hb0 hga)).mono ?_
  rintro e w1 ⟨p, q, rfl, ho1, hb1⟩
  refine ⟨hb1, ?_⟩
  try simp only [Act.put, List.setIfInBounds_toArray, List.set_cons_zero, List.set_cons_succ]
  refine wpAnyZ_one (m := 6) (by kernel_rfl) (fun ub g2 => ?_)
  refine wpOp_at (o := _) (by rfl) (by rfl) ?_
  go_simp
  have hgb : Below W0.heap.size W0 ub := nx hga (nx hb1 g2)
  refine (HL.out _ (nx hb0 hgb)).mono ?_
  rintro e w2 ⟨p2, q2, rfl, ho2, hb2⟩
  refine ⟨hb2, ?_⟩
  try simp only [Act.put, List.setIfInBounds_toArray, List.set_cons_zero, List.set_cons_succ]
  refine wpAnyZ_take (fuel := 0) [false, false, false, false, false, false, false, true] (by kernel_rfl) (by kernel_rfl) (by rfl) (by kernel_rfl) (by kernel_rfl) (by kernel_rfl) ?_
  apply Exists.intro
  refine ⟨fun x => ?_, ?_⟩
  · skip
    simp only [pickL]
    repeat (go_big_quiet_step (fail))
    exact wpQuiet_nil rfl
  refine wpAnyZ_rest (by kernel_rfl) (fun uc g3 => ?_)
  have hgc : Below W0.heap.size W0 uc := nx hgb (nx hb2 g3)
  have HO1 : Hid (OwnL W0.heap.size (.slice p n' q) ts uc) := ((ho1.keep (nx g2 (nx hb2 g3))).base hga.size)
  have HO2 : Hid (OwnL W0.heap.size (.slice p2 k q2) ls uc) := (ho2.keep g3).base hgb.size
  have HAP : Hid (∀ g, (Value.slice p n' q).ownBlock = some g → (Value.slice p2 k q2).ownBlock ≠ some g) := own_apart ho1 ho2 g2.size
  have hb0c := nx hb0 hgc
  obtain ⟨⟨q0, q1', q2'⟩, qf⟩ := HZ.out.below hgc
  clear g1 g2 g3 ho1 ho2 hb1 hb2 hga hgb hgc
  refine wpAny_one (m := 8) (by kernel_rfl) ?_
  refine wpOp_at (o := _) (by rfl) (by rfl) ?_
  go_simp
  try simp only [Act.put]
  refine wpAny_end (by kernel_rfl) ?_ _
  go_wp2
  refine bodyPost_ret (v := .agg #[.string s, .slice p n' q, .slice p2 k q2]) (by simp [results, Tryd.results41, go_sem, q0, q1', q2']) rfl ?_
  exact ⟨p, q, p2, q2, rfl, (((HO1.out.off (g := w.heap.size + 1) (i := 0) (by omega) _).off (g := w.heap.size + 1) (i := 1) (by omega) _).off (g := w.heap.size + 1) (i := 2) (by omega) _).base (by omega), (((HO2.out.off (g := w.heap.size + 1) (i := 0) (by omega) _).off (g := w.heap.size + 1) (i := 1) (by omega) _).off (g := w.heap.size + 1) (i := 2) (by omega) _).base (by omega), HAP.out, ((hb0c.setCell (by show w.heap.size ≤ w.heap.size + 1; omega) _).setCell (by show w.heap.size ≤ w.heap.size + 1; omega) _).setCell (by show w.heap.size ≤ w.heap.size + 1; omega) _⟩
set_option maxRecDepth 100000 in
set_option maxHeartbeats 4000000 in
theorem normalMail_any (M : Nat) (x : MlA) (w : World) (en : Env w) (h1 : RdM M w x) (hM : M ≤ 1048576) :
    Calls Tryd.prog 13 #[mlV x] w (NrmRet x.m w) := by
  have hA0 : ∀ o, Below w.heap.size w (w.alloc o) := fun o => (Below.refl _ _).alloc (Nat.le_refl _) o
  have H0 : Hid (∀ u, Below w.heap.size w u → Calls Tryd.prog 16 #[mlV x] u fun e w' => e = .returned (.bool (isMail x.m)) ∧ Below u.heap.size u w') := fun u hb => mailValid_any M x u (en.below hb) (h1.below hb) (by omega)
  obtain ⟨m, a1, c1, b1, d1⟩ := x
  obtain ⟨⟨p1, _, pn1⟩, ⟨p2, _, pn2⟩, _⟩ := h1
  dsimp only at *
  have P1 := Lib.hid p1
  have P2 := Lib.hid p2
  have PN2 := Lib.hid pn2
  clear p1 p2 pn1 pn2 en
  cases hv : isMail m
  · have HN : Hid (∀ w', Below w.heap.size w w' → NrmRet m w (.returned (.tuple #[.agg #[.string ⟨#[]⟩, .slice none 0 0, .slice none 0 0], .bool false])) w') := fun w' hb => nrmRet_none hv hb
    rw [hv] at H0
    unfold mlV at *
    dsimp only at *
    generalize m.to.length = n1 at *
    generalize m.lines.length = n3 at *
    generalize str m.frm = s1 at *
    clear hv hA0
    obtain ⟨hb0, hx0, hz0, hzl⟩ := two_mals w (.string s1) (.slice a1 n1 c1) (.slice b1 n3 d1) (.string ⟨#[]⟩) (.slice none 0 0) (.slice none 0 0) 25
    have HX := Lib.hid hx0
    have HZ := Lib.hid hz0
    clear hx0 hz0
    go_enter Tryd.func13, Tryd.ntmps13
    go_wp2_with fail
    generalize (w.alloc (.cells #[.string s1, .slice a1 n1 c1, .slice b1 n3 d1] 25)).alloc (.cells #[.string ⟨#[]⟩, .slice none 0 0, .slice none 0 0] 25) = W0 at *
    refine (H0.out W0 hb0).mono ?_
    rintro e w1 ⟨rfl, hb1⟩
    obtain ⟨⟨q0, q1, q2⟩, qf⟩ := HZ.out.below hb1
    have hbw := nx hb0 hb1
    go_wp2
    refine bodyPost_ret (v := .tuple #[.agg #[.string ⟨#[]⟩, .slice none 0 0, .slice none 0 0], .bool false]) (by simp [results, Tryd.results13, go_sem, q0, q1, q2]) rfl ?_
    exact HN.out _ (((hbw.setCell (by show w.heap.size ≤ w.heap.size + 1; omega) _).setCell (by show w.heap.size ≤ w.heap.size + 1; omega) _).setCell (by show w.heap.size ≤ w.heap.size + 1; omega) _)
  · obtain ⟨hd, _, h30⟩ := isMail_iff.1 hv
    obtain ⟨_, h10, _, _, _⟩ := isDraft_iff.1 hd
    have HN : Hid (∀ w' (a : Option Addr) (n c : Nat) (b : Option Addr) (d : Nat) (acc : List (List UInt8)), acc = nrm [] m.to → n = acc.length → OwnL w.heap.size (.slice a n c) acc w' → OwnL w.heap.size (.slice b m.lines.length d) m.lines w' → (∀ g, (Value.slice a n c).ownBlock = some g → (Value.slice b m.lines.length d).ownBlock ≠ some g) → Below w.heap.size w w' → NrmRet m w (.returned (.tuple #[.agg #[.string (str m.frm), .slice a n c, .slice b m.lines.length d], .bool true])) w') := fun w' a n c b d acc ha hn q1 q2 q3 hb => by
      subst ha
      exact nrmRet_some hv rfl hn rfl q1 q2 q3 hb
    rw [hv] at H0
    unfold mlV at *
    dsimp only at *
    clear hv hd
    generalize hn1 : m.to.length = n1 at *
    generalize hn3 : m.lines.length = n3 at *
    have HE1 := Lib.hid hn1
    have HE3 := Lib.hid hn3
    clear hn1 hn3
    generalize str m.frm = s1 at *
    obtain ⟨hb0, hx0, hz0, hzl⟩ := two_mals w (.string s1) (.slice a1 n1 c1) (.slice b1 n3 d1) (.string ⟨#[]⟩) (.slice none 0 0) (.slice none 0 0) 25
    have HX := Lib.hid hx0
    have HZ := Lib.hid hz0
    clear hx0 hz0
    go_enter Tryd.func13, Tryd.ntmps13
    go_wp2_with fail
    generalize (w.alloc (.cells #[.string s1, .slice a1 n1 c1, .slice b1 n3 d1] 25)).alloc (.cells #[.string ⟨#[]⟩, .slice none 0 0, .slice none 0 0] 25) = W0 at *
    refine (H0.out _ hb0).mono ?_
    rintro e w1 ⟨rfl, hb1⟩
    have hb01 := nx hb0 hb1
    have HX1 := Lib.hid (HX.out.below hb1)
    have HZ1 := Lib.hid (HZ.out.below hb1)
    have hlw : w.heap.size + 1 < w1.heap.size := Nat.lt_of_lt_of_le hzl hb1.size
    obtain ⟨y0, y1, y2⟩ := HX1.out
    clear H0 hA0
    go_wp2_with fail
    go_loopw [4, 14] (fun v i wr => ∃ (k : Nat) (acc : List (List UInt8)), k ≤ n1 ∧ i = .int .i64 k ∧ acc.length ≤ k ∧ nrm acc (m.to.drop k) = nrm [] m.to ∧ OwnL w1.heap.size v acc wr ∧ Below w1.heap.size w1 wr) (fun _ i _ => n1 - (intOf i).toNat)
    case atStart => exact ⟨0, [], Nat.zero_le _, rfl, Nat.le_refl _, by simp, OwnL.nil _ _, Below.refl _ _⟩
    case round =>
      clear y0 y1 y2
      obtain ⟨k, acc, hk, rfl, hal, hnr, hown, hb⟩ := hrel
      have HO := Lib.hid hown
      have HNR := Lib.hid hnr
      clear hown hnr
      obtain ⟨a3, c3, rfl, hr3, _, hac3, _⟩ := HO.out.readc
      have HR3 := Lib.hid hr3
      clear hr3
      obtain ⟨y0, y1, y2⟩ := HX1.out.below hb
      have hsz := hb.size
      by_cases hlt : k < n1
      · have hkx : k < m.to.length := by have := HE1.out; omega
        obtain ⟨b, off, rfl, hbl, hcell⟩ := P1.out.2.resolve_left (by omega)
        have hc1 : wr.cell? ⟨b, off + k, none⟩ = some (.string (str m.to[k])) := by rw [below_at (nx hb01 hb) hbl]; exact hcell k hkx
        have HC : Hid (∀ u, Below wr.heap.size wr u → Calls Tryd.prog 40 #[.slice a3 acc.length c3, .string (str m.to[k])] u fun e w' => e = .returned (.bool (acc.contains m.to[k])) ∧ Below u.heap.size u w') := fun u hu => containsS_any a3 acc.length c3 acc m.to[k] u (HR3.out.below hu) (by omega)
        have HIN := Lib.hid (nrm_in (acc := acc) hkx)
        have HNW := Lib.hid (nrm_new (acc := acc) hkx)
        have HSL : Hid ((str m.to[k]).data.toList = m.to[k]) := str_list _
        have hkn : (k : Int) < (n1 : Int) := by omega
        have hk0 : (0 : Int) ≤ (k : Int) := by omega
        clear hcell
        cases hq : acc.contains m.to[k]
        · have HS : Hid (nrm (acc ++ [m.to[k]]) (m.to.drop (k + 1)) = nrm [] m.to) := by show _ = _; rw [← HNW.out hq]; exact HNR.out
          rw [hq] at HC
          clear hq HIN HNW
          generalize m.to[k] = t at *
          generalize str t = z at *
          go_wp2_with fail
          refine (HC.out _ (Below.refl _ _)).mono ?_
          rintro e w2 ⟨rfl, hb2⟩
          have hb12 := nx hb hb2
          have hsz2 := hb12.size
          have HO2 : Hid (OwnL w1.heap.size (.slice a3 acc.length c3) acc (w2.alloc (.cells #[.string z] 9))) := (HO.out.keep hb2).keep ((Below.refl _ _).alloc (Nat.le_refl _) _)
          go_wp2_with (at_builtin; refine wpList_append_1L rfl _ _ rfl w1.heap.size _ acc _ w2.heap.size rfl rfl (cell_one _ _ _) HO2.out ?c2 ?c3 ?_)
          case c2 => simp; omega
          case c3 => omega
          intro v' w3 hO3 hgr _
          have hb3 : Below w1.heap.size w1 w3 := (hb12.alloc hsz2 _).grown hgr (by simp; omega) (fun g hg => (HO2.out.lt g hg).1)
          rw [HSL.out] at hO3
          have HO3 := Lib.hid hO3
          clear hO3 hgr
          go_wp2
          go_roundw
          case rel => exact ⟨k + 1, _, by omega, by go_num, by simp; omega, HS.out, HO3.out, hb3⟩
          case measure => simp [intOf]; omega
        · have HS : Hid (nrm acc (m.to.drop (k + 1)) = nrm [] m.to) := by show _ = _; rw [← HIN.out hq]; exact HNR.out
          rw [hq] at HC
          clear hq HIN HNW
          generalize m.to[k] = t at *
          generalize str t = z at *
          go_wp2_with fail
          refine (HC.out _ (Below.refl _ _)).mono ?_
          rintro e w2 ⟨rfl, hb2⟩
          go_wp2
          go_roundw
          case rel => exact ⟨k + 1, acc, by omega, by go_num, by omega, HS.out, HO.out.keep hb2, nx hb hb2⟩
          case measure => simp [intOf]; omega
      · have HS : Hid (acc = nrm [] m.to) := by show _ = _; rw [← HNR.out, nrm_end (by have := HE1.out; omega)]
        have HMT : Hid (∀ u, Below wr.heap.size wr u → Calls Tryd.prog 41 #[.agg #[.string s1, .slice a1 n1 c1, .slice b1 n3 d1], .slice a3 acc.length c3] u fun e w' => ∃ (p : Option Addr) (q : Nat) (p2 : Option Addr) (q2 : Nat), e = .returned (.agg #[.string s1, .slice p acc.length q, .slice p2 n3 q2]) ∧ OwnL u.heap.size (.slice p acc.length q) acc w' ∧ OwnL u.heap.size (.slice p2 n3 q2) m.lines w' ∧ (∀ g, (Value.slice p acc.length q).ownBlock = some g → (Value.slice p2 n3 q2).ownBlock ≠ some g) ∧ Below u.heap.size u w') := fun u hu => mailTo_any s1 a1 n1 c1 b1 n3 d1 a3 acc.length c3 m.lines acc u (((P2.out.below hb01).below hb).below hu) PN2.out (by omega) (HR3.out.below hu) hac3 (by omega)
        have hbw := nx hb01 hb
        have hlwr : w.heap.size + 2 ≤ wr.heap.size := by omega
        generalize hL : acc.length = L at *
        have HL := Lib.hid hL
        clear hL
        go_wp2_with fail
        refine (HMT.out _ (Below.refl _ _)).mono ?_
        rintro e w5 ⟨p, q, p2, q2, rfl, ho1, ho2, hap, hb5⟩
        have hbx := nx hbw hb5
        have HO1 := Lib.hid ((((ho1.base hlwr).off (g := w.heap.size + 1) (i := 0) (by omega) (.string s1)).off (g := w.heap.size + 1) (i := 1) (by omega) (.slice p L q)).off (g := w.heap.size + 1) (i := 2) (by omega) (.slice p2 n3 q2))
        have HO2 := Lib.hid ((((ho2.base hlwr).off (g := w.heap.size + 1) (i := 0) (by omega) (.string s1)).off (g := w.heap.size + 1) (i := 1) (by omega) (.slice p L q)).off (g := w.heap.size + 1) (i := 2) (by omega) (.slice p2 n3 q2))
        have HAP := Lib.hid hap
        obtain ⟨⟨q0, q1', q2'⟩, qf⟩ := (HZ1.out.below hb).below hb5
        clear ho1 ho2 hap
        go_wp2
        refine bodyPost_ret (v := .tuple #[.agg #[.string s1, .slice p L q, .slice p2 n3 q2], .bool true]) (by simp [results, Tryd.results13, go_sem, q0, q1', q2']) rfl ?_
        exact HN.out _ p L q p2 q2 acc HS.out HL.out.symm (HO1.out.base (by omega)) (HO2.out.base (by omega)) HAP.out (((hbx.setCell (by show w.heap.size ≤ w.heap.size + 1; omega) _).setCell (by show w.heap.size ≤ w.heap.size + 1; omega) _).setCell (by show w.heap.size ≤ w.heap.size + 1; omega) _)
end Go.Proofs.YtccendchnndaiaaDoor
end

section
namespace Go.Proofs.YtccendchnndaiaaDoor
open Go.RowKit

def parseR (l : List UInt8) : Adr := (parseA l).getD adr0
/-- What reading an address leaves. -/
def ParseRet (l : List UInt8) (w : World) (e : Ending) (w' : World) : Prop := e = .returned (.tuple #[adrV (parseR l), .bool (parseA l).isSome]) ∧ Below w.heap.size w w'
theorem parseRet_none {l : List UInt8} {w w' : World} (h : parseA l = none) (hb : Below w.heap.size w w') : ParseRet l w (.returned (.tuple #[.agg #[.string ⟨#[]⟩, .string ⟨#[]⟩, .string ⟨#[]⟩], .bool false])) w' :=
  ⟨by unfold parseR; rw [h]; rfl, hb⟩
theorem parseRet_some {l : List UInt8} {w w' : World} {n x d : ByteArray} (h : parseA l = some (adr n x d)) (hb : Below w.heap.size w w') : ParseRet l w (.returned (.tuple #[.agg #[.string n, .string x, .string d], .bool true])) w' :=
  ⟨by unfold parseR; rw [h]; show _ = Ending.returned (.tuple #[adrV (adr n x d), .bool true]); rw [adrV_adr], hb⟩
theorem lowS_str (l : List UInt8) : lowS (str l) = str (low l) := by unfold lowS; rw [str_list]
theorem isText_trimS {l : List UInt8} (h : isText l = true) : isText (trimS l) = true := isText_sub h (fun _ hx => trimS_mem hx) (trimS_len l)
end Go.Proofs.YtccendchnndaiaaDoor
end

section
namespace Go.Proofs.YtccendchnndaiaaDoor
open Go.RowKit

end Go.Proofs.YtccendchnndaiaaDoor
end

section
namespace Go.Proofs.YtccendchnndaiaaDoor
open Go.RowKit

def CutRetS (s : ByteArray) (c : UInt8) (w : World) (e : Ending) (w' : World) : Prop :=
  (∀ a d, cutU c s.data.toList = some (a, d) → e = .returned (.tuple #[.string (str a), .string (str d), .bool true])) ∧
  (cutU c s.data.toList = none → e = .returned (.tuple #[.string s, .string ⟨#[]⟩, .bool false])) ∧ ∃ q, w' = w.drewN q
theorem cutRetS_some {s : ByteArray} {c : UInt8} {k q : Nat} {w : World} {x y : ByteArray} (h : cutK c 0 s.data.toList = some k) (hx : x = s.extract 0 k) (hy : y = s.extract (k + 1) s.size) : CutRetS s c w (.returned (.tuple #[.string x, .string y, .bool true])) (w.drewN q) := by
  have hc : cutU c s.data.toList = some (s.data.toList.take k, s.data.toList.drop (k + 1)) := by unfold cutU; rw [h]; rfl
  refine ⟨fun a d h' => ?_, fun h' => ?_, q, rfl⟩
  · rw [hc] at h'; injection h' with h'; injection h' with h1 h2; subst h1 h2; rw [hx, hy, ext_take, ext_drop]
  · rw [hc] at h'; cases h'
theorem cutRetS_none {s : ByteArray} {c : UInt8} {w : World} (h : cutK c 0 s.data.toList = none) : CutRetS s c w (.returned (.tuple #[.string s, .string ⟨#[]⟩, .bool false])) w := by
  have hc : cutU c s.data.toList = none := by unfold cutU; rw [h]; rfl
  refine ⟨fun a d h' => ?_, fun _ => rfl, 0, rfl⟩
  rw [hc] at h'; cases h'
set_option maxRecDepth 100000 in
set_option maxHeartbeats 4000000 in
theorem l2Cut_any (s : ByteArray) (c : UInt8) (w : World) (hc34 : (34 : UInt8) ≠ c) (hs : s.size ≤ 1073741824) :
    Calls Tryd.prog 101 #[.string s, .int .u8 c.toNat] w (CutRetS s c w) := by
  go_enter Tryd.func101, Tryd.ntmps101
  go_wp2_with fail
  go_loop [7] (fun i => ∃ k : Nat, k ≤ s.size ∧ i = .int .i64 k ∧ cutsAt c s k) (fun i => s.size - (intOf i).toNat)
  case atStart => exact ⟨0, Nat.zero_le _, rfl, cutsAt_start c s⟩
  case round =>
    obtain ⟨k, hk, rfl, hg⟩ := hrel
    have HG := Lib.hid hg
    clear hg
    by_cases hlt : k < s.size
    · by_cases hq : s[k] = 34
      · have e2 := beq_t hq (n := 34) rfl
        cases hr : readQ (s.data.toList.drop (k + 1)) with
        | none =>
          have HR := Lib.hid (cutsAt_stuck hc34 HG.out hlt hq hr)
          have HQ := Lib.hid hr
          clear hq hr
          go_wp2_with fail
          refine (l1Read_any s k _ hlt hs).mono ?_
          rintro e w1 ⟨_, hno, rfl⟩
          have he := hno HQ.out
          clear hno
          subst he
          go_wp2
          go_ret3
          exact cutRetS_none HR.out
        | some y =>
          obtain ⟨t, r⟩ := y
          obtain ⟨hN, hlo⟩ := cutsAt_quote hc34 HG.out hlt hq hr
          have HN := Lib.hid hN
          have HQ := Lib.hid hr
          clear hq hr hN
          go_wp2_with fail
          refine (l1Read_any s k _ hlt hs).mono ?_
          rintro e w1 ⟨hy, _, rfl⟩
          have he := hy t r HQ.out
          clear hy
          subst he
          obtain ⟨q, hq⟩ : ∃ q, q = s.size - r.length := ⟨_, rfl⟩
          rw [← hq] at HN hlo ⊢
          have hqs : q ≤ s.size := by omega
          clear hq
          go_wp2
          go_round
          case rel => exact ⟨q, hqs, by go_num, HN.out⟩
          case measure => simp [intOf]; omega
      · have e2 := beq_f hq (n := 34) rfl
        by_cases hc : s[k] = c
        · have HR := Lib.hid (cutsAt_hit HG.out hlt hc)
          have e1 : ((s[k].toNat : Int) == (c.toNat : Int)) = true := by rw [hc]; simp
          have hw1 : IntKind.i64.wrap ((k : Int) + 1) = (k : Int) + 1 := IntWalk.i64_in _ (by omega)
          have hw2 : 0 ≤ (k : Int) + 1 := by omega
          have hw3 : ((k : Int) + 1).toNat = k + 1 := by omega
          clear hc hq
          go_wp2
          go_quiet (fail)
          go_wp2
          go_ret3
          exact cutRetS_some HR.out rfl rfl
        · have e1 : ((s[k].toNat : Int) == (c.toNat : Int)) = false := by
            rw [beq_eq_false_iff_ne]; intro e; exact hc (UInt8.toNat_inj.1 (by omega))
          have HN := Lib.hid (cutsAt_skip HG.out hlt hc hq)
          clear hc hq
          go_wp2
          go_round
          case rel => exact ⟨k + 1, by omega, by go_num, HN.out⟩
          case measure => simp [intOf]; omega
    · have HR := Lib.hid (cutsAt_end HG.out (by omega))
      go_wp2
      go_ret3
      exact cutRetS_none HR.out
/-- A list of the call's own. -/
def OwnRet (xs : List (List UInt8)) (w : World) (e : Ending) (w' : World) : Prop := ∃ v, e = .returned v ∧ OwnL w.heap.size v xs w' ∧ Below w.heap.size w w'
def partsAt (c : UInt8) (s : ByteArray) (st i : Nat) (acc : List (List UInt8)) : Prop := splitC c s.data.toList = acc ++ glue ((s.data.toList.drop st).take (i - st)) (splitC c (s.data.toList.drop i))
theorem partsAt_start (c : UInt8) (s : ByteArray) : partsAt c s 0 0 [] := by unfold partsAt; simp [glue_nil]
theorem partsAt_skip {c : UInt8} {s : ByteArray} {st i : Nat} {acc : List (List UInt8)} (h : partsAt c s st i acc) (hst : st ≤ i) (hi : i < s.size) (hc : s[i] ≠ c) : partsAt c s st (i + 1) acc := by
  unfold partsAt at h ⊢
  rw [h, drop_at s i hi, splitC_skip _ hc, glue_app]
  congr 2
  rw [show i + 1 - st = (i - st) + 1 by omega, List.take_succ_eq_append_getElem (by rw [List.length_drop, size_list]; omega)]
  congr 1
  rw [List.getElem_drop]
  have : st + (i - st) = i := by omega
  simp only [this]; rfl
theorem partsAt_hit {c : UInt8} {s : ByteArray} {st i : Nat} {acc : List (List UInt8)} (h : partsAt c s st i acc) (hi : i < s.size) (hc : s[i] = c) : partsAt c s (i + 1) (i + 1) (acc ++ [(s.extract st i).data.toList]) := by
  unfold partsAt at h ⊢
  rw [h, drop_at s i hi, hc, splitC_hit, Lib.extract_data, Nat.sub_self, List.take_zero, glue_nil]
  simp [glue]
theorem partsAt_end {c : UInt8} {s : ByteArray} {st i : Nat} {acc : List (List UInt8)} (h : partsAt c s st i acc) (hst : st ≤ i) (hi : s.size ≤ i) : splitC c s.data.toList = acc ++ [(s.extract st s.size).data.toList] := by
  unfold partsAt at h
  rw [h, drop_out s i hi, Lib.extract_data]
  show acc ++ glue _ [[]] = _
  simp only [glue, List.append_nil]
  congr 2
  rw [List.take_of_length_le (by rw [List.length_drop, size_list]; omega), List.take_of_length_le (by rw [List.length_drop, size_list]; omega)]
theorem ext_size (s : ByteArray) (a b : Nat) : (s.extract a b).size ≤ s.size := by rw [ByteArray.size_extract]; omega
set_option maxRecDepth 100000 in
set_option maxHeartbeats 4000000 in
theorem l2Parts_any (s : ByteArray) (c : UInt8) (w : World) (hs : s.size ≤ 1073741000) :
    Calls Tryd.prog 128 #[.string s, .int .u8 c.toNat] w (OwnRet (splitC c s.data.toList) w) := by
  obtain ⟨i0, hi, hz0, hz1, hz2⟩ := info_parts sInfo
  go_enter Tryd.func128, Tryd.ntmps128
  go_wp2_with fail
  go_loopw [5, 6, 7] (fun v st i wr => ∃ (k a : Nat) (acc : List (List UInt8)), k ≤ s.size ∧ a ≤ k ∧ i = .int .i64 k ∧ st = .int .i64 a ∧ acc.length ≤ k ∧ partsAt c s a k acc ∧ OwnL w.heap.size v acc wr ∧ Below w.heap.size w wr) (fun _ _ i _ => s.size - (intOf i).toNat)
  case atStart => exact ⟨0, 0, [], Nat.zero_le _, Nat.le_refl _, rfl, rfl, Nat.zero_le _, partsAt_start c s, OwnL.empty w, (Below.refl _ _).alloc (Nat.le_refl _) _⟩
  case round =>
    obtain ⟨k, a, acc, hk, hak, rfl, rfl, hal, hg, hown, hb⟩ := hrel
    have HG := Lib.hid hg
    clear hg
    have hown1 := hown
    unfold OwnL at hown1
    by_cases hlt : k < s.size
    · by_cases hc : s[k] = c
      · have HN := Lib.hid (partsAt_hit HG.out hlt hc)
        have e1 : ((s[k].toNat : Int) == (c.toNat : Int)) = true := by rw [hc]; simp
        have hbs := hb.size
        clear hc
        go_wp2_with (at_builtin; refine wpList_append_own _ rfl _ _ 23 rfl w.heap.size 9 i0 (.string ⟨#[]⟩) 1 16 Tryd.underlying23 hi hz0 hz1 hz2 rfl (by decide) _ _ _ rfl (hown1.alloc _) ⟨wr.heap.size, 0, none⟩ 1 1 [.string (s.extract a k)] rfl rfl ?c1 ?c2 ?c3 ?c4 ?c5 ?_)
        case c1 =>
          intro u v hj
          match u, hj with
          | 0, hj => simp at hj; subst hj; simp [Addr.add]
        case c2 => intro u hu; simp at hu; subst hu; rfl
        case c3 => unfold maxLen; omega
        case c4 => omega
        case c5 => simp; omega
        intro v' w3 hown' hgrow _
        have hO3 : OwnL w.heap.size v' (acc ++ [(s.extract a k).data.toList]) w3 := own_snoc hown'
        have hb3 : Below w.heap.size wr w3 := ((Below.refl _ _).alloc (by omega) _).grown hgrow (by simp; omega) (fun k hk => (hown1.lt k hk).1)
        go_wp2
        go_roundw
        case rel => exact ⟨k + 1, k + 1, _, by omega, Nat.le_refl _, by go_num, by go_num, by simp; omega, HN.out, hO3, hb.trans hb3⟩
        case measure => simp [intOf]; omega
      · have HN := Lib.hid (partsAt_skip HG.out hak hlt hc)
        have e1 : ((s[k].toNat : Int) == (c.toNat : Int)) = false := by
          rw [beq_eq_false_iff_ne]; intro e; exact hc (UInt8.toNat_inj.1 (by omega))
        clear hc
        go_wp2
        go_roundw
        case rel => exact ⟨k + 1, a, acc, by omega, by omega, by go_num, rfl, by omega, HN.out, hown, hb⟩
        case measure => simp [intOf]; omega
    · have HN := Lib.hid (partsAt_end HG.out hak (by omega))
      have hbs := hb.size
      go_wp2_with (at_builtin; refine wpList_append_own _ rfl _ _ 23 rfl w.heap.size 9 i0 (.string ⟨#[]⟩) 1 16 Tryd.underlying23 hi hz0 hz1 hz2 rfl (by decide) _ _ _ rfl (hown1.alloc _) ⟨wr.heap.size, 0, none⟩ 1 1 [.string (s.extract a s.size)] rfl rfl ?q1 ?q2 ?q3 ?q4 ?q5 ?_)
      case q1 =>
        intro u v hj
        match u, hj with
        | 0, hj => simp at hj; subst hj; simp [Addr.add]
      case q2 => intro u hu; simp at hu; subst hu; rfl
      case q3 => unfold maxLen; omega
      case q4 => omega
      case q5 => simp; omega
      intro v' w3 hown' hgrow _
      have hO3 : OwnL w.heap.size v' (acc ++ [(s.extract a s.size).data.toList]) w3 := own_snoc hown'
      have hb3 : Below w.heap.size wr w3 := ((Below.refl _ _).alloc (by omega) _).grown hgrow (by simp; omega) (fun k hk => (hown1.lt k hk).1)
      go_wp2
      go_ret
      exact ⟨v', rfl, by rw [HN.out]; exact hO3, hb.trans hb3⟩
set_option maxRecDepth 100000 in
set_option maxHeartbeats 2000000 in
theorem l2Local_any (s : ByteArray) (w : World) (hs : s.size ≤ 1073741000) :
    Calls Tryd.prog 120 #[.string s] w fun e w' => e = .returned (.bool (isLocal s.data.toList)) ∧ Below w.heap.size w w' := by
  have HSM := Lib.hid (splitC_small 46 s.data.toList)
  have HD : Hid (isLocal s.data.toList = (decide (s.size ≤ 30) && (splitC 46 s.data.toList).all isAtom)) := rfl
  go_enter Tryd.func120, Tryd.ntmps120
  go_wp2_with fail
  refine (l2Parts_any s 46 _ hs).mono ?_
  rintro e w1 ⟨v, rfl, ho, hb1⟩
  obtain ⟨a1, c1, rfl, hr, hm⟩ := ho.read
  generalize hX : splitC 46 s.data.toList = xs at *
  have HX := Lib.hid hX
  obtain ⟨_, hr2⟩ := hr
  have HR := Lib.hid hr2
  have hlen : xs.length ≤ 1073741824 := by have := HSM.out.1; rw [size_list] at this; omega
  clear hX hr2
  go_wp2_with fail
  go_loop [4] (fun i => ∃ k : Nat, k ≤ xs.length ∧ i = .int .i64 k ∧ ∀ j, (h : j < k) → (h' : j < xs.length) → isAtom xs[j] = true) (fun i => xs.length - (intOf i).toNat)
  case atStart => exact ⟨0, Nat.zero_le _, rfl, fun j h => by omega⟩
  case round =>
    obtain ⟨k, hk, rfl, hall⟩ := hrel
    have HA := Lib.hid hall
    clear hall
    by_cases hlt : k < xs.length
    · obtain ⟨b, o, rfl, hbl, hcell⟩ := HR.out.resolve_left (by omega)
      have hc1 : w1.cell? ⟨b, o + k, none⟩ = some (.string (str xs[k])) := hcell k hlt
      have hsz : (str xs[k]).size ≤ 1073741824 := by rw [str_size]; have := HSM.out.2 _ (List.getElem_mem hlt); rw [size_list] at this; omega
      clear hcell
      cases hp : isAtom xs[k]
      · have HP : Hid (isAtom (str xs[k]).data.toList = false) := by show _ = _; rw [str_list]; exact hp
        have HE : Hid (xs.all isAtom = false) := by show _ = _; rw [List.all_eq_false]; exact ⟨_, List.getElem_mem hlt, by simp [hp]⟩
        generalize str xs[k] = x at *
        clear hp
        go_wp2_with fail
        refine (atomValidS_any x _ (by unfold maxLen; omega)).mono ?_
        rintro e w2 ⟨rfl, rfl⟩
        rw [HP.out]
        go_wp2
        go_ret
        exact ⟨ret_bool (by rw [HD.out, HE.out]; simp), hb1⟩
      · have HP : Hid (isAtom (str xs[k]).data.toList = true) := by show _ = _; rw [str_list]; exact hp
        have HQ := Lib.hid hp
        generalize str xs[k] = x at *
        clear hp
        go_wp2_with fail
        refine (atomValidS_any x _ (by unfold maxLen; omega)).mono ?_
        rintro e w2 ⟨rfl, rfl⟩
        rw [HP.out]
        go_wp2
        go_round
        case rel => exact ⟨k + 1, by omega, by go_num, fun j h h' => by
          by_cases e : j = k
          · subst e; exact HQ.out
          · exact HA.out j (by omega) h'⟩
        case measure => simp [intOf]; omega
    · have HE : Hid (xs.all isAtom = true) := by
        show _ = _
        rw [List.all_eq_true]; intro x hx
        obtain ⟨j, hj, rfl⟩ := List.getElem_of_mem hx
        exact HA.out j (by omega) hj
      go_wp2
      go_ret
      exact ⟨ret_bool (by rw [HD.out, HE.out, Bool.and_true]; rw [Bool.eq_iff_iff]; simp; omega), hb1⟩
theorem labC_nat : ∀ n, n < 256 → labC (UInt8.ofNat n) = ((alnumB (UInt8.ofNat n) || decide (UInt8.ofNat n = 45)) && !capB (UInt8.ofNat n)) := by decide +kernel
theorem labC_eq (c : UInt8) : labC c = ((alnumB c || decide (c = 45)) && !capB c) := by
  have := labC_nat c.toNat c.toNat_lt; rw [UInt8.ofNat_toNat] at this; exact this
set_option maxRecDepth 100000 in
set_option maxHeartbeats 8000000 in
theorem l2Domain_any (s : ByteArray) (w : World) (hs : s.size ≤ 1073741000) :
    Calls Tryd.prog 121 #[.string s] w fun e w' => e = .returned (.bool (isDomain s.data.toList)) ∧ Below w.heap.size w w' := by
  have HSM := Lib.hid (splitC_small 46 s.data.toList)
  have HD : Hid (isDomain s.data.toList = (decide (s.size ≤ 40) && (splitC 46 s.data.toList).all isLab)) := rfl
  go_enter Tryd.func121, Tryd.ntmps121
  go_wp2_with fail
  refine (l2Parts_any s 46 _ hs).mono ?_
  rintro e w1 ⟨v, rfl, ho, hb1⟩
  obtain ⟨a1, c1, rfl, hr, hm⟩ := ho.read
  generalize hX : splitC 46 s.data.toList = xs at *
  have HX := Lib.hid hX
  obtain ⟨_, hr2⟩ := hr
  have HR := Lib.hid hr2
  have hlen : xs.length ≤ 1073741824 := by have := HSM.out.1; rw [size_list] at this; omega
  clear hX hr2
  go_wp2_with fail
  go_loop [4] (fun i => ∃ k : Nat, k ≤ xs.length ∧ i = .int .i64 k ∧ ∀ j, (h : j < k) → (h' : j < xs.length) → isLab xs[j] = true) (fun i => xs.length - (intOf i).toNat)
  case atStart => exact ⟨0, Nat.zero_le _, rfl, fun j h => by omega⟩
  case round =>
    obtain ⟨k, hk, rfl, hall⟩ := hrel
    have HA := Lib.hid hall
    clear hall
    by_cases hlt : k < xs.length
    · obtain ⟨b, o, rfl, hbl, hcell⟩ := HR.out.resolve_left (by omega)
      have hc1 : w1.cell? ⟨b, o + k, none⟩ = some (.string (str xs[k])) := hcell k hlt
      have hsz : (str xs[k]).size ≤ 1073741824 := by rw [str_size]; have := HSM.out.2 _ (List.getElem_mem hlt); rw [size_list] at this; omega
      have HBAD : Hid (isLab xs[k] = false → xs.all isLab = false) := fun hp => by rw [List.all_eq_false]; exact ⟨_, List.getElem_mem hlt, by simp [hp]⟩
      have HOK : Hid (isLab xs[k] = true → ∀ j, (h : j < k + 1) → (h' : j < xs.length) → isLab xs[j] = true) := fun hp j h h' => by
        by_cases e : j = k
        · subst e; exact hp
        · exact HA.out j (by omega) h'
      have HXK : Hid (xs[k] = (str xs[k]).data.toList) := by show _ = _; rw [str_list]
      generalize str xs[k] = x at *
      clear hcell
      by_cases h0 : x.size = 0
      · have HB := Lib.hid (HBAD.out (by rw [HXK.out]; exact isLab_nil x h0))
        have he := empty_t h0
        have H0 := Lib.hid h0
        clear h0
        go_wp2
        go_ret
        exact ⟨ret_bool (by rw [HD.out, HB.out]; simp), hb1⟩
      · have he := empty_f (s := x) (by omega)
        have hp : 0 < x.size := by omega
        have hp2 : 1 ≤ x.size := by omega
        have h0' : x.size - 1 < x.size := by omega
        have hhead : x.data.toList.head? = some x[0] := by
          rw [List.head?_eq_getElem?, List.getElem?_eq_getElem (by rw [size_list]; exact hp)]; rfl
        have hlast : x.data.toList.getLast? = some x[x.size - 1] := by
          rw [List.getLast?_eq_getElem?, size_list, List.getElem?_eq_getElem (by rw [size_list]; omega)]; rfl
        by_cases ha : x[0] = 45
        · have HB := Lib.hid (HBAD.out (by rw [HXK.out]; unfold isLab; rw [hhead, ha]; simp))
          have e1 := beq_t ha (n := 45) rfl
          clear ha hhead hlast
          go_wp2
          go_ret
          exact ⟨ret_bool (by rw [HD.out, HB.out]; simp), hb1⟩
        · have e1 := beq_f ha (n := 45) rfl
          by_cases hb : x[x.size - 1] = 45
          · have HB := Lib.hid (HBAD.out (by rw [HXK.out]; unfold isLab; rw [hlast, hb]; simp))
            have e2 := beq_t hb (n := 45) rfl
            clear ha hb hhead hlast
            go_wp2
            go_ret
            exact ⟨ret_bool (by rw [HD.out, HB.out]; simp), hb1⟩
          · have e2 := beq_f hb (n := 45) rfl
            have HGOOD : Hid ((∀ j, (h' : j < x.size) → labC x[j] = true) → isLab xs[k] = true) := fun h => by
              rw [HXK.out, isLab_good x hp h]; simp [ha, hb]
            have HBAD2 : Hid (∀ j, (h' : j < x.size) → labC x[j] = false → xs.all isLab = false) := fun j h' h => HBAD.out (by rw [HXK.out]; exact isLab_bad x j h' h)
            clear ha hb hhead hlast
            go_wp2_with fail
            go_loop [6] (fun i => ∃ q : Nat, q ≤ x.size ∧ i = .int .i64 q ∧ ∀ j, (h : j < q) → (h' : j < x.size) → labC x[j] = true) (fun i => x.size - (intOf i).toNat)
            case atStart => exact ⟨0, Nat.zero_le _, rfl, fun j h => by omega⟩
            case round =>
              obtain ⟨q, hq, rfl, hqall⟩ := hrel
              have HQA := Lib.hid hqall
              clear hqall
              by_cases hqlt : q < x.size
              · have HEQ := Lib.hid (labC_eq x[q])
                have HSTEP : Hid (labC x[q] = true → ∀ j, (h : j < q + 1) → (h' : j < x.size) → labC x[j] = true) := fun hp j h h' => by
                  by_cases e : j = q
                  · subst e; exact hp
                  · exact HQA.out j (by omega) h'
                cases hal : alnumB x[q]
                · have HAL := Lib.hid hal
                  by_cases h45 : x[q] = 45
                  · have e3 := bneq_f h45 (n := 45) rfl
                    have hlow : (x[q].toNat : Int) < 65 := by rw [h45]; decide
                    have HN := Lib.hid (HSTEP.out (by rw [HEQ.out, h45]; decide))
                    clear hal h45
                    go_wp2_with fail
                    refine (l1Letter_any _ _).mono ?_
                    rintro e w2 ⟨rfl, rfl⟩
                    rw [HAL.out]
                    go_wp2
                    go_round
                    case rel => exact ⟨q + 1, by omega, by go_num, HN.out⟩
                    case measure => simp [intOf]; omega
                  · have e3 := bneq_t h45 (n := 45) rfl
                    have HB := Lib.hid (HBAD2.out q hqlt (by rw [HEQ.out, hal]; simp [h45]))
                    clear hal h45
                    go_wp2_with fail
                    refine (l1Letter_any _ _).mono ?_
                    rintro e w2 ⟨rfl, rfl⟩
                    rw [HAL.out]
                    go_wp2
                    go_ret
                    exact ⟨ret_bool (by rw [HD.out, HB.out]; simp), hb1⟩
                · have HAL := Lib.hid hal
                  cases hcp : capB x[q]
                  · have HN := Lib.hid (HSTEP.out (by rw [HEQ.out, hal, hcp]; rfl))
                    rcases capB_f hcp with hlow | ⟨hlo, hhi⟩
                    · clear hal hcp
                      go_wp2_with fail
                      refine (l1Letter_any _ _).mono ?_
                      rintro e w2 ⟨rfl, rfl⟩
                      rw [HAL.out]
                      go_wp2
                      go_round
                      case rel => exact ⟨q + 1, by omega, by go_num, HN.out⟩
                      case measure => simp [intOf]; omega
                    · clear hal hcp
                      go_wp2_with fail
                      refine (l1Letter_any _ _).mono ?_
                      rintro e w2 ⟨rfl, rfl⟩
                      rw [HAL.out]
                      go_wp2
                      go_round
                      case rel => exact ⟨q + 1, by omega, by go_num, HN.out⟩
                      case measure => simp [intOf]; omega
                  · have HB := Lib.hid (HBAD2.out q hqlt (by rw [HEQ.out, hcp]; simp))
                    obtain ⟨hlo, hhi⟩ := capB_t hcp
                    clear hal hcp
                    go_wp2_with fail
                    refine (l1Letter_any _ _).mono ?_
                    rintro e w2 ⟨rfl, rfl⟩
                    rw [HAL.out]
                    go_wp2
                    go_ret
                    exact ⟨ret_bool (by rw [HD.out, HB.out]; simp), hb1⟩
              · have HG := Lib.hid (HOK.out (HGOOD.out (fun j h' => HQA.out j (by omega) h')))
                go_wp2
                go_round
                case rel => exact ⟨k + 1, by omega, by go_num, HG.out⟩
                case measure => simp [intOf]; omega
    · have HE : Hid (xs.all isLab = true) := by
        show _ = _
        rw [List.all_eq_true]; intro x hx
        obtain ⟨j, hj, rfl⟩ := List.getElem_of_mem hx
        exact HA.out j (by omega) hj
      go_wp2
      go_ret
      exact ⟨ret_bool (by rw [HD.out, HE.out, Bool.and_true]; rw [Bool.eq_iff_iff]; simp; omega), hb1⟩
end Go.Proofs.YtccendchnndaiaaDoor
end

section
namespace Go.Proofs.YtccendchnndaiaaDoor
open Go.RowKit

set_option maxRecDepth 100000 in
set_option maxHeartbeats 400000 in
theorem l2Name_any (s : ByteArray) (w : World) (hs : s.size ≤ 1073741824) :
    Calls Tryd.prog 119 #[.string s] w fun e w' => e = .returned (.bool (isName s.data.toList)) ∧ w = w' := by
  have HD : Hid (isName s.data.toList = (isText s.data.toList && decide (s.size ≤ 40))) := rfl
  cases h : isText s.data.toList
  · have H := Lib.hid h
    clear h
    go_enter Tryd.func119, Tryd.ntmps119
    go_wp2_with fail
    refine (textValidS_any s _ (by unfold maxLen; omega)).mono ?_
    rintro e w1 ⟨rfl, rfl⟩
    rw [H.out]
    go_wp2
    go_ret
    exact ⟨ret_bool (by rw [HD.out, H.out]; rfl), rfl⟩
  · have H := Lib.hid h
    clear h
    go_enter Tryd.func119, Tryd.ntmps119
    go_wp2_with fail
    refine (textValidS_any s _ (by unfold maxLen; omega)).mono ?_
    rintro e w1 ⟨rfl, rfl⟩
    rw [H.out]
    go_wp2
    go_ret
    exact ⟨ret_bool (by rw [HD.out, H.out, Bool.true_and, Bool.eq_iff_iff]; simp; omega), rfl⟩
theorem isLocal_long {l : List UInt8} (h : 30 < l.length) : isLocal l = false := by unfold isLocal; rw [decide_eq_false (by omega)]; rfl
theorem isDomain_long {l : List UInt8} (h : 40 < l.length) : isDomain l = false := by unfold isDomain; rw [decide_eq_false (by omega)]; rfl
set_option maxRecDepth 100000 in
set_option maxHeartbeats 1000000 in
theorem addressValidS_any (n l d : ByteArray) (w : World) (hn : n.size ≤ 1073741000) (hl : l.size ≤ 1073741000) (hd : d.size ≤ 1073741000) :
    Calls Tryd.prog 108 #[.agg #[.string n, .string l, .string d]] w fun e w' => e = .returned (.bool (isAdr (adr n l d))) ∧ Below w.heap.size w w' := by
  have HP : Hid (isAdr (adr n l d) = (isName n.data.toList && isLocal l.data.toList && isDomain d.data.toList)) := rfl
  have hb0 : Below w.heap.size w (w.alloc (.cells #[.string n, .string l, .string d] 102)) := (Below.refl _ _).alloc (Nat.le_refl _) _
  cases h1 : isName n.data.toList
  · have H1 := Lib.hid h1
    clear h1
    go_enter Tryd.func108, Tryd.ntmps108
    go_wp2_with fail
    refine (l2Name_any n _ (by omega)).mono ?_
    rintro e w1 ⟨rfl, rfl⟩
    rw [H1.out]
    go_wp2
    go_ret
    exact ⟨ret_bool (by rw [HP.out, H1.out]; rfl), hb0⟩
  · have H1 := Lib.hid h1
    clear h1
    by_cases h30 : l.size ≤ 30
    · have d1 : decide ((l.size : Int) ≤ 30) = true := by simp; omega
      cases h3 : isLocal l.data.toList
      · have H3 := Lib.hid h3
        clear h3
        go_enter Tryd.func108, Tryd.ntmps108
        go_wp2_with fail
        refine (l2Name_any n _ (by omega)).mono ?_
        rintro e w1 ⟨rfl, rfl⟩
        rw [H1.out]
        go_wp2_with fail
        refine (l2Local_any l _ hl).mono ?_
        rintro e w1 ⟨rfl, hb1⟩
        rw [H3.out]
        go_wp2
        go_ret
        exact ⟨ret_bool (by rw [HP.out, H1.out, H3.out]; rfl), nx hb0 hb1⟩
      · have H3 := Lib.hid h3
        clear h3
        by_cases h40 : d.size ≤ 40
        · have d2 : decide ((d.size : Int) ≤ 40) = true := by simp; omega
          go_enter Tryd.func108, Tryd.ntmps108
          go_wp2_with fail
          refine (l2Name_any n _ (by omega)).mono ?_
          rintro e w1 ⟨rfl, rfl⟩
          rw [H1.out]
          go_wp2_with fail
          refine (l2Local_any l _ hl).mono ?_
          rintro e w1 ⟨rfl, hb1⟩
          rw [H3.out]
          obtain ⟨hc, hf⟩ := bcell hb1
          go_wp2_with fail
          refine (l2Domain_any d _ hd).mono ?_
          rintro e w2 ⟨rfl, hb2⟩
          go_wp2
          go_ret
          exact ⟨ret_bool (by rw [HP.out, H1.out, H3.out]; rfl), nx (nx hb0 hb1) hb2⟩
        · have d2 : decide ((d.size : Int) ≤ 40) = false := by simp; omega
          have HDD := Lib.hid (isDomain_long (l := d.data.toList) (by rw [size_list]; omega))
          go_enter Tryd.func108, Tryd.ntmps108
          go_wp2_with fail
          refine (l2Name_any n _ (by omega)).mono ?_
          rintro e w1 ⟨rfl, rfl⟩
          rw [H1.out]
          go_wp2_with fail
          refine (l2Local_any l _ hl).mono ?_
          rintro e w1 ⟨rfl, hb1⟩
          rw [H3.out]
          obtain ⟨hc, hf⟩ := bcell hb1
          go_wp2
          go_ret
          exact ⟨ret_bool (by rw [HP.out, H1.out, H3.out, HDD.out]; rfl), nx hb0 hb1⟩
    · have d1 : decide ((l.size : Int) ≤ 30) = false := by simp; omega
      have HLL := Lib.hid (isLocal_long (l := l.data.toList) (by rw [size_list]; omega))
      go_enter Tryd.func108, Tryd.ntmps108
      go_wp2_with fail
      refine (l2Name_any n _ (by omega)).mono ?_
      rintro e w1 ⟨rfl, rfl⟩
      rw [H1.out]
      go_wp2
      go_ret
      exact ⟨ret_bool (by rw [HP.out, H1.out, HLL.out]; rfl), hb0⟩
end Go.Proofs.YtccendchnndaiaaDoor
end

section
namespace Go.Proofs.YtccendchnndaiaaDoor
open Go.RowKit

def boxVal (l : List UInt8) : Adr × Bool := match cutU 64 l with
  | none => (⟨[], l, []⟩, false)
  | some (a, d) => (⟨[], a, low d⟩, isAdr ⟨[], a, low d⟩)
theorem boxVal_boxA (l : List UInt8) : boxA [] l = if (boxVal l).2 then some (boxVal l).1 else none := by
  unfold boxA boxVal
  cases cutU 64 l with
  | none => rfl
  | some y => rfl
theorem boxVal_small (l : List UInt8) : (boxVal l).1.loc.length ≤ l.length ∧ (boxVal l).1.dom.length ≤ l.length ∧ (boxVal l).1.name = [] := by
  unfold boxVal
  cases h : cutU 64 l with
  | none => exact ⟨Nat.le_refl _, by simp, rfl⟩
  | some y =>
    obtain ⟨a, d⟩ := y
    have := cutU_bound h
    exact ⟨by show a.length ≤ _; omega, by show (low d).length ≤ _; unfold low; rw [List.length_map]; omega, rfl⟩
def BoxRet (l : List UInt8) (w : World) (e : Ending) (w' : World) : Prop := e = .returned (.tuple #[adrV (boxVal l).1, .bool (boxVal l).2]) ∧ Below w.heap.size w w'
theorem boxRet_none {l : List UInt8} {w w' : World} {x : ByteArray} (h : cutU 64 l = none) (hx : x.data.toList = l) (hb : Below w.heap.size w w') : BoxRet l w (.returned (.tuple #[.agg #[.string ⟨#[]⟩, .string x, .string ⟨#[]⟩], .bool false])) w' := by
  refine ⟨?_, hb⟩
  unfold boxVal; rw [h]
  show _ = Ending.returned (.tuple #[.agg #[.string (str []), .string (str l), .string (str [])], .bool false])
  rw [← hx, str_of]; rfl
theorem boxRet_some {l a d : List UInt8} {w w' : World} {b : Bool} (h : cutU 64 l = some (a, d)) (hv : b = isAdr ⟨[], a, low d⟩) (hb : Below w.heap.size w w') : BoxRet l w (.returned (.tuple #[.agg #[.string ⟨#[]⟩, .string (str a), .string (str (low d))], .bool b])) w' := by
  refine ⟨?_, hb⟩
  unfold boxVal; rw [h, hv]; rfl
theorem lowS_nil : lowS ⟨#[]⟩ = ⟨#[]⟩ := rfl
set_option maxRecDepth 100000 in
set_option maxHeartbeats 1000000 in
theorem l2Box_any (s : ByteArray) (w : World) (hs : s.size ≤ 1073741000) :
    Calls Tryd.prog 96 #[.string s] w (BoxRet s.data.toList w) := by
  have hb0 : Below w.heap.size w (w.alloc (.cells #[.string ⟨#[]⟩, .string ⟨#[]⟩, .string ⟨#[]⟩] 102)) := (Below.refl _ _).alloc (Nat.le_refl _) _
  cases hcut : cutU 64 s.data.toList with
  | none =>
    have HC := Lib.hid hcut
    clear hcut
    go_enter Tryd.func96, Tryd.ntmps96
    go_wp2_with fail
    refine (l2Cut_any s 64 _ (by decide) (by omega)).mono ?_
    rintro e w1 ⟨_, hno, q, rfl⟩
    have he := hno HC.out
    clear hno
    subst he
    have hb1 := below_drewN hb0 q
    go_wp2_with fail
    refine (lowerTextS_any ⟨#[]⟩ _ (by decide)).mono ?_
    rintro e w2 ⟨rfl, hb2⟩
    rw [lowS_nil]
    obtain ⟨hc, hf⟩ := bcell hb2
    have hsz := hb2.size
    simp at hsz
    have hlt : w.heap.size < w2.heap.size := by omega
    have hne : w.heap.size ≠ w2.heap.size := by omega
    have hne2 : w2.heap.size ≠ w.heap.size := by omega
    go_wp2
    go_region
    all_goals
      go_wp2
      refine bodyPost_ret (v := .tuple #[.agg #[.string ⟨#[]⟩, .string s, .string ⟨#[]⟩], .bool false]) (by simp [results, Tryd.results96, go_sem, hc, hlt, World.cell?_alloc_lt]) rfl (boxRet_none HC.out rfl ?_)
      exact ((((((nx hb1 hb2).setCell (by simp) _).setCell (by simp) _).setCell (by simp) _).alloc (by simp; omega) _).drew)
  | some y =>
    obtain ⟨a, d⟩ := y
    have hbd := cutU_bound hcut
    rw [size_list] at hbd
    have HC := Lib.hid hcut
    have HLD := Lib.hid (lowS_str d)
    have hlz : (str a).size ≤ 1073741000 := by rw [str_size]; omega
    have hdz : (str d).size ≤ 1073741000 := by rw [str_size]; omega
    have hez : (str (low d)).size ≤ 1073741000 := by rw [str_size]; unfold low; rw [List.length_map]; omega
    have HAD : Hid (adr ⟨#[]⟩ (str a) (str (low d)) = ⟨[], a, low d⟩) := adr_str ⟨[], a, low d⟩
    clear hcut hbd
    go_enter Tryd.func96, Tryd.ntmps96
    go_wp2_with fail
    refine (l2Cut_any s 64 _ (by decide) (by omega)).mono ?_
    rintro e w1 ⟨hy, _, q, rfl⟩
    have he := hy a d HC.out
    clear hy
    subst he
    have hb1 := below_drewN hb0 q
    go_wp2_with fail
    refine (lowerTextS_any (str d) _ (by omega)).mono ?_
    rintro e w2 ⟨rfl, hb2⟩
    rw [HLD.out]
    obtain ⟨hc, hf⟩ := bcell hb2
    have hsz := hb2.size
    simp at hsz
    have hlt : w.heap.size < w2.heap.size := by omega
    have hlt2 : w.heap.size < w2.heap.size + 1 := by omega
    have hne : w.heap.size ≠ w2.heap.size := by omega
    have hne2 : w2.heap.size ≠ w.heap.size := by omega
    go_wp2
    go_region_with (go_at_call 108; refine (addressValidS_any ⟨#[]⟩ (str a) (str (low d)) _ ?_ ?_ ?_).mono ?_; exact Nat.zero_le _; exact hlz; exact hez; rintro e w5 ⟨rfl, hb5⟩; rw [HAD.out]; obtain ⟨hc5, hf5⟩ := bcell hb5)
    all_goals
      go_wp2
      refine bodyPost_ret (v := .tuple #[.agg #[.string ⟨#[]⟩, .string (str a), .string (str (low d))], .bool (isAdr ⟨[], a, low d⟩)]) (by simp [results, Tryd.results96, go_sem, hc, hc5, hlt, hlt2, World.cell?_alloc_lt]) rfl (boxRet_some HC.out rfl ?_)
      have h25 : Below w.heap.size w w5 := nx (((nx hb1 hb2).alloc (nx hb1 hb2).size _).drew) hb5
      exact (((h25.setCell (by simp) _).setCell (by simp) _).setCell (by simp) _)
end Go.Proofs.YtccendchnndaiaaDoor
end

section
namespace Go.Proofs.YtccendchnndaiaaDoor
open Go.RowKit

theorem boxVal_path (l : List UInt8) : isPath l = ((boxVal l).2 && decide (boxT (boxVal l).1 = l)) := by
  rw [path_box, boxVal_boxA]
  cases (boxVal l).2 <;> rfl
theorem boxVal_low (l : List UInt8) : isPath (lowPath l) = (boxVal l).2 ∧ (isPath (lowPath l) = true → boxT (boxVal l).1 = lowPath l) := by
  have h := box_path l
  rw [boxVal_boxA] at h
  cases hb : (boxVal l).2 with
  | false =>
    rw [hb] at h
    cases hp : isPath (lowPath l) with
    | false => exact ⟨rfl, fun h => by cases h⟩
    | true => rw [hp] at h; cases h
  | true =>
    rw [hb] at h
    cases hp : isPath (lowPath l) with
    | false => rw [hp] at h; cases h
    | true => rw [hp] at h; injection h with h; exact ⟨rfl, fun _ => h⟩
theorem strS_toList (l : List UInt8) : (str l).toList = l := by rw [ByteArray.toList_eq]; exact str_list _
theorem sumBox (p q : List UInt8) (s : ByteArray) : (((str p ++ ⟨#[64]⟩) ++ str q).toList == s.toList) = decide (p ++ 64 :: q = s.data.toList) := by
  have e : ((str p ++ ⟨#[64]⟩) ++ str q).toList = p ++ 64 :: q := by
    rw [ByteArray.toList_eq, Joins.data_append, Joins.data_append, str_list, str_list]; simp
  rw [e, ByteArray.toList_eq, Bool.eq_iff_iff, beq_iff_eq, decide_eq_true_iff]
set_option maxRecDepth 100000 in
set_option maxHeartbeats 1000000 in
theorem l10Box_any (s : ByteArray) (w : World) (hs : s.size ≤ 1073741000) :
    Calls Tryd.prog 71 #[.string s] w fun e w' => e = .returned (.bool (isPath s.data.toList)) ∧ Below w.heap.size w w' := by
  obtain ⟨z1, z2, z3⟩ := boxVal_small s.data.toList
  rw [size_list] at z1 z2
  have H0 : Hid (∀ u, Calls Tryd.prog 96 #[.string s] u (BoxRet s.data.toList u)) := fun u => l2Box_any s u (by omega)
  unfold BoxRet adrV at H0
  rw [boxVal_path]
  have d0 := sumBox (boxVal s.data.toList).1.loc (boxVal s.data.toList).1.dom s
  unfold boxT
  have s1 : (str (boxVal s.data.toList).1.loc).size ≤ 1073741000 := by rw [str_size]; omega
  have s2 : (str (boxVal s.data.toList).1.dom).size ≤ 1073741000 := by rw [str_size]; omega
  have s3 : (ByteArray.mk #[64]).size = 1 := rfl
  generalize decide ((boxVal s.data.toList).1.loc ++ 64 :: (boxVal s.data.toList).1.dom = s.data.toList) = g1 at *
  generalize (boxVal s.data.toList).2 = g0 at *
  generalize str (boxVal s.data.toList).1.loc = x1 at *
  generalize str (boxVal s.data.toList).1.dom = x2 at *
  generalize str (boxVal s.data.toList).1.name = x0 at *
  clear z1 z2 z3
  go_enter Tryd.func71, Tryd.ntmps71
  go_wp2_with fail
  refine (H0.out _).mono ?_
  rintro e w1 ⟨rfl, hb1⟩
  have hb2 : Below w.heap.size w (w1.alloc (.cells #[.string x0, .string x1, .string x2] 102)) := hb1.alloc hb1.size _
  cases g0
  · go_wp2
    go_ret
    exact ⟨rfl, by first | exact hb2 | exact hb1⟩
  · go_wp2
    go_ret
    exact ⟨rfl, by first | exact hb2 | exact hb1⟩
theorem boxE (x : ByteArray) (w : World) (hx : x.size ≤ 1073741000) : Calls Tryd.prog 71 #[.string x] w fun e w' => e = .returned (.bool (isPath x.data.toList)) ∧ Below w.heap.size w w' := l10Box_any x w hx
theorem textSE (x : ByteArray) (w : World) (hx : x.size ≤ 1073741000) : Calls Tryd.prog 97 #[.string x] w fun e w' => e = .returned (.bool (isText x.data.toList)) ∧ Below w.heap.size w w' :=
  (textValidS_any x w (by unfold maxLen; omega)).mono (fun _ _ ⟨he, hw⟩ => ⟨he, hw ▸ Below.refl _ _⟩)
theorem all_bad {P : List UInt8 → Bool} {xs : List (List UInt8)} {k : Nat} (h : k < xs.length) (hp : P xs[k] = false) : xs.all P = false := by
  rw [List.all_eq_false]; exact ⟨_, List.getElem_mem h, by simp [hp]⟩
theorem all_good {P : List UInt8 → Bool} {xs : List (List UInt8)} {n : Nat} (hn : xs.length ≤ n) (h : ∀ j, j < n → (h' : j < xs.length) → P xs[j] = true) : xs.all P = true := by
  rw [List.all_eq_true]; intro x hx
  obtain ⟨j, hj, rfl⟩ := List.getElem_of_mem hx
  exact h j (by omega) hj
set_option maxRecDepth 100000 in
set_option maxHeartbeats 4000000 in
theorem l10Draft_any (M : Nat) (x : MlA) (w : World) (h1 : RdM M w x) (hM : M ≤ 1073741000) :
    Calls Tryd.prog 74 #[mlV x] w fun e w' => e = .returned (.bool (isDraft x.m)) ∧ Below w.heap.size w w' := by
  obtain ⟨⟨f1, t1, l1⟩, a1, c1, b1, d1⟩ := x
  obtain ⟨⟨p1, _, _⟩, ⟨p2, _, _⟩, p0, p3, p5, p4, p6⟩ := h1
  dsimp only at *
  unfold mlV isDraft isSend
  dsimp only
  have H0 : Hid (∀ u, Below w.heap.size w u → Calls Tryd.prog 71 #[.string (str f1)] u fun e w' => e = .returned (.bool (isPath f1)) ∧ Below u.heap.size u w') := fun u hb => by
    have := l10Box_any (str f1) u (by rw [str_size]; omega)
    rw [str_list] at this; exact this
  have P1 := Lib.hid p1
  have P2 := Lib.hid p2
  have P5 := Lib.hid p5
  have P6 := Lib.hid p6
  have e1 : decide (t1.length ≤ 10) = decide ((t1.length : Int) ≤ 10) := decide_eq_decide.2 (by omega)
  have e2 : decide (l1.length ≤ 31) = decide ((l1.length : Int) ≤ 31) := decide_eq_decide.2 (by omega)
  rw [e1, e2]
  have d0 := eqEmp f1
  have d0' : ((str f1).toList != []) = !decide (f1 = []) := by rw [bne, d0]
  have hz1 : t1.length ≤ 1073741000 := by omega
  have hz2 : l1.length ≤ 1073741000 := by omega
  have HN1 : Hid (t1.length ≤ t1.length) := Nat.le_refl _
  have HN2 : Hid (l1.length ≤ l1.length) := Nat.le_refl _
  clear p1 p2 p3 p4 p5 p6 p0 e1 e2
  generalize decide (f1 = []) = g00 at *
  generalize isPath f1 = g0 at *
  obtain ⟨n1, hn1⟩ : ∃ n, n = t1.length := ⟨_, rfl⟩
  obtain ⟨n3, hn3⟩ : ∃ n, n = l1.length := ⟨_, rfl⟩
  rw [← hn1, ← hn3]
  rw [← hn1] at hz1 P1
  rw [← hn3] at hz2 P2
  have HE1 := Lib.hid hn1
  have HE3 := Lib.hid hn3
  clear hn1 hn3 HN1 HN2
  generalize str f1 = s1 at *
  have hA : Below w.heap.size w (w.alloc (.cells #[.string s1, .slice a1 n1 c1, .slice b1 n3 d1] 25)) := (Below.refl _ _).alloc (Nat.le_refl _) _
  have HX := Lib.hid (MK3.new w (.string s1) (.slice a1 n1 c1) (.slice b1 n3 d1) 25)
  cases g00
  · cases g0
    · go_enter Tryd.func74, Tryd.ntmps74
      go_wp2_with fail
      refine (H0.out _ hA).mono ?_
      rintro e w1 ⟨rfl, hb1⟩
      have hb01 := nx hA hb1
      have HX1 := Lib.hid (HX.out.below hb1)
      go_wp2
      go_ret
      exact ⟨rfl, hb01⟩
    · by_cases k1 : (n1 : Int) ≤ 10
      · by_cases k2 : (n3 : Int) ≤ 31
        · rw [decide_eq_true k1, decide_eq_true k2]
          go_enter Tryd.func74, Tryd.ntmps74
          go_wp2_with fail
          refine (H0.out _ hA).mono ?_
          rintro e w1 ⟨rfl, hb1⟩
          have hb01 := nx hA hb1
          have HX1 := Lib.hid (HX.out.below hb1)
          obtain ⟨y0, y1, y2⟩ := HX1.out
          go_wp2_with fail
          go_loopw [3] (fun i w5 => ∃ k : Nat, k ≤ n1 ∧ i = .int .i64 k ∧ Below w1.heap.size w1 w5 ∧ ∀ j, j < k → (h' : j < t1.length) → isPath t1[j] = true) (fun i _ => n1 - (intOf i).toNat)
          case atStart => exact ⟨0, Nat.zero_le _, rfl, Below.refl _ _, fun j h => by omega⟩
          case round =>
            obtain ⟨k, hk, rfl, hb, hall⟩ := hrel
            have HA := Lib.hid hall
            clear hall
            obtain ⟨y0, y1, y2⟩ := HX1.out.below hb
            by_cases hlt : k < n1
            · have hkx : k < t1.length := by have := HE1.out; omega
              obtain ⟨b, off, rfl, hbl, hcell⟩ := P1.out.2.resolve_left (by omega)
              have hc1 : wr.cell? ⟨b, off + k, none⟩ = some (.string (str t1[k])) := by rw [below_at (nx hb01 hb) hbl]; exact hcell k hkx
              have HC : Hid (Calls Tryd.prog 71 #[.string (str t1[k])] wr fun e w' => e = .returned (.bool (isPath (str t1[k]).data.toList)) ∧ Below wr.heap.size wr w') := boxE _ wr (by rw [str_size]; have := P5.out _ (List.getElem_mem hkx); omega)
              rw [str_list] at HC
              clear hcell
              cases hp : isPath t1[k]
              · have HE : Hid (t1.all isPath = false) := all_bad hkx hp
                rw [hp] at HC
                generalize str t1[k] = z at *
                clear hp
                go_wp2_with fail
                refine HC.out.mono ?_
                rintro e w2 ⟨rfl, hb2⟩
                go_wp2
                go_ret
                exact ⟨ret_bool (by rw [HE.out]; simp), nx hb01 (nx hb hb2)⟩
              · have HQ := Lib.hid hp
                rw [hp] at HC
                generalize str t1[k] = z at *
                clear hp
                go_wp2_with fail
                refine HC.out.mono ?_
                rintro e w2 ⟨rfl, hb2⟩
                go_wp2
                go_roundw
                case rel => exact ⟨k + 1, by omega, by go_num, nx hb hb2, fun j h h' => by
                  by_cases e : j = k
                  · subst e; exact HQ.out
                  · exact HA.out j (by omega) h'⟩
                case measure => simp [intOf]; omega
            · have HT : Hid (t1.all isPath = true) := all_good (n := n1) (by have := HE1.out; omega) (fun j h h' => HA.out j (by omega) h')
              go_wp2_with fail
              go_loopw [4] (fun i w5 => ∃ k : Nat, k ≤ n3 ∧ i = .int .i64 k ∧ Below w1.heap.size w1 w5 ∧ ∀ j, j < k → (h' : j < l1.length) → isText l1[j] = true) (fun i _ => n3 - (intOf i).toNat)
              case atStart => exact ⟨0, Nat.zero_le _, rfl, hb, fun j h => by omega⟩
              case round =>
                clear y0 y1 y2 hlt hb hk
                obtain ⟨k2, hk, rfl, hb, hall⟩ := hrel
                have HA2 := Lib.hid hall
                clear hall
                obtain ⟨y0, y1, y2⟩ := HX1.out.below hb
                by_cases hlt : k2 < n3
                · have hkx : k2 < l1.length := by have := HE3.out; omega
                  obtain ⟨b, off, rfl, hbl, hcell⟩ := P2.out.2.resolve_left (by omega)
                  have hc1 : wr.cell? ⟨b, off + k2, none⟩ = some (.string (str l1[k2])) := by rw [below_at (nx hb01 hb) hbl]; exact hcell k2 hkx
                  have HC : Hid (Calls Tryd.prog 97 #[.string (str l1[k2])] wr fun e w' => e = .returned (.bool (isText (str l1[k2]).data.toList)) ∧ Below wr.heap.size wr w') := textSE _ wr (by rw [str_size]; have := P6.out _ (List.getElem_mem hkx); omega)
                  rw [str_list] at HC
                  clear hcell
                  cases hp : isText l1[k2]
                  · have HE : Hid (l1.all isText = false) := all_bad hkx hp
                    rw [hp] at HC
                    generalize str l1[k2] = z at *
                    clear hp
                    go_wp2_with fail
                    refine HC.out.mono ?_
                    rintro e w2 ⟨rfl, hb2⟩
                    go_wp2
                    go_ret
                    exact ⟨ret_bool (by rw [HE.out]; simp), nx hb01 (nx hb hb2)⟩
                  · have HQ := Lib.hid hp
                    rw [hp] at HC
                    generalize str l1[k2] = z at *
                    clear hp
                    go_wp2_with fail
                    refine HC.out.mono ?_
                    rintro e w2 ⟨rfl, hb2⟩
                    go_wp2
                    go_roundw
                    case rel => exact ⟨k2 + 1, by omega, by go_num, nx hb hb2, fun j h h' => by
                      by_cases e : j = k2
                      · subst e; exact HQ.out
                      · exact HA2.out j (by omega) h'⟩
                    case measure => simp [intOf]; omega
                · have HL : Hid (l1.all isText = true) := all_good (n := n3) (by have := HE3.out; omega) (fun j h h' => HA2.out j (by omega) h')
                  go_wp2
                  go_ret
                  exact ⟨ret_bool (by rw [HT.out, HL.out]; rfl), nx hb01 hb⟩
        · rw [decide_eq_false k2]
          go_enter Tryd.func74, Tryd.ntmps74
          go_wp2_with fail
          refine (H0.out _ hA).mono ?_
          rintro e w1 ⟨rfl, hb1⟩
          have hb01 := nx hA hb1
          have HX1 := Lib.hid (HX.out.below hb1)
          obtain ⟨y0, y1, y2⟩ := HX1.out
          go_wp2
          go_ret
          exact ⟨ret_bool (by simp), hb01⟩
      · rw [decide_eq_false k1]
        go_enter Tryd.func74, Tryd.ntmps74
        go_wp2_with fail
        refine (H0.out _ hA).mono ?_
        rintro e w1 ⟨rfl, hb1⟩
        have hb01 := nx hA hb1
        have HX1 := Lib.hid (HX.out.below hb1)
        obtain ⟨y0, y1, y2⟩ := HX1.out
        go_wp2
        go_ret
        exact ⟨ret_bool (by simp), hb01⟩
  · by_cases k1 : (n1 : Int) ≤ 10
    · by_cases k2 : (n3 : Int) ≤ 31
      · rw [decide_eq_true k1, decide_eq_true k2]
        go_enter Tryd.func74, Tryd.ntmps74
        have hb01 := hA
        have HX1 := HX
        obtain ⟨y0, y1, y2⟩ := HX1.out
        go_wp2_with fail
        generalize w.alloc (.cells #[.string s1, .slice a1 n1 c1, .slice b1 n3 d1] 25) = w1 at *
        go_loopw [3] (fun i w5 => ∃ k : Nat, k ≤ n1 ∧ i = .int .i64 k ∧ Below w1.heap.size w1 w5 ∧ ∀ j, j < k → (h' : j < t1.length) → isPath t1[j] = true) (fun i _ => n1 - (intOf i).toNat)
        case atStart => exact ⟨0, Nat.zero_le _, rfl, Below.refl _ _, fun j h => by omega⟩
        case round =>
          obtain ⟨k, hk, rfl, hb, hall⟩ := hrel
          have HA := Lib.hid hall
          clear hall
          obtain ⟨y0, y1, y2⟩ := HX1.out.below hb
          by_cases hlt : k < n1
          · have hkx : k < t1.length := by have := HE1.out; omega
            obtain ⟨b, off, rfl, hbl, hcell⟩ := P1.out.2.resolve_left (by omega)
            have hc1 : wr.cell? ⟨b, off + k, none⟩ = some (.string (str t1[k])) := by rw [below_at (nx hb01 hb) hbl]; exact hcell k hkx
            have HC : Hid (Calls Tryd.prog 71 #[.string (str t1[k])] wr fun e w' => e = .returned (.bool (isPath (str t1[k]).data.toList)) ∧ Below wr.heap.size wr w') := boxE _ wr (by rw [str_size]; have := P5.out _ (List.getElem_mem hkx); omega)
            rw [str_list] at HC
            clear hcell
            cases hp : isPath t1[k]
            · have HE : Hid (t1.all isPath = false) := all_bad hkx hp
              rw [hp] at HC
              generalize str t1[k] = z at *
              clear hp
              go_wp2_with fail
              refine HC.out.mono ?_
              rintro e w2 ⟨rfl, hb2⟩
              go_wp2
              go_ret
              exact ⟨ret_bool (by rw [HE.out]; simp), nx hb01 (nx hb hb2)⟩
            · have HQ := Lib.hid hp
              rw [hp] at HC
              generalize str t1[k] = z at *
              clear hp
              go_wp2_with fail
              refine HC.out.mono ?_
              rintro e w2 ⟨rfl, hb2⟩
              go_wp2
              go_roundw
              case rel => exact ⟨k + 1, by omega, by go_num, nx hb hb2, fun j h h' => by
                by_cases e : j = k
                · subst e; exact HQ.out
                · exact HA.out j (by omega) h'⟩
              case measure => simp [intOf]; omega
          · have HT : Hid (t1.all isPath = true) := all_good (n := n1) (by have := HE1.out; omega) (fun j h h' => HA.out j (by omega) h')
            go_wp2_with fail
            go_loopw [4] (fun i w5 => ∃ k : Nat, k ≤ n3 ∧ i = .int .i64 k ∧ Below w1.heap.size w1 w5 ∧ ∀ j, j < k → (h' : j < l1.length) → isText l1[j] = true) (fun i _ => n3 - (intOf i).toNat)
            case atStart => exact ⟨0, Nat.zero_le _, rfl, hb, fun j h => by omega⟩
            case round =>
              clear y0 y1 y2 hlt hb hk
              obtain ⟨k2, hk, rfl, hb, hall⟩ := hrel
              have HA2 := Lib.hid hall
              clear hall
              obtain ⟨y0, y1, y2⟩ := HX1.out.below hb
              by_cases hlt : k2 < n3
              · have hkx : k2 < l1.length := by have := HE3.out; omega
                obtain ⟨b, off, rfl, hbl, hcell⟩ := P2.out.2.resolve_left (by omega)
                have hc1 : wr.cell? ⟨b, off + k2, none⟩ = some (.string (str l1[k2])) := by rw [below_at (nx hb01 hb) hbl]; exact hcell k2 hkx
                have HC : Hid (Calls Tryd.prog 97 #[.string (str l1[k2])] wr fun e w' => e = .returned (.bool (isText (str l1[k2]).data.toList)) ∧ Below wr.heap.size wr w') := textSE _ wr (by rw [str_size]; have := P6.out _ (List.getElem_mem hkx); omega)
                rw [str_list] at HC
                clear hcell
                cases hp : isText l1[k2]
                · have HE : Hid (l1.all isText = false) := all_bad hkx hp
                  rw [hp] at HC
                  generalize str l1[k2] = z at *
                  clear hp
                  go_wp2_with fail
                  refine HC.out.mono ?_
                  rintro e w2 ⟨rfl, hb2⟩
                  go_wp2
                  go_ret
                  exact ⟨ret_bool (by rw [HE.out]; simp), nx hb01 (nx hb hb2)⟩
                · have HQ := Lib.hid hp
                  rw [hp] at HC
                  generalize str l1[k2] = z at *
                  clear hp
                  go_wp2_with fail
                  refine HC.out.mono ?_
                  rintro e w2 ⟨rfl, hb2⟩
                  go_wp2
                  go_roundw
                  case rel => exact ⟨k2 + 1, by omega, by go_num, nx hb hb2, fun j h h' => by
                    by_cases e : j = k2
                    · subst e; exact HQ.out
                    · exact HA2.out j (by omega) h'⟩
                  case measure => simp [intOf]; omega
              · have HL : Hid (l1.all isText = true) := all_good (n := n3) (by have := HE3.out; omega) (fun j h h' => HA2.out j (by omega) h')
                go_wp2
                go_ret
                exact ⟨ret_bool (by rw [HT.out, HL.out]; rfl), nx hb01 hb⟩
      · rw [decide_eq_false k2]
        go_enter Tryd.func74, Tryd.ntmps74
        go_wp2
        go_ret
        exact ⟨ret_bool (by simp), hA⟩
    · rw [decide_eq_false k1]
      go_enter Tryd.func74, Tryd.ntmps74
      go_wp2
      go_ret
      exact ⟨ret_bool (by simp), hA⟩
set_option maxRecDepth 100000 in
set_option maxHeartbeats 2000000 in
theorem mailValidS_any (M : Nat) (x : MlA) (w : World) (h1 : RdM M w x) (hM : M ≤ 1073741000) :
    Calls Tryd.prog 42 #[mlV x] w fun e w' => e = .returned (.bool (isMail x.m)) ∧ Below w.heap.size w w' := by
  have hA0 : ∀ o, Below w.heap.size w (w.alloc o) := fun o => (Below.refl _ _).alloc (Nat.le_refl _) o
  have H0 : Hid (∀ u, Below w.heap.size w u → Calls Tryd.prog 74 #[mlV x] u fun e w' => e = .returned (.bool (isDraft x.m)) ∧ Below u.heap.size u w') := fun u hb => l10Draft_any M x u (h1.below hb) hM
  obtain ⟨⟨f1, t1, l1⟩, a1, c1, b1, d1⟩ := x
  obtain ⟨⟨p1, _, _⟩, ⟨p2, _, _⟩, p0, p3, p5, p4, p6⟩ := h1
  dsimp only at *
  unfold isMail
  unfold mlV at *
  dsimp only at *
  have e1 : decide (0 < t1.length) = decide ((0 : Int) < (t1.length : Int)) := decide_eq_decide.2 (by omega)
  have e2 : decide (l1.length ≤ 30) = decide ((l1.length : Int) ≤ 30) := decide_eq_decide.2 (by omega)
  rw [e1, e2]
  have hz1 : t1.length ≤ 1073741000 := by omega
  have hz2 : l1.length ≤ 1073741000 := by omega
  clear p1 p2 p3 p4 p5 p6 p0 hM e1 e2
  generalize isDraft ⟨f1, t1, l1⟩ = g0 at *
  generalize t1.length = n1 at *
  generalize l1.length = n3 at *
  generalize str f1 = s1 at *
  have HX := Lib.hid (MK3.new w (.string s1) (.slice a1 n1 c1) (.slice b1 n3 d1) 25)
  go_enter Tryd.func42, Tryd.ntmps42
  go_wp2_with fail
  refine (H0.out _ (hA0 _)).mono ?_
  rintro e w1 ⟨rfl, hb1⟩
  have hb01 := nx (hA0 _) hb1
  obtain ⟨y0, y1, y2⟩ := HX.out.below hb1
  cases g0
  · go_wp2
    go_ret
    exact ⟨rfl, hb01⟩
  · by_cases k1 : (0 : Int) < (n1 : Int)
    · have z1 := decide_eq_true k1
      go_wp2
      go_ret
      exact ⟨ret_bool (by rw [z1]; rfl), hb01⟩
    · have z1 := decide_eq_false k1
      go_wp2
      go_ret
      exact ⟨ret_bool (by rw [z1]; rfl), hb01⟩
end Go.Proofs.YtccendchnndaiaaDoor
end

section
namespace Go.Proofs.YtccendchnndaiaaDoor
open Go.RowKit

set_option maxRecDepth 100000 in
set_option maxHeartbeats 2000000 in
theorem l11Has_any (a : Option Addr) (n c : Nat) (xs : List (List UInt8)) (y : List UInt8) (w : World) (hr : RdL w a n xs) (hn : n ≤ 1073741824) :
    Calls Tryd.prog 43 #[.slice a n c, .string (str y)] w fun e w' => e = .returned (.bool (xs.contains y)) ∧ Below w.heap.size w w' := by
  have HLEN := Lib.hid hr.1
  have HR := Lib.hid hr.2
  clear hr
  obtain ⟨Y, hY⟩ : ∃ Y, Y = str y := ⟨_, rfl⟩
  have HY := Lib.hid hY
  rw [← hY]
  clear hY
  go_enter Tryd.func43, Tryd.ntmps43
  go_wp2_with fail
  go_loopw [5] (fun i wr => ∃ (k : Nat), k ≤ n ∧ i = .int .i64 k ∧ Below w.heap.size w wr ∧ ∀ j, j < k → (hj : j < xs.length) → xs[j] ≠ y) (fun i _ => n - (intOf i).toNat)
  case atStart => exact ⟨0, Nat.zero_le _, rfl, Below.refl _ _, fun j h => by omega⟩
  case round =>
    obtain ⟨k, hk, rfl, hb, hall⟩ := hrel
    have HA := Lib.hid hall
    clear hall
    by_cases hlt : k < n
    · have hkx : k < xs.length := by rw [HLEN.out]; exact hlt
      obtain ⟨b, off, rfl, hbl, hcell⟩ := HR.out.resolve_left (by omega)
      have q0 : wr.cell? ⟨b, off + k, none⟩ = some (.string (str xs[k])) := by rw [below_at hb hbl]; exact hcell k hkx
      have hkn : (k : Int) < (n : Int) := by omega
      have hk0 : (0 : Int) ≤ (k : Int) := by omega
      clear hcell
      have HQ : Hid ((str xs[k] = Y) = (xs[k] = y)) := by
        show _ = _
        rw [HY.out]
        exact propext ⟨fun h => by rw [← str_list xs[k], h, str_list], fun h => by rw [h]⟩
      by_cases hq : xs[k] = y
      · have HF : Hid (xs.contains y = true) := by show _ = _; rw [List.contains_iff_mem]; exact hq ▸ List.getElem_mem hkx
        have e2 : ((str xs[k]).toList == Y.toList) = true := by rw [beq_dec, decide_eq_true_iff]; exact (HQ.out.symm ▸ hq : str xs[k] = Y)
        clear hq HQ
        generalize str xs[k] = X at *
        go_wp2
        go_ret
        exact ⟨ret_bool HF.out.symm, hb⟩
      · have e2 : ((str xs[k]).toList == Y.toList) = false := by rw [beq_dec, decide_eq_false_iff_not]; intro h; exact hq (HQ.out ▸ h)
        have HN := Lib.hid hq
        clear hq HQ
        generalize str xs[k] = X at *
        go_wp2
        go_roundw
        case rel => exact ⟨k + 1, by omega, by go_num, hb, fun j hj hjx => by
          by_cases e : j = k
          · subst e; exact HN.out
          · exact HA.out j (by omega) hjx⟩
        case measure => simp [intOf]; omega
    · have HF : Hid (xs.contains y = false) := by
        show _ = _
        rw [Bool.eq_false_iff]; intro h
        obtain ⟨j, hj, e⟩ := List.getElem_of_mem (List.contains_iff_mem.1 h)
        exact HA.out j (by have := HLEN.out; omega) hj e
      go_wp2
      go_ret
      exact ⟨ret_bool HF.out.symm, hb⟩
theorem OwnL.away {B g i : Nat} {w : World} {v : Value} {xs : List (List UInt8)} (h : OwnL B v xs w) (hv : ∀ q, v.ownBlock = some q → q ≠ g) (z : Value) : OwnL B v xs (w.setCell ⟨g, i, none⟩ z) :=
  ((⟨h, OwnL.nil B w, fun g _ e => by cases e⟩ : St2 B w v xs (.slice none 0 0) []).off hv (fun q hq => by cases hq) z).a
/-- A mail that is being made in a block of its own. -/
structure OutM (W : World) (s : ByteArray) (v : Value) (ts : List (List UInt8)) (u : Value) (ls : List (List UInt8)) (g : Nat) (w : World) : Prop where
  cells : MF3 w g (.string s) v u
  tl : OwnL W.heap.size v ts w
  ln : OwnL W.heap.size u ls w
  ap : ∀ q, v.ownBlock = some q → u.ownBlock ≠ some q
  bel : Below W.heap.size W w
  low : W.heap.size ≤ g
  o1 : ∀ q, v.ownBlock = some q → q ≠ g
  o2 : ∀ q, u.ownBlock = some q → q ≠ g
theorem OutM.below {W w w' : World} {s : ByteArray} {v u : Value} {ts ls : List (List UInt8)} {g : Nat} (h : OutM W s v ts u ls g w) (hb : Below w.heap.size w w') : OutM W s v ts u ls g w' :=
  ⟨h.cells.below hb, h.tl.keep hb, h.ln.keep hb, h.ap, nx h.bel hb, h.low, h.o1, h.o2⟩
theorem outM_mk {W w : World} {s : ByteArray} {a : Option Addr} {n c : Nat} {ls : List (List UInt8)} {g : Nat} (E : Below W.heap.size W w) (T : OwnL W.heap.size (.slice a n c) ls w) (Z : MF3 w g (.string ⟨#[]⟩) (.slice none 0 0) (.slice none 0 0)) (hg : W.heap.size ≤ g) (hn : ∀ q, (Value.slice a n c).ownBlock = some q → q ≠ g) :
    OutM W s (.slice none 0 0) [] (.slice a n c) ls g (((w.setCell ⟨g, 0, none⟩ (.string s)).setCell ⟨g, 1, none⟩ (.slice none 0 0)).setCell ⟨g, 2, none⟩ (.slice a n c)) :=
  ⟨((Z.set0 _).set1 _).set2 _, OwnL.nil _ _, ((T.away hn _).away hn _).away hn _, fun q hq => (by cases hq), ((E.setCell hg _).setCell hg _).setCell hg _, hg, fun q hq => (by cases hq), hn⟩
theorem OutM.app {W w w' : World} {s : ByteArray} {v v' u : Value} {ts ts' ls : List (List UInt8)} {g : Nat} (h : OutM W s v ts u ls g w) (ho : OwnL W.heap.size v' ts' w') (gr : w.grownBy w' v.ownBlock) (at' : v'.ownBlock = v.ownBlock ∨ v'.ownBlock = some w.heap.size) : OutM W s v' ts' u ls g (w'.setCell ⟨g, 1, none⟩ v') := by
  have hg := lt_of_cell h.cells.1.1
  have n1 : ∀ q, v'.ownBlock = some q → q ≠ g := fun q hq => by
    rcases at' with e | e
    · exact h.o1 q (by rw [← e]; exact hq)
    · rw [hq] at e; injection e with e; omega
  have hb : Below W.heap.size W w' := h.bel.trans (grown_below h.tl gr h.bel.size)
  refine ⟨(mf3_grown h.cells gr h.o1).set1 _, ho.away n1 _, (h.ln.grown gr (fun q hq e => h.ap q e hq)).away h.o2 _, fun q hq e => ?_, hb.setCell h.low _, h.low, n1, h.o2⟩
  rcases at' with e' | e'
  · exact h.ap q (by rw [← e']; exact hq) e
  · rw [hq] at e'; injection e' with e'
    have := (h.ln.lt q e).2
    omega
set_option maxRecDepth 100000 in
set_option maxHeartbeats 4000000 in
theorem normalMailS_any (M : Nat) (x : MlA) (w : World) (h1 : RdM M w x) (hM : M ≤ 1048576) :
    Calls Tryd.prog 14 #[mlV x] w (NrmRet x.m w) := by
  have H0 : Hid (∀ u, Below w.heap.size w u → Calls Tryd.prog 42 #[mlV x] u fun e w' => e = .returned (.bool (isMail x.m)) ∧ Below u.heap.size u w') := fun u hb => mailValidS_any M x u (h1.below hb) (by omega)
  obtain ⟨m, a1, c1, b1, d1⟩ := x
  obtain ⟨⟨p1, _, pn1⟩, ⟨p2, _, pn2⟩, _⟩ := h1
  dsimp only at *
  have P1 := Lib.hid p1
  have P2 := Lib.hid p2
  have PN2 := Lib.hid pn2
  clear p1 p2 pn1 pn2
  cases hv : isMail m
  · have HN : Hid (∀ w', Below w.heap.size w w' → NrmRet m w (.returned (.tuple #[.agg #[.string ⟨#[]⟩, .slice none 0 0, .slice none 0 0], .bool false])) w') := fun w' hb => nrmRet_none hv hb
    rw [hv] at H0
    unfold mlV at *
    dsimp only at *
    generalize m.to.length = n1 at *
    generalize m.lines.length = n3 at *
    generalize str m.frm = s1 at *
    clear hv
    obtain ⟨hb0, hx0, hz0, hzl⟩ := two_mals w (.string s1) (.slice a1 n1 c1) (.slice b1 n3 d1) (.string ⟨#[]⟩) (.slice none 0 0) (.slice none 0 0) 25
    have HX := Lib.hid hx0
    have HZ := Lib.hid hz0
    clear hx0 hz0
    go_enter Tryd.func14, Tryd.ntmps14
    go_wp2_with fail
    generalize (w.alloc (.cells #[.string s1, .slice a1 n1 c1, .slice b1 n3 d1] 25)).alloc (.cells #[.string ⟨#[]⟩, .slice none 0 0, .slice none 0 0] 25) = W0 at *
    refine (H0.out W0 hb0).mono ?_
    rintro e w1 ⟨rfl, hb1⟩
    obtain ⟨⟨q0, q1, q2⟩, qf⟩ := HZ.out.below hb1
    have hbw := nx hb0 hb1
    go_wp2
    refine bodyPost_ret (v := .tuple #[.agg #[.string ⟨#[]⟩, .slice none 0 0, .slice none 0 0], .bool false]) (by simp [results, Tryd.results14, go_sem, q0, q1, q2]) rfl ?_
    exact HN.out _ (((hbw.setCell (by show w.heap.size ≤ w.heap.size + 1; omega) _).setCell (by show w.heap.size ≤ w.heap.size + 1; omega) _).setCell (by show w.heap.size ≤ w.heap.size + 1; omega) _)
  · obtain ⟨hd, _, h30⟩ := isMail_iff.1 hv
    obtain ⟨_, h10, _, _, _⟩ := isDraft_iff.1 hd
    have HN : Hid (∀ w' (a : Option Addr) (n c : Nat) (b : Option Addr) (d : Nat) (acc : List (List UInt8)), acc = nrm [] m.to → n = acc.length → OwnL w.heap.size (.slice a n c) acc w' → OwnL w.heap.size (.slice b m.lines.length d) m.lines w' → (∀ g, (Value.slice a n c).ownBlock = some g → (Value.slice b m.lines.length d).ownBlock ≠ some g) → Below w.heap.size w w' → NrmRet m w (.returned (.tuple #[.agg #[.string (str m.frm), .slice a n c, .slice b m.lines.length d], .bool true])) w') := fun w' a n c b d acc ha hn q1 q2 q3 hb => by
      subst ha
      exact nrmRet_some hv rfl hn rfl q1 q2 q3 hb
    rw [hv] at H0
    unfold mlV at *
    dsimp only at *
    clear hv hd
    generalize hn1 : m.to.length = n1 at *
    generalize hn3 : m.lines.length = n3 at *
    have HE1 := Lib.hid hn1
    have HE3 := Lib.hid hn3
    clear hn1 hn3
    generalize str m.frm = s1 at *
    obtain ⟨hb0, hx0, hz0, hzl⟩ := two_mals w (.string s1) (.slice a1 n1 c1) (.slice b1 n3 d1) (.string ⟨#[]⟩) (.slice none 0 0) (.slice none 0 0) 25
    have HX := Lib.hid hx0
    have HZ := Lib.hid hz0
    clear hx0 hz0
    go_enter Tryd.func14, Tryd.ntmps14
    go_wp2_with fail
    generalize (w.alloc (.cells #[.string s1, .slice a1 n1 c1, .slice b1 n3 d1] 25)).alloc (.cells #[.string ⟨#[]⟩, .slice none 0 0, .slice none 0 0] 25) = W0 at *
    refine (H0.out _ hb0).mono ?_
    rintro e w1 ⟨rfl, hb1⟩
    have hb01 := nx hb0 hb1
    have HX1 := Lib.hid (HX.out.below hb1)
    have HZ1 := Lib.hid (HZ.out.below hb1)
    have hlw : w.heap.size + 1 < w1.heap.size := Nat.lt_of_lt_of_le hzl hb1.size
    obtain ⟨y0, y1, y2⟩ := HX1.out
    clear H0
    go_upto_region 3 with fail
    have Q2 : ∀ u, Below w1.heap.size w1 u → RdL u b1 n3 m.lines := fun u hu => P2.out.below (nx hb01 hu)
    have D0 : Below w1.heap.size w1 w1.drew := (Below.refl _ _).drew
    have HB : Hid (∀ u, Below w1.heap.size w1 u → MK3 u w.heap.size (.string s1) (.slice a1 n1 c1) (.slice b1 n3 d1)) := fun u hu => HX1.out.below hu
    clear y0 y1 y2
    go_cut [4] from 10 to 16 (fun p wx => ∃ (g : Nat) (ax : Option Addr) (cx : Nat), p = .pointer (some ⟨g, 0, none⟩) ∧ OutM w1 s1 (.slice none 0 0) [] (.slice ax n3 cx) m.lines g wx)
    case first =>
      refine wp_region_tail (by kernel_rfl) ?_
      refine wpAny_tailW (sbOk w1.heap.size) (fuel := 8) (tf := 1) [8] (by kernel_rfl) ?_
      refine wpAnyW_take (sbOk w1.heap.size) (fuel := 4) [true, true, false, true, true] (by kernel_rfl) (by kernel_rfl) (by rfl) (by kernel_rfl) (by kernel_rfl) (by kernel_rfl) ?_
      apply Exists.intro
      refine ⟨fun x => ?_, ?_⟩
      · have hx := x.rel (by exact D0.size)
        have y0 := fun (y : RelT Grow x.val) => (HB.out y.val ((D0.trans hx).trans (y.rel.mono (Nat.le_trans D0.size hx.size)))).1
        have y1 := fun (y : RelT Grow x.val) => (HB.out y.val ((D0.trans hx).trans (y.rel.mono (Nat.le_trans D0.size hx.size)))).2.1
        have y2 := fun (y : RelT Grow x.val) => (HB.out y.val ((D0.trans hx).trans (y.rel.mono (Nat.le_trans D0.size hx.size)))).2.2
        simp only [pickL]
        repeat (go_big_quiet_step (fail))
        exact wpQuiet_nil rfl
      refine wpAnyW_two (m := 2) (n := 7) (by kernel_rfl) (fun u1x g1 => ?_) (fun u1x g1 => ?_)
      · skip
        have E1 : Below w1.heap.size w1 u1x := nx D0 g1
        refine wpOp_at (o := _) (by rfl) (by rfl) ?_
        go_simp
        refine ⟨fun h => ((Below.refl _ _).alloc (Nat.le_refl _) _).mono h, ?_⟩
        try simp only [Act.put, List.setIfInBounds_toArray, List.set_cons_zero, List.set_cons_succ]
        have F1 : Below w1.heap.size w1 (u1x.alloc (.cells #[] 9)) := nx E1 ((Below.refl _ _).alloc (Nat.le_refl _) _)
        have R1 : OwnL w1.heap.size (.slice (some ⟨u1x.heap.size, 0, none⟩) 0 0) [] (u1x.alloc (.cells #[] 9)) := (OwnL.empty u1x).base E1.size
        generalize u1x.alloc (.cells #[] 9) = V1 at *
        generalize hX1 : u1x.heap.size = X1 at R1 ⊢
        clear hX1
        refine wpAnyW_two (m := 5) (n := 7) (by kernel_rfl) (fun u2x g2 => ?_) (fun u2x g2 => ?_)
        · skip
          have E2 : Below w1.heap.size w1 u2x := nx F1 g2
          have T2 := R1.keep g2
          refine wpOp_at (o := _) (by rfl) (by rfl) ?_
          refine wp_append_H _ _ rfl w1.heap.size _ [] m.lines b1 n3 d1 rfl rfl T2 (Q2 _ E2) PN2.out E2.size (by rw [HE3.out]; simp; omega) ?_
          intro v2 V2 o2 gr2 at2
          have G2 : Below w1.heap.size u2x V2 := grown_below T2 gr2 E2.size
          refine ⟨fun _ => G2, ?_⟩
          have F2 : Below w1.heap.size w1 V2 := E2.trans G2
          replace o2 : OwnL w1.heap.size v2 m.lines V2 := o2
          obtain ⟨ax, cx, hvx, _, _, _⟩ := o2.readc
          rw [HE3.out] at hvx
          subst hvx
          have R2 := o2
          clear o2 gr2 at2 G2
          try simp only [Act.put, List.setIfInBounds_toArray, List.getElem_toArray, List.getElem_cons_succ, List.getElem_cons_zero, List.set_cons_succ, List.set_cons_zero]
          refine wpAnyW_take (sbOk w1.heap.size) (fuel := 1) [false, false, false, false, false, false, true] (by kernel_rfl) (by kernel_rfl) (by rfl) (by kernel_rfl) (by kernel_rfl) (by kernel_rfl) ?_
          apply Exists.intro
          refine ⟨fun x => ?_, ?_⟩
          · skip
            simp only [pickL]
            repeat (go_big_quiet_step (fail))
            exact wpQuiet_nil rfl
          refine wpAnyW_one (m := 7) (by kernel_rfl) (fun u3x g3 => ?_)
          have E3 : Below w1.heap.size w1 u3x := nx F2 g3
          have T3 := R2.keep g3
          refine wpOp_at (o := _) (by rfl) (by rfl) ?_
          go_simp
          refine ⟨fun h => ((Below.refl _ _).alloc (Nat.le_refl _) _).mono h, ?_⟩
          try simp only [Act.put, List.setIfInBounds_toArray, List.set_cons_zero, List.set_cons_succ]
          have F3 : Below w1.heap.size w1 (u3x.alloc (.cells #[.string ⟨#[]⟩, .slice none 0 0, .slice none 0 0] 25)) := nx E3 ((Below.refl _ _).alloc (Nat.le_refl _) _)
          have Y3 : MF3 (u3x.alloc (.cells #[.string ⟨#[]⟩, .slice none 0 0, .slice none 0 0] 25)) u3x.heap.size (.string ⟨#[]⟩) (.slice none 0 0) (.slice none 0 0) := MF3.new u3x _ _ _ _
          have GB : w1.heap.size ≤ u3x.heap.size := E3.size
          have R3 := T3.keep ((Below.refl _ _).alloc (Nat.le_refl _) (.cells #[.string ⟨#[]⟩, .slice none 0 0, .slice none 0 0] 25))
          have NR : ∀ q, (Value.slice ax n3 cx).ownBlock = some q → q ≠ u3x.heap.size := fun q hq => by have := (T3.lt q hq).2; omega
          generalize u3x.alloc (.cells #[.string ⟨#[]⟩, .slice none 0 0, .slice none 0 0] 25) = V3 at *
          generalize hX3 : u3x.heap.size = gO at Y3 GB NR ⊢
          clear hX3
          refine wpAnyW_rest (by kernel_rfl) (fun u4x g4 => ?_)
          have E4 : Below w1.heap.size w1 u4x := nx F3 g4
          have T4 := R3.keep g4
          have Z4 := Y3.below g4
          obtain ⟨⟨z0, z1, z2⟩, zf⟩ := Z4
          refine wpAny_one (m := 8) (by kernel_rfl) ?_
          refine wpOp_at (o := _) (by rfl) (by rfl) ?_
          go_simp
          try simp only [Act.put]
          refine wpAny_end (by kernel_rfl) ?_ _
          try simp only [Act.put, List.setIfInBounds_toArray, List.set_cons_zero, List.set_cons_succ]
          go_wp2_with fail
          go_meet
          exact ⟨gO, ax, cx, rfl, outM_mk E4 T4 ⟨⟨z0, z1, z2⟩, zf⟩ GB NR⟩
        · skip
          have E2 : Below w1.heap.size w1 u2x := nx F1 g2
          have T2 := R1.keep g2
          refine wpOp_at (o := _) (by rfl) (by rfl) ?_
          go_simp
          refine ⟨fun h => ((Below.refl _ _).alloc (Nat.le_refl _) _).mono h, ?_⟩
          try simp only [Act.put, List.setIfInBounds_toArray, List.set_cons_zero, List.set_cons_succ]
          have F2 : Below w1.heap.size w1 (u2x.alloc (.cells #[.string ⟨#[]⟩, .slice none 0 0, .slice none 0 0] 25)) := nx E2 ((Below.refl _ _).alloc (Nat.le_refl _) _)
          have Y2 : MF3 (u2x.alloc (.cells #[.string ⟨#[]⟩, .slice none 0 0, .slice none 0 0] 25)) u2x.heap.size (.string ⟨#[]⟩) (.slice none 0 0) (.slice none 0 0) := MF3.new u2x _ _ _ _
          have GB : w1.heap.size ≤ u2x.heap.size := E2.size
          have R2 := T2.keep ((Below.refl _ _).alloc (Nat.le_refl _) (.cells #[.string ⟨#[]⟩, .slice none 0 0, .slice none 0 0] 25))
          have NE2 : X1 ≠ u2x.heap.size := by have := (T2.lt X1 rfl).2; omega
          generalize u2x.alloc (.cells #[.string ⟨#[]⟩, .slice none 0 0, .slice none 0 0] 25) = V2 at *
          generalize hX2 : u2x.heap.size = gO at Y2 GB NE2 ⊢
          clear hX2
          refine wpAnyW_one (m := 5) (by kernel_rfl) (fun u3x g3 => ?_)
          have E3 : Below w1.heap.size w1 u3x := nx F2 g3
          have T3 := R2.keep g3
          have Z3 := Y2.below g3
          refine wpOp_at (o := _) (by rfl) (by rfl) ?_
          refine wp_append_H _ _ rfl w1.heap.size _ [] m.lines b1 n3 d1 rfl rfl T3 (Q2 _ E3) PN2.out E3.size (by rw [HE3.out]; simp; omega) ?_
          intro v3 V3 o3 gr3 at3
          have G3 : Below w1.heap.size u3x V3 := grown_below T3 gr3 E3.size
          refine ⟨fun _ => G3, ?_⟩
          have F3 : Below w1.heap.size w1 V3 := E3.trans G3
          replace o3 : OwnL w1.heap.size v3 m.lines V3 := o3
          have Y3 := mf3_grown Z3 gr3 (fun q hq => by injection hq with hq; rw [← hq]; exact NE2)
          have NR : ∀ q, v3.ownBlock = some q → q ≠ gO := fun q hq e => by
            rcases at3 with h | h
            · rw [hq] at h; injection h with h; exact NE2 (h.symm.trans e)
            · rw [hq] at h; injection h with h; have := lt_of_cell Z3.1.1; omega
          obtain ⟨ax, cx, hvx, _, _, _⟩ := o3.readc
          rw [HE3.out] at hvx
          subst hvx
          have R3 := o3
          clear o3 gr3 at3 G3
          try simp only [Act.put, List.setIfInBounds_toArray, List.getElem_toArray, List.getElem_cons_succ, List.getElem_cons_zero, List.set_cons_succ, List.set_cons_zero]
          refine wpAnyW_take (sbOk w1.heap.size) (fuel := 0) [false, false, false, false, false, false, true] (by kernel_rfl) (by kernel_rfl) (by rfl) (by kernel_rfl) (by kernel_rfl) (by kernel_rfl) ?_
          apply Exists.intro
          refine ⟨fun x => ?_, ?_⟩
          · skip
            simp only [pickL]
            repeat (go_big_quiet_step (fail))
            exact wpQuiet_nil rfl
          refine wpAnyW_rest (by kernel_rfl) (fun u4x g4 => ?_)
          have E4 : Below w1.heap.size w1 u4x := nx F3 g4
          have T4 := R3.keep g4
          have Z4 := Y3.below g4
          obtain ⟨⟨z0, z1, z2⟩, zf⟩ := Z4
          refine wpAny_one (m := 8) (by kernel_rfl) ?_
          refine wpOp_at (o := _) (by rfl) (by rfl) ?_
          go_simp
          try simp only [Act.put]
          refine wpAny_end (by kernel_rfl) ?_ _
          try simp only [Act.put, List.setIfInBounds_toArray, List.set_cons_zero, List.set_cons_succ]
          go_wp2_with fail
          go_meet
          exact ⟨gO, ax, cx, rfl, outM_mk E4 T4 ⟨⟨z0, z1, z2⟩, zf⟩ GB NR⟩
      · skip
        have E1 : Below w1.heap.size w1 u1x := nx D0 g1
        refine wpOp_at (o := _) (by rfl) (by rfl) ?_
        go_simp
        refine ⟨fun h => ((Below.refl _ _).alloc (Nat.le_refl _) _).mono h, ?_⟩
        try simp only [Act.put, List.setIfInBounds_toArray, List.set_cons_zero, List.set_cons_succ]
        have F1 : Below w1.heap.size w1 (u1x.alloc (.cells #[.string ⟨#[]⟩, .slice none 0 0, .slice none 0 0] 25)) := nx E1 ((Below.refl _ _).alloc (Nat.le_refl _) _)
        have Y1 : MF3 (u1x.alloc (.cells #[.string ⟨#[]⟩, .slice none 0 0, .slice none 0 0] 25)) u1x.heap.size (.string ⟨#[]⟩) (.slice none 0 0) (.slice none 0 0) := MF3.new u1x _ _ _ _
        have GB : w1.heap.size ≤ u1x.heap.size := E1.size
        generalize u1x.alloc (.cells #[.string ⟨#[]⟩, .slice none 0 0, .slice none 0 0] 25) = V1 at *
        generalize hX1 : u1x.heap.size = gO at Y1 GB ⊢
        clear hX1
        refine wpAnyW_one (m := 2) (by kernel_rfl) (fun u2x g2 => ?_)
        have E2 : Below w1.heap.size w1 u2x := nx F1 g2
        have Z2 := Y1.below g2
        refine wpOp_at (o := _) (by rfl) (by rfl) ?_
        go_simp
        refine ⟨fun h => ((Below.refl _ _).alloc (Nat.le_refl _) _).mono h, ?_⟩
        try simp only [Act.put, List.setIfInBounds_toArray, List.set_cons_zero, List.set_cons_succ]
        have F2 : Below w1.heap.size w1 (u2x.alloc (.cells #[] 9)) := nx E2 ((Below.refl _ _).alloc (Nat.le_refl _) _)
        have R2 : OwnL w1.heap.size (.slice (some ⟨u2x.heap.size, 0, none⟩) 0 0) [] (u2x.alloc (.cells #[] 9)) := (OwnL.empty u2x).base E2.size
        have Y2 := Z2.below ((Below.refl _ _).alloc (Nat.le_refl _) (.cells #[] 9))
        have NE2 : u2x.heap.size ≠ gO := by have := lt_of_cell Z2.1.1; omega
        generalize u2x.alloc (.cells #[] 9) = V2 at *
        generalize hX2 : u2x.heap.size = X2 at R2 ⊢ NE2
        clear hX2
        refine wpAnyW_one (m := 5) (by kernel_rfl) (fun u3x g3 => ?_)
        have E3 : Below w1.heap.size w1 u3x := nx F2 g3
        have T3 := R2.keep g3
        have Z3 := Y2.below g3
        refine wpOp_at (o := _) (by rfl) (by rfl) ?_
        refine wp_append_H _ _ rfl w1.heap.size _ [] m.lines b1 n3 d1 rfl rfl T3 (Q2 _ E3) PN2.out E3.size (by rw [HE3.out]; simp; omega) ?_
        intro v3 V3 o3 gr3 at3
        have G3 : Below w1.heap.size u3x V3 := grown_below T3 gr3 E3.size
        refine ⟨fun _ => G3, ?_⟩
        have F3 : Below w1.heap.size w1 V3 := E3.trans G3
        replace o3 : OwnL w1.heap.size v3 m.lines V3 := o3
        have Y3 := mf3_grown Z3 gr3 (fun q hq => by injection hq with hq; rw [← hq]; exact NE2)
        have NR : ∀ q, v3.ownBlock = some q → q ≠ gO := fun q hq e => by
          rcases at3 with h | h
          · rw [hq] at h; injection h with h; exact NE2 (h.symm.trans e)
          · rw [hq] at h; injection h with h; have := lt_of_cell Z3.1.1; omega
        obtain ⟨ax, cx, hvx, _, _, _⟩ := o3.readc
        rw [HE3.out] at hvx
        subst hvx
        have R3 := o3
        clear o3 gr3 at3 G3
        try simp only [Act.put, List.setIfInBounds_toArray, List.getElem_toArray, List.getElem_cons_succ, List.getElem_cons_zero, List.set_cons_succ, List.set_cons_zero]
        refine wpAnyW_take (sbOk w1.heap.size) (fuel := 0) [false, false, false, false, false, false, true] (by kernel_rfl) (by kernel_rfl) (by rfl) (by kernel_rfl) (by kernel_rfl) (by kernel_rfl) ?_
        apply Exists.intro
        refine ⟨fun x => ?_, ?_⟩
        · skip
          simp only [pickL]
          repeat (go_big_quiet_step (fail))
          exact wpQuiet_nil rfl
        refine wpAnyW_rest (by kernel_rfl) (fun u4x g4 => ?_)
        have E4 : Below w1.heap.size w1 u4x := nx F3 g4
        have T4 := R3.keep g4
        have Z4 := Y3.below g4
        obtain ⟨⟨z0, z1, z2⟩, zf⟩ := Z4
        refine wpAny_one (m := 8) (by kernel_rfl) ?_
        refine wpOp_at (o := _) (by rfl) (by rfl) ?_
        go_simp
        try simp only [Act.put]
        refine wpAny_end (by kernel_rfl) ?_ _
        try simp only [Act.put, List.setIfInBounds_toArray, List.set_cons_zero, List.set_cons_succ]
        go_wp2_with fail
        go_meet
        exact ⟨gO, ax, cx, rfl, outM_mk E4 T4 ⟨⟨z0, z1, z2⟩, zf⟩ GB NR⟩
    case rest =>
      obtain ⟨gO, ax, cx, rfl, hout⟩ := hcut
      have HOUT := Lib.hid hout
      clear hout Q2 D0
      go_wp2_with fail
      go_loopw [5] (fun i wr => ∃ (k : Nat) (acc : List (List UInt8)) (a3 : Option Addr) (c3 : Nat), k ≤ n1 ∧ i = .int .i64 k ∧ acc.length ≤ k ∧ nrm acc (m.to.drop k) = nrm [] m.to ∧ OutM w1 s1 (.slice a3 acc.length c3) acc (.slice ax n3 cx) m.lines gO wr) (fun i _ => n1 - (intOf i).toNat)
      case atStart => exact ⟨0, [], none, 0, Nat.zero_le _, rfl, Nat.le_refl _, by simp, HOUT.out⟩
      case round =>
        obtain ⟨k, acc, a3, c3, hk, rfl, hal, hnr, ho⟩ := hrel
        have HO := Lib.hid ho
        have HNR := Lib.hid hnr
        clear ho hnr
        obtain ⟨y0, y1, y2⟩ := HB.out _ HO.out.bel
        have HR3 : Hid (RdL wr a3 acc.length acc ∧ (a3 = none → c3 = 0)) := by
          obtain ⟨a', c', e, h1, _, h3, _⟩ := HO.out.tl.readc
          injection e with e1 _ e3
          subst e1 e3
          exact ⟨h1, h3⟩
        by_cases hlt : k < n1
        · have hkx : k < m.to.length := by have := HE1.out; omega
          obtain ⟨b, off, rfl, hbl, hcell⟩ := P1.out.2.resolve_left (by omega)
          have hblr : b < wr.heap.size := Nat.lt_of_lt_of_le (Nat.lt_of_lt_of_le hbl hb01.size) HO.out.bel.size
          have hc1 : wr.cell? ⟨b, off + k, none⟩ = some (.string (str m.to[k])) := by rw [below_at (nx hb01 HO.out.bel) hbl]; exact hcell k hkx
          have HC : Hid (∀ y : BelowT wr, Calls Tryd.prog 43 #[.slice a3 acc.length c3, .string (str m.to[k])] y.val fun e w' => e = .returned (.bool (acc.contains m.to[k])) ∧ Below y.val.heap.size y.val w') := fun y => l11Has_any a3 acc.length c3 acc m.to[k] y.val (HR3.out.1.below y.below) (by omega)
          have HIN := Lib.hid (nrm_in (acc := acc) hkx)
          have HNW := Lib.hid (nrm_new (acc := acc) hkx)
          have HSL : Hid ((str m.to[k]).data.toList = m.to[k]) := str_list _
          have hkn : (k : Int) < (n1 : Int) := by omega
          have hk0 : (0 : Int) ≤ (k : Int) := by omega
          have HPC : Hid (∀ u, Below wr.heap.size wr u → MK3 u w.heap.size (.string s1) (.slice (some ⟨b, off, none⟩) n1 c1) (.slice b1 n3 d1) ∧ u.cell? ⟨b, off + k, none⟩ = some (.string (str m.to[k]))) := fun u hu => ⟨HB.out u (nx HO.out.bel hu), (below_at hu hblr).trans hc1⟩
          clear hcell hc1
          generalize hq : acc.contains m.to[k] = q at *
          have HQ := Lib.hid hq
          clear hq
          generalize hzt : m.to[k] = t at *
          clear hzt
          generalize str t = z at *
          cases q
          · have HS : Hid (nrm (acc ++ [t]) (m.to.drop (k + 1)) = nrm [] m.to) := by show _ = _; rw [← HNW.out (by first | rfl | exact HQ.out)]; exact HNR.out
            go_wp2_with fail
            have zc0 := fun (y : BelowT wr) => (HPC.out _ y.below).1.1
            have zc1 := fun (y : BelowT wr) => (HPC.out _ y.below).1.2.1
            have zc2 := fun (y : BelowT wr) => (HPC.out _ y.below).2
            have zc3 := fun (y : BelowT wr) => (HO.out.below y.below).cells.1.2.1
            refine wp_region_quietB (W := wr) (by kernel_rfl) (by kernel_rfl) (Below.refl _ _) ?_
            repeat (go_big_quiet_step (first
              | (go_at_call 43; exact calls_belowT (HC.out _))))
            refine wpQuiet_nil ?_
            intro wz hwz
            obtain ⟨x9, rfl⟩ := hwz
            have hb9 := x9.below
            clear zc0 zc1 zc2 zc3 y0 y1 y2
            generalize x9.val = w9 at *
            go_wp2_with fail
            refine wp_region_tail (by kernel_rfl) ?_
            refine wpAny_tail (fuel := 8) (tf := 3) [8, 9, 10] (by kernel_rfl) ?_
            refine wpAnyZ_take (fuel := 1) [true, true, true, true, true, true, true] (by kernel_rfl) (by kernel_rfl) (by rfl) (by kernel_rfl) (by kernel_rfl) (by kernel_rfl) ?_
            apply Exists.intro
            refine ⟨fun x => ?_, ?_⟩
            · have zd0 := fun (y : BelowT x.val) => (HPC.out y.val (nx hb9 (nx ((Below.refl _ _).drew) (nx x.below y.below)))).1.1
              have zd1 := fun (y : BelowT x.val) => (HPC.out y.val (nx hb9 (nx ((Below.refl _ _).drew) (nx x.below y.below)))).1.2.1
              have zd2 := fun (y : BelowT x.val) => (HPC.out y.val (nx hb9 (nx ((Below.refl _ _).drew) (nx x.below y.below)))).2
              have zd3 := fun (y : BelowT x.val) => (HO.out.below (nx hb9 (nx ((Below.refl _ _).drew) (nx x.below y.below)))).cells.1.2.1
              simp only [pickL]
              repeat (go_big_quiet_step (fail))
              exact wpQuiet_nil rfl
            refine wpAnyZ_one (m := 7) (by kernel_rfl) (fun ua g1 => ?_)
            refine wpOp_at (o := _) (by rfl) (by rfl) ?_
            go_simp
            refine ⟨(Below.refl _ _).alloc (Nat.le_refl _) _, ?_⟩
            try simp only [Act.put, List.setIfInBounds_toArray, List.set_cons_zero, List.set_cons_succ]
            have ha1 : Below wr.heap.size wr ua := nx hb9 (nx ((Below.refl _ _).drew) g1)
            have hcx : (ua.alloc (.cells #[.string z] 9)).cell? ⟨ua.heap.size, 0, none⟩ = some (.string z) := cell_one _ _ _
            have ha2 : Below wr.heap.size wr (ua.alloc (.cells #[.string z] 9)) := nx ha1 ((Below.refl _ _).alloc (Nat.le_refl _) _)
            generalize ua.alloc (.cells #[.string z] 9) = V1 at *
            generalize ua.heap.size = X1 at hcx ⊢
            refine wpAnyZ_rest (by kernel_rfl) (fun ub g2 => ?_)
            have hOb := HO.out.below (nx ha2 g2)
            have hcy : RdL ub (some ⟨X1, 0, none⟩) 1 [t] := ⟨rfl, .inr ⟨X1, 0, rfl, Nat.lt_of_lt_of_le (lt_of_cell hcx) g2.size, fun i hi => by
              obtain rfl : i = 0 := by simpa using hi
              rw [Nat.add_zero, below_at g2 (lt_of_cell hcx), hcx]
              show some (Value.string z) = some (Value.string (str t))
              rw [← HSL.out, str_of]⟩⟩
            clear hcx g1 ha1 ha2
            refine wpAny_one (m := 8) (by kernel_rfl) ?_
            refine wpOp_at (o := _) (by rfl) (by rfl) ?_
            refine wp_append_H _ _ rfl w1.heap.size _ acc [t] (some ⟨X1, 0, none⟩) 1 1 rfl rfl hOb.tl hcy (fun e => by cases e) hOb.bel.size (by simp; omega) ?_
            intro v3 w3 ho3 gr3 at3
            have HN3 := Lib.hid (hOb.app ho3 gr3 at3)
            have hf3 := (mf3_grown hOb.cells gr3 hOb.o1)
            obtain ⟨⟨z0, z1, z2⟩, zf⟩ := hf3
            obtain ⟨a4, c4, rfl, _⟩ := ho3.readc
            clear ho3 gr3 at3 hOb hcy
            try simp only [Act.put, List.setIfInBounds_toArray]
            refine wpAny_one (m := 9) (by kernel_rfl) ?_
            refine wpOp_at (o := _) (by rfl) (by rfl) ?_
            go_simp
            try simp only [Act.put, List.setIfInBounds_toArray, List.set_cons_zero, List.set_cons_succ]
            refine wpAny_one (m := 10) (by kernel_rfl) ?_
            refine wpOp_at (o := _) (by rfl) (by rfl) ?_
            go_simp
            try simp only [Act.put]
            refine wpAny_end (by kernel_rfl) ?_ _
            clear z0 z1 z2 zf
            go_wp2
            go_roundw
            case rel => exact ⟨k + 1, acc ++ [t], a4, c4, by omega, by go_num, by simp; omega, HS.out, (by
                have h3 := HN3.out
                have hl3 : (acc ++ [t]).length = acc.length + 1 := by simp
                rw [hl3] at h3 ⊢
                exact h3)⟩
            case measure => simp [intOf]; omega
          · have HS : Hid (nrm acc (m.to.drop (k + 1)) = nrm [] m.to) := by show _ = _; rw [← HIN.out (by first | rfl | exact HQ.out)]; exact HNR.out
            go_wp2_with fail
            have zc0 := fun (y : BelowT wr) => (HPC.out _ y.below).1.1
            have zc1 := fun (y : BelowT wr) => (HPC.out _ y.below).1.2.1
            have zc2 := fun (y : BelowT wr) => (HPC.out _ y.below).2
            have zc3 := fun (y : BelowT wr) => (HO.out.below y.below).cells.1.2.1
            refine wp_region_quietB (W := wr) (by kernel_rfl) (by kernel_rfl) (Below.refl _ _) ?_
            repeat (go_big_quiet_step (first
              | (go_at_call 43; exact calls_belowT (HC.out _))))
            refine wpQuiet_nil ?_
            intro wz hwz
            obtain ⟨x9, rfl⟩ := hwz
            have HN3 := Lib.hid (HO.out.below x9.below)
            clear zc0 zc1 zc2 zc3 y0 y1 y2
            generalize x9.val = w9 at *
            go_wp2
            go_roundw
            case rel => exact ⟨k + 1, acc, a3, c3, by omega, by go_num, by omega, HS.out, HN3.out⟩
            case measure => simp [intOf]; omega
        · have HS : Hid (acc = nrm [] m.to) := by show _ = _; rw [← HNR.out, nrm_end (by have := HE1.out; omega)]
          have hlwr : w.heap.size + 2 ≤ w1.heap.size := by omega
          have hbx := nx hb01 HO.out.bel
          have HOO := Lib.hid HO.out
          generalize hL : acc.length = L at *
          have HL := Lib.hid hL
          clear hL
          obtain ⟨⟨z0, z1, z2⟩, zf⟩ := HOO.out.cells
          obtain ⟨⟨q0, q1', q2'⟩, qf⟩ := HZ1.out.below HOO.out.bel
          go_wp2
          refine bodyPost_ret (v := .tuple #[.agg #[.string s1, .slice a3 L c3, .slice ax n3 cx], .bool true]) (by simp [results, Tryd.results14, go_sem, q0, q1', q2']) rfl ?_
          exact HN.out _ a3 L c3 ax cx acc HS.out HL.out.symm ((((HOO.out.tl.off (g := w.heap.size + 1) (i := 0) (by omega) _).off (g := w.heap.size + 1) (i := 1) (by omega) _).off (g := w.heap.size + 1) (i := 2) (by omega) _).base (by omega)) ((((HOO.out.ln.off (g := w.heap.size + 1) (i := 0) (by omega) _).off (g := w.heap.size + 1) (i := 1) (by omega) _).off (g := w.heap.size + 1) (i := 2) (by omega) _).base (by omega)) HOO.out.ap (((hbx.setCell (by show w.heap.size ≤ w.heap.size + 1; omega) _).setCell (by show w.heap.size ≤ w.heap.size + 1; omega) _).setCell (by show w.heap.size ≤ w.heap.size + 1; omega) _)
end Go.Proofs.YtccendchnndaiaaDoor
end

section
namespace Go.Proofs.YtccendchnndaiaaDoor
open Go.RowKit

theorem normO_small {M : Nat} {m : Ml} (h : SmallM M m) : SmallM M (normO m) := by
  unfold normO
  split
  · obtain ⟨h1, h2, h3, h4, h5⟩ := h
    refine ⟨h1, ?_, fun x hx => h3 x ?_, h4, h5⟩
    · have := nrm_len m.to []
      show (nrm [] m.to).length ≤ M
      simp at this; omega
    · have := (nrm_mem m.to [] x).1 hx; simpa using this
  · exact ⟨Nat.zero_le _, Nat.zero_le _, (fun x hx => by cases hx), Nat.zero_le _, (fun x hx => by cases hx)⟩
def NrmW (m : Ml) (q : Bool) (w : World) (e : Ending) (w' : World) : Prop := ∃ (s : ByteArray) (a : Option Addr) (n c : Nat) (b : Option Addr) (k d : Nat), e = .returned (.tuple #[.agg #[.string s, .slice a n c, .slice b k d], .bool q]) ∧ RdV 1048576 w' s a n c b k d m ∧ Below w.heap.size w w'
theorem nrmRet_w {m : Ml} {w w' : World} {e : Ending} (h : NrmRet m w e w') (hs : SmallM 1048576 m) : NrmW (normO m) (isMail m) w e w' := by
  obtain ⟨x, hx, he, ho, hb⟩ := h
  refine ⟨_, _, _, _, _, _, _, he, ?_, hb⟩
  have := RdV.of (ho.rd (M := 1048576) (by rw [hx]; exact normO_small hs))
  rw [hx] at this ⊢; exact this
theorem normO_yes {m : Ml} (h : isMail m = true) : normO m = normM m := by unfold normO; rw [h]; rfl
theorem normO_twice {m : Ml} (h : isMail m = true) : normO (normM m) = normM m := by
  rw [normO_yes (norm_mail h), norm_twice]
theorem count_step {xs : List (List UInt8)} {t : List UInt8} {j : Nat} (h : j < xs.length) : (xs.take (j + 1)).count t = (xs.take j).count t + (if xs[j] = t then 1 else 0) := by
  rw [List.take_succ_eq_append_getElem h, List.count_append, List.count_singleton]
  by_cases e : xs[j] = t <;> simp [e]
end Go.Proofs.YtccendchnndaiaaDoor
end

section
namespace Go.Proofs.YtccendchnndaiaaDoor
open Go.RowKit

end Go.Proofs.YtccendchnndaiaaDoor
end

section
namespace Go.Proofs.YtccendchnndaiaaDoor
open Go.RowKit

set_option maxRecDepth 100000 in
set_option maxHeartbeats 2000000 in
theorem slicesEqS_any (a1 a2 : Option Addr) (n1 c1 n2 c2 : Nat) (xs ys : List (List UInt8)) (w : World) (h1 : RdL w a1 n1 xs) (h2 : RdL w a2 n2 ys) (hn1 : n1 ≤ maxLen) (hn2 : n2 ≤ maxLen) :
    Calls Tryd.prog 44 #[.slice a1 n1 c1, .slice a2 n2 c2] w fun e w' => e = .returned (.bool (decide (xs = ys))) ∧ Below w.heap.size w w' := by
  unfold maxLen at hn1 hn2
  obtain ⟨l1, r1⟩ := h1
  obtain ⟨l2, r2⟩ := h2
  have L1 := Lib.hid l1
  have L2 := Lib.hid l2
  by_cases hn : n1 = n2
  · subst hn
    have e1 : ((n1 : Int) != (n1 : Int)) = false := by simp
    by_cases h0 : n1 = 0
    · have hxy : Hid (xs = ys) := by show xs = ys; rw [List.length_eq_zero_iff.1 (l1.trans h0), List.length_eq_zero_iff.1 (l2.trans h0)]
      subst h0
      clear l1 l2 r1 r2
      go_enter Tryd.func44, Tryd.ntmps44
      go_wp2_with fail
      go_loop [13] (fun i => i = .int .i64 0) (fun _ => 0)
      case atStart => rfl
      case round =>
        subst hrel
        go_wp2
        go_ret
        exact ⟨ret_bool (decide_eq_true hxy.out).symm, Below.refl _ _⟩
    · obtain ⟨b1, o1, rfl, hb1, x1⟩ := r1.resolve_left h0
      obtain ⟨b2, o2, rfl, hb2, x2⟩ := r2.resolve_left h0
      have X1 := Lib.hid x1
      have X2 := Lib.hid x2
      clear l1 l2 r1 r2 x1 x2 h0
      go_enter Tryd.func44, Tryd.ntmps44
      go_wp2_with fail
      go_loopw [13] (fun i wr => ∃ k : Nat, k ≤ n1 ∧ i = .int .i64 k ∧ Below w.heap.size w wr ∧ xs.take k = ys.take k) (fun i _ => n1 - (intOf i).toNat)
      case atStart => exact ⟨0, Nat.zero_le _, rfl, Below.refl _ _, rfl⟩
      case round =>
        obtain ⟨k, hk, rfl, hb, htk⟩ := hrel
        have HTK := Lib.hid htk
        clear htk
        by_cases hlt : k < n1
        · have k1 : k < xs.length := by rw [L1.out]; exact hlt
          have k2 : k < ys.length := by rw [L2.out]; exact hlt
          have g1 : wr.cell? ⟨b1, o1 + k, none⟩ = some (.string (str xs[k])) := by rw [below_at hb hb1]; exact X1.out k k1
          have g2 : wr.cell? ⟨b2, o2 + k, none⟩ = some (.string (str ys[k])) := by rw [below_at hb hb2]; exact X2.out k k2
          by_cases hxy : xs[k] = ys[k]
          · have e3 : ((str xs[k]).toList == (str ys[k]).toList) = true := by rw [hxy]; simp
            have e4 : ((str xs[k]).toList != (str ys[k]).toList) = false := by rw [hxy]; simp
            have HN : Hid (xs.take (k + 1) = ys.take (k + 1)) := by show _ = _; rw [List.take_succ_eq_append_getElem k1, List.take_succ_eq_append_getElem k2, HTK.out, hxy]
            clear hxy
            go_wp2
            go_quiet (fail)
            go_wp2
            go_roundw
            case rel => exact ⟨k + 1, by omega, by go_num, below_drewN hb _, HN.out⟩
            case measure => simp [intOf]; omega
          · have hne : str xs[k] ≠ str ys[k] := fun e => hxy (by rw [← str_list xs[k], e, str_list])
            have e3 : ((str xs[k]).toList == (str ys[k]).toList) = false := by rw [beq_dec]; simpa using hne
            have e4 : ((str xs[k]).toList != (str ys[k]).toList) = true := by rw [bne, e3]; rfl
            have HN : Hid (xs ≠ ys) := by show _ ≠ _; intro e; subst e; exact hxy rfl
            clear hxy hne
            go_wp2
            go_quiet (fail)
            go_wp2
            go_ret
            exact ⟨ret_bool (decide_eq_false HN.out).symm, below_drewN hb _⟩
        · have HN : Hid (xs = ys) := by
            show xs = ys
            have h := HTK.out
            rw [List.take_of_length_le (by rw [L1.out]; omega), List.take_of_length_le (by rw [L2.out]; omega)] at h
            exact h
          go_wp2
          go_ret
          exact ⟨ret_bool (decide_eq_true HN.out).symm, hb⟩
  · have e1 : ((n1 : Int) != (n2 : Int)) = true := by rw [bne_iff_ne]; omega
    have HN : Hid (xs ≠ ys) := by show _ ≠ _; intro e; exact hn (by rw [← l1, ← l2, e])
    clear l1 l2 r1 r2
    go_enter Tryd.func44, Tryd.ntmps44
    go_wp2
    go_ret
    exact ⟨ret_bool (decide_eq_false HN.out).symm, Below.refl _ _⟩
set_option maxRecDepth 100000 in
set_option maxHeartbeats 2000000 in
theorem l10Texts_any (a1 a2 : Option Addr) (n1 c1 n2 c2 : Nat) (xs ys : List (List UInt8)) (w : World) (h1 : RdL w a1 n1 xs) (h2 : RdL w a2 n2 ys) (hn1 : n1 ≤ maxLen) (hn2 : n2 ≤ maxLen) :
    Calls Tryd.prog 95 #[.slice a1 n1 c1, .slice a2 n2 c2] w fun e w' => e = .returned (.bool (decide (xs = ys))) ∧ Below w.heap.size w w' := by
  unfold maxLen at hn1 hn2
  obtain ⟨l1, r1⟩ := h1
  obtain ⟨l2, r2⟩ := h2
  have L1 := Lib.hid l1
  have L2 := Lib.hid l2
  by_cases hn : n1 = n2
  · subst hn
    have e1 : ((n1 : Int) != (n1 : Int)) = false := by simp
    by_cases h0 : n1 = 0
    · have hxy : Hid (xs = ys) := by show xs = ys; rw [List.length_eq_zero_iff.1 (l1.trans h0), List.length_eq_zero_iff.1 (l2.trans h0)]
      subst h0
      clear l1 l2 r1 r2
      go_enter Tryd.func95, Tryd.ntmps95
      go_wp2_with fail
      go_loop [5] (fun i => i = .int .i64 0) (fun _ => 0)
      case atStart => rfl
      case round =>
        subst hrel
        go_wp2
        go_ret
        exact ⟨ret_bool (decide_eq_true hxy.out).symm, Below.refl _ _⟩
    · obtain ⟨b1, o1, rfl, hb1, x1⟩ := r1.resolve_left h0
      obtain ⟨b2, o2, rfl, hb2, x2⟩ := r2.resolve_left h0
      have X1 := Lib.hid x1
      have X2 := Lib.hid x2
      clear l1 l2 r1 r2 x1 x2 h0
      go_enter Tryd.func95, Tryd.ntmps95
      go_wp2_with fail
      go_loopw [5] (fun i wr => ∃ k : Nat, k ≤ n1 ∧ i = .int .i64 k ∧ Below w.heap.size w wr ∧ xs.take k = ys.take k) (fun i _ => n1 - (intOf i).toNat)
      case atStart => exact ⟨0, Nat.zero_le _, rfl, Below.refl _ _, rfl⟩
      case round =>
        obtain ⟨k, hk, rfl, hb, htk⟩ := hrel
        have HTK := Lib.hid htk
        clear htk
        by_cases hlt : k < n1
        · have k1 : k < xs.length := by rw [L1.out]; exact hlt
          have k2 : k < ys.length := by rw [L2.out]; exact hlt
          have g1 : wr.cell? ⟨b1, o1 + k, none⟩ = some (.string (str xs[k])) := by rw [below_at hb hb1]; exact X1.out k k1
          have g2 : wr.cell? ⟨b2, o2 + k, none⟩ = some (.string (str ys[k])) := by rw [below_at hb hb2]; exact X2.out k k2
          by_cases hxy : xs[k] = ys[k]
          · have e3 : ((str xs[k]).toList == (str ys[k]).toList) = true := by rw [hxy]; simp
            have e4 : ((str xs[k]).toList != (str ys[k]).toList) = false := by rw [hxy]; simp
            have HN : Hid (xs.take (k + 1) = ys.take (k + 1)) := by show _ = _; rw [List.take_succ_eq_append_getElem k1, List.take_succ_eq_append_getElem k2, HTK.out, hxy]
            clear hxy
            go_wp2
            go_quiet (fail)
            go_wp2
            go_roundw
            case rel => exact ⟨k + 1, by omega, by go_num, below_drewN hb _, HN.out⟩
            case measure => simp [intOf]; omega
          · have hne : str xs[k] ≠ str ys[k] := fun e => hxy (by rw [← str_list xs[k], e, str_list])
            have e3 : ((str xs[k]).toList == (str ys[k]).toList) = false := by rw [beq_dec]; simpa using hne
            have e4 : ((str xs[k]).toList != (str ys[k]).toList) = true := by rw [bne, e3]; rfl
            have HN : Hid (xs ≠ ys) := by show _ ≠ _; intro e; subst e; exact hxy rfl
            clear hxy hne
            go_wp2
            go_quiet (fail)
            go_wp2
            go_ret
            exact ⟨ret_bool (decide_eq_false HN.out).symm, below_drewN hb _⟩
        · have HN : Hid (xs = ys) := by
            show xs = ys
            have h := HTK.out
            rw [List.take_of_length_le (by rw [L1.out]; omega), List.take_of_length_le (by rw [L2.out]; omega)] at h
            exact h
          go_wp2
          go_ret
          exact ⟨ret_bool (decide_eq_true HN.out).symm, hb⟩
  · have e1 : ((n1 : Int) != (n2 : Int)) = true := by rw [bne_iff_ne]; omega
    have HN : Hid (xs ≠ ys) := by show _ ≠ _; intro e; exact hn (by rw [← l1, ← l2, e])
    clear l1 l2 r1 r2
    go_enter Tryd.func95, Tryd.ntmps95
    go_wp2
    go_ret
    exact ⟨ret_bool (decide_eq_false HN.out).symm, Below.refl _ _⟩
end Go.Proofs.YtccendchnndaiaaDoor
end

section
namespace Go.Proofs.YtccendchnndaiaaDoor
open Go.RowKit

set_option maxRecDepth 100000 in
set_option maxHeartbeats 2000000 in
theorem mailSame_any (M : Nat) (x y : MlA) (w : World) (h1 : RdM M w x) (h2 : RdM M w y) (hM : M ≤ maxLen) :
    Calls Tryd.prog 15 #[mlV x, mlV y] w fun e w' => e = .returned (.bool (decide (x.m = y.m))) ∧ Below w.heap.size w w' := by
  obtain ⟨⟨f1, t1, l1⟩, a1, c1, b1, d1⟩ := x
  obtain ⟨⟨f2, t2, l2⟩, a2, c2, b2, d2⟩ := y
  obtain ⟨⟨p1, _, _⟩, ⟨p2, _, _⟩, _, p3, _, p4, _⟩ := h1
  obtain ⟨⟨q1, _, _⟩, ⟨q2, _, _⟩, _, q3, _, q4, _⟩ := h2
  unfold mlV
  rw [ml_beq]
  dsimp only at *
  have HT : Hid (∀ u, Below w.heap.size w u → Calls Tryd.prog 44 #[.slice a1 t1.length c1, .slice a2 t2.length c2] u fun e w' => e = .returned (.bool (decide (t1 = t2))) ∧ Below u.heap.size u w') := fun u hb => slicesEqS_any _ _ _ _ _ _ _ _ u (p1.below hb) (q1.below hb) (by omega) (by omega)
  have HL : Hid (∀ u, Below w.heap.size w u → Calls Tryd.prog 44 #[.slice b1 l1.length d1, .slice b2 l2.length d2] u fun e w' => e = .returned (.bool (decide (l1 = l2))) ∧ Below u.heap.size u w') := fun u hb => slicesEqS_any _ _ _ _ _ _ _ _ u (p2.below hb) (q2.below hb) (by omega) (by omega)
  clear p1 p2 p3 p4 q1 q2 q3 q4 hM
  have d0 := beq_dec (str f1) (str f2)
  have d0' : ((str f1).toList != (str f2).toList) = !decide (str f1 = str f2) := by rw [bne, beq_dec]
  generalize decide (str f1 = str f2) = g0 at *
  generalize decide (t1 = t2) = g1 at *
  generalize decide (l1 = l2) = g2 at *
  generalize t1.length = n1 at *
  generalize t2.length = n2 at *
  generalize l1.length = n3 at *
  generalize l2.length = n4 at *
  generalize str f1 = s1 at *
  generalize str f2 = s2 at *
  have hA1 : Below w.heap.size w (w.alloc (.cells #[.string s1, .slice a1 n1 c1, .slice b1 n3 d1] 25)) := (Below.refl _ _).alloc (Nat.le_refl _) _
  have hA2 : Below (w.alloc (.cells #[.string s1, .slice a1 n1 c1, .slice b1 n3 d1] 25)).heap.size (w.alloc (.cells #[.string s1, .slice a1 n1 c1, .slice b1 n3 d1] 25)) ((w.alloc (.cells #[.string s1, .slice a1 n1 c1, .slice b1 n3 d1] 25)).alloc (.cells #[.string s2, .slice a2 n2 c2, .slice b2 n4 d2] 25)) := (Below.refl _ _).alloc (Nat.le_refl _) _
  have HX : Hid (MK3 ((w.alloc (.cells #[.string s1, .slice a1 n1 c1, .slice b1 n3 d1] 25)).alloc (.cells #[.string s2, .slice a2 n2 c2, .slice b2 n4 d2] 25)) w.heap.size (.string s1) (.slice a1 n1 c1) (.slice b1 n3 d1)) := (MK3.new w _ _ _ _).below hA2
  have HY : Hid (MK3 ((w.alloc (.cells #[.string s1, .slice a1 n1 c1, .slice b1 n3 d1] 25)).alloc (.cells #[.string s2, .slice a2 n2 c2, .slice b2 n4 d2] 25)) (w.heap.size + 1) (.string s2) (.slice a2 n2 c2) (.slice b2 n4 d2)) := by
    have := MK3.new (w.alloc (.cells #[.string s1, .slice a1 n1 c1, .slice b1 n3 d1] 25)) (.string s2) (.slice a2 n2 c2) (.slice b2 n4 d2) 25
    have e : (w.alloc (.cells #[.string s1, .slice a1 n1 c1, .slice b1 n3 d1] 25)).heap.size = w.heap.size + 1 := by simp
    rw [e] at this; exact this
  have hA := nx hA1 hA2
  cases g0
  · go_enter Tryd.func15, Tryd.ntmps15
    go_wp2
    go_ret
    exact ⟨rfl, hA⟩
  · go_enter Tryd.func15, Tryd.ntmps15
    go_wp2_with fail
    refine (HT.out _ hA).mono ?_
    rintro e w1 ⟨rfl, hb1⟩
    have hb01 := nx hA hb1
    obtain ⟨y0, y1, y2⟩ := HX.out.below hb1
    obtain ⟨x0, x1, x2⟩ := HY.out.below hb1
    cases g1
    · go_wp2
      go_ret
      exact ⟨rfl, hb01⟩
    · go_wp2_with fail
      refine (HL.out _ hb01).mono ?_
      rintro e w2 ⟨rfl, hb2⟩
      cases g2
      · go_wp2
        go_ret
        exact ⟨rfl, nx hb01 hb2⟩
      · go_wp2
        go_ret
        exact ⟨rfl, nx hb01 hb2⟩
set_option maxRecDepth 100000 in
set_option maxHeartbeats 2000000 in
theorem mailSameS_any (M : Nat) (x y : MlA) (w : World) (h1 : RdM M w x) (h2 : RdM M w y) (hM : M ≤ maxLen) :
    Calls Tryd.prog 70 #[mlV x, mlV y] w fun e w' => e = .returned (.bool (decide (x.m = y.m))) ∧ Below w.heap.size w w' := by
  obtain ⟨⟨f1, t1, l1⟩, a1, c1, b1, d1⟩ := x
  obtain ⟨⟨f2, t2, l2⟩, a2, c2, b2, d2⟩ := y
  obtain ⟨⟨p1, _, _⟩, ⟨p2, _, _⟩, _, p3, _, p4, _⟩ := h1
  obtain ⟨⟨q1, _, _⟩, ⟨q2, _, _⟩, _, q3, _, q4, _⟩ := h2
  unfold mlV
  rw [ml_beq]
  dsimp only at *
  have HT : Hid (∀ u, Below w.heap.size w u → Calls Tryd.prog 95 #[.slice a1 t1.length c1, .slice a2 t2.length c2] u fun e w' => e = .returned (.bool (decide (t1 = t2))) ∧ Below u.heap.size u w') := fun u hb => l10Texts_any _ _ _ _ _ _ _ _ u (p1.below hb) (q1.below hb) (by omega) (by omega)
  have HL : Hid (∀ u, Below w.heap.size w u → Calls Tryd.prog 95 #[.slice b1 l1.length d1, .slice b2 l2.length d2] u fun e w' => e = .returned (.bool (decide (l1 = l2))) ∧ Below u.heap.size u w') := fun u hb => l10Texts_any _ _ _ _ _ _ _ _ u (p2.below hb) (q2.below hb) (by omega) (by omega)
  clear p1 p2 p3 p4 q1 q2 q3 q4 hM
  have d0 := beq_dec (str f1) (str f2)
  have d0' : ((str f1).toList != (str f2).toList) = !decide (str f1 = str f2) := by rw [bne, beq_dec]
  generalize decide (str f1 = str f2) = g0 at *
  generalize decide (t1 = t2) = g1 at *
  generalize decide (l1 = l2) = g2 at *
  generalize t1.length = n1 at *
  generalize t2.length = n2 at *
  generalize l1.length = n3 at *
  generalize l2.length = n4 at *
  generalize str f1 = s1 at *
  generalize str f2 = s2 at *
  have hA1 : Below w.heap.size w (w.alloc (.cells #[.string s1, .slice a1 n1 c1, .slice b1 n3 d1] 25)) := (Below.refl _ _).alloc (Nat.le_refl _) _
  have hA2 : Below (w.alloc (.cells #[.string s1, .slice a1 n1 c1, .slice b1 n3 d1] 25)).heap.size (w.alloc (.cells #[.string s1, .slice a1 n1 c1, .slice b1 n3 d1] 25)) ((w.alloc (.cells #[.string s1, .slice a1 n1 c1, .slice b1 n3 d1] 25)).alloc (.cells #[.string s2, .slice a2 n2 c2, .slice b2 n4 d2] 25)) := (Below.refl _ _).alloc (Nat.le_refl _) _
  have HX : Hid (MK3 ((w.alloc (.cells #[.string s1, .slice a1 n1 c1, .slice b1 n3 d1] 25)).alloc (.cells #[.string s2, .slice a2 n2 c2, .slice b2 n4 d2] 25)) w.heap.size (.string s1) (.slice a1 n1 c1) (.slice b1 n3 d1)) := (MK3.new w _ _ _ _).below hA2
  have HY : Hid (MK3 ((w.alloc (.cells #[.string s1, .slice a1 n1 c1, .slice b1 n3 d1] 25)).alloc (.cells #[.string s2, .slice a2 n2 c2, .slice b2 n4 d2] 25)) (w.heap.size + 1) (.string s2) (.slice a2 n2 c2) (.slice b2 n4 d2)) := by
    have := MK3.new (w.alloc (.cells #[.string s1, .slice a1 n1 c1, .slice b1 n3 d1] 25)) (.string s2) (.slice a2 n2 c2) (.slice b2 n4 d2) 25
    have e : (w.alloc (.cells #[.string s1, .slice a1 n1 c1, .slice b1 n3 d1] 25)).heap.size = w.heap.size + 1 := by simp
    rw [e] at this; exact this
  have hA := nx hA1 hA2
  cases g0
  · go_enter Tryd.func70, Tryd.ntmps70
    go_wp2
    go_ret
    exact ⟨rfl, hA⟩
  · go_enter Tryd.func70, Tryd.ntmps70
    go_wp2_with fail
    refine (HT.out _ hA).mono ?_
    rintro e w1 ⟨rfl, hb1⟩
    have hb01 := nx hA hb1
    obtain ⟨y0, y1, y2⟩ := HX.out.below hb1
    obtain ⟨x0, x1, x2⟩ := HY.out.below hb1
    cases g1
    · go_wp2
      go_ret
      exact ⟨rfl, hb01⟩
    · go_wp2_with fail
      refine (HL.out _ hb01).mono ?_
      rintro e w2 ⟨rfl, hb2⟩
      cases g2
      · go_wp2
        go_ret
        exact ⟨rfl, nx hb01 hb2⟩
      · go_wp2
        go_ret
        exact ⟨rfl, nx hb01 hb2⟩
end Go.Proofs.YtccendchnndaiaaDoor
end
