/-
  Several texts in one. No statement is proved here.
-/
import Derived.Test.YtfiaankfmdpmkaaDoorGwM
import Derived.Test.YtfiaankfmdpmkaaDoorMalI
import Derived.Test.YtfiaankfmdpmkaaDoorParse
import Derived.Test.YtfiaankfmdpmkaaDoorSplit
import Derived.Test.YtfiaankfmdpmkaaDoorAddr2
import Derived.Deep.RegionWith
import Derived.Test.YtfiaankfmdpmkaaDoorMal
import Derived.Test.YtfiaankfmdpmkaaDoorBase
import Derived.Deep.QuietTactic
import Derived.BigQuiet
import Derived.Deep.RegionHeld3
section
namespace Go.Proofs.YtfiaankfmdpmkaaDoor
open Go.RowKit

/-- A line begins with a mark, on strings. -/
def isMkS (m s : ByteArray) : Bool := isMk m.data.toList s.data.toList
def CutMR (m s : ByteArray) (w : World) (e : Ending) (w' : World) : Prop := ∃ b : ByteArray, e = .returned (.tuple #[.string b, .bool (isMkS m s)]) ∧ b = str (cutM m.data.toList s.data.toList).1 ∧ Below w.heap.size w w'
theorem cutMR_no {m s : ByteArray} {w w' : World} (h : isMkS m s = false) (hb : Below w.heap.size w w') : CutMR m s w (.returned (.tuple #[.string ⟨#[]⟩, .bool false])) w' :=
  ⟨⟨#[]⟩, by rw [h], by unfold cutM; unfold isMkS at h; rw [h]; rfl, hb⟩
theorem cutMR_yes {m s x : ByteArray} {w w' : World} (h : isMkS m s = true) (hx : x = s.extract m.size s.size) (hb : Below w.heap.size w w') : CutMR m s w (.returned (.tuple #[.string x, .bool true])) w' :=
  ⟨x, by rw [h], by unfold cutM; unfold isMkS at h; rw [h, hx, ext_drop, ← size_list]; rfl, hb⟩
theorem isMk_short {m s : ByteArray} (h : s.size < m.size) : isMkS m s = false := by
  unfold isMkS isMk; rw [size_list, size_list, decide_eq_false (by omega)]; rfl
theorem isMk_long {m s : ByteArray} (h : m.size ≤ s.size) : isMkS m s = decide (lowS (s.extract 0 m.size) = lowS m) := by
  unfold isMkS isMk; rw [size_list, size_list, decide_eq_true h, Bool.true_and]
  refine decide_eq_decide.2 ?_
  unfold lowS
  rw [ext_take, str_list]
  exact ⟨fun h => by rw [h], fun h => by rw [← str_list (low _), h, str_list]⟩
set_option maxRecDepth 100000 in
set_option maxHeartbeats 1000000 in
theorem cutMark_any (s m : ByteArray) (w : World) (_hs : s.size ≤ 1073741000) (hm : m.size ≤ 1000) :
    Calls Tryd.prog 40 #[.string s, .string m] w (CutMR m s w) := by
  by_cases h : s.size < m.size
  · have HN : Hid (isMkS m s = false) := isMk_short h
    go_enter Tryd.func40, Tryd.ntmps40
    go_wp2
    go_ret2
    exact cutMR_no HN.out (Below.refl _ _)
  · have hle : m.size ≤ s.size := by omega
    have HC : Hid (Calls Tryd.prog 59 #[.string (s.extract 0 m.size), .string m] w fun e w' => e = .returned (.bool (isMkS m s)) ∧ Below w.heap.size w w') := by
      rw [isMk_long hle]
      exact sameText_any _ _ _ (by rw [ByteArray.size_extract]; omega) (by omega)
    have HN : Hid (isMkS m s = false → ∀ w' : World, Below w.heap.size w w' → CutMR m s w (.returned (.tuple #[.string ⟨#[]⟩, .bool false])) w') := fun h w' hb => cutMR_no h hb
    have HY : Hid (isMkS m s = true → ∀ w' : World, Below w.heap.size w w' → CutMR m s w (.returned (.tuple #[.string (s.extract m.size s.size), .bool true])) w') := fun h w' hb => cutMR_yes h rfl hb
    generalize hq : isMkS m s = q at *
    cases q
    · go_enter Tryd.func40, Tryd.ntmps40
      go_wp2_with fail
      refine HC.out.mono ?_
      rintro e w1 ⟨rfl, hb1⟩
      go_wp2
      go_ret2
      exact HN.out (by first | rfl | trivial) _ hb1
    · go_enter Tryd.func40, Tryd.ntmps40
      go_wp2_with fail
      refine HC.out.mono ?_
      rintro e w1 ⟨rfl, hb1⟩
      go_wp2
      go_ret2
      exact HY.out (by first | rfl | trivial) _ hb1
def HopRet (m : Ml) (w : World) (e : Ending) (w' : World) : Prop := e = .returned (.tuple #[.int .i64 (hopsM m : Nat), .bool (isMail m)]) ∧ Below w.heap.size w w'
set_option maxRecDepth 100000 in
set_option maxHeartbeats 4000000 in
theorem countHops_any (M : Nat) (x : MlA) (w : World) (en : Env w) (h1 : RdM M w x) (hM : M ≤ 1073741000) :
    Calls Tryd.prog 18 #[mlV x] w (HopRet x.m w) := by
  have hA0 : ∀ o, Below w.heap.size w (w.alloc o) := fun o => (Below.refl _ _).alloc (Nat.le_refl _) o
  have H0 : Hid (∀ u, Below w.heap.size w u → Calls Tryd.prog 39 #[mlV x] u fun e w' => e = .returned (.bool (isMail x.m)) ∧ Below u.heap.size u w') := fun u hb => mailValid_any M x u (en.below hb) (h1.below hb) hM
  have HE : Hid (∀ w' q h, Below w.heap.size w w' → isMail x.m = q → h = hopsM x.m → HopRet x.m w (.returned (.tuple #[.int .i64 (h : Nat), .bool q])) w') := fun w' q h hb hq hh => ⟨by rw [hq, hh], hb⟩
  obtain ⟨m, a1, c1, b1, d1⟩ := x
  obtain ⟨_, ⟨p2, _, _⟩, _⟩ := h1
  dsimp only at *
  have P2 := Lib.hid p2
  clear p2 en
  cases hv : isMail m
  · have HN : Hid (0 = hopsM m) := by show _ = _; unfold hopsM; rw [hv]; rfl
    have HV := Lib.hid hv
    rw [hv] at H0
    unfold mlV at *
    dsimp only at *
    generalize m.to.length = n1 at *
    generalize m.lines.length = n3 at *
    generalize str m.frm = s1 at *
    go_enter Tryd.func18, Tryd.ntmps18
    go_wp2_with fail
    refine (H0.out _ (hA0 _)).mono ?_
    rintro e w1 ⟨rfl, hb1⟩
    go_wp2
    go_ret2
    exact HE.out _ false 0 (nx (hA0 _) hb1) HV.out HN.out
  · have HHM : Hid (hopsM m = hopsL m.lines) := by show _ = _; unfold hopsM; rw [hv]; rfl
    have HV := Lib.hid hv
    obtain ⟨hd, _, h30⟩ := isMail_iff.1 hv
    obtain ⟨_, _, _, _, hln⟩ := isDraft_iff.1 hd
    have HLN : Hid (∀ l ∈ m.lines, l.length ≤ 200) := fun l hl => by have := hln l hl; unfold isText at this; simp at this; exact this.1
    have HLE : Hid (hopsL m.lines ≤ m.lines.length) := hops_le _
    rw [hv] at H0
    unfold mlV at *
    dsimp only at *
    clear hv hd hln
    have HX := Lib.hid (MK3.new w (.string (str m.frm)) (.slice a1 m.to.length c1) (.slice b1 m.lines.length d1) 36)
    have hA := hA0 (.cells #[.string (str m.frm), .slice a1 m.to.length c1, .slice b1 m.lines.length d1] 36)
    generalize m.to.length = n1 at *
    generalize hn3 : m.lines.length = n3 at *
    have HE3 := Lib.hid hn3
    clear hn3
    generalize str m.frm = s1 at *
    go_enter Tryd.func18, Tryd.ntmps18
    go_wp2_with fail
    refine (H0.out _ hA).mono ?_
    rintro e w1 ⟨rfl, hb1⟩
    have hb01 := nx hA hb1
    obtain ⟨y0, y1, y2⟩ := HX.out.below hb1
    clear H0 hA0
    have hz : (ByteArray.mk #[82, 101, 99, 101, 105, 118, 101, 100, 58]).size = 9 := rfl
    go_wp2_with fail
    go_loopw [4, 15] (fun v i wr => ∃ k r : Nat, k ≤ n3 ∧ i = .int .i64 k ∧ v = .int .i64 (r : Nat) ∧ r ≤ k ∧ r + hopsL (m.lines.drop k) = hopsL m.lines ∧ Below w.heap.size w wr) (fun _ i _ => n3 - (intOf i).toNat)
    case atStart => exact ⟨0, 0, Nat.zero_le _, rfl, rfl, Nat.le_refl _, by simp, hb01⟩
    case round =>
      clear y0 y1 y2 hb01 hb1
      obtain ⟨k, r, hk, rfl, rfl, hrk, hsum, hb⟩ := hrel
      have HS := Lib.hid hsum
      clear hsum
      by_cases hlt : k < n3
      · have hkx : k < m.lines.length := by have := HE3.out; omega
        obtain ⟨b, off, rfl, hbl, hcell⟩ := P2.out.2.resolve_left (by omega)
        have hc1 : wr.cell? ⟨b, off + k, none⟩ = some (.string (str m.lines[k])) := by rw [below_at hb hbl]; exact hcell k hkx
        have hkn : (k : Int) < (n3 : Int) := by omega
        have hk0 : (0 : Int) ≤ (k : Int) := by omega
        have hr0 : (r : Int) ≤ 30 := by omega
        have zs : (str m.lines[k]).size ≤ 200 := by rw [str_size]; exact HLN.out _ (List.getElem_mem hkx)
        have HNIL := Lib.hid (hops_nil hkx)
        have HYES := Lib.hid (hops_yes hkx)
        have HNO := Lib.hid (hops_no hkx)
        have HC : Hid (Calls Tryd.prog 40 #[.string (str m.lines[k]), .string ⟨#[82, 101, 99, 101, 105, 118, 101, 100, 58]⟩] wr (CutMR ⟨#[82, 101, 99, 101, 105, 118, 101, 100, 58]⟩ (str m.lines[k]) wr)) := cutMark_any _ _ _ (by omega) (by omega)
        have HMK : Hid (isMkS ⟨#[82, 101, 99, 101, 105, 118, 101, 100, 58]⟩ (str m.lines[k]) = isMk recvL m.lines[k]) := by show _ = _; unfold isMkS; rw [str_list]; rfl
        unfold CutMR at HC
        rw [HMK.out] at HC
        clear hcell HMK
        have d0 := eqEmp m.lines[k]
        cases hem : decide (m.lines[k] = [])
        · have HNE : Hid (m.lines[k] ≠ []) := of_decide_eq_false hem
          rw [hem] at d0
          clear hem
          obtain ⟨g, hg⟩ : ∃ g, g = isMk recvL m.lines[k] := ⟨_, rfl⟩
          rw [← hg] at HC
          cases g
          · have HNX : Hid (r + hopsL (m.lines.drop (k + 1)) = hopsL m.lines) := by show _ = _; rw [← HNO.out HNE.out hg.symm]; exact HS.out
            clear hg
            generalize str m.lines[k] = z at *
            go_wp2_with fail
            refine HC.out.mono ?_
            rintro e w2 ⟨bb, rfl, _, hb2⟩
            go_wp2
            go_roundw
            case rel => exact ⟨k + 1, r, by omega, by go_num, rfl, by omega, HNX.out, nx hb hb2⟩
            case measure => simp [intOf]; omega
          · have HNX : Hid (r + 1 + hopsL (m.lines.drop (k + 1)) = hopsL m.lines) := by show _ = _; have := HYES.out HNE.out hg.symm; have := HS.out; omega
            clear hg
            generalize str m.lines[k] = z at *
            go_wp2_with fail
            refine HC.out.mono ?_
            rintro e w2 ⟨bb, rfl, _, hb2⟩
            go_wp2
            go_roundw
            case rel => exact ⟨k + 1, r + 1, by omega, by go_num, by go_num, by omega, HNX.out, nx hb hb2⟩
            case measure => simp [intOf]; omega
        · have HN : Hid (r = hopsM m) := by show _ = _; rw [HHM.out, ← HS.out, HNIL.out (of_decide_eq_true hem)]; rfl
          rw [hem] at d0
          clear hem
          generalize str m.lines[k] = z at *
          go_wp2
          go_ret2
          exact HE.out _ true r hb HV.out HN.out
      · have HN : Hid (r = hopsM m) := by show _ = _; rw [HHM.out, ← HS.out, hops_end (by have := HE3.out; omega)]; rfl
        go_wp2
        go_ret2
        exact HE.out _ true r hb HV.out HN.out
end Go.Proofs.YtfiaankfmdpmkaaDoor
end

section
namespace Go.Proofs.YtfiaankfmdpmkaaDoor
open Go.RowKit

def parseR (l : List UInt8) : Adr := (parseA l).getD adr0
/-- What reading an address leaves. -/
def ParseRet (l : List UInt8) (w : World) (e : Ending) (w' : World) : Prop := e = .returned (.tuple #[adrV (parseR l), .bool (parseA l).isSome]) ∧ Below w.heap.size w w'
theorem parseRet_none {l : List UInt8} {w w' : World} (h : parseA l = none) (hb : Below w.heap.size w w') : ParseRet l w (.returned (.tuple #[.agg #[.string ⟨#[]⟩, .string ⟨#[]⟩, .string ⟨#[]⟩], .bool false])) w' :=
  ⟨by unfold parseR; rw [h]; rfl, hb⟩
theorem parseRet_some {l : List UInt8} {w w' : World} {n x d : ByteArray} (h : parseA l = some (adr n x d)) (hb : Below w.heap.size w w') : ParseRet l w (.returned (.tuple #[.agg #[.string n, .string x, .string d], .bool true])) w' :=
  ⟨by unfold parseR; rw [h]; show _ = Ending.returned (.tuple #[adrV (adr n x d), .bool true]); rw [adrV_adr], hb⟩
theorem lowS_str (l : List UInt8) : lowS (str l) = str (low l) := by unfold lowS; rw [str_list]
theorem isText_trimS {l : List UInt8} (h : isText l = true) : isText (trimS l) = true := isText_sub h (fun _ hx => trimS_mem hx) (trimS_len l)
end Go.Proofs.YtfiaankfmdpmkaaDoor
end

section
namespace Go.Proofs.YtfiaankfmdpmkaaDoor
open Go.RowKit

end Go.Proofs.YtfiaankfmdpmkaaDoor
end

section
namespace Go.Proofs.YtfiaankfmdpmkaaDoor
open Go.RowKit

def CutRetS (s : ByteArray) (c : UInt8) (w : World) (e : Ending) (w' : World) : Prop :=
  (∀ a d, cutU c s.data.toList = some (a, d) → e = .returned (.tuple #[.string (str a), .string (str d), .bool true])) ∧
  (cutU c s.data.toList = none → e = .returned (.tuple #[.string s, .string ⟨#[]⟩, .bool false])) ∧ ∃ q, w' = w.drewN q
theorem cutRetS_some {s : ByteArray} {c : UInt8} {k q : Nat} {w : World} {x y : ByteArray} (h : cutK c 0 s.data.toList = some k) (hx : x = s.extract 0 k) (hy : y = s.extract (k + 1) s.size) : CutRetS s c w (.returned (.tuple #[.string x, .string y, .bool true])) (w.drewN q) := by
  have hc : cutU c s.data.toList = some (s.data.toList.take k, s.data.toList.drop (k + 1)) := by unfold cutU; rw [h]; rfl
  refine ⟨fun a d h' => ?_, fun h' => ?_, q, rfl⟩
  · rw [hc] at h'; injection h' with h'; injection h' with h1 h2; subst h1 h2; rw [hx, hy, ext_take, ext_drop]
  · rw [hc] at h'; cases h'
theorem cutRetS_none {s : ByteArray} {c : UInt8} {w : World} (h : cutK c 0 s.data.toList = none) : CutRetS s c w (.returned (.tuple #[.string s, .string ⟨#[]⟩, .bool false])) w := by
  have hc : cutU c s.data.toList = none := by unfold cutU; rw [h]; rfl
  refine ⟨fun a d h' => ?_, fun _ => rfl, 0, rfl⟩
  rw [hc] at h'; cases h'
set_option maxRecDepth 100000 in
set_option maxHeartbeats 4000000 in
theorem l2Cut_any (s : ByteArray) (c : UInt8) (w : World) (hc34 : (34 : UInt8) ≠ c) (hs : s.size ≤ 1073741824) :
    Calls Tryd.prog 65 #[.string s, .int .u8 c.toNat] w (CutRetS s c w) := by
  go_enter Tryd.func65, Tryd.ntmps65
  go_wp2_with fail
  go_loop [7] (fun i => ∃ k : Nat, k ≤ s.size ∧ i = .int .i64 k ∧ cutsAt c s k) (fun i => s.size - (intOf i).toNat)
  case atStart => exact ⟨0, Nat.zero_le _, rfl, cutsAt_start c s⟩
  case round =>
    obtain ⟨k, hk, rfl, hg⟩ := hrel
    have HG := Lib.hid hg
    clear hg
    by_cases hlt : k < s.size
    · by_cases hq : s[k] = 34
      · have e2 := beq_t hq (n := 34) rfl
        cases hr : readQ (s.data.toList.drop (k + 1)) with
        | none =>
          have HR := Lib.hid (cutsAt_stuck hc34 HG.out hlt hq hr)
          have HQ := Lib.hid hr
          clear hq hr
          go_wp2_with fail
          refine (l1Read_any s k _ hlt hs).mono ?_
          rintro e w1 ⟨_, hno, rfl⟩
          have he := hno HQ.out
          clear hno
          subst he
          go_wp2
          go_ret3
          exact cutRetS_none HR.out
        | some y =>
          obtain ⟨t, r⟩ := y
          obtain ⟨hN, hlo⟩ := cutsAt_quote hc34 HG.out hlt hq hr
          have HN := Lib.hid hN
          have HQ := Lib.hid hr
          clear hq hr hN
          go_wp2_with fail
          refine (l1Read_any s k _ hlt hs).mono ?_
          rintro e w1 ⟨hy, _, rfl⟩
          have he := hy t r HQ.out
          clear hy
          subst he
          obtain ⟨q, hq⟩ : ∃ q, q = s.size - r.length := ⟨_, rfl⟩
          rw [← hq] at HN hlo ⊢
          have hqs : q ≤ s.size := by omega
          clear hq
          go_wp2
          go_round
          case rel => exact ⟨q, hqs, by go_num, HN.out⟩
          case measure => simp [intOf]; omega
      · have e2 := beq_f hq (n := 34) rfl
        by_cases hc : s[k] = c
        · have HR := Lib.hid (cutsAt_hit HG.out hlt hc)
          have e1 : ((s[k].toNat : Int) == (c.toNat : Int)) = true := by rw [hc]; simp
          have hw1 : IntKind.i64.wrap ((k : Int) + 1) = (k : Int) + 1 := IntWalk.i64_in _ (by omega)
          have hw2 : 0 ≤ (k : Int) + 1 := by omega
          have hw3 : ((k : Int) + 1).toNat = k + 1 := by omega
          clear hc hq
          go_wp2
          go_quiet (fail)
          go_wp2
          go_ret3
          exact cutRetS_some HR.out rfl rfl
        · have e1 : ((s[k].toNat : Int) == (c.toNat : Int)) = false := by
            rw [beq_eq_false_iff_ne]; intro e; exact hc (UInt8.toNat_inj.1 (by omega))
          have HN := Lib.hid (cutsAt_skip HG.out hlt hc hq)
          clear hc hq
          go_wp2
          go_round
          case rel => exact ⟨k + 1, by omega, by go_num, HN.out⟩
          case measure => simp [intOf]; omega
    · have HR := Lib.hid (cutsAt_end HG.out (by omega))
      go_wp2
      go_ret3
      exact cutRetS_none HR.out
/-- A list of the call's own. -/
def OwnRet (xs : List (List UInt8)) (w : World) (e : Ending) (w' : World) : Prop := ∃ v, e = .returned v ∧ OwnL w.heap.size v xs w' ∧ Below w.heap.size w w'
def partsAt (c : UInt8) (s : ByteArray) (st i : Nat) (acc : List (List UInt8)) : Prop := splitC c s.data.toList = acc ++ glue ((s.data.toList.drop st).take (i - st)) (splitC c (s.data.toList.drop i))
theorem partsAt_start (c : UInt8) (s : ByteArray) : partsAt c s 0 0 [] := by unfold partsAt; simp [glue_nil]
theorem partsAt_skip {c : UInt8} {s : ByteArray} {st i : Nat} {acc : List (List UInt8)} (h : partsAt c s st i acc) (hst : st ≤ i) (hi : i < s.size) (hc : s[i] ≠ c) : partsAt c s st (i + 1) acc := by
  unfold partsAt at h ⊢
  rw [h, drop_at s i hi, splitC_skip _ hc, glue_app]
  congr 2
  rw [show i + 1 - st = (i - st) + 1 by omega, List.take_succ_eq_append_getElem (by rw [List.length_drop, size_list]; omega)]
  congr 1
  rw [List.getElem_drop]
  have : st + (i - st) = i := by omega
  simp only [this]; rfl
theorem partsAt_hit {c : UInt8} {s : ByteArray} {st i : Nat} {acc : List (List UInt8)} (h : partsAt c s st i acc) (hi : i < s.size) (hc : s[i] = c) : partsAt c s (i + 1) (i + 1) (acc ++ [(s.extract st i).data.toList]) := by
  unfold partsAt at h ⊢
  rw [h, drop_at s i hi, hc, splitC_hit, Lib.extract_data, Nat.sub_self, List.take_zero, glue_nil]
  simp [glue]
theorem partsAt_end {c : UInt8} {s : ByteArray} {st i : Nat} {acc : List (List UInt8)} (h : partsAt c s st i acc) (hst : st ≤ i) (hi : s.size ≤ i) : splitC c s.data.toList = acc ++ [(s.extract st s.size).data.toList] := by
  unfold partsAt at h
  rw [h, drop_out s i hi, Lib.extract_data]
  show acc ++ glue _ [[]] = _
  simp only [glue, List.append_nil]
  congr 2
  rw [List.take_of_length_le (by rw [List.length_drop, size_list]; omega), List.take_of_length_le (by rw [List.length_drop, size_list]; omega)]
theorem ext_size (s : ByteArray) (a b : Nat) : (s.extract a b).size ≤ s.size := by rw [ByteArray.size_extract]; omega
set_option maxRecDepth 100000 in
set_option maxHeartbeats 4000000 in
theorem l2Parts_any (s : ByteArray) (c : UInt8) (w : World) (hs : s.size ≤ 1073741000) :
    Calls Tryd.prog 89 #[.string s, .int .u8 c.toNat] w (OwnRet (splitC c s.data.toList) w) := by
  obtain ⟨i0, hi, hz0, hz1, hz2⟩ := info_parts sInfo
  go_enter Tryd.func89, Tryd.ntmps89
  go_wp2_with fail
  go_loopw [5, 6, 7] (fun v st i wr => ∃ (k a : Nat) (acc : List (List UInt8)), k ≤ s.size ∧ a ≤ k ∧ i = .int .i64 k ∧ st = .int .i64 a ∧ acc.length ≤ k ∧ partsAt c s a k acc ∧ OwnL w.heap.size v acc wr ∧ Below w.heap.size w wr) (fun _ _ i _ => s.size - (intOf i).toNat)
  case atStart => exact ⟨0, 0, [], Nat.zero_le _, Nat.le_refl _, rfl, rfl, Nat.zero_le _, partsAt_start c s, OwnL.empty w, (Below.refl _ _).alloc (Nat.le_refl _) _⟩
  case round =>
    obtain ⟨k, a, acc, hk, hak, rfl, rfl, hal, hg, hown, hb⟩ := hrel
    have HG := Lib.hid hg
    clear hg
    have hown1 := hown
    unfold OwnL at hown1
    by_cases hlt : k < s.size
    · by_cases hc : s[k] = c
      · have HN := Lib.hid (partsAt_hit HG.out hlt hc)
        have e1 : ((s[k].toNat : Int) == (c.toNat : Int)) = true := by rw [hc]; simp
        have hbs := hb.size
        clear hc
        go_wp2_with (at_builtin; refine wpList_append_own _ rfl _ _ 30 rfl w.heap.size 9 i0 (.string ⟨#[]⟩) 1 16 Tryd.underlying30 hi hz0 hz1 hz2 rfl (by decide) _ _ _ rfl (hown1.alloc _) ⟨wr.heap.size, 0, none⟩ 1 1 [.string (s.extract a k)] rfl rfl ?c1 ?c2 ?c3 ?c4 ?c5 ?_)
        case c1 =>
          intro u v hj
          match u, hj with
          | 0, hj => simp at hj; subst hj; simp [Addr.add]
        case c2 => intro u hu; simp at hu; subst hu; rfl
        case c3 => unfold maxLen; omega
        case c4 => omega
        case c5 => simp; omega
        intro v' w3 hown' hgrow _
        have hO3 : OwnL w.heap.size v' (acc ++ [(s.extract a k).data.toList]) w3 := own_snoc hown'
        have hb3 : Below w.heap.size wr w3 := ((Below.refl _ _).alloc (by omega) _).grown hgrow (by simp; omega) (fun k hk => (hown1.lt k hk).1)
        go_wp2
        go_roundw
        case rel => exact ⟨k + 1, k + 1, _, by omega, Nat.le_refl _, by go_num, by go_num, by simp; omega, HN.out, hO3, hb.trans hb3⟩
        case measure => simp [intOf]; omega
      · have HN := Lib.hid (partsAt_skip HG.out hak hlt hc)
        have e1 : ((s[k].toNat : Int) == (c.toNat : Int)) = false := by
          rw [beq_eq_false_iff_ne]; intro e; exact hc (UInt8.toNat_inj.1 (by omega))
        clear hc
        go_wp2
        go_roundw
        case rel => exact ⟨k + 1, a, acc, by omega, by omega, by go_num, rfl, by omega, HN.out, hown, hb⟩
        case measure => simp [intOf]; omega
    · have HN := Lib.hid (partsAt_end HG.out hak (by omega))
      have hbs := hb.size
      go_wp2_with (at_builtin; refine wpList_append_own _ rfl _ _ 30 rfl w.heap.size 9 i0 (.string ⟨#[]⟩) 1 16 Tryd.underlying30 hi hz0 hz1 hz2 rfl (by decide) _ _ _ rfl (hown1.alloc _) ⟨wr.heap.size, 0, none⟩ 1 1 [.string (s.extract a s.size)] rfl rfl ?q1 ?q2 ?q3 ?q4 ?q5 ?_)
      case q1 =>
        intro u v hj
        match u, hj with
        | 0, hj => simp at hj; subst hj; simp [Addr.add]
      case q2 => intro u hu; simp at hu; subst hu; rfl
      case q3 => unfold maxLen; omega
      case q4 => omega
      case q5 => simp; omega
      intro v' w3 hown' hgrow _
      have hO3 : OwnL w.heap.size v' (acc ++ [(s.extract a s.size).data.toList]) w3 := own_snoc hown'
      have hb3 : Below w.heap.size wr w3 := ((Below.refl _ _).alloc (by omega) _).grown hgrow (by simp; omega) (fun k hk => (hown1.lt k hk).1)
      go_wp2
      go_ret
      exact ⟨v', rfl, by rw [HN.out]; exact hO3, hb.trans hb3⟩
set_option maxRecDepth 100000 in
set_option maxHeartbeats 2000000 in
theorem l2Local_any (s : ByteArray) (w : World) (hs : s.size ≤ 1073741000) :
    Calls Tryd.prog 79 #[.string s] w fun e w' => e = .returned (.bool (isLocal s.data.toList)) ∧ Below w.heap.size w w' := by
  have HSM := Lib.hid (splitC_small 46 s.data.toList)
  have HD : Hid (isLocal s.data.toList = (decide (s.size ≤ 30) && (splitC 46 s.data.toList).all isAtom)) := rfl
  go_enter Tryd.func79, Tryd.ntmps79
  go_wp2_with fail
  refine (l2Parts_any s 46 _ hs).mono ?_
  rintro e w1 ⟨v, rfl, ho, hb1⟩
  obtain ⟨a1, c1, rfl, hr, hm⟩ := ho.read
  generalize hX : splitC 46 s.data.toList = xs at *
  have HX := Lib.hid hX
  obtain ⟨_, hr2⟩ := hr
  have HR := Lib.hid hr2
  have hlen : xs.length ≤ 1073741824 := by have := HSM.out.1; rw [size_list] at this; omega
  clear hX hr2
  go_wp2_with fail
  go_loop [4] (fun i => ∃ k : Nat, k ≤ xs.length ∧ i = .int .i64 k ∧ ∀ j, (h : j < k) → (h' : j < xs.length) → isAtom xs[j] = true) (fun i => xs.length - (intOf i).toNat)
  case atStart => exact ⟨0, Nat.zero_le _, rfl, fun j h => by omega⟩
  case round =>
    obtain ⟨k, hk, rfl, hall⟩ := hrel
    have HA := Lib.hid hall
    clear hall
    by_cases hlt : k < xs.length
    · obtain ⟨b, o, rfl, hbl, hcell⟩ := HR.out.resolve_left (by omega)
      have hc1 : w1.cell? ⟨b, o + k, none⟩ = some (.string (str xs[k])) := hcell k hlt
      have hsz : (str xs[k]).size ≤ 1073741824 := by rw [str_size]; have := HSM.out.2 _ (List.getElem_mem hlt); rw [size_list] at this; omega
      clear hcell
      cases hp : isAtom xs[k]
      · have HP : Hid (isAtom (str xs[k]).data.toList = false) := by show _ = _; rw [str_list]; exact hp
        have HE : Hid (xs.all isAtom = false) := by show _ = _; rw [List.all_eq_false]; exact ⟨_, List.getElem_mem hlt, by simp [hp]⟩
        generalize str xs[k] = x at *
        clear hp
        go_wp2_with fail
        refine (atomValidS_any x _ (by unfold maxLen; omega)).mono ?_
        rintro e w2 ⟨rfl, rfl⟩
        rw [HP.out]
        go_wp2
        go_ret
        exact ⟨ret_bool (by rw [HD.out, HE.out]; simp), hb1⟩
      · have HP : Hid (isAtom (str xs[k]).data.toList = true) := by show _ = _; rw [str_list]; exact hp
        have HQ := Lib.hid hp
        generalize str xs[k] = x at *
        clear hp
        go_wp2_with fail
        refine (atomValidS_any x _ (by unfold maxLen; omega)).mono ?_
        rintro e w2 ⟨rfl, rfl⟩
        rw [HP.out]
        go_wp2
        go_round
        case rel => exact ⟨k + 1, by omega, by go_num, fun j h h' => by
          by_cases e : j = k
          · subst e; exact HQ.out
          · exact HA.out j (by omega) h'⟩
        case measure => simp [intOf]; omega
    · have HE : Hid (xs.all isAtom = true) := by
        show _ = _
        rw [List.all_eq_true]; intro x hx
        obtain ⟨j, hj, rfl⟩ := List.getElem_of_mem hx
        exact HA.out j (by omega) hj
      go_wp2
      go_ret
      exact ⟨ret_bool (by rw [HD.out, HE.out, Bool.and_true]; rw [Bool.eq_iff_iff]; simp; omega), hb1⟩
theorem labC_nat : ∀ n, n < 256 → labC (UInt8.ofNat n) = ((alnumB (UInt8.ofNat n) || decide (UInt8.ofNat n = 45)) && !capB (UInt8.ofNat n)) := by decide +kernel
theorem labC_eq (c : UInt8) : labC c = ((alnumB c || decide (c = 45)) && !capB c) := by
  have := labC_nat c.toNat c.toNat_lt; rw [UInt8.ofNat_toNat] at this; exact this
set_option maxRecDepth 100000 in
set_option maxHeartbeats 8000000 in
theorem l2Domain_any (s : ByteArray) (w : World) (hs : s.size ≤ 1073741000) :
    Calls Tryd.prog 80 #[.string s] w fun e w' => e = .returned (.bool (isDomain s.data.toList)) ∧ Below w.heap.size w w' := by
  have HSM := Lib.hid (splitC_small 46 s.data.toList)
  have HD : Hid (isDomain s.data.toList = (decide (s.size ≤ 40) && (splitC 46 s.data.toList).all isLab)) := rfl
  go_enter Tryd.func80, Tryd.ntmps80
  go_wp2_with fail
  refine (l2Parts_any s 46 _ hs).mono ?_
  rintro e w1 ⟨v, rfl, ho, hb1⟩
  obtain ⟨a1, c1, rfl, hr, hm⟩ := ho.read
  generalize hX : splitC 46 s.data.toList = xs at *
  have HX := Lib.hid hX
  obtain ⟨_, hr2⟩ := hr
  have HR := Lib.hid hr2
  have hlen : xs.length ≤ 1073741824 := by have := HSM.out.1; rw [size_list] at this; omega
  clear hX hr2
  go_wp2_with fail
  go_loop [4] (fun i => ∃ k : Nat, k ≤ xs.length ∧ i = .int .i64 k ∧ ∀ j, (h : j < k) → (h' : j < xs.length) → isLab xs[j] = true) (fun i => xs.length - (intOf i).toNat)
  case atStart => exact ⟨0, Nat.zero_le _, rfl, fun j h => by omega⟩
  case round =>
    obtain ⟨k, hk, rfl, hall⟩ := hrel
    have HA := Lib.hid hall
    clear hall
    by_cases hlt : k < xs.length
    · obtain ⟨b, o, rfl, hbl, hcell⟩ := HR.out.resolve_left (by omega)
      have hc1 : w1.cell? ⟨b, o + k, none⟩ = some (.string (str xs[k])) := hcell k hlt
      have hsz : (str xs[k]).size ≤ 1073741824 := by rw [str_size]; have := HSM.out.2 _ (List.getElem_mem hlt); rw [size_list] at this; omega
      have HBAD : Hid (isLab xs[k] = false → xs.all isLab = false) := fun hp => by rw [List.all_eq_false]; exact ⟨_, List.getElem_mem hlt, by simp [hp]⟩
      have HOK : Hid (isLab xs[k] = true → ∀ j, (h : j < k + 1) → (h' : j < xs.length) → isLab xs[j] = true) := fun hp j h h' => by
        by_cases e : j = k
        · subst e; exact hp
        · exact HA.out j (by omega) h'
      have HXK : Hid (xs[k] = (str xs[k]).data.toList) := by show _ = _; rw [str_list]
      generalize str xs[k] = x at *
      clear hcell
      by_cases h0 : x.size = 0
      · have HB := Lib.hid (HBAD.out (by rw [HXK.out]; exact isLab_nil x h0))
        have he := empty_t h0
        have H0 := Lib.hid h0
        clear h0
        go_wp2
        go_ret
        exact ⟨ret_bool (by rw [HD.out, HB.out]; simp), hb1⟩
      · have he := empty_f (s := x) (by omega)
        have hp : 0 < x.size := by omega
        have hp2 : 1 ≤ x.size := by omega
        have h0' : x.size - 1 < x.size := by omega
        have hhead : x.data.toList.head? = some x[0] := by
          rw [List.head?_eq_getElem?, List.getElem?_eq_getElem (by rw [size_list]; exact hp)]; rfl
        have hlast : x.data.toList.getLast? = some x[x.size - 1] := by
          rw [List.getLast?_eq_getElem?, size_list, List.getElem?_eq_getElem (by rw [size_list]; omega)]; rfl
        by_cases ha : x[0] = 45
        · have HB := Lib.hid (HBAD.out (by rw [HXK.out]; unfold isLab; rw [hhead, ha]; simp))
          have e1 := beq_t ha (n := 45) rfl
          clear ha hhead hlast
          go_wp2
          go_ret
          exact ⟨ret_bool (by rw [HD.out, HB.out]; simp), hb1⟩
        · have e1 := beq_f ha (n := 45) rfl
          by_cases hb : x[x.size - 1] = 45
          · have HB := Lib.hid (HBAD.out (by rw [HXK.out]; unfold isLab; rw [hlast, hb]; simp))
            have e2 := beq_t hb (n := 45) rfl
            clear ha hb hhead hlast
            go_wp2
            go_ret
            exact ⟨ret_bool (by rw [HD.out, HB.out]; simp), hb1⟩
          · have e2 := beq_f hb (n := 45) rfl
            have HGOOD : Hid ((∀ j, (h' : j < x.size) → labC x[j] = true) → isLab xs[k] = true) := fun h => by
              rw [HXK.out, isLab_good x hp h]; simp [ha, hb]
            have HBAD2 : Hid (∀ j, (h' : j < x.size) → labC x[j] = false → xs.all isLab = false) := fun j h' h => HBAD.out (by rw [HXK.out]; exact isLab_bad x j h' h)
            clear ha hb hhead hlast
            go_wp2_with fail
            go_loop [6] (fun i => ∃ q : Nat, q ≤ x.size ∧ i = .int .i64 q ∧ ∀ j, (h : j < q) → (h' : j < x.size) → labC x[j] = true) (fun i => x.size - (intOf i).toNat)
            case atStart => exact ⟨0, Nat.zero_le _, rfl, fun j h => by omega⟩
            case round =>
              obtain ⟨q, hq, rfl, hqall⟩ := hrel
              have HQA := Lib.hid hqall
              clear hqall
              by_cases hqlt : q < x.size
              · have HEQ := Lib.hid (labC_eq x[q])
                have HSTEP : Hid (labC x[q] = true → ∀ j, (h : j < q + 1) → (h' : j < x.size) → labC x[j] = true) := fun hp j h h' => by
                  by_cases e : j = q
                  · subst e; exact hp
                  · exact HQA.out j (by omega) h'
                cases hal : alnumB x[q]
                · have HAL := Lib.hid hal
                  by_cases h45 : x[q] = 45
                  · have e3 := bneq_f h45 (n := 45) rfl
                    have hlow : (x[q].toNat : Int) < 65 := by rw [h45]; decide
                    have HN := Lib.hid (HSTEP.out (by rw [HEQ.out, h45]; decide))
                    clear hal h45
                    go_wp2_with fail
                    refine (l1Letter_any _ _).mono ?_
                    rintro e w2 ⟨rfl, rfl⟩
                    rw [HAL.out]
                    go_wp2
                    go_round
                    case rel => exact ⟨q + 1, by omega, by go_num, HN.out⟩
                    case measure => simp [intOf]; omega
                  · have e3 := bneq_t h45 (n := 45) rfl
                    have HB := Lib.hid (HBAD2.out q hqlt (by rw [HEQ.out, hal]; simp [h45]))
                    clear hal h45
                    go_wp2_with fail
                    refine (l1Letter_any _ _).mono ?_
                    rintro e w2 ⟨rfl, rfl⟩
                    rw [HAL.out]
                    go_wp2
                    go_ret
                    exact ⟨ret_bool (by rw [HD.out, HB.out]; simp), hb1⟩
                · have HAL := Lib.hid hal
                  cases hcp : capB x[q]
                  · have HN := Lib.hid (HSTEP.out (by rw [HEQ.out, hal, hcp]; rfl))
                    rcases capB_f hcp with hlow | ⟨hlo, hhi⟩
                    · clear hal hcp
                      go_wp2_with fail
                      refine (l1Letter_any _ _).mono ?_
                      rintro e w2 ⟨rfl, rfl⟩
                      rw [HAL.out]
                      go_wp2
                      go_round
                      case rel => exact ⟨q + 1, by omega, by go_num, HN.out⟩
                      case measure => simp [intOf]; omega
                    · clear hal hcp
                      go_wp2_with fail
                      refine (l1Letter_any _ _).mono ?_
                      rintro e w2 ⟨rfl, rfl⟩
                      rw [HAL.out]
                      go_wp2
                      go_round
                      case rel => exact ⟨q + 1, by omega, by go_num, HN.out⟩
                      case measure => simp [intOf]; omega
                  · have HB := Lib.hid (HBAD2.out q hqlt (by rw [HEQ.out, hcp]; simp))
                    obtain ⟨hlo, hhi⟩ := capB_t hcp
                    clear hal hcp
                    go_wp2_with fail
                    refine (l1Letter_any _ _).mono ?_
                    rintro e w2 ⟨rfl, rfl⟩
                    rw [HAL.out]
                    go_wp2
                    go_ret
                    exact ⟨ret_bool (by rw [HD.out, HB.out]; simp), hb1⟩
              · have HG := Lib.hid (HOK.out (HGOOD.out (fun j h' => HQA.out j (by omega) h')))
                go_wp2
                go_round
                case rel => exact ⟨k + 1, by omega, by go_num, HG.out⟩
                case measure => simp [intOf]; omega
    · have HE : Hid (xs.all isLab = true) := by
        show _ = _
        rw [List.all_eq_true]; intro x hx
        obtain ⟨j, hj, rfl⟩ := List.getElem_of_mem hx
        exact HA.out j (by omega) hj
      go_wp2
      go_ret
      exact ⟨ret_bool (by rw [HD.out, HE.out, Bool.and_true]; rw [Bool.eq_iff_iff]; simp; omega), hb1⟩
end Go.Proofs.YtfiaankfmdpmkaaDoor
end

section
namespace Go.Proofs.YtfiaankfmdpmkaaDoor
open Go.RowKit

set_option maxRecDepth 100000 in
set_option maxHeartbeats 400000 in
theorem l2Name_any (s : ByteArray) (w : World) (hs : s.size ≤ 1073741824) :
    Calls Tryd.prog 78 #[.string s] w fun e w' => e = .returned (.bool (isName s.data.toList)) ∧ w = w' := by
  have HD : Hid (isName s.data.toList = (isText s.data.toList && decide (s.size ≤ 40))) := rfl
  cases h : isText s.data.toList
  · have H := Lib.hid h
    clear h
    go_enter Tryd.func78, Tryd.ntmps78
    go_wp2_with fail
    refine (textValidS_any s _ (by unfold maxLen; omega)).mono ?_
    rintro e w1 ⟨rfl, rfl⟩
    rw [H.out]
    go_wp2
    go_ret
    exact ⟨ret_bool (by rw [HD.out, H.out]; rfl), rfl⟩
  · have H := Lib.hid h
    clear h
    go_enter Tryd.func78, Tryd.ntmps78
    go_wp2_with fail
    refine (textValidS_any s _ (by unfold maxLen; omega)).mono ?_
    rintro e w1 ⟨rfl, rfl⟩
    rw [H.out]
    go_wp2
    go_ret
    exact ⟨ret_bool (by rw [HD.out, H.out, Bool.true_and, Bool.eq_iff_iff]; simp; omega), rfl⟩
theorem isLocal_long {l : List UInt8} (h : 30 < l.length) : isLocal l = false := by unfold isLocal; rw [decide_eq_false (by omega)]; rfl
theorem isDomain_long {l : List UInt8} (h : 40 < l.length) : isDomain l = false := by unfold isDomain; rw [decide_eq_false (by omega)]; rfl
set_option maxRecDepth 100000 in
set_option maxHeartbeats 1000000 in
theorem addressValidS_any (n l d : ByteArray) (w : World) (hn : n.size ≤ 1073741000) (hl : l.size ≤ 1073741000) (hd : d.size ≤ 1073741000) :
    Calls Tryd.prog 67 #[.agg #[.string n, .string l, .string d]] w fun e w' => e = .returned (.bool (isAdr (adr n l d))) ∧ Below w.heap.size w w' := by
  have HP : Hid (isAdr (adr n l d) = (isName n.data.toList && isLocal l.data.toList && isDomain d.data.toList)) := rfl
  have hb0 : Below w.heap.size w (w.alloc (.cells #[.string n, .string l, .string d] 75)) := (Below.refl _ _).alloc (Nat.le_refl _) _
  cases h1 : isName n.data.toList
  · have H1 := Lib.hid h1
    clear h1
    go_enter Tryd.func67, Tryd.ntmps67
    go_wp2_with fail
    refine (l2Name_any n _ (by omega)).mono ?_
    rintro e w1 ⟨rfl, rfl⟩
    rw [H1.out]
    go_wp2
    go_ret
    exact ⟨ret_bool (by rw [HP.out, H1.out]; rfl), hb0⟩
  · have H1 := Lib.hid h1
    clear h1
    by_cases h30 : l.size ≤ 30
    · have d1 : decide ((l.size : Int) ≤ 30) = true := by simp; omega
      cases h3 : isLocal l.data.toList
      · have H3 := Lib.hid h3
        clear h3
        go_enter Tryd.func67, Tryd.ntmps67
        go_wp2_with fail
        refine (l2Name_any n _ (by omega)).mono ?_
        rintro e w1 ⟨rfl, rfl⟩
        rw [H1.out]
        go_wp2_with fail
        refine (l2Local_any l _ hl).mono ?_
        rintro e w1 ⟨rfl, hb1⟩
        rw [H3.out]
        go_wp2
        go_ret
        exact ⟨ret_bool (by rw [HP.out, H1.out, H3.out]; rfl), nx hb0 hb1⟩
      · have H3 := Lib.hid h3
        clear h3
        by_cases h40 : d.size ≤ 40
        · have d2 : decide ((d.size : Int) ≤ 40) = true := by simp; omega
          go_enter Tryd.func67, Tryd.ntmps67
          go_wp2_with fail
          refine (l2Name_any n _ (by omega)).mono ?_
          rintro e w1 ⟨rfl, rfl⟩
          rw [H1.out]
          go_wp2_with fail
          refine (l2Local_any l _ hl).mono ?_
          rintro e w1 ⟨rfl, hb1⟩
          rw [H3.out]
          obtain ⟨hc, hf⟩ := bcell hb1
          go_wp2_with fail
          refine (l2Domain_any d _ hd).mono ?_
          rintro e w2 ⟨rfl, hb2⟩
          go_wp2
          go_ret
          exact ⟨ret_bool (by rw [HP.out, H1.out, H3.out]; rfl), nx (nx hb0 hb1) hb2⟩
        · have d2 : decide ((d.size : Int) ≤ 40) = false := by simp; omega
          have HDD := Lib.hid (isDomain_long (l := d.data.toList) (by rw [size_list]; omega))
          go_enter Tryd.func67, Tryd.ntmps67
          go_wp2_with fail
          refine (l2Name_any n _ (by omega)).mono ?_
          rintro e w1 ⟨rfl, rfl⟩
          rw [H1.out]
          go_wp2_with fail
          refine (l2Local_any l _ hl).mono ?_
          rintro e w1 ⟨rfl, hb1⟩
          rw [H3.out]
          obtain ⟨hc, hf⟩ := bcell hb1
          go_wp2
          go_ret
          exact ⟨ret_bool (by rw [HP.out, H1.out, H3.out, HDD.out]; rfl), nx hb0 hb1⟩
    · have d1 : decide ((l.size : Int) ≤ 30) = false := by simp; omega
      have HLL := Lib.hid (isLocal_long (l := l.data.toList) (by rw [size_list]; omega))
      go_enter Tryd.func67, Tryd.ntmps67
      go_wp2_with fail
      refine (l2Name_any n _ (by omega)).mono ?_
      rintro e w1 ⟨rfl, rfl⟩
      rw [H1.out]
      go_wp2
      go_ret
      exact ⟨ret_bool (by rw [HP.out, H1.out, HLL.out]; rfl), hb0⟩
end Go.Proofs.YtfiaankfmdpmkaaDoor
end

section
namespace Go.Proofs.YtfiaankfmdpmkaaDoor
open Go.RowKit

def boxVal (l : List UInt8) : Adr × Bool := match cutU 64 l with
  | none => (⟨[], l, []⟩, false)
  | some (a, d) => (⟨[], a, low d⟩, isAdr ⟨[], a, low d⟩)
theorem boxVal_boxA (l : List UInt8) : boxA [] l = if (boxVal l).2 then some (boxVal l).1 else none := by
  unfold boxA boxVal
  cases cutU 64 l with
  | none => rfl
  | some y => rfl
theorem boxVal_small (l : List UInt8) : (boxVal l).1.loc.length ≤ l.length ∧ (boxVal l).1.dom.length ≤ l.length ∧ (boxVal l).1.name = [] := by
  unfold boxVal
  cases h : cutU 64 l with
  | none => exact ⟨Nat.le_refl _, by simp, rfl⟩
  | some y =>
    obtain ⟨a, d⟩ := y
    have := cutU_bound h
    exact ⟨by show a.length ≤ _; omega, by show (low d).length ≤ _; unfold low; rw [List.length_map]; omega, rfl⟩
def BoxRet (l : List UInt8) (w : World) (e : Ending) (w' : World) : Prop := e = .returned (.tuple #[adrV (boxVal l).1, .bool (boxVal l).2]) ∧ Below w.heap.size w w'
theorem boxRet_none {l : List UInt8} {w w' : World} {x : ByteArray} (h : cutU 64 l = none) (hx : x.data.toList = l) (hb : Below w.heap.size w w') : BoxRet l w (.returned (.tuple #[.agg #[.string ⟨#[]⟩, .string x, .string ⟨#[]⟩], .bool false])) w' := by
  refine ⟨?_, hb⟩
  unfold boxVal; rw [h]
  show _ = Ending.returned (.tuple #[.agg #[.string (str []), .string (str l), .string (str [])], .bool false])
  rw [← hx, str_of]; rfl
theorem boxRet_some {l a d : List UInt8} {w w' : World} {b : Bool} (h : cutU 64 l = some (a, d)) (hv : b = isAdr ⟨[], a, low d⟩) (hb : Below w.heap.size w w') : BoxRet l w (.returned (.tuple #[.agg #[.string ⟨#[]⟩, .string (str a), .string (str (low d))], .bool b])) w' := by
  refine ⟨?_, hb⟩
  unfold boxVal; rw [h, hv]; rfl
theorem lowS_nil : lowS ⟨#[]⟩ = ⟨#[]⟩ := rfl
set_option maxRecDepth 100000 in
set_option maxHeartbeats 1000000 in
theorem l2Box_any (s : ByteArray) (w : World) (hs : s.size ≤ 1073741000) :
    Calls Tryd.prog 52 #[.string s] w (BoxRet s.data.toList w) := by
  have hb0 : Below w.heap.size w (w.alloc (.cells #[.string ⟨#[]⟩, .string ⟨#[]⟩, .string ⟨#[]⟩] 75)) := (Below.refl _ _).alloc (Nat.le_refl _) _
  cases hcut : cutU 64 s.data.toList with
  | none =>
    have HC := Lib.hid hcut
    clear hcut
    go_enter Tryd.func52, Tryd.ntmps52
    go_wp2_with fail
    refine (l2Cut_any s 64 _ (by decide) (by omega)).mono ?_
    rintro e w1 ⟨_, hno, q, rfl⟩
    have he := hno HC.out
    clear hno
    subst he
    have hb1 := below_drewN hb0 q
    go_wp2_with fail
    refine (lowerTextS_any ⟨#[]⟩ _ (by decide)).mono ?_
    rintro e w2 ⟨rfl, hb2⟩
    rw [lowS_nil]
    obtain ⟨hc, hf⟩ := bcell hb2
    have hsz := hb2.size
    simp at hsz
    have hlt : w.heap.size < w2.heap.size := by omega
    have hne : w.heap.size ≠ w2.heap.size := by omega
    have hne2 : w2.heap.size ≠ w.heap.size := by omega
    go_wp2
    go_region
    all_goals
      go_wp2
      refine bodyPost_ret (v := .tuple #[.agg #[.string ⟨#[]⟩, .string s, .string ⟨#[]⟩], .bool false]) (by simp [results, Tryd.results52, go_sem, hc, hlt, World.cell?_alloc_lt]) rfl (boxRet_none HC.out rfl ?_)
      exact ((((((nx hb1 hb2).setCell (by simp) _).setCell (by simp) _).setCell (by simp) _).alloc (by simp; omega) _).drew)
  | some y =>
    obtain ⟨a, d⟩ := y
    have hbd := cutU_bound hcut
    rw [size_list] at hbd
    have HC := Lib.hid hcut
    have HLD := Lib.hid (lowS_str d)
    have hlz : (str a).size ≤ 1073741000 := by rw [str_size]; omega
    have hdz : (str d).size ≤ 1073741000 := by rw [str_size]; omega
    have hez : (str (low d)).size ≤ 1073741000 := by rw [str_size]; unfold low; rw [List.length_map]; omega
    have HAD : Hid (adr ⟨#[]⟩ (str a) (str (low d)) = ⟨[], a, low d⟩) := adr_str ⟨[], a, low d⟩
    clear hcut hbd
    go_enter Tryd.func52, Tryd.ntmps52
    go_wp2_with fail
    refine (l2Cut_any s 64 _ (by decide) (by omega)).mono ?_
    rintro e w1 ⟨hy, _, q, rfl⟩
    have he := hy a d HC.out
    clear hy
    subst he
    have hb1 := below_drewN hb0 q
    go_wp2_with fail
    refine (lowerTextS_any (str d) _ (by omega)).mono ?_
    rintro e w2 ⟨rfl, hb2⟩
    rw [HLD.out]
    obtain ⟨hc, hf⟩ := bcell hb2
    have hsz := hb2.size
    simp at hsz
    have hlt : w.heap.size < w2.heap.size := by omega
    have hlt2 : w.heap.size < w2.heap.size + 1 := by omega
    have hne : w.heap.size ≠ w2.heap.size := by omega
    have hne2 : w2.heap.size ≠ w.heap.size := by omega
    go_wp2
    go_region_with (go_at_call 67; refine (addressValidS_any ⟨#[]⟩ (str a) (str (low d)) _ ?_ ?_ ?_).mono ?_; exact Nat.zero_le _; exact hlz; exact hez; rintro e w5 ⟨rfl, hb5⟩; rw [HAD.out]; obtain ⟨hc5, hf5⟩ := bcell hb5)
    all_goals
      go_wp2
      refine bodyPost_ret (v := .tuple #[.agg #[.string ⟨#[]⟩, .string (str a), .string (str (low d))], .bool (isAdr ⟨[], a, low d⟩)]) (by simp [results, Tryd.results52, go_sem, hc, hc5, hlt, hlt2, World.cell?_alloc_lt]) rfl (boxRet_some HC.out rfl ?_)
      have h25 : Below w.heap.size w w5 := nx (((nx hb1 hb2).alloc (nx hb1 hb2).size _).drew) hb5
      exact (((h25.setCell (by simp) _).setCell (by simp) _).setCell (by simp) _)
end Go.Proofs.YtfiaankfmdpmkaaDoor
end

section
namespace Go.Proofs.YtfiaankfmdpmkaaDoor
open Go.RowKit

theorem boxVal_path (l : List UInt8) : isPath l = ((boxVal l).2 && decide (boxT (boxVal l).1 = l)) := by
  rw [path_box, boxVal_boxA]
  cases (boxVal l).2 <;> rfl
theorem boxVal_low (l : List UInt8) : isPath (lowPath l) = (boxVal l).2 ∧ (isPath (lowPath l) = true → boxT (boxVal l).1 = lowPath l) := by
  have h := box_path l
  rw [boxVal_boxA] at h
  cases hb : (boxVal l).2 with
  | false =>
    rw [hb] at h
    cases hp : isPath (lowPath l) with
    | false => exact ⟨rfl, fun h => by cases h⟩
    | true => rw [hp] at h; cases h
  | true =>
    rw [hb] at h
    cases hp : isPath (lowPath l) with
    | false => rw [hp] at h; cases h
    | true => rw [hp] at h; injection h with h; exact ⟨rfl, fun _ => h⟩
theorem strS_toList (l : List UInt8) : (str l).toList = l := by rw [ByteArray.toList_eq]; exact str_list _
theorem sumBox (p q : List UInt8) (s : ByteArray) : (((str p ++ ⟨#[64]⟩) ++ str q).toList == s.toList) = decide (p ++ 64 :: q = s.data.toList) := by
  have e : ((str p ++ ⟨#[64]⟩) ++ str q).toList = p ++ 64 :: q := by
    rw [ByteArray.toList_eq, Joins.data_append, Joins.data_append, str_list, str_list]; simp
  rw [e, ByteArray.toList_eq, Bool.eq_iff_iff, beq_iff_eq, decide_eq_true_iff]
set_option maxRecDepth 100000 in
set_option maxHeartbeats 1000000 in
theorem l10Box_any (s : ByteArray) (w : World) (hs : s.size ≤ 1073741000) :
    Calls Tryd.prog 30 #[.string s] w fun e w' => e = .returned (.bool (isPath s.data.toList)) ∧ Below w.heap.size w w' := by
  obtain ⟨z1, z2, z3⟩ := boxVal_small s.data.toList
  rw [size_list] at z1 z2
  have H0 : Hid (∀ u, Calls Tryd.prog 52 #[.string s] u (BoxRet s.data.toList u)) := fun u => l2Box_any s u (by omega)
  unfold BoxRet adrV at H0
  rw [boxVal_path]
  have d0 := sumBox (boxVal s.data.toList).1.loc (boxVal s.data.toList).1.dom s
  unfold boxT
  have s1 : (str (boxVal s.data.toList).1.loc).size ≤ 1073741000 := by rw [str_size]; omega
  have s2 : (str (boxVal s.data.toList).1.dom).size ≤ 1073741000 := by rw [str_size]; omega
  have s3 : (ByteArray.mk #[64]).size = 1 := rfl
  generalize decide ((boxVal s.data.toList).1.loc ++ 64 :: (boxVal s.data.toList).1.dom = s.data.toList) = g1 at *
  generalize (boxVal s.data.toList).2 = g0 at *
  generalize str (boxVal s.data.toList).1.loc = x1 at *
  generalize str (boxVal s.data.toList).1.dom = x2 at *
  generalize str (boxVal s.data.toList).1.name = x0 at *
  clear z1 z2 z3
  go_enter Tryd.func30, Tryd.ntmps30
  go_wp2_with fail
  refine (H0.out _).mono ?_
  rintro e w1 ⟨rfl, hb1⟩
  have hb2 : Below w.heap.size w (w1.alloc (.cells #[.string x0, .string x1, .string x2] 75)) := hb1.alloc hb1.size _
  cases g0
  · go_wp2
    go_ret
    exact ⟨rfl, by first | exact hb2 | exact hb1⟩
  · go_wp2
    go_ret
    exact ⟨rfl, by first | exact hb2 | exact hb1⟩
theorem boxE (x : ByteArray) (w : World) (hx : x.size ≤ 1073741000) : Calls Tryd.prog 30 #[.string x] w fun e w' => e = .returned (.bool (isPath x.data.toList)) ∧ Below w.heap.size w w' := l10Box_any x w hx
theorem textSE (x : ByteArray) (w : World) (hx : x.size ≤ 1073741000) : Calls Tryd.prog 68 #[.string x] w fun e w' => e = .returned (.bool (isText x.data.toList)) ∧ Below w.heap.size w w' :=
  (textValidS_any x w (by unfold maxLen; omega)).mono (fun _ _ ⟨he, hw⟩ => ⟨he, hw ▸ Below.refl _ _⟩)
theorem all_bad {P : List UInt8 → Bool} {xs : List (List UInt8)} {k : Nat} (h : k < xs.length) (hp : P xs[k] = false) : xs.all P = false := by
  rw [List.all_eq_false]; exact ⟨_, List.getElem_mem h, by simp [hp]⟩
theorem all_good {P : List UInt8 → Bool} {xs : List (List UInt8)} {n : Nat} (hn : xs.length ≤ n) (h : ∀ j, j < n → (h' : j < xs.length) → P xs[j] = true) : xs.all P = true := by
  rw [List.all_eq_true]; intro x hx
  obtain ⟨j, hj, rfl⟩ := List.getElem_of_mem hx
  exact h j (by omega) hj
set_option maxRecDepth 100000 in
set_option maxHeartbeats 4000000 in
theorem l10Draft_any (M : Nat) (x : MlA) (w : World) (h1 : RdM M w x) (hM : M ≤ 1073741000) :
    Calls Tryd.prog 53 #[mlV x] w fun e w' => e = .returned (.bool (isDraft x.m)) ∧ Below w.heap.size w w' := by
  obtain ⟨⟨f1, t1, l1⟩, a1, c1, b1, d1⟩ := x
  obtain ⟨⟨p1, _, _⟩, ⟨p2, _, _⟩, p0, p3, p5, p4, p6⟩ := h1
  dsimp only at *
  unfold mlV isDraft isSend
  dsimp only
  have H0 : Hid (∀ u, Below w.heap.size w u → Calls Tryd.prog 30 #[.string (str f1)] u fun e w' => e = .returned (.bool (isPath f1)) ∧ Below u.heap.size u w') := fun u hb => by
    have := l10Box_any (str f1) u (by rw [str_size]; omega)
    rw [str_list] at this; exact this
  have P1 := Lib.hid p1
  have P2 := Lib.hid p2
  have P5 := Lib.hid p5
  have P6 := Lib.hid p6
  have e1 : decide (t1.length ≤ 10) = decide ((t1.length : Int) ≤ 10) := decide_eq_decide.2 (by omega)
  have e2 : decide (l1.length ≤ 31) = decide ((l1.length : Int) ≤ 31) := decide_eq_decide.2 (by omega)
  rw [e1, e2]
  have d0 := eqEmp f1
  have d0' : ((str f1).toList != []) = !decide (f1 = []) := by rw [bne, d0]
  have hz1 : t1.length ≤ 1073741000 := by omega
  have hz2 : l1.length ≤ 1073741000 := by omega
  have HN1 : Hid (t1.length ≤ t1.length) := Nat.le_refl _
  have HN2 : Hid (l1.length ≤ l1.length) := Nat.le_refl _
  clear p1 p2 p3 p4 p5 p6 p0 e1 e2
  generalize decide (f1 = []) = g00 at *
  generalize isPath f1 = g0 at *
  obtain ⟨n1, hn1⟩ : ∃ n, n = t1.length := ⟨_, rfl⟩
  obtain ⟨n3, hn3⟩ : ∃ n, n = l1.length := ⟨_, rfl⟩
  rw [← hn1, ← hn3]
  rw [← hn1] at hz1 P1
  rw [← hn3] at hz2 P2
  have HE1 := Lib.hid hn1
  have HE3 := Lib.hid hn3
  clear hn1 hn3 HN1 HN2
  generalize str f1 = s1 at *
  have hA : Below w.heap.size w (w.alloc (.cells #[.string s1, .slice a1 n1 c1, .slice b1 n3 d1] 36)) := (Below.refl _ _).alloc (Nat.le_refl _) _
  have HX := Lib.hid (MK3.new w (.string s1) (.slice a1 n1 c1) (.slice b1 n3 d1) 36)
  cases g00
  · cases g0
    · go_enter Tryd.func53, Tryd.ntmps53
      go_wp2_with fail
      refine (H0.out _ hA).mono ?_
      rintro e w1 ⟨rfl, hb1⟩
      have hb01 := nx hA hb1
      have HX1 := Lib.hid (HX.out.below hb1)
      go_wp2
      go_ret
      exact ⟨rfl, hb01⟩
    · by_cases k1 : (n1 : Int) ≤ 10
      · by_cases k2 : (n3 : Int) ≤ 31
        · rw [decide_eq_true k1, decide_eq_true k2]
          go_enter Tryd.func53, Tryd.ntmps53
          go_wp2_with fail
          refine (H0.out _ hA).mono ?_
          rintro e w1 ⟨rfl, hb1⟩
          have hb01 := nx hA hb1
          have HX1 := Lib.hid (HX.out.below hb1)
          obtain ⟨y0, y1, y2⟩ := HX1.out
          go_wp2_with fail
          go_loopw [3] (fun i w5 => ∃ k : Nat, k ≤ n1 ∧ i = .int .i64 k ∧ Below w1.heap.size w1 w5 ∧ ∀ j, j < k → (h' : j < t1.length) → isPath t1[j] = true) (fun i _ => n1 - (intOf i).toNat)
          case atStart => exact ⟨0, Nat.zero_le _, rfl, Below.refl _ _, fun j h => by omega⟩
          case round =>
            obtain ⟨k, hk, rfl, hb, hall⟩ := hrel
            have HA := Lib.hid hall
            clear hall
            obtain ⟨y0, y1, y2⟩ := HX1.out.below hb
            by_cases hlt : k < n1
            · have hkx : k < t1.length := by have := HE1.out; omega
              obtain ⟨b, off, rfl, hbl, hcell⟩ := P1.out.2.resolve_left (by omega)
              have hc1 : wr.cell? ⟨b, off + k, none⟩ = some (.string (str t1[k])) := by rw [below_at (nx hb01 hb) hbl]; exact hcell k hkx
              have HC : Hid (Calls Tryd.prog 30 #[.string (str t1[k])] wr fun e w' => e = .returned (.bool (isPath (str t1[k]).data.toList)) ∧ Below wr.heap.size wr w') := boxE _ wr (by rw [str_size]; have := P5.out _ (List.getElem_mem hkx); omega)
              rw [str_list] at HC
              clear hcell
              cases hp : isPath t1[k]
              · have HE : Hid (t1.all isPath = false) := all_bad hkx hp
                rw [hp] at HC
                generalize str t1[k] = z at *
                clear hp
                go_wp2_with fail
                refine HC.out.mono ?_
                rintro e w2 ⟨rfl, hb2⟩
                go_wp2
                go_ret
                exact ⟨ret_bool (by rw [HE.out]; simp), nx hb01 (nx hb hb2)⟩
              · have HQ := Lib.hid hp
                rw [hp] at HC
                generalize str t1[k] = z at *
                clear hp
                go_wp2_with fail
                refine HC.out.mono ?_
                rintro e w2 ⟨rfl, hb2⟩
                go_wp2
                go_roundw
                case rel => exact ⟨k + 1, by omega, by go_num, nx hb hb2, fun j h h' => by
                  by_cases e : j = k
                  · subst e; exact HQ.out
                  · exact HA.out j (by omega) h'⟩
                case measure => simp [intOf]; omega
            · have HT : Hid (t1.all isPath = true) := all_good (n := n1) (by have := HE1.out; omega) (fun j h h' => HA.out j (by omega) h')
              go_wp2_with fail
              go_loopw [4] (fun i w5 => ∃ k : Nat, k ≤ n3 ∧ i = .int .i64 k ∧ Below w1.heap.size w1 w5 ∧ ∀ j, j < k → (h' : j < l1.length) → isText l1[j] = true) (fun i _ => n3 - (intOf i).toNat)
              case atStart => exact ⟨0, Nat.zero_le _, rfl, hb, fun j h => by omega⟩
              case round =>
                clear y0 y1 y2 hlt hb hk
                obtain ⟨k2, hk, rfl, hb, hall⟩ := hrel
                have HA2 := Lib.hid hall
                clear hall
                obtain ⟨y0, y1, y2⟩ := HX1.out.below hb
                by_cases hlt : k2 < n3
                · have hkx : k2 < l1.length := by have := HE3.out; omega
                  obtain ⟨b, off, rfl, hbl, hcell⟩ := P2.out.2.resolve_left (by omega)
                  have hc1 : wr.cell? ⟨b, off + k2, none⟩ = some (.string (str l1[k2])) := by rw [below_at (nx hb01 hb) hbl]; exact hcell k2 hkx
                  have HC : Hid (Calls Tryd.prog 68 #[.string (str l1[k2])] wr fun e w' => e = .returned (.bool (isText (str l1[k2]).data.toList)) ∧ Below wr.heap.size wr w') := textSE _ wr (by rw [str_size]; have := P6.out _ (List.getElem_mem hkx); omega)
                  rw [str_list] at HC
                  clear hcell
                  cases hp : isText l1[k2]
                  · have HE : Hid (l1.all isText = false) := all_bad hkx hp
                    rw [hp] at HC
                    generalize str l1[k2] = z at *
                    clear hp
                    go_wp2_with fail
                    refine HC.out.mono ?_
                    rintro e w2 ⟨rfl, hb2⟩
                    go_wp2
                    go_ret
                    exact ⟨ret_bool (by rw [HE.out]; simp), nx hb01 (nx hb hb2)⟩
                  · have HQ := Lib.hid hp
                    rw [hp] at HC
                    generalize str l1[k2] = z at *
                    clear hp
                    go_wp2_with fail
                    refine HC.out.mono ?_
                    rintro e w2 ⟨rfl, hb2⟩
                    go_wp2
                    go_roundw
                    case rel => exact ⟨k2 + 1, by omega, by go_num, nx hb hb2, fun j h h' => by
                      by_cases e : j = k2
                      · subst e; exact HQ.out
                      · exact HA2.out j (by omega) h'⟩
                    case measure => simp [intOf]; omega
                · have HL : Hid (l1.all isText = true) := all_good (n := n3) (by have := HE3.out; omega) (fun j h h' => HA2.out j (by omega) h')
                  go_wp2
                  go_ret
                  exact ⟨ret_bool (by rw [HT.out, HL.out]; rfl), nx hb01 hb⟩
        · rw [decide_eq_false k2]
          go_enter Tryd.func53, Tryd.ntmps53
          go_wp2_with fail
          refine (H0.out _ hA).mono ?_
          rintro e w1 ⟨rfl, hb1⟩
          have hb01 := nx hA hb1
          have HX1 := Lib.hid (HX.out.below hb1)
          obtain ⟨y0, y1, y2⟩ := HX1.out
          go_wp2
          go_ret
          exact ⟨ret_bool (by simp), hb01⟩
      · rw [decide_eq_false k1]
        go_enter Tryd.func53, Tryd.ntmps53
        go_wp2_with fail
        refine (H0.out _ hA).mono ?_
        rintro e w1 ⟨rfl, hb1⟩
        have hb01 := nx hA hb1
        have HX1 := Lib.hid (HX.out.below hb1)
        obtain ⟨y0, y1, y2⟩ := HX1.out
        go_wp2
        go_ret
        exact ⟨ret_bool (by simp), hb01⟩
  · by_cases k1 : (n1 : Int) ≤ 10
    · by_cases k2 : (n3 : Int) ≤ 31
      · rw [decide_eq_true k1, decide_eq_true k2]
        go_enter Tryd.func53, Tryd.ntmps53
        have hb01 := hA
        have HX1 := HX
        obtain ⟨y0, y1, y2⟩ := HX1.out
        go_wp2_with fail
        generalize w.alloc (.cells #[.string s1, .slice a1 n1 c1, .slice b1 n3 d1] 36) = w1 at *
        go_loopw [3] (fun i w5 => ∃ k : Nat, k ≤ n1 ∧ i = .int .i64 k ∧ Below w1.heap.size w1 w5 ∧ ∀ j, j < k → (h' : j < t1.length) → isPath t1[j] = true) (fun i _ => n1 - (intOf i).toNat)
        case atStart => exact ⟨0, Nat.zero_le _, rfl, Below.refl _ _, fun j h => by omega⟩
        case round =>
          obtain ⟨k, hk, rfl, hb, hall⟩ := hrel
          have HA := Lib.hid hall
          clear hall
          obtain ⟨y0, y1, y2⟩ := HX1.out.below hb
          by_cases hlt : k < n1
          · have hkx : k < t1.length := by have := HE1.out; omega
            obtain ⟨b, off, rfl, hbl, hcell⟩ := P1.out.2.resolve_left (by omega)
            have hc1 : wr.cell? ⟨b, off + k, none⟩ = some (.string (str t1[k])) := by rw [below_at (nx hb01 hb) hbl]; exact hcell k hkx
            have HC : Hid (Calls Tryd.prog 30 #[.string (str t1[k])] wr fun e w' => e = .returned (.bool (isPath (str t1[k]).data.toList)) ∧ Below wr.heap.size wr w') := boxE _ wr (by rw [str_size]; have := P5.out _ (List.getElem_mem hkx); omega)
            rw [str_list] at HC
            clear hcell
            cases hp : isPath t1[k]
            · have HE : Hid (t1.all isPath = false) := all_bad hkx hp
              rw [hp] at HC
              generalize str t1[k] = z at *
              clear hp
              go_wp2_with fail
              refine HC.out.mono ?_
              rintro e w2 ⟨rfl, hb2⟩
              go_wp2
              go_ret
              exact ⟨ret_bool (by rw [HE.out]; simp), nx hb01 (nx hb hb2)⟩
            · have HQ := Lib.hid hp
              rw [hp] at HC
              generalize str t1[k] = z at *
              clear hp
              go_wp2_with fail
              refine HC.out.mono ?_
              rintro e w2 ⟨rfl, hb2⟩
              go_wp2
              go_roundw
              case rel => exact ⟨k + 1, by omega, by go_num, nx hb hb2, fun j h h' => by
                by_cases e : j = k
                · subst e; exact HQ.out
                · exact HA.out j (by omega) h'⟩
              case measure => simp [intOf]; omega
          · have HT : Hid (t1.all isPath = true) := all_good (n := n1) (by have := HE1.out; omega) (fun j h h' => HA.out j (by omega) h')
            go_wp2_with fail
            go_loopw [4] (fun i w5 => ∃ k : Nat, k ≤ n3 ∧ i = .int .i64 k ∧ Below w1.heap.size w1 w5 ∧ ∀ j, j < k → (h' : j < l1.length) → isText l1[j] = true) (fun i _ => n3 - (intOf i).toNat)
            case atStart => exact ⟨0, Nat.zero_le _, rfl, hb, fun j h => by omega⟩
            case round =>
              clear y0 y1 y2 hlt hb hk
              obtain ⟨k2, hk, rfl, hb, hall⟩ := hrel
              have HA2 := Lib.hid hall
              clear hall
              obtain ⟨y0, y1, y2⟩ := HX1.out.below hb
              by_cases hlt : k2 < n3
              · have hkx : k2 < l1.length := by have := HE3.out; omega
                obtain ⟨b, off, rfl, hbl, hcell⟩ := P2.out.2.resolve_left (by omega)
                have hc1 : wr.cell? ⟨b, off + k2, none⟩ = some (.string (str l1[k2])) := by rw [below_at (nx hb01 hb) hbl]; exact hcell k2 hkx
                have HC : Hid (Calls Tryd.prog 68 #[.string (str l1[k2])] wr fun e w' => e = .returned (.bool (isText (str l1[k2]).data.toList)) ∧ Below wr.heap.size wr w') := textSE _ wr (by rw [str_size]; have := P6.out _ (List.getElem_mem hkx); omega)
                rw [str_list] at HC
                clear hcell
                cases hp : isText l1[k2]
                · have HE : Hid (l1.all isText = false) := all_bad hkx hp
                  rw [hp] at HC
                  generalize str l1[k2] = z at *
                  clear hp
                  go_wp2_with fail
                  refine HC.out.mono ?_
                  rintro e w2 ⟨rfl, hb2⟩
                  go_wp2
                  go_ret
                  exact ⟨ret_bool (by rw [HE.out]; simp), nx hb01 (nx hb hb2)⟩
                · have HQ := Lib.hid hp
                  rw [hp] at HC
                  generalize str l1[k2] = z at *
                  clear hp
                  go_wp2_with fail
                  refine HC.out.mono ?_
                  rintro e w2 ⟨rfl, hb2⟩
                  go_wp2
                  go_roundw
                  case rel => exact ⟨k2 + 1, by omega, by go_num, nx hb hb2, fun j h h' => by
                    by_cases e : j = k2
                    · subst e; exact HQ.out
                    · exact HA2.out j (by omega) h'⟩
                  case measure => simp [intOf]; omega
              · have HL : Hid (l1.all isText = true) := all_good (n := n3) (by have := HE3.out; omega) (fun j h h' => HA2.out j (by omega) h')
                go_wp2
                go_ret
                exact ⟨ret_bool (by rw [HT.out, HL.out]; rfl), nx hb01 hb⟩
      · rw [decide_eq_false k2]
        go_enter Tryd.func53, Tryd.ntmps53
        go_wp2
        go_ret
        exact ⟨ret_bool (by simp), hA⟩
    · rw [decide_eq_false k1]
      go_enter Tryd.func53, Tryd.ntmps53
      go_wp2
      go_ret
      exact ⟨ret_bool (by simp), hA⟩
set_option maxRecDepth 100000 in
set_option maxHeartbeats 2000000 in
theorem mailValidS_any (M : Nat) (x : MlA) (w : World) (h1 : RdM M w x) (hM : M ≤ 1073741000) :
    Calls Tryd.prog 31 #[mlV x] w fun e w' => e = .returned (.bool (isMail x.m)) ∧ Below w.heap.size w w' := by
  have hA0 : ∀ o, Below w.heap.size w (w.alloc o) := fun o => (Below.refl _ _).alloc (Nat.le_refl _) o
  have H0 : Hid (∀ u, Below w.heap.size w u → Calls Tryd.prog 53 #[mlV x] u fun e w' => e = .returned (.bool (isDraft x.m)) ∧ Below u.heap.size u w') := fun u hb => l10Draft_any M x u (h1.below hb) hM
  obtain ⟨⟨f1, t1, l1⟩, a1, c1, b1, d1⟩ := x
  obtain ⟨⟨p1, _, _⟩, ⟨p2, _, _⟩, p0, p3, p5, p4, p6⟩ := h1
  dsimp only at *
  unfold isMail
  unfold mlV at *
  dsimp only at *
  have e1 : decide (0 < t1.length) = decide ((0 : Int) < (t1.length : Int)) := decide_eq_decide.2 (by omega)
  have e2 : decide (l1.length ≤ 30) = decide ((l1.length : Int) ≤ 30) := decide_eq_decide.2 (by omega)
  rw [e1, e2]
  have hz1 : t1.length ≤ 1073741000 := by omega
  have hz2 : l1.length ≤ 1073741000 := by omega
  clear p1 p2 p3 p4 p5 p6 p0 hM e1 e2
  generalize isDraft ⟨f1, t1, l1⟩ = g0 at *
  generalize t1.length = n1 at *
  generalize l1.length = n3 at *
  generalize str f1 = s1 at *
  have HX := Lib.hid (MK3.new w (.string s1) (.slice a1 n1 c1) (.slice b1 n3 d1) 36)
  go_enter Tryd.func31, Tryd.ntmps31
  go_wp2_with fail
  refine (H0.out _ (hA0 _)).mono ?_
  rintro e w1 ⟨rfl, hb1⟩
  have hb01 := nx (hA0 _) hb1
  obtain ⟨y0, y1, y2⟩ := HX.out.below hb1
  cases g0
  · go_wp2
    go_ret
    exact ⟨rfl, hb01⟩
  · by_cases k1 : (0 : Int) < (n1 : Int)
    · have z1 := decide_eq_true k1
      go_wp2
      go_ret
      exact ⟨ret_bool (by rw [z1]; rfl), hb01⟩
    · have z1 := decide_eq_false k1
      go_wp2
      go_ret
      exact ⟨ret_bool (by rw [z1]; rfl), hb01⟩
end Go.Proofs.YtfiaankfmdpmkaaDoor
end

section
namespace Go.Proofs.YtfiaankfmdpmkaaDoor
open Go.RowKit

set_option maxRecDepth 100000 in
set_option maxHeartbeats 1000000 in
theorem l11Hop_any (s : ByteArray) (w : World) (hs : s.size ≤ 1073741000) :
    Calls Tryd.prog 57 #[.string s] w fun e w' => e = .returned (.bool (isMkS ⟨#[82, 101, 99, 101, 105, 118, 101, 100, 58]⟩ s)) ∧ Below w.heap.size w w' := by
  have hz : (ByteArray.mk #[82, 101, 99, 101, 105, 118, 101, 100, 58]).size = 9 := rfl
  by_cases h : s.size < 9
  · have HN : Hid (isMkS ⟨#[82, 101, 99, 101, 105, 118, 101, 100, 58]⟩ s = false) := isMk_short (by rw [hz]; exact h)
    have d0 : decide ((s.size : Int) ≥ 9) = false := decide_eq_false (by omega)
    go_enter Tryd.func57, Tryd.ntmps57
    go_wp2
    go_ret
    exact ⟨ret_bool HN.out.symm, Below.refl _ _⟩
  · have HC : Hid (Calls Tryd.prog 71 #[.string (s.extract 0 9), .string ⟨#[82, 101, 99, 101, 105, 118, 101, 100, 58]⟩] w fun e w' => e = .returned (.bool (isMkS ⟨#[82, 101, 99, 101, 105, 118, 101, 100, 58]⟩ s)) ∧ Below w.heap.size w w') := by
      rw [isMk_long (by rw [hz]; omega)]
      exact sameTextS_any _ _ _ (by rw [ByteArray.size_extract]; omega) (by omega)
    have d0 : decide ((s.size : Int) ≥ 9) = true := decide_eq_true (by omega)
    generalize isMkS ⟨#[82, 101, 99, 101, 105, 118, 101, 100, 58]⟩ s = q at *
    go_enter Tryd.func57, Tryd.ntmps57
    go_wp2_with fail
    refine HC.out.mono ?_
    rintro e w1 ⟨rfl, hb1⟩
    go_wp2
    go_ret
    exact ⟨rfl, hb1⟩
set_option maxRecDepth 100000 in
set_option maxHeartbeats 4000000 in
theorem l11Hops_any (a : Option Addr) (n c : Nat) (xs : List (List UInt8)) (w : World) (hr : RdL w a n xs) (hn : n ≤ 1073741000) (hx : ∀ l ∈ xs, l.length ≤ 1073741000) :
    Calls Tryd.prog 37 #[.slice a n c] w fun e w' => e = .returned (.int .i64 (hopsL xs : Nat)) ∧ Below w.heap.size w w' := by
  have HLEN := Lib.hid hr.1
  have HR := Lib.hid hr.2
  have HLN := Lib.hid hx
  clear hr hx
  go_enter Tryd.func37, Tryd.ntmps37
  go_wp2_with fail
  go_loopw [3, 4] (fun v i wr => ∃ k r : Nat, k ≤ n ∧ i = .int .i64 k ∧ v = .int .i64 (r : Nat) ∧ r ≤ k ∧ r + hopsL (xs.drop k) = hopsL xs ∧ Below w.heap.size w wr) (fun _ i _ => n - (intOf i).toNat)
  case atStart => exact ⟨0, 0, Nat.zero_le _, rfl, rfl, Nat.le_refl _, by simp, Below.refl _ _⟩
  case round =>
    obtain ⟨k, r, hk, rfl, rfl, hrk, hsum, hb⟩ := hrel
    have HS := Lib.hid hsum
    clear hsum
    by_cases hlt : k < n
    · have hkx : k < xs.length := by have := HLEN.out; omega
      obtain ⟨b, off, rfl, hbl, hcell⟩ := HR.out.resolve_left (by omega)
      have hc1 : wr.cell? ⟨b, off + k, none⟩ = some (.string (str xs[k])) := by rw [below_at hb hbl]; exact hcell k hkx
      have hkn : (k : Int) < (n : Int) := by omega
      have hk0 : (0 : Int) ≤ (k : Int) := by omega
      have zs : (str xs[k]).size ≤ 1073741000 := by rw [str_size]; exact HLN.out _ (List.getElem_mem hkx)
      have HNIL := Lib.hid (hops_nil hkx)
      have HYES := Lib.hid (hops_yes hkx)
      have HNO := Lib.hid (hops_no hkx)
      have HC : Hid (Calls Tryd.prog 57 #[.string (str xs[k])] wr fun e w' => e = .returned (.bool (isMkS ⟨#[82, 101, 99, 101, 105, 118, 101, 100, 58]⟩ (str xs[k]))) ∧ Below wr.heap.size wr w') := l11Hop_any _ _ (by omega)
      have HMK : Hid (isMkS ⟨#[82, 101, 99, 101, 105, 118, 101, 100, 58]⟩ (str xs[k]) = isMk recvL xs[k]) := by show _ = _; unfold isMkS; rw [str_list]; rfl
      rw [HMK.out] at HC
      clear hcell HMK
      have d0 := eqEmp xs[k]
      have d1 : ((str xs[k]).toList != []) = !decide (xs[k] = []) := by rw [bne, d0]
      cases hem : decide (xs[k] = [])
      · have HNE : Hid (xs[k] ≠ []) := of_decide_eq_false hem
        rw [hem] at d0 d1
        have d2 := isEmp_f HNE.out
        clear hem
        obtain ⟨g, hg⟩ : ∃ g, g = isMk recvL xs[k] := ⟨_, rfl⟩
        rw [← hg] at HC
        cases g
        · have HNX : Hid (r + hopsL (xs.drop (k + 1)) = hopsL xs) := by show _ = _; rw [← HNO.out HNE.out hg.symm]; exact HS.out
          clear hg
          generalize str xs[k] = z at *
          go_wp2_with fail
          refine HC.out.mono ?_
          rintro e w2 ⟨rfl, hb2⟩
          go_wp2
          go_roundw
          case rel => exact ⟨k + 1, r, by omega, by go_num, rfl, by omega, HNX.out, nx hb hb2⟩
          case measure => simp [intOf]; omega
        · have HNX : Hid (r + 1 + hopsL (xs.drop (k + 1)) = hopsL xs) := by show _ = _; have := HYES.out HNE.out hg.symm; have := HS.out; omega
          clear hg
          generalize str xs[k] = z at *
          go_wp2_with fail
          refine HC.out.mono ?_
          rintro e w2 ⟨rfl, hb2⟩
          go_wp2
          go_roundw
          case rel => exact ⟨k + 1, r + 1, by omega, by go_num, by go_num, by omega, HNX.out, nx hb hb2⟩
          case measure => simp [intOf]; omega
      · have HN : Hid (r = hopsL xs) := by show _ = _; rw [← HS.out, HNIL.out (of_decide_eq_true hem)]; rfl
        have d2 := isEmp_t (of_decide_eq_true hem)
        rw [hem] at d0 d1
        clear hem
        generalize str xs[k] = z at *
        rw [HN.out] at *
        go_wp2
        go_ret
        exact ⟨rfl, hb⟩
    · have HN : Hid (r = hopsL xs) := by show _ = _; rw [← HS.out, hops_end (by have := HLEN.out; omega)]; rfl
      rw [HN.out] at *
      go_wp2
      go_ret
      exact ⟨rfl, hb⟩
set_option maxRecDepth 100000 in
set_option maxHeartbeats 2000000 in
theorem countHopsS_any (M : Nat) (x : MlA) (w : World) (h1 : RdM M w x) (hM : M ≤ 1073741000) :
    Calls Tryd.prog 16 #[mlV x] w (HopRet x.m w) := by
  have hA0 : ∀ o, Below w.heap.size w (w.alloc o) := fun o => (Below.refl _ _).alloc (Nat.le_refl _) o
  have H0 : Hid (∀ u, Below w.heap.size w u → Calls Tryd.prog 31 #[mlV x] u fun e w' => e = .returned (.bool (isMail x.m)) ∧ Below u.heap.size u w') := fun u hb => mailValidS_any M x u (h1.below hb) hM
  have H1 : Hid (∀ u, Below w.heap.size w u → Calls Tryd.prog 37 #[.slice x.a2 x.m.lines.length x.c2] u fun e w' => e = .returned (.int .i64 (hopsL x.m.lines : Nat)) ∧ Below u.heap.size u w') := fun u hb => l11Hops_any x.a2 x.m.lines.length x.c2 x.m.lines u (h1.2.1.1.below hb) (by have := h1.2.2.2.2.2.1; omega) (fun l hl => by have := h1.2.2.2.2.2.2 l hl; omega)
  have HE : Hid (∀ w' q h, Below w.heap.size w w' → isMail x.m = q → h = hopsM x.m → HopRet x.m w (.returned (.tuple #[.int .i64 (h : Nat), .bool q])) w') := fun w' q h hb hq hh => ⟨by rw [hq, hh], hb⟩
  obtain ⟨m, a1, c1, b1, d1⟩ := x
  dsimp only at *
  have HHM : Hid (hopsM m = if isMail m then hopsL m.lines else 0) := rfl
  clear h1
  unfold mlV at *
  dsimp only at *
  have HX := Lib.hid (MK3.new w (.string (str m.frm)) (.slice a1 m.to.length c1) (.slice b1 m.lines.length d1) 36)
  have hA := hA0 (.cells #[.string (str m.frm), .slice a1 m.to.length c1, .slice b1 m.lines.length d1] 36)
  generalize hopsL m.lines = H at *
  generalize m.to.length = n1 at *
  generalize m.lines.length = n3 at *
  generalize str m.frm = s1 at *
  generalize hopsM m = HM at *
  generalize isMail m = q at *
  cases q
  · have HN : Hid (0 = HM) := HHM.out.symm
    go_enter Tryd.func16, Tryd.ntmps16
    go_wp2_with fail
    refine (H0.out _ hA).mono ?_
    rintro e w1 ⟨rfl, hb1⟩
    go_wp2
    go_ret2
    exact HE.out _ false 0 (nx hA hb1) rfl HN.out
  · have HN : Hid (H = HM) := HHM.out.symm
    go_enter Tryd.func16, Tryd.ntmps16
    go_wp2_with fail
    refine (H0.out _ hA).mono ?_
    rintro e w1 ⟨rfl, hb1⟩
    have hb01 := nx hA hb1
    obtain ⟨y0, y1, y2⟩ := HX.out.below hb1
    go_wp2_with fail
    refine (H1.out _ hb01).mono ?_
    rintro e w2 ⟨rfl, hb2⟩
    go_wp2
    go_ret2
    exact HE.out _ true H (nx hb01 hb2) rfl HN.out
end Go.Proofs.YtfiaankfmdpmkaaDoor
end

section
namespace Go.Proofs.YtfiaankfmdpmkaaDoor
open Go.RowKit

/-- A world in which all that lay in W lies unturned. -/
structure BelowT (W : World) where
  val : World
  below : Below W.heap.size W val
instance (W : World) : Nonempty (BelowT W) := ⟨⟨W, Below.refl _ _⟩⟩
theorem wp_region_quietB {P : Program} {id : Nat} {Q : Exit → Act → World → Prop} {a : Act} {w W : World} {l : List Oper} (hm : P.follows .mixedOrders = true) (hB : Region.lexB .any l.toArray = true) (hb : Below W.heap.size W w)
    (h : wpQuiet P l.toArray (fun w' => ∃ x : BelowT W, w' = x.val) (fun a' => ∀ w', (∃ x : BelowT W, w' = x.val) → Q .normal a' w') l a) : (Code.region id l.toArray true).wp P Q a w :=
  wp_region_quiet (C := fun w' => ∃ x : BelowT W, w' = x.val) hm hB ⟨⟨w.drew, hb.drew⟩, rfl⟩ (by simpa using h)
theorem calls_belowT {P : Program} {f : FuncId} {args : Array Value} {W : World} {x : BelowT W} {v : Value}
    (h : Calls P f args x.val fun e w' => e = .returned v ∧ Below x.val.heap.size x.val w') : Calls P f args x.val fun e w'' => e = .returned v ∧ ∃ y : BelowT W, w'' = y.val :=
  h.mono fun _ w' ⟨he, hb⟩ => ⟨he, ⟨w', nx x.below hb⟩, rfl⟩
theorem calls_sameT {P : Program} {f : FuncId} {args : Array Value} {W : World} {x : BelowT W} {v : Value}
    (h : Calls P f args x.val fun e w' => e = .returned v ∧ w' = x.val) : Calls P f args x.val fun e w'' => e = .returned v ∧ ∃ y : BelowT W, w'' = y.val :=
  h.mono fun _ _ ⟨he, hw⟩ => ⟨he, x, hw⟩
end Go.Proofs.YtfiaankfmdpmkaaDoor
end

section
namespace Go.Proofs.YtfiaankfmdpmkaaDoor
open Go.RowKit

/-- What lay there is as it was; there may be more. -/
def Grow (w w' : World) : Prop := Below w.heap.size w w'
theorem Grow.refl (w : World) : Grow w w := Below.refl _ _
theorem Grow.trans {a b c : World} (h : Grow a b) (k : Grow b c) : Grow a c := nx h k

section
variable {P : Program} {ops : Array Oper} {Q : Exit → Act → World → Prop} {md : Region.Mode}

def growUpon (P : Program) (w : World) (v : Value) : Result Next → Prop
  | .ok (.value u) w' => w' = w ∧ u = v
  | .ok .skip w' => w' = w ∧ v = undef
  | .ok (.enter f args) w' => w' = w ∧ Calls P f args w (fun e w'' => e = .returned v ∧ Grow w w'')
  | _ => False
def growAt (P : Program) (o : Oper) (a : Act) (w : World) (v : Value) : Prop := growUpon P w v ((execOp a.eval o).run P w)
/-- In state a, in every world grown from w, operation o leaves v in its temporary and turns nothing. -/
def GYields (P : Program) (ops : Array Oper) (o : Oper) (v : Value) (a : Act) (w : World) : Prop :=
  (Region.wanted o (yielded ops a.tmps) = true ∧ ∀ w', Grow w w' → growAt P o a w' v) ∨ (Region.wanted o (yielded ops a.tmps) = false ∧ v = undef)
theorem GYields.grow {o : Oper} {v : Value} {a : Act} {w u : World} (h : GYields P ops o v a w) (g : Grow w u) : GYields P ops o v a u :=
  h.imp (fun ⟨h1, h2⟩ => ⟨h1, fun w' k => h2 w' (g.trans k)⟩) id
theorem GYields.of_same {o : Oper} {v : Value} {a a' : Act} {w : World} (hy : GYields P ops o v a w) (he : execOp a'.eval o = execOp a.eval o)
    (hw : Region.wanted o (yielded ops a'.tmps) = Region.wanted o (yielded ops a.tmps)) : GYields P ops o v a' w := by
  unfold GYields growAt at *
  rw [he, hw]
  exact hy
theorem GYields.wpOp {i : Nat} {o : Oper} {v : Value} {a : Act} {w : World} (hi : ops[i]? = some o) (hy : GYields P ops o v a w)
    {K : Act → World → Prop} (h : ∀ w', Grow w w' → K (a.put o.dst v) w') : wpOp P ops Q i K a w := by
  unfold Go.wpOp
  simp only [hi]
  rcases hy with ⟨hw, hv⟩ | ⟨hw, rfl⟩
  · rw [if_pos hw]
    refine .inl ?_
    have h1 := hv w (Grow.refl w)
    unfold growAt at h1
    unfold Oper.wp
    generalize (execOp a.eval o).run P w = r at *
    cases r with
    | ok n w' =>
      cases n <;> simp only [growUpon] at h1 <;> simp only [Oper.upon]
      case value u =>
        obtain ⟨e1, e2⟩ := h1
        rw [e1, e2]
        exact h _ (Grow.refl w)
      case skip =>
        obtain ⟨e1, e2⟩ := h1
        rw [e1, ← e2]
        exact h _ (Grow.refl w)
      case enter f args =>
        obtain ⟨e1, hc⟩ := h1
        rw [e1]
        exact hc.mono fun e w'' ⟨he, hw''⟩ => by subst he; exact h _ hw''
    | halt x w' => simp only [growUpon] at h1
  · rw [if_neg (by rw [hw]; exact Bool.false_ne_true)]; exact h _ (Grow.refl w)

theorem wpOp_putG {j : Nat} {oi oj : Oper} {v : Value} (hj : ops[j]? = some oj) (hap : oi.apart ops oj = true)
    (hsi : ∀ cs b, oi.op ≠ .select cs b) (hsj : ∀ cs b, oj.op ≠ .select cs b)
    (hQ : ∀ c a w, Q (.panic c) (a.put oi.dst v) w → Q (.panic c) a w) {K : Act → World → Prop} {a : Act} {w u : World}
    (hy : GYields P ops oi v a u) (h : wpOp P ops Q j K (a.put oi.dst v) w) :
    wpOp P ops Q j (fun a' w' => GYields P ops oi v a' u ∧ K (a'.put oi.dst v) w') a w := by
  obtain ⟨h1, h2, h3⟩ := Oper.apart_spec hap
  have keep : ∀ (a : Act), GYields P ops oi v a u → ∀ x, GYields P ops oi v (a.put oj.dst x) u := fun a hy x =>
    hy.of_same (execOp_put oi hsi a oj.dst x h3) (wanted_put oi a oj.dst x h3)
  have keepD : ∀ d, GYields P ops oi v { a with defers := d :: a.defers } u := fun d => hy.of_same rfl rfl
  unfold Go.wpOp at *
  simp only [hj] at *
  rw [wanted_put oj a oi.dst v h1] at h
  split
  · rename_i hw
    simp only [hw, if_true] at h
    rcases h with h | ⟨hasks, hlets⟩
    case inr => exact .inr ⟨by unfold Oper.asks at *; rw [execOp_put oj hsj a oi.dst v h1] at hasks; exact hasks, hlets⟩
    refine .inl ?_
    unfold Oper.wp at *
    rw [execOp_put oj hsj a oi.dst v h1] at h
    generalize (execOp a.eval oj).run P w = r at *
    cases r with
    | ok n w' =>
      cases n <;> simp only [Oper.upon] at h ⊢
      case value x => exact ⟨keep a hy x, by rw [← Act.put_comm a v x h2]; exact h⟩
      case skip => exact ⟨keep a hy _, by rw [← Act.put_comm a v undef h2]; exact h⟩
      case defer d =>
        refine ⟨keep _ (keepD d) _, ?_⟩
        rw [← Act.put_comm _ v undef h2, ← Act.put_defers]
        exact h
      case enter f args =>
        refine Calls.mono h fun e w'' he => ?_
        cases e with
        | returned x => exact ⟨keep a hy x, by rw [← Act.put_comm a v x h2]; exact he⟩
        | panicked c => exact hQ _ _ _ he
        | outgrown => exact he
      case row row args => exact Rows.mono h fun x w'' he => ⟨keep a hy x, by rw [← Act.put_comm a v x h2]; exact he⟩
    | halt x w' =>
      cases x <;> simp only [Oper.upon] at h ⊢
      case panic x => exact hQ _ _ _ h
  · rename_i hw
    simp only [hw] at h
    exact ⟨keep a hy _, by rw [← Act.put_comm a v undef h2]; exact h⟩

/-- Whatever order is picked from here on, in this world and in every one grown from it; each operation turns nothing old. -/
def wpAnyG (P : Program) (md : Region.Mode) (ops : Array Oper) (Q : Exit → Act → World → Prop) : Nat → Array Bool → Act → World → Prop
  | 0, listed, a, w => ∀ w', Grow w w' → Region.ready md ops listed = [] ∧ Q .normal a w'
  | fuel + 1, listed, a, w => ∀ w', Grow w w' → (Region.ready md ops listed = [] → Q .normal a w') ∧
    ∀ i ∈ Region.ready md ops listed, wpOp P ops Q i (fun a' w'' => Grow w' w'' ∧ wpAnyG P md ops Q fuel (listed.setIfInBounds i true) a' w'') a w'
theorem wpAny_of_G : ∀ (fuel : Nat) (listed : Array Bool) (a : Act) (w : World), wpAnyG P md ops Q fuel listed a w → wpAny P md ops Q fuel listed a w
  | 0, _, _, w, h => h w (Grow.refl w)
  | fuel + 1, _, _, w, h => ⟨(h w (Grow.refl w)).1, fun i hi => wpOp_mono (fun a' w' h' => wpAny_of_G fuel _ a' w' h'.2) ((h w (Grow.refl w)).2 i hi)⟩
theorem wpAnyG_grow {fuel : Nat} {listed : Array Bool} {a : Act} {w u : World} (g : Grow w u) (h : wpAnyG P md ops Q fuel listed a w) : wpAnyG P md ops Q fuel listed a u := by
  cases fuel with
  | zero => exact fun w' k => h w' (g.trans k)
  | succ fuel => exact fun w' k => h w' (g.trans k)

theorem wpAnyG_first {i : Nat} {oi : Oper} {v : Value} (hi : ops[i]? = some oi) (hsel : ∀ (j : Nat) (o : Oper) cs b, ops[j]? = some o → o.op ≠ .select cs b)
    (hQ : ∀ c a w, Q (.panic c) (a.put oi.dst v) w → Q (.panic c) a w) :
    ∀ (fuel : Nat) (listed : Array Bool) (a : Act) (w : World),
      (∀ j oj, ops[j]? = some oj → j ≠ i → listed.getD j true = false → (∀ e ∈ oj.after, Region.binds md e = true → e.on ≠ i) → oi.apart ops oj = true) →
      i ∈ Region.ready md ops listed → GYields P ops oi v a w →
      wpAnyG P md ops Q fuel (listed.setIfInBounds i true) (a.put oi.dst v) w → wpAnyG P md ops Q (fuel + 1) listed a w := by
  intro fuel
  induction fuel with
  | zero =>
    intro listed a w _ hr hy H w' g
    refine ⟨fun h => (by rw [h] at hr; cases hr), fun j hj => ?_⟩
    by_cases hji : j = i
    · subst hji; exact (hy.grow g).wpOp hi fun w'' k => ⟨k, wpAnyG_grow (g.trans k) H⟩
    · have := ready_mono hj hji
      rw [(H w (Grow.refl w)).1] at this
      cases this
  | succ fuel ih =>
    intro listed a w hfree hr hy H w' g
    refine ⟨fun h => (by rw [h] at hr; cases hr), fun j hj => ?_⟩
    by_cases hji : j = i
    · subst hji; exact (hy.grow g).wpOp hi fun w'' k => ⟨k, wpAnyG_grow (g.trans k) H⟩
    · have h1 := (H w' g).2 j (ready_mono hj hji)
      obtain ⟨hjun, oj, hoj, hall⟩ := mem_ready.1 hj
      have hnot : ∀ e ∈ oj.after, Region.binds md e = true → e.on ≠ i := fun e he hb heq => by
        have h1 := hall e he hb
        have h0 := (mem_ready.1 hr).1
        rw [heq] at h1
        rcases Nat.lt_or_ge i listed.size with h' | h'
        · simp [h'] at h0 h1; rw [h0] at h1; cases h1
        · simp [Array.getElem?_eq_none h'] at h1
      have h2 := wpOp_putG hoj (hfree j oj hoj hji hjun hnot) (fun cs b => hsel i oi cs b hi) (fun cs b => hsel j oj cs b hoj) hQ (hy.grow g) h1
      have hfree' : ∀ k ok, ops[k]? = some ok → k ≠ i → (listed.setIfInBounds j true).getD k true = false →
          (∀ e ∈ ok.after, Region.binds md e = true → e.on ≠ i) → oi.apart ops ok = true := fun k ok hk hki hun hno => by
        refine hfree k ok hk hki ?_ hno
        by_cases hjk : j = k
        · subst hjk; exact hjun
        · rw [getD_set_ne true hjk] at hun; exact hun
      refine wpOp_mono (fun a' w'' h3 => ⟨h3.2.1, ih (listed.setIfInBounds j true) a' w'' hfree' (ready_mono hr (Ne.symm hji)) (h3.1.grow h3.2.1) ?_⟩) h2
      rw [Array.setIfInBounds_comm _ _ hji]
      exact h3.2.2

/-! The moves of a walk. -/

/-- Those of a list's operations that a mask names. -/
def pickL : List Bool → List Oper → List Oper
  | true :: m, o :: l => o :: pickL m l
  | false :: m, _ :: l => pickL m l
  | _, _ => []
def maskListed : List Bool → Nat → Array Bool → Array Bool
  | true :: m, k, listed => maskListed m (k + 1) (listed.setIfInBounds k true)
  | false :: m, k, listed => maskListed m (k + 1) listed
  | [], _, listed => listed
def maskCount : List Bool → Nat
  | true :: m => maskCount m + 1
  | false :: m => maskCount m
  | [] => 0
/-- Each that the mask names may come up when its turn is there, and nobody who could come before it touches its temporaries; its slot is written once. -/
def maskOk (md : Region.Mode) (ops : Array Oper) (n : Nat) : List Bool → List Oper → Nat → Array Bool → Bool
  | true :: m, o :: l, k, listed => (Region.ready md ops listed).contains k && Region.free md ops listed k &&
      (match o.dst with | some d => decide (d < n) && (pickL m l).all (fun o' => o'.dst != some d) | none => false) && maskOk md ops n m l (k + 1) (listed.setIfInBounds k true)
  | false :: m, _ :: l, k, listed => maskOk md ops n m l (k + 1) listed
  | [], _, _, _ => true
  | _, [], _, _ => false

theorem put_size (a : Act) (x : Option Tmp) (v : Value) : (a.put x v).tmps.size = a.tmps.size := by
  cases x <;> simp [Act.put]
/-- A slot that no operation of the rest writes is at the end as it was. -/
theorem quiet_slot {C : World → Prop} {A : Act} {d : Nat} : ∀ (l : List Oper) (a : Act), (∀ o ∈ l, o.dst ≠ some d) → wpQuiet P ops C (fun a' => a' = A) l a → A.tmps[d]? = a.tmps[d]?
  | [], a, _, h => by
    have h1 : a = A := h
    rw [h1]
  | o :: l, a, hd, h => by
    have hp : ∀ v, (a.put o.dst v).tmps[d]? = a.tmps[d]? := fun v => by
      cases ho : o.dst with
      | none => rfl
      | some e =>
        have hne : e ≠ d := fun he => hd o (List.mem_cons_self ..) (by rw [ho, he])
        simp [Act.put, Array.getElem?_setIfInBounds_ne hne]
    unfold wpQuiet at h
    split at h
    · obtain ⟨v, _, h2⟩ := h
      rw [quiet_slot l _ (fun o' ho' => hd o' (List.mem_cons_of_mem _ ho')) h2, hp]
    · rw [quiet_slot l _ (fun o' ho' => hd o' (List.mem_cons_of_mem _ ho')) h, hp]

/-- Those that the mask names are taken first, in the order of the text, in ONE walk, in a world of which nothing is known but that it has grown from w. -/
theorem wpAnyG_mask {A : Act} {n : Nat} (hsel : Region.noSelect ops = true) (hQ : ∀ c a o v w, Q (.panic c) (a.put o v) w → Q (.panic c) a w) {w : World} {fuel : Nat} : ∀ (m : List Bool) (l : List Oper) (k : Nat) (listed : Array Bool) (a : Act),
    (∀ j, l[j]? = ops[k + j]?) → a.tmps.size = n → maskOk md ops n m l k listed = true →
    (∀ x : BelowT w, wpQuiet P ops (fun w' => ∃ y : BelowT x.val, w' = y.val) (fun a' => a' = A) (pickL m l) a) →
    wpAnyG P md ops Q fuel (maskListed m k listed) A w → wpAnyG P md ops Q (maskCount m + fuel) listed a w
  | [], l, k, listed, a, _, _, _, h, H => by
    have h1 : a = A := by have := h ⟨w, Below.refl _ _⟩; rw [pickL] at this; exact this; all_goals simp
    rw [h1]
    simpa [maskCount, maskListed] using H
  | false :: m, [], k, listed, a, _, _, hB, _, _ => by simp [maskOk] at hB
  | true :: m, [], k, listed, a, _, _, hB, _, _ => by simp [maskOk] at hB
  | false :: m, o :: l, k, listed, a, hl, hn, hB, h, H => by
    simp only [maskCount, maskListed, maskOk, pickL] at *
    exact wpAnyG_mask hsel hQ m l (k + 1) listed a (fun j => by have := hl (j + 1); simpa [Nat.add_assoc, Nat.add_comm 1 j] using this) hn hB h H
  | true :: m, o :: l, k, listed, a, hl, hn, hB, h, H => by
    have h0 : ops[k]? = some o := by simpa using (hl 0).symm
    simp only [maskCount, maskListed, maskOk, pickL, Bool.and_eq_true] at *
    obtain ⟨⟨⟨hr, hf⟩, hd⟩, hB'⟩ := hB
    cases ho : o.dst with
    | none => rw [ho] at hd; cases hd
    | some d =>
      rw [ho] at hd
      simp only [Bool.and_eq_true, decide_eq_true_eq, List.all_eq_true, bne_iff_ne] at hd
      have hslot : ∀ v, (a.put (some d) v).tmps[d]? = some v := fun v => by simp [Act.put, hn, hd.1]
      by_cases hw : Region.wanted o (yielded ops a.tmps) = true
      · have h' : ∀ x : BelowT w, (∀ w', (∃ y : BelowT x.val, w' = y.val) → o.quietAt P a (fun w' => ∃ y : BelowT x.val, w' = y.val) w' ((A.tmps[d]?).getD undef)) ∧
            wpQuiet P ops (fun w' => ∃ y : BelowT x.val, w' = y.val) (fun a' => a' = A) (pickL m l) (a.put (some d) ((A.tmps[d]?).getD undef)) := fun x => by
          have h1 := h x
          unfold wpQuiet at h1
          rw [if_pos hw] at h1
          obtain ⟨v, h2, h3⟩ := h1
          rw [ho] at h3
          have h4 := quiet_slot (d := d) (pickL m l) _ hd.2 h3
          rw [hslot] at h4
          rw [h4]
          exact ⟨h2, h3⟩
        have hy : GYields P ops o ((A.tmps[d]?).getD undef) a w := .inl ⟨hw, fun w' g => by
          have h1 := (h' ⟨w', g⟩).1 w' ⟨⟨w', Below.refl _ _⟩, rfl⟩
          unfold Oper.quietAt at h1
          unfold growAt
          generalize (execOp a.eval o).run P w' = r at *
          cases r with
          | ok nx w2 =>
            cases nx <;> simp only [Oper.quietUpon] at h1 <;> simp only [growUpon]
            case value u => exact h1
            case skip => exact h1
            case enter f args => exact ⟨h1.1, h1.2.mono fun e w3 ⟨he, y, hy⟩ => ⟨he, by rw [hy]; exact y.below⟩⟩
          | halt x w2 => simp only [Oper.quietUpon] at h1⟩
        rw [show maskCount m + 1 + fuel = (maskCount m + fuel) + 1 by omega]
        refine wpAnyG_first h0 (Region.noSelect_spec hsel) (fun c a w => hQ c a _ _ w) _ listed a w (Region.free_spec h0 hf) (by simpa using hr) hy ?_
        rw [ho]
        exact wpAnyG_mask hsel hQ m l (k + 1) _ _ (fun j => by have := hl (j + 1); simpa [Nat.add_assoc, Nat.add_comm 1 j] using this) (by rw [put_size]; exact hn) hB' (fun x => (h' x).2) H
      · have hwf : Region.wanted o (yielded ops a.tmps) = false := by simpa using hw
        rw [show maskCount m + 1 + fuel = (maskCount m + fuel) + 1 by omega]
        refine wpAnyG_first h0 (Region.noSelect_spec hsel) (fun c a w => hQ c a _ _ w) _ listed a w (Region.free_spec h0 hf) (by simpa using hr) (.inr ⟨hwf, rfl⟩) ?_
        refine wpAnyG_mask hsel hQ m l (k + 1) _ _ (fun j => by have := hl (j + 1); simpa [Nat.add_assoc, Nat.add_comm 1 j] using this) (by rw [put_size]; exact hn) hB' (fun x => ?_) H
        have h1 := h x
        unfold wpQuiet at h1
        rw [if_neg hw] at h1
        exact h1

/-- The mask's operations are taken first; the region is written out. -/
theorem wpAnyG_take {F fuel n : Nat} {l : List Oper} {listed : Array Bool} {a : Act} {w : World} (m : List Bool) (hF : maskCount m + fuel = F) (hsel : Region.noSelect l.toArray = true)
    (hn : a.tmps.size = n) (hB : maskOk md l.toArray n m l 0 listed = true)
    (h : ∃ A, (∀ x : BelowT w, wpQuiet P l.toArray (fun w' => ∃ y : BelowT x.val, w' = y.val) (fun a' => a' = A) (pickL m l) a) ∧ wpAnyG P md l.toArray (NoPanic Q) fuel (maskListed m 0 listed) A w) : wpAnyG P md l.toArray (NoPanic Q) F listed a w := by
  obtain ⟨A, h1, h2⟩ := h
  rw [← hF]
  exact wpAnyG_mask hsel (fun _ _ _ _ _ h => h) m l 0 listed a (fun j => by simp) hn hB h1 h2
/-- One operation alone may come up: what it does, in a world that has grown from w. -/
theorem wpAnyG_one {m fuel : Nat} {listed : Array Bool} {a : Act} {w : World} (hr : Region.ready md ops listed = [m])
    (h : ∀ w', Grow w w' → wpOp P ops Q m (fun a' w'' => Grow w' w'' ∧ wpAnyG P md ops Q fuel (listed.setIfInBounds m true) a' w'') a w') : wpAnyG P md ops Q (fuel + 1) listed a w :=
  fun w' g => ⟨fun h0 => (by rw [hr] at h0; cases h0), fun i hi => by
    rw [hr] at hi
    have : i = m := by simpa using hi
    subst this
    exact h w' g⟩
theorem wpOp_at {m : Nat} {o : Oper} {K : Act → World → Prop} {a : Act} {w : World} (hm : ops[m]? = some o) (hw : Region.wanted o (yielded ops a.tmps) = true) (h : o.wp P a w K Q) : wpOp P ops Q m K a w := by
  unfold Go.wpOp
  simp only [hm]
  rw [if_pos hw]
  exact .inl h
/-- All have come up. -/
theorem wpAnyG_done {listed : Array Bool} {a : Act} {w : World} (hr : Region.ready md ops listed = []) (h : ∀ x : BelowT w, Q .normal a x.val) : ∀ fuel, wpAnyG P md ops (NoPanic Q) fuel listed a w
  | 0 => fun w' g => ⟨hr, h ⟨w', g⟩⟩
  | _ + 1 => fun w' g => ⟨fun _ => h ⟨w', g⟩, by rw [hr]; simp⟩
/-- The beginning. -/
theorem wp_region_grow {id : Nat} {a : Act} {w : World} (hm : P.follows .mixedOrders = true)
    (h : wpAnyG P .any ops (NoPanic Q) ops.size (Array.replicate ops.size false) a w) : (Code.region id ops true).wp P Q a w :=
  wp_region_noPanic (wp_region_any hm (wpAny_of_G _ _ _ _ (wpAnyG_grow (show Grow w w.drew from (Below.refl _ _).drew) h)))
end
end Go.Proofs.YtfiaankfmdpmkaaDoor
end
