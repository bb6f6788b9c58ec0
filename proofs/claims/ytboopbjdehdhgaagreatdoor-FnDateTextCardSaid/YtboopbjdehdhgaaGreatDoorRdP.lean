/-
  Dates read: the whole text. No statement is proved here.
-/
import Derived.Test.YtboopbjdehdhgaaGreatDoorRdE
import Derived.Test.YtboopbjdehdhgaaGreatDoorParse
namespace Go.Proofs.YtboopbjdehdhgaaGreatDoor
open Go.RowKit Go.Sort

theorem index_one (c : UInt8) : ∀ l : List UInt8, (c ∉ l → Lib.index l [c] = -1) ∧ (c ∈ l → Lib.index l [c] = ((l.takeWhile (· != c)).length : Int))
  | [] => by refine ⟨fun _ => rfl, fun h => by cases h⟩
  | b :: l => by
    obtain ⟨i1, i2⟩ := index_one c l
    by_cases hb : b = c
    · subst hb
      refine ⟨fun h => absurd (List.mem_cons_self ..) h, fun _ => ?_⟩
      rw [Lib.index]; simp [List.isPrefixOf]
    · have hp : ([c] : List UInt8).isPrefixOf (b :: l) = false := by simp [List.isPrefixOf]; exact fun e => hb e.symm
      have ht : (b != c) = true := by simpa using hb
      rw [Lib.index, hp]
      refine ⟨fun h => ?_, fun h => ?_⟩
      · rw [i1 (fun hm => h (List.mem_cons_of_mem _ hm))]; rfl
      · have hm : c ∈ l := (List.mem_cons.1 h).resolve_left (fun e => hb e.symm)
        rw [i2 hm, List.takeWhile_cons, ht]
        have : (((l.takeWhile (· != c)).length : Int) == -1) = false := by rw [beq_eq_false_iff_ne]; omega
        simp [this]
theorem cut_none {c : UInt8} {l : List UInt8} (h : cutB c l = none) : Lib.cut l [c] = (l, [], false) := by
  have hn : c ∉ l := fun hm => by unfold cutB at h; rw [if_pos hm] at h; cases h
  unfold Lib.cut
  rw [(index_one c l).1 hn]; rfl
theorem cut_some {c : UInt8} {l p r : List UInt8} (h : cutB c l = some (p, r)) : Lib.cut l [c] = (p, r, true) := by
  have hm : c ∈ l := by
    apply Classical.byContradiction; intro hn; unfold cutB at h; rw [if_neg hn] at h; cases h
  unfold cutB at h
  rw [if_pos hm] at h
  injection h with h
  injection h with h1 h2
  subst h1 h2
  have he : l.takeWhile (· != c) ++ l.dropWhile (· != c) = l := List.takeWhile_append_dropWhile
  unfold Lib.cut
  rw [(index_one c l).2 hm, if_pos (by omega)]
  have ht : l.take (l.takeWhile (· != c)).length = l.takeWhile (· != c) := by
    conv => lhs; arg 2; rw [← he]
    exact List.take_left' rfl
  have hd : l.drop ((l.takeWhile (· != c)).length + 1) = (l.dropWhile (· != c)).drop 1 := by
    rw [← List.drop_drop]
    congr 1
    conv => lhs; arg 2; rw [← he]
    exact List.drop_left' rfl
  simp [ht, hd]
theorem cutB_mem {c : UInt8} {l p r : List UInt8} (h : cutB c l = some (p, r)) : (∀ x ∈ p, x ∈ l) ∧ (∀ x ∈ r, x ∈ l) ∧ p.length ≤ l.length ∧ r.length ≤ l.length := by
  unfold cutB at h
  split at h
  · injection h with h
    injection h with h1 h2
    subst h1 h2
    have hs1 : (l.takeWhile (· != c)).Sublist l := List.takeWhile_sublist _
    have hs2 : ((l.dropWhile (· != c)).drop 1).Sublist l := (List.drop_sublist _ _).trans (List.dropWhile_sublist _)
    exact ⟨fun x hx => hs1.subset hx, fun x hx => hs2.subset hx, hs1.length_le, hs2.length_le⟩
  · cases h
theorem fieldsGo_small : ∀ (l cur : List UInt8), ∀ p ∈ Lib.fieldsGo cur l, p.length ≤ cur.length + l.length
  | [], cur, p, hp => by
    unfold Lib.fieldsGo at hp
    split at hp
    · cases hp
    · have : p = cur := by simpa using hp
      rw [this]; simp
  | x :: l, cur, p, hp => by
    unfold Lib.fieldsGo at hp
    split at hp
    · split at hp
      · have := fieldsGo_small l [] p hp; simp at this ⊢; omega
      · rcases List.mem_cons.1 hp with e | hp
        · rw [e]; simp
        · have := fieldsGo_small l [] p hp; simp at this ⊢; omega
    · have := fieldsGo_small l (cur ++ [x]) p hp; simp at this ⊢; omega
theorem fields_small (l p : List UInt8) (hp : p ∈ Lib.fields l) : p.length ≤ l.length := by
  have := fieldsGo_small l [] p hp
  simpa using this
theorem same_text (a b : List UInt8) : decide (lowS (str a) = lowS (str b)) = sameN a b := by
  unfold sameN
  rw [Bool.eq_iff_iff, decide_eq_true_iff, decide_eq_true_iff]
  unfold lowS
  rw [str_list, str_list]
  exact ⟨fun h => by have := congrArg (fun x : ByteArray => x.data.toList) h; simpa [str_list] using this, fun h => by rw [h]⟩
theorem parse_no {l : List UInt8} (h : isText l = false) : parseD l = none := by unfold parseD; simp [h]
theorem parse_cut {l p r : List UInt8} (h : isText l = true) (hc : cutB 44 l = some (p, r)) : parseD l = okO (readI (Lib.fields r)) (fun D => sameN (trimS p) (wdayT D)) := by
  rw [okO_readI]; unfold parseD; simp [h, hc]
theorem parse_uncut {l : List UInt8} (h : isText l = true) (hc : cutB 44 l = none) : parseD l = okO (readI (Lib.fields l)) (fun _ => true) := by
  rw [okO_readI]; unfold parseD; simp [h, hc]
/-- The library's table of spaces. -/
def SpT (w : World) : Prop := Lib.TabIs Tryz.prog w "strings.asciiSpace" .u8 Lib.asciiSpaceTab
theorem spG : Tryz.prog.globalNamed "strings.asciiSpace" = some 2 := by kernel_rfl
theorem SpT.below {w w' : World} (h : SpT w) (b : Below w.heap.size w w') : SpT w' :=
  var?_below b spG (lt_of_cell (h.cell spG 0 (of_decide_eq_true (by kernel_rfl)))) h
/-- What reading a date reads of the variables. -/
structure PEnv (w : World) : Prop where
  wt : WTab w
  mt : MTab w
  mx : ∃ m, w.cell? ⟨4, 0, none⟩ = some (.int .i64 m)
  sp : SpT w
theorem PEnv.below {w w' : World} (h : PEnv w) (b : Below w.heap.size w w') : PEnv w' :=
  ⟨h.wt.below b, h.mt.below b, by obtain ⟨m, hm⟩ := h.mx; exact ⟨m, by rw [below_at b (lt_of_cell hm)]; exact hm⟩, h.sp.below b⟩
set_option maxRecDepth 100000 in
set_option maxHeartbeats 4000000 in
theorem parseDate_any (s : ByteArray) (w : World) (env : PEnv w) (hs : s.size ≤ 1073741824) : Calls Tryz.prog 9 #[.string s] w (DateRet (parseD s.data.toList) w) := by
  have hb0 := laid7_below 0 0 0 0 0 0 0 24 w
  have HB0 := Lib.hid hb0
  have HTV := Lib.hid (fun u => textValid_any s u (by unfold maxLen; omega))
  cases ht : isText s.data.toList
  · have HN := Lib.hid (parse_no ht)
    rw [ht] at HTV
    clear ht env
    go_enter Tryz.func9, Tryz.ntmps9
    go_wp2_with fail
    refine (HTV.out _).mono ?_
    rintro e w1 ⟨rfl, rfl⟩
    go_wp2
    refine bodyPost_ret (v := .tuple #[.agg #[.int .i64 0, .int .i64 0, .int .i64 0, .int .i64 0, .int .i64 0, .int .i64 0, .int .i64 0], .bool false]) (by simp [results, Tryz.results9, go_sem]) rfl (dateRet_none HN.out ?_)
    exact HB0.out
  · have hz0 := laid7_new 0 0 0 0 0 0 0 24 w
    have hzf0 : ∀ i, (w.alloc (.cells #[.int .i64 0, .int .i64 0, .int .i64 0, .int .i64 0, .int .i64 0, .int .i64 0, .int .i64 0] 24)).frozen? ⟨w.heap.size, i, none⟩ = false := fun i => World.frozen?_alloc_at _ _ _ _ rfl
    have hlt0 : w.heap.size < (w.alloc (.cells #[.int .i64 0, .int .i64 0, .int .i64 0, .int .i64 0, .int .i64 0, .int .i64 0, .int .i64 0] 24)).heap.size := by simp
    have henv := env.below hb0
    have hsz := text_len ht
    rw [ht] at HTV
    go_enter Tryz.func9, Tryz.ntmps9
    go_wp2_with fail
    refine (HTV.out _).mono ?_
    rintro e wx ⟨rfl, rfl⟩
    generalize (w.alloc (.cells #[.int .i64 0, .int .i64 0, .int .i64 0, .int .i64 0, .int .i64 0, .int .i64 0, .int .i64 0] 24)) = w1 at *
    have HZ : Hid (∀ u, Below w1.heap.size w1 u → Laid7 w.heap.size ⟨0, 0, 0, 0, 0, 0, 0⟩ u ∧ (∀ i, u.frozen? ⟨w.heap.size, i, none⟩ = false)) := fun u hu => ⟨hz0.below hu, fun i => (below_fz hu hlt0).trans (hzf0 i)⟩
    have HE : Hid (∀ u, Below w1.heap.size w1 u → PEnv u) := fun u hu => henv.below hu
    obtain ⟨mx, hmx⟩ := henv.mx
    have hcut := Tryz.strings_Cut s ⟨#[44]⟩ mx w1 (by omega) hmx
    clear hz0 hzf0 henv env hb0
    cases hc : cutB 44 s.data.toList with
    | none =>
      rw [show (⟨#[44]⟩ : ByteArray).data.toList = [44] from rfl, cut_none hc] at hcut
      have hss : (⟨s.data.toList.toArray⟩ : ByteArray) = s := str_of s
      simp only at hcut
      rw [hss] at hcut
      have HP := Lib.hid (parse_uncut ht hc)
      have HAS : Hid (∀ (j : Nat) b, s.data.toList[j]? = some b → b.toNat < 128) := fun j b hj => by
        have := isText_byte ht (List.mem_of_getElem? hj)
        unfold okB at this; simp at this; omega
      have HRL : Hid (s.data.toList.length ≤ 1073741824) := by show _ ≤ _; omega
      clear hc ht
      go_wp2_with fail
      refine hcut.mono ?_
      rintro e w3 ⟨rfl, q, rfl⟩
      clear hcut
      have hb3 : Below w1.heap.size w1 (w1.drewN q) := ⟨rfl, rfl, rfl, Nat.le_refl _, fun _ _ => rfl⟩
      generalize w1.drewN q = w3 at *
      have hsp3 := (HE.out w3 hb3).sp
      have HFC := Lib.hid (Tryz.strings_Fields s w3 (by omega) HAS.out hsp3)
      have HB3 := Lib.hid hb3
      obtain ⟨fs, HFS⟩ : ∃ fs, Hid (Lib.fields s.data.toList = fs) := ⟨_, rfl⟩
      rw [HFS.out] at HFC
      have HFL : Hid (∀ p ∈ fs, p.length ≤ 1073741824) := fun p hp => by
        rw [← HFS.out] at hp
        exact Nat.le_trans (fields_small s.data.toList p hp) HRL.out
      clear hb3 hsp3
      go_wp2_with fail
      refine HFC.out.mono ?_
      rintro e w4 ⟨rfl, hw4⟩
      have hr4 : RdL w4 (some ⟨w3.heap.size, 0, none⟩) fs.length fs := by
        rw [hw4]
        exact ⟨rfl, .inr ⟨w3.heap.size, 0, rfl, by simp, fun i hi => by rw [World.cell?_alloc_at _ _ _ _ rfl, Nat.zero_add]; simp [hi, str]⟩⟩
      have hb4 : Below w3.heap.size w3 w4 := by rw [hw4]; exact (Below.refl _ _).alloc (Nat.le_refl _) _
      have HB4 : Hid (Below w1.heap.size w1 w4) := nx HB3.out hb4
      clear hw4 hb4
      have he4 := HE.out w4 HB4.out
      have HRD := Lib.hid (readDate_any (some ⟨w3.heap.size, 0, none⟩) fs.length fs.length fs w4 hr4 HFL.out he4.mt he4.mx)
      clear hr4 he4
      unfold DateRet at HRD
      cases hri : readI fs with
      | none =>
        have HN : Hid (parseD s.data.toList = none) := by show _ = _; rw [HP.out, HFS.out, hri]; rfl
        rw [hri] at HRD
        unfold datV at HRD
        clear hri
        go_wp2_with fail
        refine HRD.out.mono ?_
        rintro e w5 ⟨rfl, hb5⟩
        have HB5 : Hid (Below w1.heap.size w1 w5) := nx HB4.out hb5
        have HA5 : Hid (Below w1.heap.size w1 (w5.alloc (.cells #[.int .i64 0, .int .i64 0, .int .i64 0, .int .i64 0, .int .i64 0, .int .i64 0, .int .i64 0] 24))) := HB5.out.alloc HB5.out.size _
        unfold dat0
        simp only [Option.getD_none, Option.isSome_none]
        obtain ⟨⟨z0, z1, z2, z3, z4, z5, z6⟩, hzf⟩ := HZ.out _ HA5.out
        simp only at z0 z1 z2 z3 z4 z5 z6
        have g0 := hzf 0
        have g1 := hzf 1
        have g2 := hzf 2
        have g3 := hzf 3
        have g4 := hzf 4
        have g5 := hzf 5
        have g6 := hzf 6
        clear hzf
        go_wp2
        refine bodyPost_ret (v := .tuple #[.agg #[.int .i64 0, .int .i64 0, .int .i64 0, .int .i64 0, .int .i64 0, .int .i64 0, .int .i64 0], .bool false]) (by simp [results, Tryz.results9, go_sem, z0, z1, z2, z3, z4, z5, z6]) rfl (dateRet_none HN.out ?_)
        iterate 7 refine Below.setCell ?_ (by simp) _
        exact (HB0.out.trans (HA5.out.mono (by omega)))
      | some D =>
        rw [hri] at HRD
        have HV := Lib.hid (fun u => dateValid_any D u)
        have HWD := Lib.hid (fun u t => weekdayOf_any D u t)
        have HPO : Hid (parseD s.data.toList = okO (some D) fun _ => true) := by show _ = _; rw [HP.out, HFS.out, hri]
        clear hri
        cases hok : okDB D with
        | false =>
          have HN : Hid (parseD s.data.toList = none) := by show _ = _; rw [HPO.out]; exact okO_bad (of_decide_eq_false hok)
          rw [hok] at HV
          obtain ⟨y, m, d, h, mi, s7, z⟩ := D
          unfold datV at *
          simp only [Option.getD_some, Option.isSome_some] at HRD HV HWD
          clear hok
          go_wp2_with fail
          refine HRD.out.mono ?_
          rintro e w5 ⟨rfl, hb5⟩
          have HB5 : Hid (Below w1.heap.size w1 w5) := nx HB4.out hb5
          have HA5 : Hid (Below w1.heap.size w1 (w5.alloc (.cells #[.int .i64 y, .int .i64 m, .int .i64 d, .int .i64 h, .int .i64 mi, .int .i64 s7, .int .i64 z] 24))) := HB5.out.alloc HB5.out.size _
          clear hb5
          go_wp2_with fail
          refine (HV.out _).mono ?_
          rintro e w6 ⟨rfl, hb6⟩
          have HB6 : Hid (Below w1.heap.size w1 w6) := nx HA5.out hb6
          clear hb6
          obtain ⟨⟨z0, z1, z2, z3, z4, z5, z6⟩, hzf⟩ := HZ.out _ HB6.out
          simp only at z0 z1 z2 z3 z4 z5 z6
          have g0 := hzf 0
          have g1 := hzf 1
          have g2 := hzf 2
          have g3 := hzf 3
          have g4 := hzf 4
          have g5 := hzf 5
          have g6 := hzf 6
          clear hzf
          go_wp2
          refine bodyPost_ret (v := .tuple #[.agg #[.int .i64 0, .int .i64 0, .int .i64 0, .int .i64 0, .int .i64 0, .int .i64 0, .int .i64 0], .bool false]) (by simp [results, Tryz.results9, go_sem, z0, z1, z2, z3, z4, z5, z6]) rfl (dateRet_none HN.out ?_)
          iterate 7 refine Below.setCell ?_ (by simp) _
          exact (HB0.out.trans (HB6.out.mono (by omega)))
        | true =>
          have hod : OkDate D := of_decide_eq_true hok
          rw [hok] at HV
          have HS : Hid (parseD s.data.toList = some D) := by show _ = _; rw [HPO.out]; exact okO_some hod rfl
          clear hok hod
          obtain ⟨y, m, d, h, mi, s7, z⟩ := D
          unfold datV at *
          simp only [Option.getD_some, Option.isSome_some] at HRD HV HWD
          go_wp2_with fail
          refine HRD.out.mono ?_
          rintro e w5 ⟨rfl, hb5⟩
          have HB5 : Hid (Below w1.heap.size w1 w5) := nx HB4.out hb5
          have HA5 : Hid (Below w1.heap.size w1 (w5.alloc (.cells #[.int .i64 y, .int .i64 m, .int .i64 d, .int .i64 h, .int .i64 mi, .int .i64 s7, .int .i64 z] 24))) := HB5.out.alloc HB5.out.size _
          have hl7 := laid7_new y m d h mi s7 z 24 w5
          clear hb5
          go_wp2_with fail
          refine (HV.out _).mono ?_
          rintro e w6 ⟨rfl, hb6⟩
          have HB6 : Hid (Below w1.heap.size w1 w6) := nx HA5.out hb6
          have HL6 := Lib.hid (hl7.below hb6)
          clear hb6 hl7
          go_wp2_with fail
          obtain ⟨BX, HBX⟩ : ∃ BX, Hid (w5.heap.size = BX) := ⟨_, rfl⟩
          rw [HBX.out] at HL6 ⊢
          have HY : Hid (∀ y9 : BelowT w6, Laid7 BX ⟨y, m, d, h, mi, s7, z⟩ y9.val) := fun y9 => HL6.out.below y9.below
          have y0 := fun y9 => (HY.out y9).1
          have y1 := fun y9 => (HY.out y9).2.1
          have y2 := fun y9 => (HY.out y9).2.2.1
          have y3 := fun y9 => (HY.out y9).2.2.2.1
          have y4 := fun y9 => (HY.out y9).2.2.2.2.1
          have y5 := fun y9 => (HY.out y9).2.2.2.2.2.1
          have y6 := fun y9 => (HY.out y9).2.2.2.2.2.2
          simp only at y0 y1 y2 y3 y4 y5 y6
          refine wp_region_quietB (W := w6) (by kernel_rfl) (by kernel_rfl) (Below.refl _ _) ?_
          repeat (go_big_quiet_step (fail))
          refine wpQuiet_nil ?_
          intro wz hwz
          obtain ⟨x9, rfl⟩ := hwz
          have HB9 := Lib.hid (nx HB6.out x9.below)
          obtain ⟨f0, f1, f2, f3, f4, f5, f6⟩ := HL6.out.below x9.below
          simp only at f0 f1 f2 f3 f4 f5 f6
          clear y0 y1 y2 y3 y4 y5 y6
          generalize x9.val = w9 at *
          obtain ⟨⟨z0, z1, z2, z3, z4, z5, z6⟩, hzf⟩ := HZ.out _ HB9.out
          simp only at z0 z1 z2 z3 z4 z5 z6
          have g0 := hzf 0
          have g1 := hzf 1
          have g2 := hzf 2
          have g3 := hzf 3
          have g4 := hzf 4
          have g5 := hzf 5
          have g6 := hzf 6
          clear hzf
          go_wp2
          refine bodyPost_ret (v := .tuple #[.agg #[.int .i64 y, .int .i64 m, .int .i64 d, .int .i64 h, .int .i64 mi, .int .i64 s7, .int .i64 z], .bool true]) (by simp [results, Tryz.results9, go_sem, z0, z1, z2, z3, z4, z5, z6]) rfl (dateRet_some HS.out ?_)
          iterate 7 refine Below.setCell ?_ (by simp) _
          exact (HB0.out.trans (HB9.out.mono (by omega)))
    | some pr =>
      obtain ⟨pp, rr⟩ := pr
      rw [show (⟨#[44]⟩ : ByteArray).data.toList = [44] from rfl, cut_some hc] at hcut
      simp only at hcut
      have HP := Lib.hid (parse_cut ht hc)
      obtain ⟨hm1, hm2, hl1, hl2⟩ := cutB_mem hc
      have HPL : Hid (pp.length ≤ 1073741824) := by show _ ≤ _; omega
      obtain ⟨RS, HRS⟩ : ∃ RS : ByteArray, Hid ((⟨rr.toArray⟩ : ByteArray) = RS) := ⟨_, rfl⟩
      have hrr : RS.data.toList = rr := by rw [← HRS.out]
      have HAS : Hid (∀ (j : Nat) b, RS.data.toList[j]? = some b → b.toNat < 128) := fun j b hj => by
        rw [hrr] at hj
        have := isText_byte ht (hm2 b (List.mem_of_getElem? hj))
        unfold okB at this; simp at this; omega
      have HRL : Hid (RS.data.toList.length ≤ 1073741824) := by show _ ≤ _; rw [hrr]; omega
      have hrs : RS.size ≤ 1073741824 := by rw [← size_list]; exact HRL.out
      have HTR := Lib.hid (fun u => trim_any (⟨pp.toArray⟩ : ByteArray) u (by have := HPL.out; simpa [ByteArray.size] using this))
      have hpp : (⟨pp.toArray⟩ : ByteArray).data.toList = pp := by simp
      rw [hpp] at HTR
      rw [← hrr] at HP
      rw [HRS.out] at hcut
      generalize (⟨pp.toArray⟩ : ByteArray) = PS at *
      clear hc ht hrr hpp hm1 hm2 hl1 hl2
      go_wp2_with fail
      refine hcut.mono ?_
      rintro e w3 ⟨rfl, q, rfl⟩
      clear hcut
      have hb3 : Below w1.heap.size w1 (w1.drewN q) := ⟨rfl, rfl, rfl, Nat.le_refl _, fun _ _ => rfl⟩
      generalize w1.drewN q = w3 at *
      have hsp3 := (HE.out w3 hb3).sp
      have HFC := Lib.hid (Tryz.strings_Fields RS w3 (by omega) HAS.out hsp3)
      have HB3 := Lib.hid hb3
      obtain ⟨fs, HFS⟩ : ∃ fs, Hid (Lib.fields RS.data.toList = fs) := ⟨_, rfl⟩
      rw [HFS.out] at HFC
      have HFL : Hid (∀ p ∈ fs, p.length ≤ 1073741824) := fun p hp => by
        rw [← HFS.out] at hp
        exact Nat.le_trans (fields_small RS.data.toList p hp) HRL.out
      clear hb3 hsp3
      go_wp2_with fail
      refine HFC.out.mono ?_
      rintro e w4 ⟨rfl, hw4⟩
      have hr4 : RdL w4 (some ⟨w3.heap.size, 0, none⟩) fs.length fs := by
        rw [hw4]
        exact ⟨rfl, .inr ⟨w3.heap.size, 0, rfl, by simp, fun i hi => by rw [World.cell?_alloc_at _ _ _ _ rfl, Nat.zero_add]; simp [hi, str]⟩⟩
      have hb4 : Below w3.heap.size w3 w4 := by rw [hw4]; exact (Below.refl _ _).alloc (Nat.le_refl _) _
      have HB4 : Hid (Below w1.heap.size w1 w4) := nx HB3.out hb4
      clear hw4 hb4
      have he4 := HE.out w4 HB4.out
      have HRD := Lib.hid (readDate_any (some ⟨w3.heap.size, 0, none⟩) fs.length fs.length fs w4 hr4 HFL.out he4.mt he4.mx)
      clear hr4 he4
      unfold DateRet at HRD
      cases hri : readI fs with
      | none =>
        have HN : Hid (parseD s.data.toList = none) := by show _ = _; rw [HP.out, HFS.out, hri]; rfl
        rw [hri] at HRD
        unfold datV at HRD
        clear hri
        go_wp2_with fail
        refine HRD.out.mono ?_
        rintro e w5 ⟨rfl, hb5⟩
        have HB5 : Hid (Below w1.heap.size w1 w5) := nx HB4.out hb5
        have HA5 : Hid (Below w1.heap.size w1 (w5.alloc (.cells #[.int .i64 0, .int .i64 0, .int .i64 0, .int .i64 0, .int .i64 0, .int .i64 0, .int .i64 0] 24))) := HB5.out.alloc HB5.out.size _
        unfold dat0
        simp only [Option.getD_none, Option.isSome_none]
        obtain ⟨⟨z0, z1, z2, z3, z4, z5, z6⟩, hzf⟩ := HZ.out _ HA5.out
        simp only at z0 z1 z2 z3 z4 z5 z6
        have g0 := hzf 0
        have g1 := hzf 1
        have g2 := hzf 2
        have g3 := hzf 3
        have g4 := hzf 4
        have g5 := hzf 5
        have g6 := hzf 6
        clear hzf
        go_wp2
        refine bodyPost_ret (v := .tuple #[.agg #[.int .i64 0, .int .i64 0, .int .i64 0, .int .i64 0, .int .i64 0, .int .i64 0, .int .i64 0], .bool false]) (by simp [results, Tryz.results9, go_sem, z0, z1, z2, z3, z4, z5, z6]) rfl (dateRet_none HN.out ?_)
        iterate 7 refine Below.setCell ?_ (by simp) _
        exact (HB0.out.trans (HA5.out.mono (by omega)))
      | some D =>
        rw [hri] at HRD
        have HV := Lib.hid (fun u => dateValid_any D u)
        have HWD := Lib.hid (fun u t => weekdayOf_any D u t)
        have HPO : Hid (parseD s.data.toList = okO (some D) fun D => sameN (trimS pp) (wdayT D)) := by show _ = _; rw [HP.out, HFS.out, hri]
        clear hri
        cases hok : okDB D with
        | false =>
          have HN : Hid (parseD s.data.toList = none) := by show _ = _; rw [HPO.out]; exact okO_bad (of_decide_eq_false hok)
          rw [hok] at HV
          obtain ⟨y, m, d, h, mi, s7, z⟩ := D
          unfold datV at *
          simp only [Option.getD_some, Option.isSome_some] at HRD HV HWD
          clear hok
          go_wp2_with fail
          refine HRD.out.mono ?_
          rintro e w5 ⟨rfl, hb5⟩
          have HB5 : Hid (Below w1.heap.size w1 w5) := nx HB4.out hb5
          have HA5 : Hid (Below w1.heap.size w1 (w5.alloc (.cells #[.int .i64 y, .int .i64 m, .int .i64 d, .int .i64 h, .int .i64 mi, .int .i64 s7, .int .i64 z] 24))) := HB5.out.alloc HB5.out.size _
          clear hb5
          go_wp2_with fail
          refine (HV.out _).mono ?_
          rintro e w6 ⟨rfl, hb6⟩
          have HB6 : Hid (Below w1.heap.size w1 w6) := nx HA5.out hb6
          clear hb6
          obtain ⟨⟨z0, z1, z2, z3, z4, z5, z6⟩, hzf⟩ := HZ.out _ HB6.out
          simp only at z0 z1 z2 z3 z4 z5 z6
          have g0 := hzf 0
          have g1 := hzf 1
          have g2 := hzf 2
          have g3 := hzf 3
          have g4 := hzf 4
          have g5 := hzf 5
          have g6 := hzf 6
          clear hzf
          go_wp2
          refine bodyPost_ret (v := .tuple #[.agg #[.int .i64 0, .int .i64 0, .int .i64 0, .int .i64 0, .int .i64 0, .int .i64 0, .int .i64 0], .bool false]) (by simp [results, Tryz.results9, go_sem, z0, z1, z2, z3, z4, z5, z6]) rfl (dateRet_none HN.out ?_)
          iterate 7 refine Below.setCell ?_ (by simp) _
          exact (HB0.out.trans (HB6.out.mono (by omega)))
        | true =>
          have hod : OkDate D := of_decide_eq_true hok
          rw [hok] at HV
          have HSM := Lib.hid (same_text (trimS pp) (wdayT D))
          have hwl : (wdayT D).length = 3 := wdN_len _
          have HST := Lib.hid (fun u => sameText_any (str (trimS pp)) (str (wdayT D)) u (by rw [str_size]; exact Nat.le_trans (trimS_len pp) HPL.out) (by rw [str_size]; omega))
          rw [HSM.out] at HST
          rw [wdayF_ok hod] at HWD
          clear hwl HSM
          cases hsm : sameN (trimS pp) (wdayT D) with
          | false =>
            have HN : Hid (parseD s.data.toList = none) := by show _ = _; rw [HPO.out]; exact okO_other hsm
            rw [hsm] at HST
            clear hok hod hsm
            generalize str (wdayT D) = WT at *
            generalize str (trimS pp) = TP at *
            obtain ⟨y, m, d, h, mi, s7, z⟩ := D
            unfold datV at *
            simp only [Option.getD_some, Option.isSome_some] at HRD HV HWD
            go_wp2_with fail
            refine HRD.out.mono ?_
            rintro e w5 ⟨rfl, hb5⟩
            have HB5 : Hid (Below w1.heap.size w1 w5) := nx HB4.out hb5
            have HA5 : Hid (Below w1.heap.size w1 (w5.alloc (.cells #[.int .i64 y, .int .i64 m, .int .i64 d, .int .i64 h, .int .i64 mi, .int .i64 s7, .int .i64 z] 24))) := HB5.out.alloc HB5.out.size _
            have hl7 := laid7_new y m d h mi s7 z 24 w5
            clear hb5
            go_wp2_with fail
            refine (HV.out _).mono ?_
            rintro e w6 ⟨rfl, hb6⟩
            have HB6 : Hid (Below w1.heap.size w1 w6) := nx HA5.out hb6
            have HL6 := Lib.hid (hl7.below hb6)
            clear hb6 hl7
            go_wp2_with fail
            obtain ⟨BX, HBX⟩ : ∃ BX, Hid (w5.heap.size = BX) := ⟨_, rfl⟩
            rw [HBX.out] at HL6 ⊢
            have HY : Hid (∀ y9 : BelowT w6, Laid7 BX ⟨y, m, d, h, mi, s7, z⟩ y9.val) := fun y9 => HL6.out.below y9.below
            have y0 := fun y9 => (HY.out y9).1
            have y1 := fun y9 => (HY.out y9).2.1
            have y2 := fun y9 => (HY.out y9).2.2.1
            have y3 := fun y9 => (HY.out y9).2.2.2.1
            have y4 := fun y9 => (HY.out y9).2.2.2.2.1
            have y5 := fun y9 => (HY.out y9).2.2.2.2.2.1
            have y6 := fun y9 => (HY.out y9).2.2.2.2.2.2
            simp only at y0 y1 y2 y3 y4 y5 y6
            refine wp_region_quietB (W := w6) (by kernel_rfl) (by kernel_rfl) (Below.refl _ _) ?_
            repeat (go_big_quiet_step (first
              | (go_at_call 29; exact calls_belowT (HTR.out _))
              | (go_at_call 15; exact calls_belowT (HWD.out _ (HE.out _ (nx HB6.out (BelowT.below _))).wt))
              | (go_at_call 28; exact calls_belowT (HST.out _))))
            refine wpQuiet_nil ?_
            intro wz hwz
            obtain ⟨x9, rfl⟩ := hwz
            have HB9 := Lib.hid (nx HB6.out x9.below)
            obtain ⟨f0, f1, f2, f3, f4, f5, f6⟩ := HL6.out.below x9.below
            simp only at f0 f1 f2 f3 f4 f5 f6
            clear y0 y1 y2 y3 y4 y5 y6
            generalize x9.val = w9 at *
            obtain ⟨⟨z0, z1, z2, z3, z4, z5, z6⟩, hzf⟩ := HZ.out _ HB9.out
            simp only at z0 z1 z2 z3 z4 z5 z6
            have g0 := hzf 0
            have g1 := hzf 1
            have g2 := hzf 2
            have g3 := hzf 3
            have g4 := hzf 4
            have g5 := hzf 5
            have g6 := hzf 6
            clear hzf
            go_wp2
            refine bodyPost_ret (v := .tuple #[.agg #[.int .i64 0, .int .i64 0, .int .i64 0, .int .i64 0, .int .i64 0, .int .i64 0, .int .i64 0], .bool false]) (by simp [results, Tryz.results9, go_sem, z0, z1, z2, z3, z4, z5, z6]) rfl (dateRet_none HN.out ?_)
            iterate 7 refine Below.setCell ?_ (by simp) _
            exact (HB0.out.trans (HB9.out.mono (by omega)))
          | true =>
            have HS : Hid (parseD s.data.toList = some D) := by show _ = _; rw [HPO.out]; exact okO_some hod hsm
            rw [hsm] at HST
            clear hok hod hsm
            generalize str (wdayT D) = WT at *
            generalize str (trimS pp) = TP at *
            obtain ⟨y, m, d, h, mi, s7, z⟩ := D
            unfold datV at *
            simp only [Option.getD_some, Option.isSome_some] at HRD HV HWD
            go_wp2_with fail
            refine HRD.out.mono ?_
            rintro e w5 ⟨rfl, hb5⟩
            have HB5 : Hid (Below w1.heap.size w1 w5) := nx HB4.out hb5
            have HA5 : Hid (Below w1.heap.size w1 (w5.alloc (.cells #[.int .i64 y, .int .i64 m, .int .i64 d, .int .i64 h, .int .i64 mi, .int .i64 s7, .int .i64 z] 24))) := HB5.out.alloc HB5.out.size _
            have hl7 := laid7_new y m d h mi s7 z 24 w5
            clear hb5
            go_wp2_with fail
            refine (HV.out _).mono ?_
            rintro e w6 ⟨rfl, hb6⟩
            have HB6 : Hid (Below w1.heap.size w1 w6) := nx HA5.out hb6
            have HL6 := Lib.hid (hl7.below hb6)
            clear hb6 hl7
            go_wp2_with fail
            obtain ⟨BX, HBX⟩ : ∃ BX, Hid (w5.heap.size = BX) := ⟨_, rfl⟩
            rw [HBX.out] at HL6 ⊢
            have HY : Hid (∀ y9 : BelowT w6, Laid7 BX ⟨y, m, d, h, mi, s7, z⟩ y9.val) := fun y9 => HL6.out.below y9.below
            have y0 := fun y9 => (HY.out y9).1
            have y1 := fun y9 => (HY.out y9).2.1
            have y2 := fun y9 => (HY.out y9).2.2.1
            have y3 := fun y9 => (HY.out y9).2.2.2.1
            have y4 := fun y9 => (HY.out y9).2.2.2.2.1
            have y5 := fun y9 => (HY.out y9).2.2.2.2.2.1
            have y6 := fun y9 => (HY.out y9).2.2.2.2.2.2
            simp only at y0 y1 y2 y3 y4 y5 y6
            refine wp_region_quietB (W := w6) (by kernel_rfl) (by kernel_rfl) (Below.refl _ _) ?_
            repeat (go_big_quiet_step (first
              | (go_at_call 29; exact calls_belowT (HTR.out _))
              | (go_at_call 15; exact calls_belowT (HWD.out _ (HE.out _ (nx HB6.out (BelowT.below _))).wt))
              | (go_at_call 28; exact calls_belowT (HST.out _))))
            refine wpQuiet_nil ?_
            intro wz hwz
            obtain ⟨x9, rfl⟩ := hwz
            have HB9 := Lib.hid (nx HB6.out x9.below)
            obtain ⟨f0, f1, f2, f3, f4, f5, f6⟩ := HL6.out.below x9.below
            simp only at f0 f1 f2 f3 f4 f5 f6
            clear y0 y1 y2 y3 y4 y5 y6
            generalize x9.val = w9 at *
            obtain ⟨⟨z0, z1, z2, z3, z4, z5, z6⟩, hzf⟩ := HZ.out _ HB9.out
            simp only at z0 z1 z2 z3 z4 z5 z6
            have g0 := hzf 0
            have g1 := hzf 1
            have g2 := hzf 2
            have g3 := hzf 3
            have g4 := hzf 4
            have g5 := hzf 5
            have g6 := hzf 6
            clear hzf
            go_wp2
            refine bodyPost_ret (v := .tuple #[.agg #[.int .i64 y, .int .i64 m, .int .i64 d, .int .i64 h, .int .i64 mi, .int .i64 s7, .int .i64 z], .bool true]) (by simp [results, Tryz.results9, go_sem, z0, z1, z2, z3, z4, z5, z6]) rfl (dateRet_some HS.out ?_)
            iterate 7 refine Below.setCell ?_ (by simp) _
            exact (HB0.out.trans (HB9.out.mono (by omega)))
end Go.Proofs.YtboopbjdehdhgaaGreatDoor
