/-
  Dates read: the parts behind the day of the week. No statement is proved here.
-/
import Derived.Test.YtboopbjdehdhgaaGreatDoorRdC
namespace Go.Proofs.YtboopbjdehdhgaaGreatDoor
open Go.RowKit Go.Sort

/-- As readD, but a month must have a name. -/
def readI (ps : List (List UInt8)) : Option Dat := match readD ps with | some D => if D.mo = 0 then none else some D | none => none
theorem okO_readI (ps : List (List UInt8)) (ok : Dat → Bool) : okO (readI ps) ok = okO (readD ps) ok := by
  unfold readI
  cases h : readD ps with
  | none => rfl
  | some D =>
    by_cases hm : D.mo = 0
    · simp only [hm, if_true]
      rw [okO_none, okO_bad]
      intro c
      have := c.1.1
      rw [hm] at this
      have h2 := this.2.2.1
      omega
    · simp only [hm, if_false]
theorem readD_no {ps : List (List UInt8)} (h : ps.length ≠ 5) : readD ps = none := by
  unfold readD
  split
  · exact absurd rfl h
  · rfl
theorem readI_no {ps : List (List UInt8)} (h : ps.length ≠ 5) : readI ps = none := by unfold readI; rw [readD_no h]
def read5 (b : List UInt8) (x y : Option Nat) (t : Option (Nat × Nat × Nat)) (z : Option Int) : Option Dat := match x, y, t, z with
    | some x, some y, some t, some z => some ⟨y, monR b, x, t.1, t.2.1, t.2.2, z⟩
    | _, _, _, _ => none
theorem readD5 (a b c d e : List UInt8) : readD [a, b, c, d, e] = read5 b (num? a 1 2) (num? c 4 4) (clock? d) (zone? e) := rfl
theorem readI_bad {a b c d e : List UInt8} (h : (num? a 1 2).isSome = false ∨ (monO b).isSome = false ∨ (num? c 4 4).isSome = false ∨ (clock? d).isSome = false ∨ (zone? e).isSome = false) : readI [a, b, c, d, e] = none := by
  unfold readI
  rw [readD5]
  generalize num? a 1 2 = x at *
  generalize num? c 4 4 = y at *
  generalize clock? d = t at *
  generalize zone? e = z at *
  cases x with
  | none => rfl
  | some x =>
    cases y with
    | none => rfl
    | some y =>
      cases t with
      | none => rfl
      | some t =>
        cases z with
        | none => rfl
        | some z =>
          have hm : (monO b).isSome = false := by simpa using h
          unfold monO at hm
          by_cases hb : monR b = 0
          · unfold read5; simp [hb]
          · rw [if_neg hb] at hm; cases hm
theorem readI_good {a b c d e : List UInt8} (h1 : (num? a 1 2).isSome = true) (h2 : (monO b).isSome = true) (h3 : (num? c 4 4).isSome = true) (h4 : (clock? d).isSome = true) (h5 : (zone? e).isSome = true) :
    readI [a, b, c, d, e] = some ⟨(((num? c 4 4).getD 0 : Nat) : Int), (((monO b).getD 0 : Nat) : Int), (((num? a 1 2).getD 0 : Nat) : Int), (((clock? d).getD (0, 0, 0)).1 : Nat), (((clock? d).getD (0, 0, 0)).2.1 : Nat), (((clock? d).getD (0, 0, 0)).2.2 : Nat), (zone? e).getD 0⟩ := by
  unfold readI
  rw [readD5]
  obtain ⟨x, hx⟩ := Option.isSome_iff_exists.1 h1
  obtain ⟨y, hy⟩ := Option.isSome_iff_exists.1 h3
  obtain ⟨t, ht⟩ := Option.isSome_iff_exists.1 h4
  obtain ⟨z, hz⟩ := Option.isSome_iff_exists.1 h5
  unfold monO at h2 ⊢
  by_cases hb : monR b = 0
  · rw [if_pos hb] at h2; cases h2
  · rw [if_neg hb]
    rw [hx, hy, ht, hz]; unfold read5; simp [hb]
set_option maxRecDepth 100000 in
set_option maxHeartbeats 4000000 in
theorem readDate_any (a : Option Addr) (n c : Nat) (ps : List (List UInt8)) (w : World) (hr : RdL w a n ps) (hx : ∀ p ∈ ps, p.length ≤ 1073741824) (mt : MTab w) (hmx : ∃ m, w.cell? ⟨4, 0, none⟩ = some (.int .i64 m)) :
    Calls Tryz.prog 26 #[.slice a n c] w (DateRet (readI ps) w) := by
  have hb0 := laid7_below 0 0 0 0 0 0 0 24 w
  have hz0 := laid7_new 0 0 0 0 0 0 0 24 w
  have hzf0 : ∀ i, (w.alloc (.cells #[.int .i64 0, .int .i64 0, .int .i64 0, .int .i64 0, .int .i64 0, .int .i64 0, .int .i64 0] 24)).frozen? ⟨w.heap.size, i, none⟩ = false := fun i => World.frozen?_alloc_at _ _ _ _ rfl
  have hlt0 : w.heap.size < (w.alloc (.cells #[.int .i64 0, .int .i64 0, .int .i64 0, .int .i64 0, .int .i64 0, .int .i64 0, .int .i64 0] 24)).heap.size := by simp
  by_cases h5 : n = 5
  · have HMX : Hid (∀ u, Below w.heap.size w u → ∃ m, u.cell? ⟨4, 0, none⟩ = some (.int .i64 m)) := fun u hu => by
      obtain ⟨m, hm⟩ := hmx
      exact ⟨m, by rw [below_at hu (lt_of_cell hm)]; exact hm⟩
    have HMT : Hid (∀ u, Below w.heap.size w u → MTab u) := fun u hu => mt.below hu
    clear hmx mt
    subst h5
    obtain ⟨hl, hr⟩ := hr
    obtain ⟨b, off, rfl, hbl, hcell⟩ := hr.resolve_left (by omega)
    obtain ⟨pa, pb, pc, pd, pe, rfl⟩ : ∃ p q r s t, ps = [p, q, r, s, t] := by
      match ps, hl with
      | [p, q, r, s, t], _ => exact ⟨p, q, r, s, t, rfl⟩
    have HC : Hid (∀ u, Below w.heap.size w u → u.cell? ⟨b, off, none⟩ = some (.string (str pa)) ∧ u.cell? ⟨b, off + 1, none⟩ = some (.string (str pb)) ∧ u.cell? ⟨b, off + 2, none⟩ = some (.string (str pc)) ∧ u.cell? ⟨b, off + 3, none⟩ = some (.string (str pd)) ∧ u.cell? ⟨b, off + 4, none⟩ = some (.string (str pe))) := fun u hu =>
      ⟨(below_at hu hbl).trans (hcell 0 (by simp)), (below_at hu hbl).trans (hcell 1 (by simp)), (below_at hu hbl).trans (hcell 2 (by simp)), (below_at hu hbl).trans (hcell 3 (by simp)), (below_at hu hbl).trans (hcell 4 (by simp))⟩
    have sa := hx pa (by simp)
    have sb := hx pb (by simp)
    have sc := hx pc (by simp)
    have sd := hx pd (by simp)
    have se := hx pe (by simp)
    clear hcell hl hx hr
    obtain ⟨xa, HXA⟩ : ∃ x : Int, Hid ((((num? pa 1 2).getD 0 : Nat) : Int) = x) := ⟨_, rfl⟩
    obtain ⟨xb, HXB⟩ : ∃ x : Int, Hid ((((monO pb).getD 0 : Nat) : Int) = x) := ⟨_, rfl⟩
    obtain ⟨xc, HXC⟩ : ∃ x : Int, Hid ((((num? pc 4 4).getD 0 : Nat) : Int) = x) := ⟨_, rfl⟩
    obtain ⟨ch, HCH⟩ : ∃ x : Int, Hid (((((clock? pd).getD (0, 0, 0)).1 : Nat) : Int) = x) := ⟨_, rfl⟩
    obtain ⟨cm, HCM⟩ : ∃ x : Int, Hid (((((clock? pd).getD (0, 0, 0)).2.1 : Nat) : Int) = x) := ⟨_, rfl⟩
    obtain ⟨cs, HCS⟩ : ∃ x : Int, Hid (((((clock? pd).getD (0, 0, 0)).2.2 : Nat) : Int) = x) := ⟨_, rfl⟩
    obtain ⟨xe, HXE⟩ : ∃ x : Int, Hid ((zone? pe).getD 0 = x) := ⟨_, rfl⟩
    obtain ⟨ka, HKA⟩ : ∃ k, Hid ((num? pa 1 2).isSome = k) := ⟨_, rfl⟩
    obtain ⟨kb, HKB⟩ : ∃ k, Hid ((monO pb).isSome = k) := ⟨_, rfl⟩
    obtain ⟨kc, HKC⟩ : ∃ k, Hid ((num? pc 4 4).isSome = k) := ⟨_, rfl⟩
    obtain ⟨kd, HKD⟩ : ∃ k, Hid ((clock? pd).isSome = k) := ⟨_, rfl⟩
    obtain ⟨ke, HKE⟩ : ∃ k, Hid ((zone? pe).isSome = k) := ⟨_, rfl⟩
    have HFN : Hid ((ka = false ∨ kb = false ∨ kc = false ∨ kd = false ∨ ke = false) → readI [pa, pb, pc, pd, pe] = none) := fun h => readI_bad (by rw [HKA.out, HKB.out, HKC.out, HKD.out, HKE.out]; exact h)
    have HFS : Hid (ka = true → kb = true → kc = true → kd = true → ke = true → readI [pa, pb, pc, pd, pe] = some ⟨xc, xb, xa, ch, cm, cs, xe⟩) := fun h1 h2 h3 h4 h5 => by
      rw [readI_good (HKA.out.trans h1) (HKB.out.trans h2) (HKC.out.trans h3) (HKD.out.trans h4) (HKE.out.trans h5), HXA.out, HXB.out, HXC.out, HCH.out, HCM.out, HCS.out, HXE.out]
    have HD0 : Hid (∀ u, Calls Tryz.prog 52 #[.string (str pa), .int .i64 1, .int .i64 2] u fun e w' => e = .returned (.tuple #[.int .i64 xa, .bool ka]) ∧ w' = u) := fun u => by
      have := readDigits_any (str pa) 1 2 u (by omega); rw [str_list] at this; unfold numV at this; rw [HXA.out, HKA.out] at this; exact this
    have HD1 : Hid (∀ u, Below w.heap.size w u → Calls Tryz.prog 53 #[.string (str pb)] u fun e w' => e = .returned (.tuple #[.int .i64 xb, .bool kb]) ∧ Below u.heap.size u w') := fun u hu => by
      have := readMonth_any (str pb) u (HMT.out u hu) (by rw [str_size]; exact sb); rw [str_list] at this; unfold numV at this; rw [HXB.out, HKB.out] at this; exact this
    have HD2 : Hid (∀ u, Calls Tryz.prog 52 #[.string (str pc), .int .i64 4, .int .i64 4] u fun e w' => e = .returned (.tuple #[.int .i64 xc, .bool kc]) ∧ w' = u) := fun u => by
      have := readDigits_any (str pc) 4 4 u (by omega); rw [str_list] at this; unfold numV at this; rw [HXC.out, HKC.out] at this; exact this
    have HD3 : Hid (∀ u, Below w.heap.size w u → Calls Tryz.prog 54 #[.string (str pd)] u fun e w' => e = .returned (.tuple #[.agg #[.int .i64 0, .int .i64 0, .int .i64 0, .int .i64 ch, .int .i64 cm, .int .i64 cs, .int .i64 0], .bool kd]) ∧ Below u.heap.size u w') := fun u hu => by
      have := readClock_any (str pd) u (HMX.out u hu) (by rw [str_size]; exact sd)
      rw [str_list] at this
      unfold ClockRet clockD datV at this
      simp only at this
      rw [HCH.out, HCM.out, HCS.out, HKD.out] at this; exact this
    have HD4 : Hid (∀ u, Calls Tryz.prog 55 #[.string (str pe)] u fun e w' => e = .returned (.tuple #[.int .i64 xe, .bool ke]) ∧ w' = u) := fun u => by
      have := readZone_any (str pe) u (by rw [str_size]; exact se); rw [str_list] at this; unfold zoneV at this; rw [HXE.out, HKE.out] at this; exact this
    clear sa sb sc sd se
    generalize str pa = ta at *
    generalize str pb = tb at *
    generalize str pc = tc at *
    generalize str pd = td at *
    generalize str pe = te at *
    obtain ⟨c0, c1, _, _, _⟩ := HC.out _ hb0
    go_enter Tryz.func26, Tryz.ntmps26
    go_wp2_with fail
    refine (HD0.out _).mono ?_
    rintro e w1 ⟨rfl, rfl⟩
    go_wp2_with fail
    refine (HD1.out _ hb0).mono ?_
    rintro e w2 ⟨rfl, hb2⟩
    have hB2 := nx hb0 hb2
    have hz2 := hz0.below hb2
    have hzf2 : ∀ i, w2.frozen? ⟨w.heap.size, i, none⟩ = false := fun i => (below_fz hb2 hlt0).trans (hzf0 i)
    have hlt2 : w.heap.size < w2.heap.size := Nat.lt_of_lt_of_le hlt0 hb2.size
    clear c0 c1 hz0 hzf0 hlt0 hb0
    obtain ⟨_, _, c2, c3, _⟩ := HC.out _ hB2
    go_wp2_with fail
    refine (HD2.out _).mono ?_
    rintro e w3 ⟨rfl, rfl⟩
    go_wp2_with fail
    refine (HD3.out _ hB2).mono ?_
    rintro e w4 ⟨rfl, hb4⟩
    have HBW := Lib.hid (nx hB2 hb4)
    have hz := hz2.below hb4
    have hzf : ∀ i, w4.frozen? ⟨w.heap.size, i, none⟩ = false := fun i => (below_fz hb4 hlt2).trans (hzf2 i)
    have hlt : w.heap.size < w4.heap.size := Nat.lt_of_lt_of_le hlt2 hb4.size
    have hne : w.heap.size ≠ w4.heap.size := by omega
    clear c2 c3 hz2 hzf2 hb2 hb4
    obtain ⟨_, _, _, _, c4⟩ := HC.out _ (HBW.out.alloc HBW.out.size (.cells #[.int .i64 0, .int .i64 0, .int .i64 0, .int .i64 ch, .int .i64 cm, .int .i64 cs, .int .i64 0] 24))
    obtain ⟨z0, z1, z2, z3, z4, z5, z6⟩ := hz
    simp only at z0 z1 z2 z3 z4 z5 z6
    have g0 := hzf 0
    have g1 := hzf 1
    have g2 := hzf 2
    have g3 := hzf 3
    have g4 := hzf 4
    have g5 := hzf 5
    have g6 := hzf 6
    clear hzf
    go_wp2_with fail
    refine (HD4.out _).mono ?_
    rintro e w5 ⟨rfl, rfl⟩
    have ha : ∀ (X : World) (o : Obj) (i : Nat), X.heap.size = w4.heap.size → (X.alloc o).cell? ⟨w.heap.size, i, none⟩ = X.cell? ⟨w.heap.size, i, none⟩ := fun X o i h => World.cell?_alloc_old _ _ _ (by rw [h]; exact hne)
    cases ka with
    | false =>
      go_wp2
      refine bodyPost_ret (v := .tuple #[.agg #[.int .i64 0, .int .i64 0, .int .i64 0, .int .i64 0, .int .i64 0, .int .i64 0, .int .i64 0], .bool false]) (by simp [results, Tryz.results26, go_sem, ha, z0, z1, z2, z3, z4, z5, z6]) rfl (dateRet_none (HFN.out (by simp)) ?_)
      refine Below.alloc ?_ (by simp; omega) _
      iterate 7 refine Below.setCell ?_ (by simp) _
      exact HBW.out
    | true =>
      cases kb with
      | false =>
        go_wp2
        refine bodyPost_ret (v := .tuple #[.agg #[.int .i64 0, .int .i64 0, .int .i64 0, .int .i64 0, .int .i64 0, .int .i64 0, .int .i64 0], .bool false]) (by simp [results, Tryz.results26, go_sem, ha, z0, z1, z2, z3, z4, z5, z6]) rfl (dateRet_none (HFN.out (by simp)) ?_)
        refine Below.alloc ?_ (by simp; omega) _
        iterate 7 refine Below.setCell ?_ (by simp) _
        exact HBW.out
      | true =>
        cases kc with
        | false =>
          go_wp2
          refine bodyPost_ret (v := .tuple #[.agg #[.int .i64 0, .int .i64 0, .int .i64 0, .int .i64 0, .int .i64 0, .int .i64 0, .int .i64 0], .bool false]) (by simp [results, Tryz.results26, go_sem, ha, z0, z1, z2, z3, z4, z5, z6]) rfl (dateRet_none (HFN.out (by simp)) ?_)
          refine Below.alloc ?_ (by simp; omega) _
          iterate 7 refine Below.setCell ?_ (by simp) _
          exact HBW.out
        | true =>
          cases kd with
          | false =>
            go_wp2
            refine bodyPost_ret (v := .tuple #[.agg #[.int .i64 0, .int .i64 0, .int .i64 0, .int .i64 0, .int .i64 0, .int .i64 0, .int .i64 0], .bool false]) (by simp [results, Tryz.results26, go_sem, ha, z0, z1, z2, z3, z4, z5, z6]) rfl (dateRet_none (HFN.out (by simp)) ?_)
            refine Below.alloc ?_ (by simp; omega) _
            iterate 7 refine Below.setCell ?_ (by simp) _
            exact HBW.out
          | true =>
            cases ke with
            | false =>
              go_wp2
              refine bodyPost_ret (v := .tuple #[.agg #[.int .i64 0, .int .i64 0, .int .i64 0, .int .i64 0, .int .i64 0, .int .i64 0, .int .i64 0], .bool false]) (by simp [results, Tryz.results26, go_sem, ha, z0, z1, z2, z3, z4, z5, z6]) rfl (dateRet_none (HFN.out (by simp)) ?_)
              refine Below.alloc ?_ (by simp; omega) _
              iterate 7 refine Below.setCell ?_ (by simp) _
              exact HBW.out
            | true =>
              go_wp2
              refine bodyPost_ret (v := .tuple #[.agg #[.int .i64 xc, .int .i64 xb, .int .i64 xa, .int .i64 ch, .int .i64 cm, .int .i64 cs, .int .i64 xe], .bool true]) (by simp [results, Tryz.results26, go_sem, ha, z0, z1, z2, z3, z4, z5, z6]) rfl (dateRet_some (HFS.out (by simp) (by simp) (by simp) (by simp) (by simp)) ?_)
              refine Below.alloc ?_ (by simp; omega) _
              iterate 7 refine Below.setCell ?_ (by simp) _
              exact HBW.out
  · have HN := Lib.hid (readI_no (ps := ps) (by rw [hr.1]; exact h5))
    have e5 : ((n : Int) != 5) = true := by rw [bne_iff_ne]; omega
    clear h5 hr hx mt hmx
    go_enter Tryz.func26, Tryz.ntmps26
    go_wp2
    refine bodyPost_ret (v := .tuple #[.agg #[.int .i64 0, .int .i64 0, .int .i64 0, .int .i64 0, .int .i64 0, .int .i64 0, .int .i64 0], .bool false]) (by simp [results, Tryz.results26, go_sem]) rfl (dateRet_none HN.out ?_)
    exact hb0
end Go.Proofs.YtboopbjdehdhgaaGreatDoor
