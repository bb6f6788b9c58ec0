/-
  Dates read: the time of a day. No statement is proved here.
-/
import Derived.Test.YtboopbjdehdhgaaGreatDoorRdD
import Derived.Test.YtboopbjdehdhgaaGreatDoorRowP
namespace Go.Proofs.YtboopbjdehdhgaaGreatDoor
open Go.RowKit Go.Sort

def clock3 (a b c : List UInt8) : Option (Nat × Nat × Nat) := match num? a 2 2, num? b 2 2, num? c 2 2 with | some h, some m, some s => some (h, m, s) | _, _, _ => none
theorem num_zero : num? [48, 48] 2 2 = some 0 := by decide
theorem clock_two {l a b : List UInt8} (h : splitC 58 l = [a, b]) : clock? l = clock3 a b [48, 48] := by
  unfold clock?
  simp only [h]
  unfold clock3
  rw [num_zero]
  cases num? a 2 2 <;> cases num? b 2 2 <;> rfl
theorem clock_three {l a b c : List UInt8} (h : splitC 58 l = [a, b, c]) : clock? l = clock3 a b c := by
  unfold clock?
  simp only [h]
  rfl
theorem clock_no {l : List UInt8} (h : (splitC 58 l).length ≠ 2) (h2 : (splitC 58 l).length ≠ 3) : clock? l = none := by
  unfold clock?
  split
  · rename_i e; rw [e] at h; exact absurd rfl h
  · rename_i e; rw [e] at h2; exact absurd rfl h2
  · rfl
theorem clock3_none {a b c : List UInt8} (h : (num? a 2 2).isSome = false ∨ (num? b 2 2).isSome = false ∨ (num? c 2 2).isSome = false) : clock3 a b c = none := by
  unfold clock3
  cases h1 : num? a 2 2 with
  | none => rfl
  | some x =>
    cases h2 : num? b 2 2 with
    | none => rfl
    | some y =>
      cases h3 : num? c 2 2 with
      | none => rfl
      | some z => rw [h1, h2, h3] at h; simp at h
theorem clock3_some {a b c : List UInt8} (h1 : (num? a 2 2).isSome = true) (h2 : (num? b 2 2).isSome = true) (h3 : (num? c 2 2).isSome = true) : clock3 a b c = some ((num? a 2 2).getD 0, (num? b 2 2).getD 0, (num? c 2 2).getD 0) := by
  unfold clock3
  cases h1' : num? a 2 2 with
  | none => rw [h1'] at h1; cases h1
  | some x =>
    cases h2' : num? b 2 2 with
    | none => rw [h2'] at h2; cases h2
    | some y =>
      cases h3' : num? c 2 2 with
      | none => rw [h3'] at h3; cases h3
      | some z => rfl
def clockD (o : Option (Nat × Nat × Nat)) : Dat := ⟨0, 0, 0, ((o.getD (0, 0, 0)).1 : Nat), ((o.getD (0, 0, 0)).2.1 : Nat), ((o.getD (0, 0, 0)).2.2 : Nat), 0⟩
def ClockRet (o : Option (Nat × Nat × Nat)) (w : World) (e : Ending) (w' : World) : Prop := e = .returned (.tuple #[datV (clockD o), .bool o.isSome]) ∧ Below w.heap.size w w'
theorem clockRet_none {o : Option (Nat × Nat × Nat)} {w w' : World} (h : o = none) (b : Below w.heap.size w w') : ClockRet o w (.returned (.tuple #[.agg #[.int .i64 0, .int .i64 0, .int .i64 0, .int .i64 0, .int .i64 0, .int .i64 0, .int .i64 0], .bool false])) w' := by
  subst h; exact ⟨rfl, b⟩
theorem clockRet_some {o : Option (Nat × Nat × Nat)} {x y z : Nat} {i j k : Int} {w w' : World} (h : o = some (x, y, z) ∧ i = x ∧ j = y ∧ k = z) (b : Below w.heap.size w w') : ClockRet o w (.returned (.tuple #[.agg #[.int .i64 0, .int .i64 0, .int .i64 0, .int .i64 i, .int .i64 j, .int .i64 k, .int .i64 0], .bool true])) w' := by
  obtain ⟨rfl, rfl, rfl, rfl⟩ := h; exact ⟨rfl, b⟩
theorem splitOwn_any (s : ByteArray) (c : UInt8) (w : World) (hmx : ∃ m, w.cell? ⟨4, 0, none⟩ = some (.int .i64 m)) (hs : s.size ≤ 1073741824) :
    Calls Tryz.prog 77 #[.string s, .string ⟨#[c]⟩] w fun e w' => e = .returned (.slice (some ⟨w.heap.size, 0, none⟩) (splitC c s.data.toList).length (splitC c s.data.toList).length) ∧ OwnL w.heap.size (.slice (some ⟨w.heap.size, 0, none⟩) (splitC c s.data.toList).length (splitC c s.data.toList).length) (splitC c s.data.toList) w' ∧ Below w.heap.size w w' := by
  obtain ⟨m, hm⟩ := hmx
  refine (Tryz.strings_Split s ⟨#[c]⟩ m w (by omega) hm (Nat.le_refl 1)).mono ?_
  rintro e w' ⟨rfl, rfl⟩
  have hd : (Lib.splitB ⟨#[c]⟩ 0 (Lib.countB s ⟨#[c]⟩) s).map (·.data.toList) = splitC c s.data.toList := by
    rw [Lib.splitB_data]
    have : Lib.countB s ⟨#[c]⟩ = s.data.toList.count c := Lib.count_one c s.data.toList
    rw [this]; exact splitK_C c _
  have hl : (Lib.splitB ⟨#[c]⟩ 0 (Lib.countB s ⟨#[c]⟩) s).length = Lib.countB s ⟨#[c]⟩ + 1 := Lib.splitB_all ⟨#[c]⟩ (Nat.le_refl 1) 0 _ s rfl
  have hn : (splitC c s.data.toList).length = Lib.countB s ⟨#[c]⟩ + 1 := by rw [← hd, List.length_map, hl]
  have hsm := (splitC_small c s.data.toList).1
  rw [size_list] at hsm
  refine ⟨by rw [hn], ⟨by simp, .inr ⟨w.heap.size, (splitC c s.data.toList).length, (List.map Value.string (Lib.splitB ⟨#[c]⟩ 0 (Lib.countB s ⟨#[c]⟩) s)).toArray, rfl, Nat.le_refl _, by show (w.heap.push _)[w.heap.size]? = _; simp, Nat.le_refl _, by unfold maxLen; omega, ?_, ?_⟩⟩, (Below.refl _ _).alloc (Nat.le_refl _) _⟩
  · simp [hl, hn]
  · rw [← hd]
    simp [strV, List.map_map, Function.comp_def, str_of]
    rw [List.take_of_length_le (by simp)]
theorem Laid7.belowB {R B : Nat} {D : Dat} {w w' : World} (h : Laid7 R D w) (k : Below B w w') (hr : R < B) : Laid7 R D w' := by
  obtain ⟨a, b, c, d, e, f, g⟩ := h
  exact ⟨(below_at k hr).trans a, (below_at k hr).trans b, (below_at k hr).trans c, (below_at k hr).trans d, (below_at k hr).trans e, (below_at k hr).trans f, (below_at k hr).trans g⟩
set_option maxRecDepth 100000 in
set_option maxHeartbeats 4000000 in
theorem readClock_any (s : ByteArray) (w : World) (hmx : ∃ m, w.cell? ⟨4, 0, none⟩ = some (.int .i64 m)) (hs : s.size ≤ 1073741824) :
    Calls Tryz.prog 54 #[.string s] w (ClockRet (clock? s.data.toList) w) := by
  have hb0 := laid7_below 0 0 0 0 0 0 0 24 w
  have HMX : Hid (∃ m, (w.alloc (.cells #[.int .i64 0, .int .i64 0, .int .i64 0, .int .i64 0, .int .i64 0, .int .i64 0, .int .i64 0] 24)).cell? ⟨4, 0, none⟩ = some (.int .i64 m)) := by
    obtain ⟨m, hm⟩ := hmx
    exact ⟨m, by rw [below_at hb0 (lt_of_cell hm)]; exact hm⟩
  clear hmx
  go_enter Tryz.func54, Tryz.ntmps54
  go_wp2_with fail
  have hz0 := laid7_new 0 0 0 0 0 0 0 24 w
  have hzf0 : ∀ i, (w.alloc (.cells #[.int .i64 0, .int .i64 0, .int .i64 0, .int .i64 0, .int .i64 0, .int .i64 0, .int .i64 0] 24)).frozen? ⟨w.heap.size, i, none⟩ = false := fun i => World.frozen?_alloc_at _ _ _ _ rfl
  have hlt0 : w.heap.size < (w.alloc (.cells #[.int .i64 0, .int .i64 0, .int .i64 0, .int .i64 0, .int .i64 0, .int .i64 0, .int .i64 0] 24)).heap.size := by simp
  refine (splitOwn_any s 58 _ HMX.out hs).mono ?_
  rintro e w2 ⟨rfl, ho, hb2⟩
  have hz := hz0.below hb2
  have hzf : ∀ i, w2.frozen? ⟨w.heap.size, i, none⟩ = false := fun i => (below_fz hb2 hlt0).trans (hzf0 i)
  have HB2 := Lib.hid (nx hb0 hb2)
  have hbs := hb2.size
  generalize (w.alloc (.cells #[.int .i64 0, .int .i64 0, .int .i64 0, .int .i64 0, .int .i64 0, .int .i64 0, .int .i64 0] 24)) = w1 at *
  clear hz0 hzf0 hb0 HMX
  by_cases h2 : (splitC 58 s.data.toList).length = 2
  · obtain ⟨pa, pb, hp⟩ : ∃ a b, splitC 58 s.data.toList = [a, b] := by
      match hq : splitC 58 s.data.toList, h2 with
      | [a, b], _ => exact ⟨a, b, rfl⟩
    have HCL := Lib.hid (clock_two hp)
    obtain ⟨pc, HPC⟩ : ∃ pc : List UInt8, Hid (([48, 48] : List UInt8) = pc) := ⟨_, rfl⟩
    rw [HPC.out] at HCL
    rw [hp] at ho ⊢
    clear h2 hp
    generalize hbg : w1.heap.size = bg at *
    have HBG := Lib.hid hbg
    clear hbg
    obtain ⟨xa, HXA⟩ : ∃ x : Int, Hid ((((num? pa 2 2).getD 0 : Nat) : Int) = x) := ⟨_, rfl⟩
    obtain ⟨xb, HXB⟩ : ∃ x : Int, Hid ((((num? pb 2 2).getD 0 : Nat) : Int) = x) := ⟨_, rfl⟩
    obtain ⟨xc, HXC⟩ : ∃ x : Int, Hid ((((num? pc 2 2).getD 0 : Nat) : Int) = x) := ⟨_, rfl⟩
    obtain ⟨ka, HKA⟩ : ∃ k, Hid ((num? pa 2 2).isSome = k) := ⟨_, rfl⟩
    obtain ⟨kb, HKB⟩ : ∃ k, Hid ((num? pb 2 2).isSome = k) := ⟨_, rfl⟩
    obtain ⟨kc, HKC⟩ : ∃ k, Hid ((num? pc 2 2).isSome = k) := ⟨_, rfl⟩
    have HFN : Hid ((ka = false ∨ kb = false ∨ kc = false) → clock? s.data.toList = none) := fun h => by
      rw [HCL.out]; exact clock3_none (by rw [HKA.out, HKB.out, HKC.out]; exact h)
    have HFS : Hid (ka = true → kb = true → kc = true → clock? s.data.toList = some ((num? pa 2 2).getD 0, (num? pb 2 2).getD 0, (num? pc 2 2).getD 0) ∧ xa = (((num? pa 2 2).getD 0 : Nat) : Int) ∧ xb = (((num? pb 2 2).getD 0 : Nat) : Int) ∧ xc = (((num? pc 2 2).getD 0 : Nat) : Int)) := fun h1 h2 h3 =>
      ⟨by rw [HCL.out]; exact clock3_some (HKA.out.trans h1) (HKB.out.trans h2) (HKC.out.trans h3), HXA.out.symm, HXB.out.symm, HXC.out.symm⟩
    have HOA : Hid (OwnL bg (.slice (some ⟨bg, 0, none⟩) 2 2) [pa, pb] (w2.alloc (.cells #[.string ⟨#[48, 48]⟩] 9))) := ho.keep ((Below.refl _ _).alloc (Nat.le_refl _) _)
    have HBS : Hid (bg ≤ (w2.alloc (.cells #[.string ⟨#[48, 48]⟩] 9)).heap.size) := by show _ ≤ _; simp; omega
    have HCN : Hid (∀ i, (h : i < ([[48, 48]] : List (List UInt8)).length) → (w2.alloc (.cells #[.string ⟨#[48, 48]⟩] 9)).cell? ⟨w2.heap.size, 0 + i, none⟩ = some (.string (str ([[48, 48]] : List (List UInt8))[i]))) := fun i h => by
      have : i = 0 := by simpa using h
      subst this
      exact World.cell?_alloc_at _ _ _ _ rfl
    clear ho
    go_wp2_with (at_builtin; refine wpList_append_P rfl _ _ rfl bg _ [pa, pb] [[48, 48]] w2.heap.size 0 1 1 rfl rfl HOA.out rfl HCN.out HBS.out (by simp) ?_)
    intro v3 w3 ho3 hb3
    obtain ⟨g, c3, rfl, hbg, hg, hc3, hcm⟩ := own_form ho3 (by simp)
    have hb23 : Below bg w2 w3 := ((Below.refl _ _).alloc hbs _).trans hb3
    have hz := hz.belowB hb23 hlt0
    have hzf := fun i => (below_fz (o := i) hb23 hlt0).trans (hzf i)
    have HBW : Hid (Below w.heap.size w w3) := HB2.out.trans (hb23.mono (by omega))
    have q0 := own_cell ho3 0 (by simp)
    have q1 := own_cell ho3 1 (by simp)
    have q2 := own_cell ho3 2 (by simp)
    have hc3' : 3 ≤ c3 := hc3
    replace q0 : w3.cell? ⟨g, 0, none⟩ = some (.string (str pa)) := q0
    replace q1 : w3.cell? ⟨g, 1, none⟩ = some (.string (str pb)) := q1
    replace q2 : w3.cell? ⟨g, 2, none⟩ = some (.string (str pc)) := by rw [← HPC.out]; exact q2
    clear hb3 hb2 hb23 hc3 hbg ho3
    obtain ⟨z0, z1, z2, z3, z4, z5, z6⟩ := hz
    simp only at z0 z1 z2 z3 z4 z5 z6
    have g0 := hzf 0
    have g1 := hzf 1
    have g2 := hzf 2
    have g3 := hzf 3
    have g4 := hzf 4
    have g5 := hzf 5
    have g6 := hzf 6
    clear hzf
    have HD0 : Hid (∀ u, Calls Tryz.prog 52 #[.string (str pa), .int .i64 2, .int .i64 2] u fun e w' => e = .returned (.tuple #[.int .i64 xa, .bool ka]) ∧ w' = u) := fun u => by
      have := readDigits_any (str pa) 2 2 u (by omega); rw [str_list] at this; unfold numV at this; rw [HXA.out, HKA.out] at this; exact this
    have HD1 : Hid (∀ u, Calls Tryz.prog 52 #[.string (str pb), .int .i64 2, .int .i64 2] u fun e w' => e = .returned (.tuple #[.int .i64 xb, .bool kb]) ∧ w' = u) := fun u => by
      have := readDigits_any (str pb) 2 2 u (by omega); rw [str_list] at this; unfold numV at this; rw [HXB.out, HKB.out] at this; exact this
    have HD2 : Hid (∀ u, Calls Tryz.prog 52 #[.string (str pc), .int .i64 2, .int .i64 2] u fun e w' => e = .returned (.tuple #[.int .i64 xc, .bool kc]) ∧ w' = u) := fun u => by
      have := readDigits_any (str pc) 2 2 u (by omega); rw [str_list] at this; unfold numV at this; rw [HXC.out, HKC.out] at this; exact this
    generalize str pa = sa at *
    generalize str pb = sb at *
    generalize str pc = sc at *
    go_wp2_with fail
    refine (HD0.out _).mono ?_
    rintro e w5 ⟨rfl, rfl⟩
    go_wp2_with fail
    refine (HD1.out _).mono ?_
    rintro e w5 ⟨rfl, rfl⟩
    go_wp2_with fail
    refine (HD2.out _).mono ?_
    rintro e w5 ⟨rfl, rfl⟩
    cases ka with
    | false =>
      go_wp2
      refine bodyPost_ret (v := .tuple #[.agg #[.int .i64 0, .int .i64 0, .int .i64 0, .int .i64 0, .int .i64 0, .int .i64 0, .int .i64 0], .bool false]) (by simp [results, Tryz.results54, go_sem, z0, z1, z2, z3, z4, z5, z6]) rfl (clockRet_none (HFN.out (by simp)) ?_)
      iterate 7 refine Below.setCell ?_ (by simp) _
      exact HBW.out
    | true =>
      cases kb with
      | false =>
        go_wp2
        refine bodyPost_ret (v := .tuple #[.agg #[.int .i64 0, .int .i64 0, .int .i64 0, .int .i64 0, .int .i64 0, .int .i64 0, .int .i64 0], .bool false]) (by simp [results, Tryz.results54, go_sem, z0, z1, z2, z3, z4, z5, z6]) rfl (clockRet_none (HFN.out (by simp)) ?_)
        iterate 7 refine Below.setCell ?_ (by simp) _
        exact HBW.out
      | true =>
        cases kc with
        | false =>
          go_wp2
          refine bodyPost_ret (v := .tuple #[.agg #[.int .i64 0, .int .i64 0, .int .i64 0, .int .i64 0, .int .i64 0, .int .i64 0, .int .i64 0], .bool false]) (by simp [results, Tryz.results54, go_sem, z0, z1, z2, z3, z4, z5, z6]) rfl (clockRet_none (HFN.out (by simp)) ?_)
          iterate 7 refine Below.setCell ?_ (by simp) _
          exact HBW.out
        | true =>
          go_wp2
          refine bodyPost_ret (v := .tuple #[.agg #[.int .i64 0, .int .i64 0, .int .i64 0, .int .i64 xa, .int .i64 xb, .int .i64 xc, .int .i64 0], .bool true]) (by simp [results, Tryz.results54, go_sem, z0, z1, z2, z3, z4, z5, z6]) rfl (clockRet_some (HFS.out (by simp) (by simp) (by simp)) ?_)
          iterate 7 refine Below.setCell ?_ (by simp) _
          exact HBW.out
  · by_cases h3 : (splitC 58 s.data.toList).length = 3
    · obtain ⟨pa, pb, pc, hp⟩ : ∃ a b c, splitC 58 s.data.toList = [a, b, c] := by
        match hq : splitC 58 s.data.toList, h3 with
        | [a, b, c], _ => exact ⟨a, b, c, rfl⟩
      have HCL := Lib.hid (clock_three hp)
      rw [hp] at ho ⊢
      clear h2 h3 hp
      generalize hbg : w1.heap.size = bg at *
      clear hbg
      obtain ⟨xa, HXA⟩ : ∃ x : Int, Hid ((((num? pa 2 2).getD 0 : Nat) : Int) = x) := ⟨_, rfl⟩
      obtain ⟨xb, HXB⟩ : ∃ x : Int, Hid ((((num? pb 2 2).getD 0 : Nat) : Int) = x) := ⟨_, rfl⟩
      obtain ⟨xc, HXC⟩ : ∃ x : Int, Hid ((((num? pc 2 2).getD 0 : Nat) : Int) = x) := ⟨_, rfl⟩
      obtain ⟨ka, HKA⟩ : ∃ k, Hid ((num? pa 2 2).isSome = k) := ⟨_, rfl⟩
      obtain ⟨kb, HKB⟩ : ∃ k, Hid ((num? pb 2 2).isSome = k) := ⟨_, rfl⟩
      obtain ⟨kc, HKC⟩ : ∃ k, Hid ((num? pc 2 2).isSome = k) := ⟨_, rfl⟩
      have HFN : Hid ((ka = false ∨ kb = false ∨ kc = false) → clock? s.data.toList = none) := fun h => by
        rw [HCL.out]; exact clock3_none (by rw [HKA.out, HKB.out, HKC.out]; exact h)
      have HFS : Hid (ka = true → kb = true → kc = true → clock? s.data.toList = some ((num? pa 2 2).getD 0, (num? pb 2 2).getD 0, (num? pc 2 2).getD 0) ∧ xa = (((num? pa 2 2).getD 0 : Nat) : Int) ∧ xb = (((num? pb 2 2).getD 0 : Nat) : Int) ∧ xc = (((num? pc 2 2).getD 0 : Nat) : Int)) := fun h1 h2 h3 =>
        ⟨by rw [HCL.out]; exact clock3_some (HKA.out.trans h1) (HKB.out.trans h2) (HKC.out.trans h3), HXA.out.symm, HXB.out.symm, HXC.out.symm⟩
      have q0 := own_cell ho 0 (by simp)
      have q1 := own_cell ho 1 (by simp)
      have q2 := own_cell ho 2 (by simp)
      replace q0 : w2.cell? ⟨bg, 0, none⟩ = some (.string (str pa)) := q0
      replace q1 : w2.cell? ⟨bg, 1, none⟩ = some (.string (str pb)) := q1
      replace q2 : w2.cell? ⟨bg, 2, none⟩ = some (.string (str pc)) := q2
      have HBW := Lib.hid HB2.out
      clear hb2 ho
      obtain ⟨z0, z1, z2, z3, z4, z5, z6⟩ := hz
      simp only at z0 z1 z2 z3 z4 z5 z6
      have g0 := hzf 0
      have g1 := hzf 1
      have g2 := hzf 2
      have g3 := hzf 3
      have g4 := hzf 4
      have g5 := hzf 5
      have g6 := hzf 6
      clear hzf
      have HD0 : Hid (∀ u, Calls Tryz.prog 52 #[.string (str pa), .int .i64 2, .int .i64 2] u fun e w' => e = .returned (.tuple #[.int .i64 xa, .bool ka]) ∧ w' = u) := fun u => by
        have := readDigits_any (str pa) 2 2 u (by omega); rw [str_list] at this; unfold numV at this; rw [HXA.out, HKA.out] at this; exact this
      have HD1 : Hid (∀ u, Calls Tryz.prog 52 #[.string (str pb), .int .i64 2, .int .i64 2] u fun e w' => e = .returned (.tuple #[.int .i64 xb, .bool kb]) ∧ w' = u) := fun u => by
        have := readDigits_any (str pb) 2 2 u (by omega); rw [str_list] at this; unfold numV at this; rw [HXB.out, HKB.out] at this; exact this
      have HD2 : Hid (∀ u, Calls Tryz.prog 52 #[.string (str pc), .int .i64 2, .int .i64 2] u fun e w' => e = .returned (.tuple #[.int .i64 xc, .bool kc]) ∧ w' = u) := fun u => by
        have := readDigits_any (str pc) 2 2 u (by omega); rw [str_list] at this; unfold numV at this; rw [HXC.out, HKC.out] at this; exact this
      generalize str pa = sa at *
      generalize str pb = sb at *
      generalize str pc = sc at *
      go_wp2_with fail
      refine (HD0.out _).mono ?_
      rintro e w5 ⟨rfl, rfl⟩
      go_wp2_with fail
      refine (HD1.out _).mono ?_
      rintro e w5 ⟨rfl, rfl⟩
      go_wp2_with fail
      refine (HD2.out _).mono ?_
      rintro e w5 ⟨rfl, rfl⟩
      cases ka with
      | false =>
        go_wp2
        refine bodyPost_ret (v := .tuple #[.agg #[.int .i64 0, .int .i64 0, .int .i64 0, .int .i64 0, .int .i64 0, .int .i64 0, .int .i64 0], .bool false]) (by simp [results, Tryz.results54, go_sem, z0, z1, z2, z3, z4, z5, z6]) rfl (clockRet_none (HFN.out (by simp)) ?_)
        iterate 7 refine Below.setCell ?_ (by simp) _
        exact HBW.out
      | true =>
        cases kb with
        | false =>
          go_wp2
          refine bodyPost_ret (v := .tuple #[.agg #[.int .i64 0, .int .i64 0, .int .i64 0, .int .i64 0, .int .i64 0, .int .i64 0, .int .i64 0], .bool false]) (by simp [results, Tryz.results54, go_sem, z0, z1, z2, z3, z4, z5, z6]) rfl (clockRet_none (HFN.out (by simp)) ?_)
          iterate 7 refine Below.setCell ?_ (by simp) _
          exact HBW.out
        | true =>
          cases kc with
          | false =>
            go_wp2
            refine bodyPost_ret (v := .tuple #[.agg #[.int .i64 0, .int .i64 0, .int .i64 0, .int .i64 0, .int .i64 0, .int .i64 0, .int .i64 0], .bool false]) (by simp [results, Tryz.results54, go_sem, z0, z1, z2, z3, z4, z5, z6]) rfl (clockRet_none (HFN.out (by simp)) ?_)
            iterate 7 refine Below.setCell ?_ (by simp) _
            exact HBW.out
          | true =>
            go_wp2
            refine bodyPost_ret (v := .tuple #[.agg #[.int .i64 0, .int .i64 0, .int .i64 0, .int .i64 xa, .int .i64 xb, .int .i64 xc, .int .i64 0], .bool true]) (by simp [results, Tryz.results54, go_sem, z0, z1, z2, z3, z4, z5, z6]) rfl (clockRet_some (HFS.out (by simp) (by simp) (by simp)) ?_)
            iterate 7 refine Below.setCell ?_ (by simp) _
            exact HBW.out
    · have HN := Lib.hid (clock_no h2 h3)
      have e2 : (((splitC 58 s.data.toList).length : Int) == 2) = false := by rw [beq_eq_false_iff_ne]; omega
      have e3 : (((splitC 58 s.data.toList).length : Int) != 3) = true := by rw [bne_iff_ne]; omega
      generalize (splitC 58 s.data.toList).length = L at *
      clear h2 h3 ho
      obtain ⟨z0, z1, z2, z3, z4, z5, z6⟩ := hz
      simp only at z0 z1 z2 z3 z4 z5 z6
      have g0 := hzf 0
      have g1 := hzf 1
      have g2 := hzf 2
      have g3 := hzf 3
      have g4 := hzf 4
      have g5 := hzf 5
      have g6 := hzf 6
      clear hzf
      go_wp2
      refine bodyPost_ret (v := .tuple #[.agg #[.int .i64 0, .int .i64 0, .int .i64 0, .int .i64 0, .int .i64 0, .int .i64 0, .int .i64 0], .bool false]) (by simp [results, Tryz.results54, go_sem, z0, z1, z2, z3, z4, z5, z6]) rfl (clockRet_none HN.out ?_)
      iterate 7 refine Below.setCell ?_ (by simp) _
      exact HB2.out
end Go.Proofs.YtboopbjdehdhgaaGreatDoor
