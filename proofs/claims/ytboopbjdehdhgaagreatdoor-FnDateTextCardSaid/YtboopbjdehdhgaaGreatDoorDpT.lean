/-
  Dates read by the model: the clock. No statement is proved here.
-/
import Derived.Test.YtboopbjdehdhgaaGreatDoorDpS
import Derived.Test.YtboopbjdehdhgaaGreatDoorDate4
import Derived.Test.YtboopbjdehdhgaaGreatDoorAddrS
namespace Go.Proofs.YtboopbjdehdhgaaGreatDoor
open Go.RowKit

def clockS3 (a b c : List UInt8) : Option (Nat × Nat × Nat) := match num? a 2 2, num? b 2 2, num? c 2 2 with | some h, some m, some s => some (h, m, s) | _, _, _ => none
theorem num_zero_s : num? [48, 48] 2 2 = some 0 := by decide
theorem clockS_two {l a b : List UInt8} (h : splitC 58 l = [a, b]) : clock? l = clockS3 a b [48, 48] := by
  unfold clock? clockS3; rw [h, num_zero_s]; dsimp only; cases num? a 2 2 <;> cases num? b 2 2 <;> rfl
theorem clockS_three {l a b c : List UInt8} (h : splitC 58 l = [a, b, c]) : clock? l = clockS3 a b c := by
  unfold clock? clockS3; rw [h]; dsimp only
  cases num? a 2 2 <;> cases num? b 2 2 <;> cases num? c 2 2 <;> rfl
theorem clockS_no {l : List UInt8} (h : (splitC 58 l).length ≠ 2) (h2 : (splitC 58 l).length ≠ 3) : clock? l = none := by
  unfold clock?
  split
  · rename_i h3; rw [h3] at h; exact absurd rfl h
  · rename_i h3; rw [h3] at h2; exact absurd rfl h2
  · rfl
theorem clockS3_none {a b c : List UInt8} (h : (num? a 2 2).isSome = false ∨ (num? b 2 2).isSome = false ∨ (num? c 2 2).isSome = false) : clockS3 a b c = none := by
  unfold clockS3
  cases ha : num? a 2 2 <;> cases hb : num? b 2 2 <;> cases hc : num? c 2 2 <;> simp_all
theorem clockS3_some {a b c : List UInt8} {x y z : Nat} (h1 : num? a 2 2 = some x) (h2 : num? b 2 2 = some y) (h3 : num? c 2 2 = some z) : clockS3 a b c = some (x, y, z) := by unfold clockS3; rw [h1, h2, h3]
theorem digP {o : Option Nat} {k : Bool} {w w' : World} {e : Ending} (hk : o.isSome = k) (h : DigRet o w e w') : ∃ v : Nat, v < 100000 ∧ e = .returned (.tuple #[.int .i64 (v : Int), .bool k]) ∧ (k = true → o = some v) ∧ w' = w := by
  obtain ⟨v, h1, h2, h3, h4⟩ := h
  subst hk
  refine ⟨v, h1, h2, fun hs => ?_, h4⟩
  cases o with
  | none => cases hs
  | some x => rw [h3 x rfl]
def TimeRet (y m d z : Int) (o : Option (Nat × Nat × Nat)) (w : World) (e : Ending) (w' : World) : Prop := ∃ h mi s : Int, e = .returned (.tuple #[.agg #[.int .i64 y, .int .i64 m, .int .i64 d, .int .i64 h, .int .i64 mi, .int .i64 s, .int .i64 z], .bool o.isSome]) ∧ (∀ a b c : Nat, o = some (a, b, c) → h = a ∧ mi = b ∧ s = c) ∧ Below w.heap.size w w'
theorem timeRet_none {y m d z h mi s : Int} {o : Option (Nat × Nat × Nat)} {w w' : World} (ho : o = none) (hb : Below w.heap.size w w') : TimeRet y m d z o w (.returned (.tuple #[.agg #[.int .i64 y, .int .i64 m, .int .i64 d, .int .i64 h, .int .i64 mi, .int .i64 s, .int .i64 z], .bool false])) w' := by
  subst ho; exact ⟨h, mi, s, rfl, (fun _ _ _ e => by cases e), hb⟩
theorem timeRet_some {y m d z h mi s : Int} {o : Option (Nat × Nat × Nat)} {a b c : Nat} {w w' : World} (ho : o = some (a, b, c) ∧ h = a ∧ mi = b ∧ s = c) (hb : Below w.heap.size w w') : TimeRet y m d z o w (.returned (.tuple #[.agg #[.int .i64 y, .int .i64 m, .int .i64 d, .int .i64 h, .int .i64 mi, .int .i64 s, .int .i64 z], .bool true])) w' := by
  obtain ⟨rfl, rfl, rfl, rfl⟩ := ho; exact ⟨_, _, _, rfl, (fun _ _ _ e => by injection e with e; injection e with e1 e2; injection e2 with e2 e3; subst e1 e2 e3; exact ⟨rfl, rfl, rfl⟩), hb⟩
set_option maxRecDepth 100000 in
set_option maxHeartbeats 4000000 in
theorem l4Time_any (s : ByteArray) (y m d h mi se z : Int) (w : World) (hs : s.size ≤ 1073741000) :
    Calls Tryz.prog 41 #[.string s, .agg #[.int .i64 y, .int .i64 m, .int .i64 d, .int .i64 h, .int .i64 mi, .int .i64 se, .int .i64 z]] w (TimeRet y m d z (clock? s.data.toList) w) := by
  go_enter Tryz.func41, Tryz.ntmps41
  go_wp2_with fail
  refine (l2Parts_any s 58 _ hs).mono ?_
  have hz0 := laid7_new y m d h mi se z 24 w
  have hf0 : ∀ i, (w.alloc (.cells #[.int .i64 y, .int .i64 m, .int .i64 d, .int .i64 h, .int .i64 mi, .int .i64 se, .int .i64 z] 24)).frozen? ⟨w.heap.size, i, none⟩ = false := fun i => World.frozen?_alloc_at _ _ _ _ rfl
  have hb0 := laid7_below y m d h mi se z 24 w
  have hlt0 : w.heap.size < (w.alloc (.cells #[.int .i64 y, .int .i64 m, .int .i64 d, .int .i64 h, .int .i64 mi, .int .i64 se, .int .i64 z] 24)).heap.size := by simp
  have hsz0 : (w.alloc (.cells #[.int .i64 y, .int .i64 m, .int .i64 d, .int .i64 h, .int .i64 mi, .int .i64 se, .int .i64 z] 24)).heap.size = w.heap.size + 1 := by simp
  generalize (w.alloc (.cells #[.int .i64 y, .int .i64 m, .int .i64 d, .int .i64 h, .int .i64 mi, .int .i64 se, .int .i64 z] 24)) = wa at *
  have hz1 := laid7_new 0 0 0 0 0 0 0 24 wa
  have hf1 : ∀ i, (wa.alloc (.cells #[.int .i64 0, .int .i64 0, .int .i64 0, .int .i64 0, .int .i64 0, .int .i64 0, .int .i64 0] 24)).frozen? ⟨wa.heap.size, i, none⟩ = false := fun i => World.frozen?_alloc_at _ _ _ _ rfl
  have hb1 := laid7_below 0 0 0 0 0 0 0 24 wa
  have hlt1 : wa.heap.size < (wa.alloc (.cells #[.int .i64 0, .int .i64 0, .int .i64 0, .int .i64 0, .int .i64 0, .int .i64 0, .int .i64 0] 24)).heap.size := by simp
  generalize (wa.alloc (.cells #[.int .i64 0, .int .i64 0, .int .i64 0, .int .i64 0, .int .i64 0, .int .i64 0, .int .i64 0] 24)) = wb at *
  have hz0 := hz0.below hb1
  have hf0 := fun i => (below_fz (o := i) hb1 hlt0).trans (hf0 i)
  have hB1 := nx hb0 hb1
  rintro e w2 ⟨v, rfl, ho, hb2⟩
  have hz0 := hz0.below hb2
  have hz1 := hz1.below hb2
  have hf0 := fun i => (below_fz (o := i) hb2 (by omega)).trans (hf0 i)
  have hf1 := fun i => (below_fz (o := i) hb2 hlt1).trans (hf1 i)
  have HB2 := Lib.hid (nx hB1 hb2)
  rw [hsz0] at hz1 hf1
  obtain ⟨a, c, rfl, hr, _⟩ := ho.read
  have HR := Lib.hid hr
  obtain ⟨y0, y1, y2, y3, y4, y5, y6⟩ := hz0
  obtain ⟨z0, z1, z2, z3, z4, z5, z6⟩ := hz1
  simp only at y0 y1 y2 y3 y4 y5 y6 z0 z1 z2 z3 z4 z5 z6
  have f3 := hf0 3
  have f4 := hf0 4
  have f5 := hf0 5
  have g0 := hf1 0
  have g1 := hf1 1
  have g2 := hf1 2
  have g3 := hf1 3
  have g4 := hf1 4
  have g5 := hf1 5
  have g6 := hf1 6
  clear hf0 hf1 hb0 hb1 hb2 hB1 hlt0 hlt1 hr ho
  skip
  by_cases h2 : (splitC 58 s.data.toList).length = 2
  · obtain ⟨pa, pb, hp⟩ : ∃ a b, splitC 58 s.data.toList = [a, b] := by
      match hq : splitC 58 s.data.toList, h2 with
      | [a, b], _ => exact ⟨a, b, rfl⟩
    have HCL := Lib.hid (clockS_two hp)
    have HSM : Hid (∀ p ∈ [pa, pb], p.length ≤ 1073741000) := fun p hp' => by rw [← hp] at hp'; have := (splitC_small 58 s.data.toList).2 p hp'; rw [size_list] at this; omega
    rw [hp] at HR ⊢
    clear h2 hp
    obtain ⟨b, off, rfl, hbl, hcell⟩ := HR.out.2.resolve_left (by simp)
    have q0 : w2.cell? ⟨b, off, none⟩ = some (.string (str pa)) := by have := hcell 0 (by simp); rwa [Nat.add_zero] at this
    have q1 : w2.cell? ⟨b, off + 1, none⟩ = some (.string (str pb)) := hcell 1 (by simp)
    clear hcell
    obtain ⟨ka, HKA⟩ : ∃ k, Hid ((num? pa 2 2).isSome = k) := ⟨_, rfl⟩
    obtain ⟨kb, HKB⟩ : ∃ k, Hid ((num? pb 2 2).isSome = k) := ⟨_, rfl⟩
    have HD0 : Hid (∀ u, Calls Tryz.prog 39 #[.string (str pa), .int .i64 2, .int .i64 2] u fun e w' => ∃ v : Nat, v < 100000 ∧ e = .returned (.tuple #[.int .i64 (v : Int), .bool ka]) ∧ (ka = true → num? pa 2 2 = some v) ∧ w' = u) := fun u => by
      have := l4Digits_any (str pa) 2 2 u (by omega) (by omega) (by rw [str_size]; exact Nat.le_trans (HSM.out pa (by simp)) (by omega)); rw [str_list] at this
      exact this.mono fun e w' h => digP HKA.out h
    have HD1 : Hid (∀ u, Calls Tryz.prog 39 #[.string (str pb), .int .i64 2, .int .i64 2] u fun e w' => ∃ v : Nat, v < 100000 ∧ e = .returned (.tuple #[.int .i64 (v : Int), .bool kb]) ∧ (kb = true → num? pb 2 2 = some v) ∧ w' = u) := fun u => by
      have := l4Digits_any (str pb) 2 2 u (by omega) (by omega) (by rw [str_size]; exact Nat.le_trans (HSM.out pb (by simp)) (by omega)); rw [str_list] at this
      exact this.mono fun e w' h => digP HKB.out h
    have HFN : Hid ((ka = false ∨ kb = false) → clock? s.data.toList = none) := fun h => by
      rw [HCL.out]; exact clockS3_none (by rw [HKA.out, HKB.out]; rcases h with h | h <;> simp [h])
    generalize str pa = sa at *
    generalize str pb = sb at *
    go_wp2_with fail
    refine (HD0.out _).mono ?_
    rintro e w5 ⟨xa, hxa, rfl, Hxa, rfl⟩
    have HXA := Lib.hid Hxa
    clear Hxa
    go_wp2_with fail
    refine (HD1.out _).mono ?_
    rintro e w5 ⟨xb, hxb, rfl, Hxb, rfl⟩
    have HXB := Lib.hid Hxb
    clear Hxb
    cases ka with
    | false =>
      go_wp2
      refine bodyPost_ret (v := .tuple #[.agg #[.int .i64 y, .int .i64 m, .int .i64 d, .int .i64 xa, .int .i64 xb, .int .i64 0, .int .i64 z], .bool false]) (by simp [results, Tryz.results41, go_sem, z0, z1, z2, z3, z4, z5, z6]) rfl (timeRet_none (HFN.out (by simp)) ?_)
      repeat' refine Below.setCell ?_ (by first | exact Nat.le_refl _ | exact Nat.le_succ _) _
      exact HB2.out
    | true =>
      cases kb with
      | false =>
        go_wp2
        refine bodyPost_ret (v := .tuple #[.agg #[.int .i64 y, .int .i64 m, .int .i64 d, .int .i64 xa, .int .i64 xb, .int .i64 0, .int .i64 z], .bool false]) (by simp [results, Tryz.results41, go_sem, z0, z1, z2, z3, z4, z5, z6]) rfl (timeRet_none (HFN.out (by simp)) ?_)
        repeat' refine Below.setCell ?_ (by first | exact Nat.le_refl _ | exact Nat.le_succ _) _
        exact HB2.out
      | true =>
        have HFS : Hid (clock? s.data.toList = some (xa, xb, 0)) := by show _ = _; rw [HCL.out]; exact clockS3_some (HXA.out rfl) (HXB.out rfl) num_zero_s
        go_wp2
        refine bodyPost_ret (v := .tuple #[.agg #[.int .i64 y, .int .i64 m, .int .i64 d, .int .i64 xa, .int .i64 xb, .int .i64 0, .int .i64 z], .bool true]) (by simp [results, Tryz.results41, go_sem, z0, z1, z2, z3, z4, z5, z6]) rfl (timeRet_some ⟨HFS.out, rfl, rfl, rfl⟩ ?_)
        repeat' refine Below.setCell ?_ (by first | exact Nat.le_refl _ | exact Nat.le_succ _) _
        exact HB2.out
  · by_cases h3 : (splitC 58 s.data.toList).length = 3
    · obtain ⟨pa, pb, pc, hp⟩ : ∃ a b c, splitC 58 s.data.toList = [a, b, c] := by
        match hq : splitC 58 s.data.toList, h3 with
        | [a, b, c], _ => exact ⟨a, b, c, rfl⟩
      have HCL := Lib.hid (clockS_three hp)
      have HSM : Hid (∀ p ∈ [pa, pb, pc], p.length ≤ 1073741000) := fun p hp' => by rw [← hp] at hp'; have := (splitC_small 58 s.data.toList).2 p hp'; rw [size_list] at this; omega
      rw [hp] at HR ⊢
      clear h2 h3 hp
      obtain ⟨b, off, rfl, hbl, hcell⟩ := HR.out.2.resolve_left (by simp)
      have q0 : w2.cell? ⟨b, off, none⟩ = some (.string (str pa)) := by have := hcell 0 (by simp); rwa [Nat.add_zero] at this
      have q1 : w2.cell? ⟨b, off + 1, none⟩ = some (.string (str pb)) := hcell 1 (by simp)
      have q2 : w2.cell? ⟨b, off + 2, none⟩ = some (.string (str pc)) := hcell 2 (by simp)
      clear hcell
      obtain ⟨ka, HKA⟩ : ∃ k, Hid ((num? pa 2 2).isSome = k) := ⟨_, rfl⟩
      obtain ⟨kb, HKB⟩ : ∃ k, Hid ((num? pb 2 2).isSome = k) := ⟨_, rfl⟩
      obtain ⟨kc, HKC⟩ : ∃ k, Hid ((num? pc 2 2).isSome = k) := ⟨_, rfl⟩
      have HD0 : Hid (∀ u, Calls Tryz.prog 39 #[.string (str pa), .int .i64 2, .int .i64 2] u fun e w' => ∃ v : Nat, v < 100000 ∧ e = .returned (.tuple #[.int .i64 (v : Int), .bool ka]) ∧ (ka = true → num? pa 2 2 = some v) ∧ w' = u) := fun u => by
        have := l4Digits_any (str pa) 2 2 u (by omega) (by omega) (by rw [str_size]; exact Nat.le_trans (HSM.out pa (by simp)) (by omega)); rw [str_list] at this
        exact this.mono fun e w' h => digP HKA.out h
      have HD1 : Hid (∀ u, Calls Tryz.prog 39 #[.string (str pb), .int .i64 2, .int .i64 2] u fun e w' => ∃ v : Nat, v < 100000 ∧ e = .returned (.tuple #[.int .i64 (v : Int), .bool kb]) ∧ (kb = true → num? pb 2 2 = some v) ∧ w' = u) := fun u => by
        have := l4Digits_any (str pb) 2 2 u (by omega) (by omega) (by rw [str_size]; exact Nat.le_trans (HSM.out pb (by simp)) (by omega)); rw [str_list] at this
        exact this.mono fun e w' h => digP HKB.out h
      have HD2 : Hid (∀ u, Calls Tryz.prog 39 #[.string (str pc), .int .i64 2, .int .i64 2] u fun e w' => ∃ v : Nat, v < 100000 ∧ e = .returned (.tuple #[.int .i64 (v : Int), .bool kc]) ∧ (kc = true → num? pc 2 2 = some v) ∧ w' = u) := fun u => by
        have := l4Digits_any (str pc) 2 2 u (by omega) (by omega) (by rw [str_size]; exact Nat.le_trans (HSM.out pc (by simp)) (by omega)); rw [str_list] at this
        exact this.mono fun e w' h => digP HKC.out h
      have HFN : Hid ((ka = false ∨ kb = false ∨ kc = false) → clock? s.data.toList = none) := fun h => by
        rw [HCL.out]; exact clockS3_none (by rw [HKA.out, HKB.out, HKC.out]; exact h)
      generalize str pa = sa at *
      generalize str pb = sb at *
      generalize str pc = sc at *
      go_wp2_with fail
      refine (HD0.out _).mono ?_
      rintro e w5 ⟨xa, hxa, rfl, Hxa, rfl⟩
      have HXA := Lib.hid Hxa
      clear Hxa
      go_wp2_with fail
      refine (HD1.out _).mono ?_
      rintro e w5 ⟨xb, hxb, rfl, Hxb, rfl⟩
      have HXB := Lib.hid Hxb
      clear Hxb
      go_wp2_with fail
      refine (HD2.out _).mono ?_
      rintro e w5 ⟨xc, hxc, rfl, Hxc, rfl⟩
      have HXC := Lib.hid Hxc
      clear Hxc
      cases ka with
      | false =>
        go_wp2
        refine bodyPost_ret (v := .tuple #[.agg #[.int .i64 y, .int .i64 m, .int .i64 d, .int .i64 xa, .int .i64 xb, .int .i64 xc, .int .i64 z], .bool false]) (by simp [results, Tryz.results41, go_sem, z0, z1, z2, z3, z4, z5, z6]) rfl (timeRet_none (HFN.out (by simp)) ?_)
        repeat' refine Below.setCell ?_ (by first | exact Nat.le_refl _ | exact Nat.le_succ _) _
        exact HB2.out
      | true =>
        cases kb with
        | false =>
          go_wp2
          refine bodyPost_ret (v := .tuple #[.agg #[.int .i64 y, .int .i64 m, .int .i64 d, .int .i64 xa, .int .i64 xb, .int .i64 xc, .int .i64 z], .bool false]) (by simp [results, Tryz.results41, go_sem, z0, z1, z2, z3, z4, z5, z6]) rfl (timeRet_none (HFN.out (by simp)) ?_)
          repeat' refine Below.setCell ?_ (by first | exact Nat.le_refl _ | exact Nat.le_succ _) _
          exact HB2.out
        | true =>
          cases kc with
          | false =>
            go_wp2
            refine bodyPost_ret (v := .tuple #[.agg #[.int .i64 y, .int .i64 m, .int .i64 d, .int .i64 xa, .int .i64 xb, .int .i64 xc, .int .i64 z], .bool false]) (by simp [results, Tryz.results41, go_sem, z0, z1, z2, z3, z4, z5, z6]) rfl (timeRet_none (HFN.out (by simp)) ?_)
            repeat' refine Below.setCell ?_ (by first | exact Nat.le_refl _ | exact Nat.le_succ _) _
            exact HB2.out
          | true =>
            have HFS : Hid (clock? s.data.toList = some (xa, xb, xc)) := by show _ = _; rw [HCL.out]; exact clockS3_some (HXA.out rfl) (HXB.out rfl) (HXC.out rfl)
            go_wp2
            refine bodyPost_ret (v := .tuple #[.agg #[.int .i64 y, .int .i64 m, .int .i64 d, .int .i64 xa, .int .i64 xb, .int .i64 xc, .int .i64 z], .bool true]) (by simp [results, Tryz.results41, go_sem, z0, z1, z2, z3, z4, z5, z6]) rfl (timeRet_some ⟨HFS.out, rfl, rfl, rfl⟩ ?_)
            repeat' refine Below.setCell ?_ (by first | exact Nat.le_refl _ | exact Nat.le_succ _) _
            exact HB2.out
    · have HN := Lib.hid (clockS_no h2 h3)
      generalize (splitC 58 s.data.toList).length = n at *
      rcases (by omega : n < 2 ∨ 3 < n) with hn | hn
      · clear h2 h3
        go_wp2
        refine bodyPost_ret (v := .tuple #[.agg #[.int .i64 y, .int .i64 m, .int .i64 d, .int .i64 h, .int .i64 mi, .int .i64 se, .int .i64 z], .bool false]) (by simp [results, Tryz.results41, go_sem, z0, z1, z2, z3, z4, z5, z6]) rfl (timeRet_none HN.out ?_)
        repeat' refine Below.setCell ?_ (by first | exact Nat.le_refl _ | exact Nat.le_succ _) _
        exact HB2.out
      · have hn' : ¬ n < 2 := by omega
        clear h2 h3
        go_wp2
        refine bodyPost_ret (v := .tuple #[.agg #[.int .i64 y, .int .i64 m, .int .i64 d, .int .i64 h, .int .i64 mi, .int .i64 se, .int .i64 z], .bool false]) (by simp [results, Tryz.results41, go_sem, z0, z1, z2, z3, z4, z5, z6]) rfl (timeRet_none HN.out ?_)
        repeat' refine Below.setCell ?_ (by first | exact Nat.le_refl _ | exact Nat.le_succ _) _
        exact HB2.out
end Go.Proofs.YtboopbjdehdhgaaGreatDoor
