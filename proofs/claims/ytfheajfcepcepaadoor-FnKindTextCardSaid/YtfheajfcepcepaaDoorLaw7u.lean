/-
  The law of chapter 7 that kinds are read back: its walk. For every input of the law: it returns true, and the inputs read as they did. Conditions: none but the statement's own.
-/
import Derived.Test.YtfheajfcepcepaaDoorLaw0
import Derived.Test.YtfheajfcepcepaaDoorZip
namespace Go.Proofs.YtfheajfcepcepaaDoor
open Go.ChangeShapes Go.WideShapes Go.ChangeAt Go.RowKit
open Go.ChangeMaps (open_string shut_string)

set_option maxRecDepth 100000 in
set_option maxHeartbeats 4000000 in
theorem fnKindText_walk (a : Option Addr) (n c : Nat) (a2 : Option Addr) (n2 c2 : Nat) (w : World) (tab : Tab w) (hc : Code w a n) (hnc : n ≤ c) (hm : c ≤ maxLen) (hc2 : Code w a2 n2) (hnc2 : n2 ≤ c2) (hm2 : c2 ≤ maxLen) :
    Calls Tryd.prog 3 #[.slice a n c, .slice a2 n2 c2] w fun e w' => e = .returned (.bool true) ∧ Below w.heap.size w w' := by
  have hm' := hm
  have hm2' := hm2
  unfold maxLen at hm' hm2'
  by_cases hn : 1048576 < n
  · have hd : decide ((1048576 : Int) < n) = true := by simp; omega
    go_enter Tryd.func3, Tryd.ntmps3
    go_wp2
    go_ret
    exact ⟨rfl, Below.refl _ _⟩
  have hd : decide ((1048576 : Int) < n) = false := by simp; omega
  by_cases hn2 : 1048576 < n2
  · have hd2 : decide ((1048576 : Int) < n2) = true := by simp; omega
    go_enter Tryd.func3, Tryd.ntmps3
    go_wp2
    go_ret
    exact ⟨rfl, Below.refl _ _⟩
  have hd2 : decide ((1048576 : Int) < n2) = false := by simp; omega
  go_enter Tryd.func3, Tryd.ntmps3
  go_wp2_with fail
  refine (drawFormatKind_any a n c w hc hnc hm).mono ?_
  rintro e w1 ⟨k, ak, dk, rfl, hok, hnk, hsk, hb1⟩
  rw [kndV_agg]
  have HK := Lib.hid (RdK.own hok (smallK2_of hsk (by omega) (by omega)))
  have HPK : Hid (isKnd k = true → parseK (str (fmtK k)).data.toList = some k) := fun h => by rw [str_list]; exact parse_fmtK h
  have hkz : (str (fmtK k)).size ≤ 150 := by rw [str_size]; exact fmtK_len k
  have HNE : Hid (isKnd k = true → ((str (fmtK k)).toList.isEmpty) = false) := fun h => by
    rw [ByteArray.toList_eq, str_list]
    have := fmtK_ne.2 h
    cases hq : fmtK k with
    | nil => exact absurd hq this
    | cons x xs => rfl
  have HEM : Hid (isKnd k = false → str (fmtK k) = ⟨#[]⟩) := fun h => by rw [fmtK_no h]; rfl
  have HF1 : Hid (∀ u, Below w1.heap.size w1 u → Calls Tryd.prog 10 #[.agg #[.string (str k.main), .string (str k.sub), .slice ak k.params.length dk]] u fun e w' => e = .returned (.string (str (fmtK k))) ∧ Below u.heap.size u w') := fun u h => formatKind_k u (tab.below (nx hb1 h)) (HK.out.below h)
  have HF2 : Hid (∀ u, Below w1.heap.size w1 u → Calls Tryd.prog 11 #[.agg #[.string (str k.main), .string (str k.sub), .slice ak k.params.length dk]] u fun e w' => e = .returned (.string (str (fmtK k))) ∧ Below u.heap.size u w') := fun u h => formatKindS_k u (HK.out.below h)
  have HV1 : Hid (∀ u, Below w1.heap.size w1 u → Calls Tryd.prog 12 #[.agg #[.string (str k.main), .string (str k.sub), .slice ak k.params.length dk]] u fun e w' => e = .returned (.bool (isKnd k)) ∧ Below u.heap.size u w') := fun u h => kindValid_k u (tab.below (nx hb1 h)) (HK.out.below h)
  have HV2 : Hid (∀ u, Below w1.heap.size w1 u → Calls Tryd.prog 13 #[.agg #[.string (str k.main), .string (str k.sub), .slice ak k.params.length dk]] u fun e w' => e = .returned (.bool (isKnd k)) ∧ Below u.heap.size u w') := fun u h => kindValidS_k u (HK.out.below h)
  have HPP1 : Hid (isKnd k = true → ∀ u, Below w.heap.size w u → Calls Tryd.prog 14 #[.string (str (fmtK k))] u fun e w' => ∃ b f, e = .returned (.tuple #[.agg #[.string (str k.main), .string (str k.sub), .slice b k.params.length f], .bool true]) ∧ RdK w' k b f ∧ Below u.heap.size u w') := fun hv u h => by
    have := parseKind_k (str (fmtK k)) u (tab.below h) (by omega)
    rw [HPK.out hv] at this; exact this
  have HSK : Hid (∀ u b f b2 f2, RdK u k b f → RdK u k b2 f2 → Calls Tryd.prog 15 #[.agg #[.string (str k.main), .string (str k.sub), .slice b k.params.length f], .agg #[.string (str k.main), .string (str k.sub), .slice b2 k.params.length f2]] u fun e w' => e = .returned (.bool true) ∧ Below u.heap.size u w') := fun u b f b2 f2 h1 h2 => by
    have := kindSame_k u h1 h2
    rw [decide_eq_true (rfl : k = k)] at this; exact this
  have HB1 := Lib.hid hb1
  clear hok hsk hnk HPK hkz
  generalize str (fmtK k) = FK at *
  generalize k.params.length = nk at *
  generalize str k.main = M1 at *
  generalize str k.sub = S1 at *
  have e0 : (FK.toList != FK.toList) = false := by simp
  have hA1 : Below w1.heap.size w1 (w1.alloc (.cells #[.string M1, .string S1, .slice ak nk dk] 25)) := (Below.refl _ _).alloc (Nat.le_refl _) _
  have HC1 := Lib.hid (KK3.new w1 (.string M1) (.string S1) (.slice ak nk dk) 25)
  have hz1 : w1.heap.size < (w1.alloc (.cells #[.string M1, .string S1, .slice ak nk dk] 25)).heap.size := by simp
  clear hb1
  go_wp2_with fail
  generalize hW1 : w1.alloc (.cells #[.string M1, .string S1, .slice ak nk dk] 25) = W1 at *
  clear hW1
  refine (HF1.out _ hA1).mono ?_
  rintro e w2 ⟨rfl, hb2⟩
  have hb12 := nx hA1 hb2
  have HC2 := Lib.hid (HC1.out.below hb2)
  have y0 := fun (y : BelowT w2) => (HC2.out.below y.below).1
  have y1 := fun (y : BelowT w2) => (HC2.out.below y.below).2.1
  have y2 := fun (y : BelowT w2) => (HC2.out.below y.below).2.2
  cases hv : isKnd k
  · have hFE := HEM.out hv
    rw [hv] at HV1 HV2
    subst hFE
    clear hv HPP1 HEM HNE
    go_wp2_with fail
    refine wp_region_quietB (W := w2) (by kernel_rfl) (by kernel_rfl) (Below.refl _ _) ?_
    repeat (go_big_quiet_step (first
      | (go_at_call 11; exact calls_belowT (HF2.out _ (nx hb12 (BelowT.below _))))
      | (go_at_call 13; exact calls_belowT (HV2.out _ (nx hb12 (BelowT.below _))))
      | (go_at_call 12; exact calls_belowT (HV1.out _ (nx hb12 (BelowT.below _))))))
    refine wpQuiet_nil ?_
    intro wz hwz
    obtain ⟨x9, rfl⟩ := hwz
    have HB9 := Lib.hid (nx HB1.out (nx hb12 x9.below))
    clear y0 y1 y2
    generalize x9.val = w9 at *
    go_wp2_with fail
    refine (drawParseKind_any a2 n2 c2 _ (hc2.below HB9.out) hnc2 hm2).mono ?_
    rintro e w20 ⟨tx, rfl, htx, hb20⟩
    have HB20 := Lib.hid (nx HB9.out hb20)
    have HP20 : Hid (∀ u, Below w.heap.size w u → Calls Tryd.prog 14 #[.string tx] u (PKL (parseK tx.data.toList) u)) := fun u h => parseKind_k tx u (tab.below h) (by omega)
    have HQ20 : Hid (∀ u, Calls Tryd.prog 17 #[.string tx] u (PKL (parseK tx.data.toList) u)) := fun u => parseKindS_k tx u (by omega)
    have HV20 : Hid ((parseK tx.data.toList).isSome = true → isKnd ((parseK tx.data.toList).getD knd0) = true) := fun h => by
      obtain ⟨z, hz⟩ := Option.isSome_iff_exists.1 h
      rw [hz]; exact parseK_valid hz
    unfold PKL at HP20 HQ20
    clear hb20
    generalize (parseK tx.data.toList).isSome = ok at *
    generalize (parseK tx.data.toList).getD knd0 = q at *
    have HPQ : Hid (isKnd q = true → parseK (str (fmtK q)).data.toList = some q) := fun h => by rw [str_list]; exact parse_fmtK h
    have hqz : (str (fmtK q)).size ≤ 150 := by rw [str_size]; exact fmtK_len q
    have HFQ : Hid (∀ u b f, Below w.heap.size w u → RdK u q b f → Calls Tryd.prog 10 #[.agg #[.string (str q.main), .string (str q.sub), .slice b q.params.length f]] u fun e w' => e = .returned (.string (str (fmtK q))) ∧ Below u.heap.size u w') := fun u b f h k => formatKind_k u (tab.below h) k
    have HVQ : Hid (∀ u b f, Below w.heap.size w u → RdK u q b f → Calls Tryd.prog 12 #[.agg #[.string (str q.main), .string (str q.sub), .slice b q.params.length f]] u fun e w' => e = .returned (.bool (isKnd q)) ∧ Below u.heap.size u w') := fun u b f h k => kindValid_k u (tab.below h) k
    have HPP : Hid (isKnd q = true → ∀ u, Below w.heap.size w u → Calls Tryd.prog 14 #[.string (str (fmtK q))] u fun e w' => ∃ b f, e = .returned (.tuple #[.agg #[.string (str q.main), .string (str q.sub), .slice b q.params.length f], .bool true]) ∧ RdK w' q b f ∧ Below u.heap.size u w') := fun hv u h => by
      have := parseKind_k (str (fmtK q)) u (tab.below h) (by omega)
      rw [HPQ.out hv] at this; exact this
    have HSQ : Hid (∀ u b f b2 f2, RdK u q b f → RdK u q b2 f2 → Calls Tryd.prog 15 #[.agg #[.string (str q.main), .string (str q.sub), .slice b q.params.length f], .agg #[.string (str q.main), .string (str q.sub), .slice b2 q.params.length f2]] u fun e w' => e = .returned (.bool true) ∧ Below u.heap.size u w') := fun u b f b2 f2 h1 h2 => by
      have := kindSame_k u h1 h2
      rw [decide_eq_true (rfl : q = q)] at this; exact this
    clear HPQ hqz
    generalize str (fmtK q) = FQ at *
    generalize q.params.length = nq at *
    generalize str q.main = MQ at *
    generalize str q.sub = SQ at *
    have e9 : (ok != ok) = false := by cases ok <;> rfl
    have e8 : (ok == ok) = true := by cases ok <;> rfl
    go_wp2_with fail
    refine (HP20.out _ HB20.out).mono ?_
    rintro e w21 ⟨b21, f21, rfl, hr21, hb21⟩
    have hA21 : Below w21.heap.size w21 (w21.alloc (.cells #[.string MQ, .string SQ, .slice b21 nq f21] 25)) := (Below.refl _ _).alloc (Nat.le_refl _) _
    have HB21 := Lib.hid (nx HB20.out (nx hb21 hA21))
    have HC21 := Lib.hid (KK3.new w21 (.string MQ) (.string SQ) (.slice b21 nq f21) 25)
    have HR21 := Lib.hid (hr21.below hA21)
    have hz21 : w21.heap.size < (w21.alloc (.cells #[.string MQ, .string SQ, .slice b21 nq f21] 25)).heap.size := by simp
    clear hA21 hr21 hb21
    go_wp2_with fail
    generalize hW21 : w21.alloc (.cells #[.string MQ, .string SQ, .slice b21 nq f21] 25) = W21 at *
    clear hW21
    refine (HQ20.out _).mono ?_
    rintro e w22 ⟨b22, f22, rfl, hr22, hb22⟩
    have hA22 : Below w22.heap.size w22 (w22.alloc (.cells #[.string MQ, .string SQ, .slice b22 nq f22] 25)) := (Below.refl _ _).alloc (Nat.le_refl _) _
    have HB22 := Lib.hid (nx HB21.out (nx hb22 hA22))
    have HC22 := Lib.hid (HC21.out.below (nx hb22 hA22))
    have HD22 := Lib.hid (KK3.new w22 (.string MQ) (.string SQ) (.slice b22 nq f22) 25)
    have HR22 := Lib.hid (HR21.out.below (nx hb22 hA22))
    have HS22 := Lib.hid (hr22.below hA22)
    have hz22 : w22.heap.size < (w22.alloc (.cells #[.string MQ, .string SQ, .slice b22 nq f22] 25)).heap.size := by simp
    have hz12 : w21.heap.size < w22.heap.size := Nat.lt_of_lt_of_le hz21 hb22.size
    clear hA22 hr22 hb22
    obtain ⟨y0, y1, y2⟩ := HC22.out
    obtain ⟨z0, z1, z2⟩ := HD22.out
    cases ok
    · go_wp2_with fail
      generalize hW22 : w22.alloc (.cells #[.string MQ, .string SQ, .slice b22 nq f22] 25) = W22 at *
      clear hW22
      refine (HSQ.out _ _ _ _ _ HR22.out HS22.out).mono ?_
      rintro e w23 ⟨rfl, hb23⟩
      clear y0 y1 y2 z0 z1 z2
      obtain ⟨y0, y1, y2⟩ := HC22.out.below hb23
      obtain ⟨z0, z1, z2⟩ := HD22.out.below hb23
      go_wp2_with fail
      refine (HSQ.out _ _ _ _ _ (HR22.out.below hb23) (HS22.out.below hb23)).mono ?_
      rintro e w24 ⟨rfl, hb24⟩
      go_wp2
      go_ret
      exact ⟨rfl, nx (nx HB22.out hb23) hb24⟩
    · have hvq := HV20.out rfl
      rw [hvq] at HVQ
      have HPP2 := Lib.hid (HPP.out hvq)
      clear hvq HPP HV20
      go_wp2_with fail
      generalize hW22 : w22.alloc (.cells #[.string MQ, .string SQ, .slice b22 nq f22] 25) = W22 at *
      clear hW22
      refine (HSQ.out _ _ _ _ _ HR22.out HS22.out).mono ?_
      rintro e w23 ⟨rfl, hb23⟩
      clear y0 y1 y2 z0 z1 z2
      have HB23 := Lib.hid (nx HB22.out hb23)
      have HC23 := Lib.hid (HC22.out.below hb23)
      have HR23 := Lib.hid (HR22.out.below hb23)
      obtain ⟨y0, y1, y2⟩ := HC23.out
      go_wp2_with fail
      refine (HFQ.out _ _ _ HB23.out HR23.out).mono ?_
      rintro e w24 ⟨rfl, hb24⟩
      have HB24 := Lib.hid (nx HB23.out hb24)
      have HC24 := Lib.hid (HC23.out.below hb24)
      have HR24 := Lib.hid (HR23.out.below hb24)
      clear y0 y1 y2 hb24
      go_wp2_with fail
      refine (HPP2.out _ HB24.out).mono ?_
      rintro e w25 ⟨b25, f25, rfl, hr25, hb25⟩
      have hA25 : Below w25.heap.size w25 (w25.alloc (.cells #[.string MQ, .string SQ, .slice b25 nq f25] 25)) := (Below.refl _ _).alloc (Nat.le_refl _) _
      have HB25 := Lib.hid (nx HB24.out (nx hb25 hA25))
      have HC25 := Lib.hid (HC24.out.below (nx hb25 hA25))
      have HR25 := Lib.hid (HR24.out.below (nx hb25 hA25))
      have HE25 := Lib.hid (KK3.new w25 (.string MQ) (.string SQ) (.slice b25 nq f25) 25)
      have HS25 := Lib.hid (hr25.below hA25)
      clear hA25 hr25 hb25
      obtain ⟨y0, y1, y2⟩ := HC25.out
      go_wp2_with fail
      generalize hW25 : w25.alloc (.cells #[.string MQ, .string SQ, .slice b25 nq f25] 25) = W25 at *
      clear hW25
      refine (HVQ.out _ _ _ HB25.out HR25.out).mono ?_
      rintro e w26 ⟨rfl, hb26⟩
      have HB26 := Lib.hid (nx HB25.out hb26)
      clear y0 y1 y2
      obtain ⟨y0, y1, y2⟩ := HC25.out.below hb26
      obtain ⟨z0, z1, z2⟩ := HE25.out.below hb26
      go_wp2_with fail
      refine (HSQ.out _ _ _ _ _ (HS25.out.below hb26) (HR25.out.below hb26)).mono ?_
      rintro e w27 ⟨rfl, hb27⟩
      go_wp2
      go_ret
      exact ⟨rfl, nx HB26.out hb27⟩
  · rw [hv] at HV1 HV2
    have HPP2 := Lib.hid (HPP1.out hv)
    have hne := HNE.out hv
    clear hv HPP1 HEM HNE
    go_wp2_with fail
    refine wp_region_quietB (W := w2) (by kernel_rfl) (by kernel_rfl) (Below.refl _ _) ?_
    repeat (go_big_quiet_step (first
      | (go_at_call 11; exact calls_belowT (HF2.out _ (nx hb12 (BelowT.below _))))
      | (go_at_call 13; exact calls_belowT (HV2.out _ (nx hb12 (BelowT.below _))))
      | (go_at_call 12; exact calls_belowT (HV1.out _ (nx hb12 (BelowT.below _))))))
    refine wpQuiet_nil ?_
    intro wz hwz
    obtain ⟨x9, rfl⟩ := hwz
    have HB9 := Lib.hid (nx HB1.out (nx hb12 x9.below))
    have HC9 := Lib.hid (HC2.out.below x9.below)
    have HR9 := Lib.hid (HK.out.below (nx hb12 x9.below))
    clear y0 y1 y2
    generalize x9.val = w9 at *
    go_wp2_with fail
    refine (HPP2.out _ HB9.out).mono ?_
    rintro e w10 ⟨b10, f10, rfl, hr10, hb10⟩
    have hA10 : Below w10.heap.size w10 (w10.alloc (.cells #[.string M1, .string S1, .slice b10 nk f10] 25)) := (Below.refl _ _).alloc (Nat.le_refl _) _
    have HB10 := Lib.hid (nx HB9.out (nx hb10 hA10))
    have HC10 := Lib.hid (HC9.out.below (nx hb10 hA10))
    have HR10 := Lib.hid (HR9.out.below (nx hb10 hA10))
    have HD10 := Lib.hid (KK3.new w10 (.string M1) (.string S1) (.slice b10 nk f10) 25)
    have HS10 := Lib.hid (hr10.below hA10)
    clear hA10 hr10 hb10
    obtain ⟨y0, y1, y2⟩ := HC10.out
    obtain ⟨z0, z1, z2⟩ := HD10.out
    go_wp2_with fail
    generalize hW10 : w10.alloc (.cells #[.string M1, .string S1, .slice b10 nk f10] 25) = W10 at *
    clear hW10
    refine (HSK.out _ _ _ _ _ HS10.out HR10.out).mono ?_
    rintro e w11 ⟨rfl, hb11⟩
    have HB11 := Lib.hid (nx HB10.out hb11)
    clear y0 y1 y2 z0 z1 z2
    go_wp2_with fail
    refine (drawParseKind_any a2 n2 c2 _ (hc2.below HB11.out) hnc2 hm2).mono ?_
    rintro e w20 ⟨tx, rfl, htx, hb20⟩
    have HB20 := Lib.hid (nx HB11.out hb20)
    have HP20 : Hid (∀ u, Below w.heap.size w u → Calls Tryd.prog 14 #[.string tx] u (PKL (parseK tx.data.toList) u)) := fun u h => parseKind_k tx u (tab.below h) (by omega)
    have HQ20 : Hid (∀ u, Calls Tryd.prog 17 #[.string tx] u (PKL (parseK tx.data.toList) u)) := fun u => parseKindS_k tx u (by omega)
    have HV20 : Hid ((parseK tx.data.toList).isSome = true → isKnd ((parseK tx.data.toList).getD knd0) = true) := fun h => by
      obtain ⟨z, hz⟩ := Option.isSome_iff_exists.1 h
      rw [hz]; exact parseK_valid hz
    unfold PKL at HP20 HQ20
    clear hb20
    generalize (parseK tx.data.toList).isSome = ok at *
    generalize (parseK tx.data.toList).getD knd0 = q at *
    have HPQ : Hid (isKnd q = true → parseK (str (fmtK q)).data.toList = some q) := fun h => by rw [str_list]; exact parse_fmtK h
    have hqz : (str (fmtK q)).size ≤ 150 := by rw [str_size]; exact fmtK_len q
    have HFQ : Hid (∀ u b f, Below w.heap.size w u → RdK u q b f → Calls Tryd.prog 10 #[.agg #[.string (str q.main), .string (str q.sub), .slice b q.params.length f]] u fun e w' => e = .returned (.string (str (fmtK q))) ∧ Below u.heap.size u w') := fun u b f h k => formatKind_k u (tab.below h) k
    have HVQ : Hid (∀ u b f, Below w.heap.size w u → RdK u q b f → Calls Tryd.prog 12 #[.agg #[.string (str q.main), .string (str q.sub), .slice b q.params.length f]] u fun e w' => e = .returned (.bool (isKnd q)) ∧ Below u.heap.size u w') := fun u b f h k => kindValid_k u (tab.below h) k
    have HPP : Hid (isKnd q = true → ∀ u, Below w.heap.size w u → Calls Tryd.prog 14 #[.string (str (fmtK q))] u fun e w' => ∃ b f, e = .returned (.tuple #[.agg #[.string (str q.main), .string (str q.sub), .slice b q.params.length f], .bool true]) ∧ RdK w' q b f ∧ Below u.heap.size u w') := fun hv u h => by
      have := parseKind_k (str (fmtK q)) u (tab.below h) (by omega)
      rw [HPQ.out hv] at this; exact this
    have HSQ : Hid (∀ u b f b2 f2, RdK u q b f → RdK u q b2 f2 → Calls Tryd.prog 15 #[.agg #[.string (str q.main), .string (str q.sub), .slice b q.params.length f], .agg #[.string (str q.main), .string (str q.sub), .slice b2 q.params.length f2]] u fun e w' => e = .returned (.bool true) ∧ Below u.heap.size u w') := fun u b f b2 f2 h1 h2 => by
      have := kindSame_k u h1 h2
      rw [decide_eq_true (rfl : q = q)] at this; exact this
    clear HPQ hqz
    generalize str (fmtK q) = FQ at *
    generalize q.params.length = nq at *
    generalize str q.main = MQ at *
    generalize str q.sub = SQ at *
    have e9 : (ok != ok) = false := by cases ok <;> rfl
    have e8 : (ok == ok) = true := by cases ok <;> rfl
    go_wp2_with fail
    refine (HP20.out _ HB20.out).mono ?_
    rintro e w21 ⟨b21, f21, rfl, hr21, hb21⟩
    have hA21 : Below w21.heap.size w21 (w21.alloc (.cells #[.string MQ, .string SQ, .slice b21 nq f21] 25)) := (Below.refl _ _).alloc (Nat.le_refl _) _
    have HB21 := Lib.hid (nx HB20.out (nx hb21 hA21))
    have HC21 := Lib.hid (KK3.new w21 (.string MQ) (.string SQ) (.slice b21 nq f21) 25)
    have HR21 := Lib.hid (hr21.below hA21)
    have hz21 : w21.heap.size < (w21.alloc (.cells #[.string MQ, .string SQ, .slice b21 nq f21] 25)).heap.size := by simp
    clear hA21 hr21 hb21
    go_wp2_with fail
    generalize hW21 : w21.alloc (.cells #[.string MQ, .string SQ, .slice b21 nq f21] 25) = W21 at *
    clear hW21
    refine (HQ20.out _).mono ?_
    rintro e w22 ⟨b22, f22, rfl, hr22, hb22⟩
    have hA22 : Below w22.heap.size w22 (w22.alloc (.cells #[.string MQ, .string SQ, .slice b22 nq f22] 25)) := (Below.refl _ _).alloc (Nat.le_refl _) _
    have HB22 := Lib.hid (nx HB21.out (nx hb22 hA22))
    have HC22 := Lib.hid (HC21.out.below (nx hb22 hA22))
    have HD22 := Lib.hid (KK3.new w22 (.string MQ) (.string SQ) (.slice b22 nq f22) 25)
    have HR22 := Lib.hid (HR21.out.below (nx hb22 hA22))
    have HS22 := Lib.hid (hr22.below hA22)
    have hz22 : w22.heap.size < (w22.alloc (.cells #[.string MQ, .string SQ, .slice b22 nq f22] 25)).heap.size := by simp
    have hz12 : w21.heap.size < w22.heap.size := Nat.lt_of_lt_of_le hz21 hb22.size
    clear hA22 hr22 hb22
    obtain ⟨y0, y1, y2⟩ := HC22.out
    obtain ⟨z0, z1, z2⟩ := HD22.out
    cases ok
    · go_wp2_with fail
      generalize hW22 : w22.alloc (.cells #[.string MQ, .string SQ, .slice b22 nq f22] 25) = W22 at *
      clear hW22
      refine (HSQ.out _ _ _ _ _ HR22.out HS22.out).mono ?_
      rintro e w23 ⟨rfl, hb23⟩
      clear y0 y1 y2 z0 z1 z2
      obtain ⟨y0, y1, y2⟩ := HC22.out.below hb23
      obtain ⟨z0, z1, z2⟩ := HD22.out.below hb23
      go_wp2_with fail
      refine (HSQ.out _ _ _ _ _ (HR22.out.below hb23) (HS22.out.below hb23)).mono ?_
      rintro e w24 ⟨rfl, hb24⟩
      go_wp2
      go_ret
      exact ⟨rfl, nx (nx HB22.out hb23) hb24⟩
    · have hvq := HV20.out rfl
      rw [hvq] at HVQ
      have HPP2 := Lib.hid (HPP.out hvq)
      clear hvq HPP HV20
      go_wp2_with fail
      generalize hW22 : w22.alloc (.cells #[.string MQ, .string SQ, .slice b22 nq f22] 25) = W22 at *
      clear hW22
      refine (HSQ.out _ _ _ _ _ HR22.out HS22.out).mono ?_
      rintro e w23 ⟨rfl, hb23⟩
      clear y0 y1 y2 z0 z1 z2
      have HB23 := Lib.hid (nx HB22.out hb23)
      have HC23 := Lib.hid (HC22.out.below hb23)
      have HR23 := Lib.hid (HR22.out.below hb23)
      obtain ⟨y0, y1, y2⟩ := HC23.out
      go_wp2_with fail
      refine (HFQ.out _ _ _ HB23.out HR23.out).mono ?_
      rintro e w24 ⟨rfl, hb24⟩
      have HB24 := Lib.hid (nx HB23.out hb24)
      have HC24 := Lib.hid (HC23.out.below hb24)
      have HR24 := Lib.hid (HR23.out.below hb24)
      clear y0 y1 y2 hb24
      go_wp2_with fail
      refine (HPP2.out _ HB24.out).mono ?_
      rintro e w25 ⟨b25, f25, rfl, hr25, hb25⟩
      have hA25 : Below w25.heap.size w25 (w25.alloc (.cells #[.string MQ, .string SQ, .slice b25 nq f25] 25)) := (Below.refl _ _).alloc (Nat.le_refl _) _
      have HB25 := Lib.hid (nx HB24.out (nx hb25 hA25))
      have HC25 := Lib.hid (HC24.out.below (nx hb25 hA25))
      have HR25 := Lib.hid (HR24.out.below (nx hb25 hA25))
      have HE25 := Lib.hid (KK3.new w25 (.string MQ) (.string SQ) (.slice b25 nq f25) 25)
      have HS25 := Lib.hid (hr25.below hA25)
      clear hA25 hr25 hb25
      obtain ⟨y0, y1, y2⟩ := HC25.out
      go_wp2_with fail
      generalize hW25 : w25.alloc (.cells #[.string MQ, .string SQ, .slice b25 nq f25] 25) = W25 at *
      clear hW25
      refine (HVQ.out _ _ _ HB25.out HR25.out).mono ?_
      rintro e w26 ⟨rfl, hb26⟩
      have HB26 := Lib.hid (nx HB25.out hb26)
      clear y0 y1 y2
      obtain ⟨y0, y1, y2⟩ := HC25.out.below hb26
      obtain ⟨z0, z1, z2⟩ := HE25.out.below hb26
      go_wp2_with fail
      refine (HSQ.out _ _ _ _ _ (HS25.out.below hb26) (HR25.out.below hb26)).mono ?_
      rintro e w27 ⟨rfl, hb27⟩
      go_wp2
      go_ret
      exact ⟨rfl, nx HB26.out hb27⟩
end Go.Proofs.YtfheajfcepcepaaDoor
