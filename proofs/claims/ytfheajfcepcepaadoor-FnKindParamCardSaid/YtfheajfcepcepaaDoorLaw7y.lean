/-
  The law of chapter 7 that parameters can come: its walk. For every input of the law: it returns true, and the input reads as it did. Conditions: none but the statement's own.
-/
import Derived.Test.YtfheajfcepcepaaDoorLaw0
import Derived.Test.YtfheajfcepcepaaDoorZip
import Derived.Deep.Cut
namespace Go.Proofs.YtfheajfcepcepaaDoor
open Go.ChangeShapes Go.WideShapes Go.ChangeAt Go.RowKit
open Go.ChangeMaps (open_string shut_string)

def zzF : Fld := ⟨[122, 122], [59, 32, 34]⟩
theorem zzF_fld : zzF = fld ⟨#[122, 122]⟩ ⟨#[59, 32, 34]⟩ := rfl
def kX (k : Knd) : Knd := ⟨k.main, k.sub, k.params ++ [zzF]⟩
theorem kX_small {k : Knd} (h : SmallK2 k) (hn : k.params.length ≤ 100) : SmallK2 (kX k) := by
  refine ⟨h.1, h.2.1, fun x hx => ?_, by show (k.params ++ [zzF]).length ≤ 1000; simp; omega⟩
  have hx : x ∈ k.params ++ [zzF] := hx
  rcases List.mem_append.1 hx with g | g
  · exact h.2.2.1 x g
  · rw [List.mem_singleton.1 g]; exact ⟨by simp [zzF], by simp [zzF]⟩
set_option maxRecDepth 100000 in
set_option maxHeartbeats 4000000 in
theorem fnKindParam_walk (a : Option Addr) (n c : Nat) (w : World) (tab : Tab w) (hc : Code w a n) (hnc : n ≤ c) (hm : c ≤ maxLen) :
    Calls Tryd.prog 7 #[.slice a n c] w fun e w' => e = .returned (.bool true) ∧ Below w.heap.size w w' := by
  have hm' := hm
  unfold maxLen at hm'
  by_cases hn : 1048576 < n
  · have hd : decide ((1048576 : Int) < n) = true := by simp; omega
    go_enter Tryd.func7, Tryd.ntmps7
    go_wp2
    go_ret
    exact ⟨rfl, Below.refl _ _⟩
  have hd : decide ((1048576 : Int) < n) = false := by simp; omega
  go_enter Tryd.func7, Tryd.ntmps7
  go_wp2_with fail
  refine (drawKindValid_any a n c w hc hnc hm).mono ?_
  rintro e w1 ⟨k, ak, dk, rfl, hok, hnk, hsk, hb1⟩
  rw [kndV_agg]
  have hs2 := smallK2_of hsk (by omega) (by omega)
  have HK := Lib.hid (RdK.own hok hs2)
  have HOK := Lib.hid hok
  have HKX := Lib.hid (kX_small hs2 (by omega))
  have HV1 : Hid (∀ u, Below w1.heap.size w1 u → Calls Tryd.prog 12 #[.agg #[.string (str k.main), .string (str k.sub), .slice ak k.params.length dk]] u fun e w' => e = .returned (.bool (isKnd k)) ∧ Below u.heap.size u w') := fun u h => kindValid_k u (tab.below (nx hb1 h)) (HK.out.below h)
  have HV2 : Hid (∀ u, Below w1.heap.size w1 u → Calls Tryd.prog 13 #[.agg #[.string (str k.main), .string (str k.sub), .slice ak k.params.length dk]] u fun e w' => e = .returned (.bool (isKnd k)) ∧ Below u.heap.size u w') := fun u h => kindValidS_k u (HK.out.below h)
  have HB1 := Lib.hid hb1
  have hnk5 : k.params.length ≤ 5 := hnk
  have HT := Lib.hid (fun u (h : Below w.heap.size w u) => tab.below h)
  have hA1 : Below w1.heap.size w1 (w1.alloc (.cells #[.string (str k.main), .string (str k.sub), .slice ak k.params.length dk] 25)) := (Below.refl _ _).alloc (Nat.le_refl _) _
  have HC1 := Lib.hid (KK3.new w1 (.string (str k.main)) (.string (str k.sub)) (.slice ak k.params.length dk) 25)
  have HMS : Hid (str k.main = str (kX k).main ∧ str k.sub = str (kX k).sub) := ⟨rfl, rfl⟩
  clear hok hsk hnk hs2 hb1 tab
  generalize hM1 : str k.main = M1 at *
  generalize hS1 : str k.sub = S1 at *
  clear hM1 hS1
  go_wp2_with fail
  generalize hW1 : w1.alloc (.cells #[.string M1, .string S1, .slice ak k.params.length dk] 25) = W1 at *
  clear hW1
  refine (HV1.out _ hA1).mono ?_
  rintro e w2 ⟨rfl, hb2⟩
  have hb12 := nx hA1 hb2
  have HC2 := Lib.hid (HC1.out.below hb2)
  obtain ⟨y0, y1, y2⟩ := HC2.out
  generalize isKnd k = v at *
  have ev : (v != v) = false := by cases v <;> rfl
  have ev2 : (v == v) = true := by cases v <;> rfl
  by_cases hbad : v = false ∨ k.params.length = 4
  · generalize k.params.length = nk at *
    rcases hbad with hbad | hbad
    · subst hbad
      go_wp2_with fail
      refine (HV2.out _ hb12).mono ?_
      rintro e w3 ⟨rfl, hb3⟩
      clear y0 y1 y2
      obtain ⟨y0, y1, y2⟩ := HC2.out.below hb3
      go_wp2_with fail
      refine (HV2.out _ (nx hb12 hb3)).mono ?_
      rintro e w4 ⟨rfl, hb4⟩
      go_wp2
      go_ret
      exact ⟨rfl, nx HB1.out (nx (nx hb12 hb3) hb4)⟩
    · subst hbad
      cases v
      all_goals
        go_wp2_with fail
        refine (HV2.out _ hb12).mono ?_
        rintro e w3 ⟨rfl, hb3⟩
        clear y0 y1 y2
        obtain ⟨y0, y1, y2⟩ := HC2.out.below hb3
        go_wp2_with fail
        refine (HV2.out _ (nx hb12 hb3)).mono ?_
        rintro e w4 ⟨rfl, hb4⟩
        go_wp2
        go_ret
        exact ⟨rfl, nx HB1.out (nx (nx hb12 hb3) hb4)⟩
  · have hvt : v = true := by cases v; exact absurd (.inl rfl) hbad; rfl
    have hn4 : ¬ k.params.length = 4 := fun h => hbad (.inr h)
    subst hvt
    have e4 : ((k.params.length : Int) == 4) = false := by rw [beq_eq_false_iff_ne]; omega
    clear hbad hn4
    go_wp2_with fail
    refine (HV2.out _ hb12).mono ?_
    rintro e w3 ⟨rfl, hb3⟩
    clear y0 y1 y2
    have hb13 := nx hb12 hb3
    have HC3 := Lib.hid (HC2.out.below hb3)
    have HO3 := Lib.hid (OwnR.keep HOK.out hb13)
    have hz3 : w1.heap.size < w3.heap.size := lt_of_cell HC3.out.1
    obtain ⟨y0, y1, y2⟩ := HC3.out
    go_upto_region 8 with fail
    have hA5 : Below w3.heap.size w3 (w3.alloc (.cells #[.string M1, .string S1, .slice ak k.params.length dk] 25)) := (Below.refl _ _).alloc (Nat.le_refl _) _
    have HX5 := Lib.hid (KF3.new w3 (.string M1) (.string S1) (.slice ak k.params.length dk) 25)
    have hb15 := nx hb13 hA5
    have HC5 := Lib.hid (HC3.out.below hA5)
    have HO5 := Lib.hid (OwnR.keep HO3.out hA5)
    have hz5 : w3.heap.size < (w3.alloc (.cells #[.string M1, .string S1, .slice ak k.params.length dk] 25)).heap.size := by simp
    clear y0 y1 y2 hA5
    generalize hW5 : w3.alloc (.cells #[.string M1, .string S1, .slice ak k.params.length dk] 25) = W5 at *
    clear hW5
    obtain ⟨X, hX⟩ : ∃ X, X = w3.heap.size := ⟨_, rfl⟩
    rw [← hX] at HX5 hz5 hz3
    rw [← hX]
    clear hX
    have hz15 : w1.heap.size < W5.heap.size := by omega
    obtain ⟨y0, y1, y2⟩ := HC5.out
    go_wp2_with (at_builtin; refine wpList_append_F rfl _ _ rfl W5.heap.size w.heap.size _ _ [] k.params rfl rfl (OwnR.empty _ _ _ W5) (OwnR.keep HO5.out ((Below.refl _ _).alloc (Nat.le_refl _) _)) (by simp) (by simp; omega) ?_)
    intro v6 w6 ho6 hb6
    have hB6 : Below W5.heap.size W5 w6 := ((Below.refl W5.heap.size W5).alloc (Nat.le_refl _) (.cells #[] 45)).trans hb6
    have hA6 : Below w6.heap.size w6 (w6.alloc (.cells #[.string ⟨#[122, 122]⟩, .string ⟨#[59, 32, 34]⟩] 45)) := (Below.refl _ _).alloc (Nat.le_refl _) _
    have ho6 : OwnF W5.heap.size v6 k.params w6 := ho6
    have HX6 := Lib.hid ((kf3_belowB HX5.out hB6 hz5).below hA6)
    clear hb6 y0 y1 y2
    go_wp2_with (at_builtin; refine wpList_append_F rfl _ _ rfl W5.heap.size w6.heap.size _ _ k.params [zzF] rfl rfl (OwnR.keep ho6 hA6) (ownF_one w6 ⟨#[122, 122]⟩ ⟨#[59, 32, 34]⟩) (Nat.le_trans hB6.size hA6.size) (by simp; omega) ?_)
    intro v7 w7 ho7 hb7
    have hB7 : Below W5.heap.size W5 w7 := (hB6.trans (hA6.mono hB6.size)).trans hb7
    have HX7 := Lib.hid (kf3_belowB HX5.out hB7 hz5)
    have HC7 := Lib.hid (HC5.out.below hB7)
    have ho7 : OwnF W5.heap.size v7 (kX k).params w7 := ho7
    have hyl : (kX k).params.length ≤ 6 := by show (k.params ++ [zzF]).length ≤ 6; simp; omega
    have hzl : W5.heap.size ≤ w7.heap.size := hB7.size
    clear hb7 hB6 hA6 ho6 HX6
    obtain ⟨a7, d7, rfl, _, _, _⟩ := OwnR.read ho7 fldC_len
    have HR8 : Hid (RdK (w7.setCell ⟨X, 2, none⟩ (.slice a7 (kX k).params.length d7)) (kX k) a7 d7) := RdK.own (ownF_offG ho7 hz5 2 _) HKX.out
    have HX8 := Lib.hid (HX7.out.set2 (.slice a7 (kX k).params.length d7))
    have HB8 : Hid (Below w.heap.size w (w7.setCell ⟨X, 2, none⟩ (.slice a7 (kX k).params.length d7))) := ((nx HB1.out hb15).trans (hB7.mono (nx HB1.out hb15).size)).setCell (by have := HB1.out.size; show w.heap.size ≤ X; omega) _
    have hz8 : X < (w7.setCell ⟨X, 2, none⟩ (.slice a7 (kX k).params.length d7)).heap.size := by simp; omega
    have hXZ : (str (fmtK (kX k))).size ≤ 150 := by rw [str_size]; exact fmtK_len _
    have HF : Hid (∀ u b f, Below w.heap.size w u → RdK u (kX k) b f → Calls Tryd.prog 10 #[.agg #[.string M1, .string S1, .slice b (kX k).params.length f]] u fun e w' => e = .returned (.string (str (fmtK (kX k)))) ∧ Below u.heap.size u w') := fun u b f h hr => by
      have := formatKind_k u (HT.out u h) hr
      rw [← HMS.out.1, ← HMS.out.2] at this; exact this
    have HV : Hid (∀ u b f, Below w.heap.size w u → RdK u (kX k) b f → Calls Tryd.prog 12 #[.agg #[.string M1, .string S1, .slice b (kX k).params.length f]] u fun e w' => e = .returned (.bool (isKnd (kX k))) ∧ Below u.heap.size u w') := fun u b f h hr => by
      have := kindValid_k u (HT.out u h) hr
      rw [← HMS.out.1, ← HMS.out.2] at this; exact this
    have HP : Hid (∀ u, Below w.heap.size w u → Calls Tryd.prog 14 #[.string (str (fmtK (kX k)))] u (PKL (parseK (fmtK (kX k))) u)) := fun u h => by
      have := parseKind_k (str (fmtK (kX k))) u (HT.out u h) (by omega)
      rw [str_list] at this; exact this
    have HPV : Hid (isKnd (kX k) = true → parseK (fmtK (kX k)) = some (kX k)) := parse_fmtK
    have HS : Hid (∀ u b f b2 f2, RdK u (kX k) b f → RdK u (kX k) b2 f2 → Calls Tryd.prog 15 #[.agg #[.string M1, .string S1, .slice b (kX k).params.length f], .agg #[.string M1, .string S1, .slice b2 (kX k).params.length f2]] u fun e w' => e = .returned (.bool true) ∧ Below u.heap.size u w') := fun u b f b2 f2 h1 h2 => by
      have := kindSame_k u h1 h2
      rw [decide_eq_true (rfl : kX k = kX k), ← HMS.out.1, ← HMS.out.2] at this; exact this
    obtain ⟨⟨z0, z1, z2⟩, zf⟩ := HX7.out
    clear ho7 hB7 HX5 HC5 HO5 hz15 hb15 HX7 HOK HO3
    generalize str (fmtK (kX k)) = FX at *
    cases hv : isKnd (kX k)
    · rw [hv] at HV
      unfold PKL at HP
      clear hv HPV HS HMS
      generalize (parseK (fmtK (kX k))).isSome = ok at *
      generalize (parseK (fmtK (kX k))).getD knd0 = q at *
      generalize (kX k).params.length = nx' at *
      generalize q.params.length = nq at *
      generalize str q.main = MQ at *
      generalize str q.sub = SQ at *
      go_wp2_with fail
      generalize hW8 : w7.setCell ⟨X, 2, none⟩ (.slice a7 nx' d7) = W8 at *
      clear hW8 z0 z1 z2 zf
      refine (HF.out _ _ _ HB8.out HR8.out).mono ?_
      rintro e w9 ⟨rfl, hb9⟩
      have HB9 := Lib.hid (nx HB8.out hb9)
      go_wp2_with fail
      refine (HP.out _ HB9.out).mono ?_
      rintro e w10 ⟨b10, f10, rfl, _, hb10⟩
      have hA10 : Below w10.heap.size w10 (w10.alloc (.cells #[.string MQ, .string SQ, .slice b10 nq f10] 25)) := (Below.refl _ _).alloc (Nat.le_refl _) _
      have h810 := nx hb9 (nx hb10 hA10)
      have HB10 := Lib.hid (nx HB9.out (nx hb10 hA10))
      have HX10 := Lib.hid (HX8.out.below h810)
      have HR10 := Lib.hid (HR8.out.below h810)
      obtain ⟨⟨z0, z1, z2⟩, _⟩ := HX10.out
      clear hA10 hb9 hb10 h810
      go_wp2_with fail
      refine (HV.out _ _ _ HB10.out HR10.out).mono ?_
      rintro e w11 ⟨rfl, hb11⟩
      go_wp2
      go_ret
      exact ⟨rfl, nx HB10.out hb11⟩
    · rw [hv] at HV
      have hp := HPV.out hv
      have HP : Hid (∀ u, Below w.heap.size w u → Calls Tryd.prog 14 #[.string FX] u fun e w' => ∃ b f, e = .returned (.tuple #[.agg #[.string M1, .string S1, .slice b (kX k).params.length f], .bool true]) ∧ RdK w' (kX k) b f ∧ Below u.heap.size u w') := fun u h => by
        have := HP.out u h
        unfold PKL at this
        rw [hp] at this
        simp only [Option.getD_some, Option.isSome_some] at this
        rw [← HMS.out.1, ← HMS.out.2] at this; exact this
      clear hv HPV HMS hp
      generalize (kX k).params.length = nx' at *
      go_wp2_with fail
      generalize hW8 : w7.setCell ⟨X, 2, none⟩ (.slice a7 nx' d7) = W8 at *
      clear hW8 z0 z1 z2 zf
      refine (HF.out _ _ _ HB8.out HR8.out).mono ?_
      rintro e w9 ⟨rfl, hb9⟩
      have HB9 := Lib.hid (nx HB8.out hb9)
      go_wp2_with fail
      refine (HP.out _ HB9.out).mono ?_
      rintro e w10 ⟨b10, f10, rfl, hr10, hb10⟩
      have hA10 : Below w10.heap.size w10 (w10.alloc (.cells #[.string M1, .string S1, .slice b10 nx' f10] 25)) := (Below.refl _ _).alloc (Nat.le_refl _) _
      have h810 := nx hb9 (nx hb10 hA10)
      have HB10 := Lib.hid (nx HB9.out (nx hb10 hA10))
      have HX10 := Lib.hid (HX8.out.below h810)
      have HR10 := Lib.hid (HR8.out.below h810)
      have HY10 := Lib.hid (KK3.new w10 (.string M1) (.string S1) (.slice b10 nx' f10) 25)
      have HS10 := Lib.hid (hr10.below hA10)
      have hz10 : w10.heap.size < (w10.alloc (.cells #[.string M1, .string S1, .slice b10 nx' f10] 25)).heap.size := by simp
      have hzX : X < w10.heap.size := Nat.lt_of_lt_of_le hz8 (Nat.le_trans hb9.size hb10.size)
      obtain ⟨⟨z0, z1, z2⟩, _⟩ := HX10.out
      clear hA10 hb9 hb10 h810 hr10
      go_wp2_with fail
      generalize hW10 : w10.alloc (.cells #[.string M1, .string S1, .slice b10 nx' f10] 25) = W10 at *
      clear hW10
      refine (HV.out _ _ _ HB10.out HR10.out).mono ?_
      rintro e w11 ⟨rfl, hb11⟩
      clear z0 z1 z2
      obtain ⟨⟨z0, z1, z2⟩, _⟩ := HX10.out.below hb11
      obtain ⟨y0, y1, y2⟩ := HY10.out.below hb11
      go_wp2_with fail
      refine (HS.out _ _ _ _ _ (HS10.out.below hb11) (HR10.out.below hb11)).mono ?_
      rintro e w12 ⟨rfl, hb12⟩
      go_wp2
      go_ret
      exact ⟨rfl, nx (nx HB10.out hb11) hb12⟩
end Go.Proofs.YtfheajfcepcepaaDoor
