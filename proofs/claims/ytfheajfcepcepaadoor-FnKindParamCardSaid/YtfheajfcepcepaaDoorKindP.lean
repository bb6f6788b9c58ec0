/-
  Kinds, read: what the program's functions return. No statement is proved here.
-/
import Derived.Test.YtfheajfcepcepaaDoorKindI
import Derived.Test.YtfheajfcepcepaaDoorKindC
import Derived.Test.YtfheajfcepcepaaDoorKindN
import Derived.Test.YtfheajfcepcepaaDoorDrawF2
import Derived.Test.YtfheajfcepcepaaDoorOnly
import Derived.Deep.RegionWith
import Derived.Deep.RegionHeld3
namespace Go.Proofs.YtfheajfcepcepaaDoor
open Go.RowKit

def parR (l : List UInt8) : Fld := (readP l).getD fld0
/-- What reading a parameter leaves. -/
def ParRet (l : List UInt8) (w : World) (e : Ending) (w' : World) : Prop := e = .returned (.tuple #[fldV (parR l), .bool (readP l).isSome]) ∧ Below w.heap.size w w'
theorem parRet_none {l : List UInt8} {w w' : World} (h : readP l = none) (hb : Below w.heap.size w w') : ParRet l w (.returned (.tuple #[.agg #[.string ⟨#[]⟩, .string ⟨#[]⟩], .bool false])) w' :=
  ⟨by unfold parR; rw [h]; rfl, hb⟩
theorem parRet_some {l : List UInt8} {w w' : World} {n v : ByteArray} (h : readP l = some (fld n v)) (hb : Below w.heap.size w w') : ParRet l w (.returned (.tuple #[.agg #[.string n, .string v], .bool true])) w' :=
  ⟨by unfold parR; rw [h]; show _ = Ending.returned (.tuple #[fldV (fld n v), .bool true]); rw [fldV_fld], hb⟩
theorem readP_no {l : List UInt8} (h : ∀ t, splitW (cut2 61 l).2 ≠ some [t]) : readP l = none := by
  unfold readP
  split
  · rename_i t ht; exact absurd ht (h t)
  · rfl
theorem readP_yes {l t : List UInt8} (h : splitW (cut2 61 l).2 = some [t]) : readP l = some ⟨low (trimS (cut2 61 l).1), t⟩ := by
  unfold readP; rw [h]
set_option maxRecDepth 100000 in
set_option maxHeartbeats 2000000 in
theorem readParam_any (s : ByteArray) (w : World) (tab : Tab w) (ht : isText s.data.toList = true) :
    Calls Tryd.prog 38 #[.string s] w (ParRet s.data.toList w) := by
  have hs200 := text_len ht
  rw [size_list] at hs200
  have hb0 : Below w.heap.size w (w.alloc (.cells #[.string ⟨#[]⟩, .string ⟨#[]⟩] 45)) := (Below.refl _ _).alloc (Nat.le_refl _) _
  obtain ⟨⟨_, hn1⟩, _, hn2⟩ := cut2_sub 61 s.data.toList
  have hvt := cut2_text (c := 61) ht
  have hz1 : (str (cut2 61 s.data.toList).1).size ≤ 200 := by rw [str_size]; rw [size_list] at hn1; omega
  have hz2 : (str (cut2 61 s.data.toList).2).size ≤ 200 := by rw [str_size]; rw [size_list] at hn2; omega
  have HSP : Hid (∀ u, Below w.heap.size w u → Calls Tryd.prog 74 #[.string (str (cut2 61 s.data.toList).2)] u fun e w' => ∃ v, e = .returned (.tuple #[v, .bool (splitW (cut2 61 s.data.toList).2).isSome]) ∧ OwnL u.heap.size v ((splitW (cut2 61 s.data.toList).2).getD []) w' ∧ Below u.heap.size u w') := fun u h => by
    have := splitWords_any (str (cut2 61 s.data.toList).2) u (tab.below h) (by omega)
    unfold SplitRet spO spL at this
    rw [str_list, fullW_text hvt] at this
    exact this
  have HTR : Hid (∀ u : World, Calls Tryd.prog 37 #[.string (str (cut2 61 s.data.toList).1), .string ⟨#[32]⟩] u fun e w' => e = .returned (.string (str (trimS (cut2 61 s.data.toList).1))) ∧ Below u.heap.size u w') := fun u => by
    have := trim_any (str (cut2 61 s.data.toList).1) u (by omega)
    rw [str_list] at this; exact this
  have HLO : Hid (∀ u : World, Calls Tryd.prog 36 #[.string (str (trimS (cut2 61 s.data.toList).1))] u fun e w' => e = .returned (.string (str (low (trimS (cut2 61 s.data.toList).1)))) ∧ Below u.heap.size u w') := fun u => by
    have := lowerText_any (str (trimS (cut2 61 s.data.toList).1)) u (by rw [str_size] at hz1 ⊢; have := trimS_len (cut2 61 s.data.toList).1; omega)
    rw [lowS_str] at this; exact this
  have HNO := Lib.hid (readP_no (l := s.data.toList))
  have HYE : Hid (∀ t, splitW (cut2 61 s.data.toList).2 = some [t] → readP s.data.toList = some (fld (str (low (trimS (cut2 61 s.data.toList).1))) (str t))) := fun t h => by
    rw [readP_yes h]; unfold fld; rw [str_list, str_list]
  clear ht hvt tab
  generalize str (low (trimS (cut2 61 s.data.toList).1)) = LN at *
  generalize str (trimS (cut2 61 s.data.toList).1) = TN at *
  generalize hN0 : str (cut2 61 s.data.toList).1 = N0 at *
  generalize hV0 : str (cut2 61 s.data.toList).2 = V0 at *
  have HN0 := Lib.hid hN0
  have HV0 := Lib.hid hV0
  clear hN0 hV0
  generalize splitW (cut2 61 s.data.toList).2 = O at *
  go_enter Tryd.func38, Tryd.ntmps38
  go_wp2_with fail
  refine (cut2_any s 61 _ (by omega)).mono ?_
  rintro e w1 ⟨rfl, m, rfl⟩
  rw [HN0.out, HV0.out]
  have hb1 := below_drewN hb0 m
  generalize hw1 : (w.alloc (.cells #[.string ⟨#[]⟩, .string ⟨#[]⟩] 45)).drewN m = w1 at *
  have c1 : ∀ i, w1.cell? ⟨w.heap.size, i, none⟩ = #[Value.string ⟨#[]⟩, .string ⟨#[]⟩][i]? := fun i => by
    rw [← hw1]; show (w.alloc _).cell? _ = _; rw [World.cell?_alloc_at _ _ _ _ rfl]
  have f1 : ∀ i, w1.frozen? ⟨w.heap.size, i, none⟩ = false := fun i => by
    rw [← hw1]; show (w.alloc _).frozen? _ = _; rw [World.frozen?_alloc_at _ _ _ _ rfl]
  have hl1 : w.heap.size < w1.heap.size := by rw [← hw1]; simp
  have HC1 := Lib.hid c1
  have HF1 := Lib.hid f1
  clear hw1 c1 f1
  go_wp2_with fail
  refine (HSP.out _ hb1).mono ?_
  rintro e w2 ⟨v2, rfl, ho2, hb2⟩
  have hb12 := nx hb1 hb2
  have c2 : ∀ i, w2.cell? ⟨w.heap.size, i, none⟩ = #[Value.string ⟨#[]⟩, .string ⟨#[]⟩][i]? := fun i => (below_at hb2 hl1).trans (HC1.out i)
  have f2 : ∀ i, w2.frozen? ⟨w.heap.size, i, none⟩ = false := fun i => (below_fz hb2 hl1).trans (HF1.out i)
  have hl2 : w.heap.size < w2.heap.size := Nat.lt_of_lt_of_le hl1 hb2.size
  cases O with
  | none =>
    have HN := Lib.hid (HNO.out (fun t h => by cases h))
    clear HNO HYE HTR HLO
    obtain ⟨a2, d2, rfl, _, _⟩ := ho2.read
    clear ho2
    go_wp2
    refine bodyPost_ret (v := .tuple #[.agg #[.string ⟨#[]⟩, .string ⟨#[]⟩], .bool false]) (by simp [results, Tryd.results38, go_sem, c2]) rfl (parRet_none HN.out ?_)
    exact ((hb12.setCell (by simp) _).setCell (by simp) _)
  | some xs =>
    obtain ⟨a2, d2, rfl, hr2, hm2⟩ := ho2.read
    have HR2 := Lib.hid hr2
    clear ho2 hr2
    by_cases h1 : xs.length = 1
    · match xs, h1 with
      | [t], _ =>
      have HY := Lib.hid (HYE.out t rfl)
      obtain ⟨b, off, rfl, hbl, hcell⟩ := HR2.out.2.resolve_left (by simp)
      have hq := hcell 0 (by simp)
      rw [Nat.add_zero] at hq
      replace hq : w2.cell? ⟨b, off, none⟩ = some (.string (str t)) := hq
      obtain ⟨T, hT⟩ : ∃ T, T = str t := ⟨_, rfl⟩
      rw [← hT] at hq HY
      clear hT
      clear HNO HYE hcell
      have HK : Hid (∀ w', Below w2.heap.size w2 w' → (w'.cell? ⟨b, off, none⟩ = some (.string T) ∧ w'.cell? ⟨w.heap.size, 0, none⟩ = some (.string ⟨#[]⟩) ∧ w'.cell? ⟨w.heap.size, 1, none⟩ = some (.string ⟨#[]⟩) ∧ w'.frozen? ⟨w.heap.size, 0, none⟩ = false ∧ w'.frozen? ⟨w.heap.size, 1, none⟩ = false ∧ Below w2.heap.size w2 w')) := fun u h => ⟨(below_at h hbl).trans hq, (below_at h hl2).trans (c2 0), (below_at h hl2).trans (c2 1), (below_fz h hl2).trans (f2 0), (below_fz h hl2).trans (f2 1), h⟩
      go_wp2_with fail
      go_region_with (first
        | (go_at_call 37; refine (HTR.out _).mono ?_; rintro e w6 ⟨rfl, hb6⟩; have hb7 : Below w2.heap.size w2 w6 := nx ((Below.refl _ _).drew) hb6; obtain ⟨q6, c60, c61, f60, f61, _⟩ := HK.out _ hb7; have hl6 : w.heap.size < w6.heap.size := Nat.lt_of_lt_of_le hl2 hb7.size)
        | (go_at_call 36; refine (HLO.out _).mono ?_; rintro e w7 ⟨rfl, hb8⟩; have hb9 : Below w2.heap.size w2 w7 := nx (by first | exact hb7 | assumption) hb8; obtain ⟨q7, c70, c71, f70, f71, _⟩ := HK.out _ hb9; have hl7 : w.heap.size < w7.heap.size := Nat.lt_of_lt_of_le hl2 hb9.size))
      all_goals go_wp2
      all_goals refine bodyPost_ret (v := .tuple #[.agg #[.string LN, .string T], .bool true]) (by simp [results, Tryd.results38, go_sem, c70, c71]) rfl (parRet_some HY.out ?_)
      all_goals exact (((nx hb12 hb9).setCell (by simp) _).setCell (by simp) _)
    · have hne : ((xs.length : Int) != 1) = true := by rw [bne_iff_ne]; omega
      have HN := Lib.hid (HNO.out (fun t h => by injection h with h; subst h; exact h1 rfl))
      clear HNO HYE HTR HLO
      go_wp2
      refine bodyPost_ret (v := .tuple #[.agg #[.string ⟨#[]⟩, .string ⟨#[]⟩], .bool false]) (by simp [results, Tryd.results38, go_sem, c2]) rfl (parRet_none HN.out ?_)
      exact ((hb12.setCell (by simp) _).setCell (by simp) _)
end Go.Proofs.YtfheajfcepcepaaDoor
