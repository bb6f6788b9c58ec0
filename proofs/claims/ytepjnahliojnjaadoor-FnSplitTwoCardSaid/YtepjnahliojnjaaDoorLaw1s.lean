/-
  FnSplitTwo: two lists, one behind the other; the law's walk. For every input of the law: it returns true, and the input reads as it did. Conditions: none but the statement's own.
-/
import Derived.Test.YtepjnahliojnjaaDoorLaw0
import Derived.Test.YtepjnahliojnjaaDoorDraw2
import Derived.Test.YtepjnahliojnjaaDoorSplit
import Derived.Test.YtepjnahliojnjaaDoorSplit2
import Derived.Laws.AppendOwn
import Derived.Laws.OwnMore
import Derived.Laws.AppendOwnNone
namespace Go.Proofs.YtepjnahliojnjaaDoor
open Go.ChangeShapes Go.WideShapes Go.ChangeAt Go.RowKit
open Go.ChangeMaps (open_string shut_string)

theorem wpList_unguard {P : Program} {ops : Array Oper} {rest : List Oper} {o : Oper} {Q : Exit → Act → World → Prop} {a : Act} {w : World} (hw : Region.wanted o (yielded ops a.tmps) = true)
    (h : wpList P ops Q ({ o with guard := none } :: rest) a w) : wpList P ops Q (o :: rest) a w := by
  unfold wpList at h ⊢
  rw [if_pos (by simp [Region.wanted])] at h
  rw [if_pos hw]
  exact h
theorem wpList_append_L {ops : Array Oper} {rest : List Oper} {o : Oper} {Q : Exit → Act → World → Prop} {a : Act} {w : World} (hw : Region.wanted o (yielded ops a.tmps) = true) (s x : Operand)
    (ho : o.op = .call { callee := .builtin .append, args := #[s, x], argTypes := #[24, 24] })
    (B B2 : Nat) (v u : Value) (xs ys : List (List UInt8)) (hs : a.eval s = v) (hx : a.eval x = u) (hown : OwnL B v xs w) (hy : OwnL B2 u ys w) (hB : B ≤ w.heap.size) (hl : xs.length + ys.length ≤ 1000000)
    (h : ∀ v' w', OwnL B v' (xs ++ ys) w' → Below B w w' → wpList Tryd.prog ops Q rest (a.put o.dst v') w') : wpList Tryd.prog ops Q (o :: rest) a w := by
  obtain ⟨i0, hi, hz0, hz1, hz2⟩ := info_parts sInfo
  refine wpList_unguard hw ?_
  have hys := hy
  unfold OwnL at hys hown
  rcases hys.2 with ⟨hv, h0⟩ | ⟨g, cap, cur, hv, _⟩
  · subst hv
    have hn : ys = [] := List.length_eq_zero_iff.1 h0
    refine wpList_append_own_none rfl s x 24 ho B 9 i0 1 Tryd.underlying24 hi v xs.length (xs.map strV) hs hown hx ?_
    refine h v w ?_ (Below.refl _ _)
    subst hn
    rw [List.append_nil]; exact hown
  · subst hv
    refine wpList_append_own w rfl s x 24 ho B 9 i0 (.string ⟨#[]⟩) 1 16 Tryd.underlying24 hi hz0 hz1 hz2 rfl (by decide) v xs.length (xs.map strV) hs hown ⟨g, 0, none⟩ ys.length cap (ys.map strV) hx (by simp) ?_ ?_ ?_ ?_ hB ?_
    · intro j z hj
      have := hys.cells (g := g) rfl j z hj
      exact this
    · intro z hz
      obtain ⟨q, _, rfl⟩ := List.mem_map.1 hz
      rfl
    · unfold maxLen; omega
    · omega
    · intro v' w' ho' hgr _
      refine h v' w' ?_ ?_
      · unfold OwnL; rw [List.length_append, List.map_append]; exact ho'
      · exact (Below.refl _ _).grown hgr hB (fun k hk => (World.ownsRow.lt hown k hk).1)
theorem spL_bound2 (s : ByteArray) : (spL s.data.toList).length ≤ s.size := by
  unfold spL fullW
  split
  · cases h : splitW s.data.toList
    · simp
    · have := (splitW_bound _ _ _ (Nat.le_refl _) h).1
      rw [size_list] at this; simpa using this
  · simp
theorem fullW_two {s t : ByteArray} (hs : spO s.data.toList = true) (ht : spO t.data.toList = true) (hl : s.size + t.size < 200) :
    spO (s ++ ⟨#[32]⟩ ++ t).data.toList = true ∧ spL (s ++ ⟨#[32]⟩ ++ t).data.toList = spL s.data.toList ++ spL t.data.toList := by
  have hp : ∀ l : List UInt8, spO l = true → isText l = true ∧ splitW l = some (spL l) := by
    intro l h
    unfold spO fullW at h
    unfold spL fullW
    cases hx : isText l
    · rw [hx] at h; cases h
    · rw [hx] at h
      refine ⟨rfl, ?_⟩
      rw [if_pos rfl] at h ⊢
      cases hq : splitW l with
      | none => rw [hq] at h; cases h
      | some q => rfl
  obtain ⟨h1, h2⟩ := hp _ hs
  obtain ⟨h3, h4⟩ := hp _ ht
  have hd : (s ++ ⟨#[32]⟩ ++ t).data.toList = s.data.toList ++ 32 :: t.data.toList := by
    rw [Joins.data_append, Joins.data_append]; simp
  have hz : (s ++ ⟨#[32]⟩ ++ t).size ≤ 200 := by
    rw [ByteArray.size_append, ByteArray.size_append]
    have e1 : (ByteArray.mk #[32]).size = 1 := rfl
    omega
  have htx : isText (s ++ ⟨#[32]⟩ ++ t).data.toList = true := by
    refine isText_mk ?_ (by rw [size_list]; exact hz)
    intro x hx
    rw [hd] at hx
    rcases List.mem_append.1 hx with h | h
    · exact isText_byte h1 h
    · rcases List.mem_cons.1 h with h | h
      · subst h; decide
      · exact isText_byte h3 h
  have hw : fullW (s ++ ⟨#[32]⟩ ++ t).data.toList = some (spL s.data.toList ++ spL t.data.toList) := by
    rw [fullW_text htx, hd, splitW_two _ _ _ _ (Nat.le_refl _) h2, h4]; rfl
  unfold spO
  rw [hw]
  refine ⟨rfl, ?_⟩
  show (fullW (s ++ ⟨#[32]⟩ ++ t).data.toList).getD [] = _
  rw [hw]; rfl
set_option maxRecDepth 100000 in
set_option maxHeartbeats 1000000 in
theorem fnSplitTwo_walk (a : Option Addr) (n c : Nat) (a' : Option Addr) (n' c' : Nat) (w : World) (tab : Tab w) (hc : Code w a n) (hnc : n ≤ c) (hm : c ≤ maxLen) (hc' : Code w a' n') (hnc' : n' ≤ c') (hm' : c' ≤ maxLen) :
    Calls Tryd.prog 3 #[.slice a n c, .slice a' n' c'] w fun e w' => e = .returned (.bool true) ∧ Below w.heap.size w w' := by
  have hm1 := hm
  have hm2 := hm'
  unfold maxLen at hm1 hm2
  by_cases hn : 1048576 < n
  · have hd : decide ((1048576 : Int) < n) = true := by simp; omega
    go_enter Tryd.func3, Tryd.ntmps3
    go_wp2
    go_ret
    exact ⟨rfl, Below.refl _ _⟩
  · have hd : decide ((1048576 : Int) < n) = false := by simp; omega
    by_cases hn' : 1048576 < n'
    · have hd' : decide ((1048576 : Int) < n') = true := by simp; omega
      go_enter Tryd.func3, Tryd.ntmps3
      go_wp2
      go_ret
      exact ⟨rfl, Below.refl _ _⟩
    · have hd' : decide ((1048576 : Int) < n') = false := by simp; omega
      have HCM := Lib.hid hc'
      have HTAB := Lib.hid tab
      clear hc' tab
      go_enter Tryd.func3, Tryd.ntmps3
      go_wp2_with fail
      refine (drawSplitWords_any a n c w hc hnc hm).mono ?_
      rintro e w1 ⟨s, rfl, hs, hb1⟩
      have hbs := spL_bound2 s
      go_wp2_with fail
      refine (splitWords_any s _ (HTAB.out.below hb1) (by omega)).mono ?_
      rintro e w2 ⟨v2, rfl, ho2, hb2⟩
      have HTWO : Hid (∀ t : ByteArray, spO s.data.toList = true → spO t.data.toList = true → s.size + t.size < 200 → spO (s ++ ⟨#[32]⟩ ++ t).data.toList = true ∧ spL (s ++ ⟨#[32]⟩ ++ t).data.toList = spL s.data.toList ++ spL t.data.toList) := fun t h1 h2 h3 => fullW_two h1 h2 h3
      generalize hX : spL s.data.toList = xs at *
      generalize hO : spO s.data.toList = ok at *
      have HX := Lib.hid hX
      have HO := Lib.hid hO
      have HO2 := Lib.hid ho2
      obtain ⟨a2, c2, rfl, hr2, hm2'⟩ := ho2.read
      have HR2 := Lib.hid hr2
      have HB2 := Lib.hid (nx hb1 hb2)
      clear hX hO ho2 hr2 hb1 hb2
      go_wp2_with fail
      refine (splitWordsS_any s _ (by omega)).mono ?_
      rintro e w3 ⟨v3, rfl, ho3, hb3⟩
      rw [HX.out] at ho3
      rw [HO.out]
      obtain ⟨a3, c3, rfl, hr3, _⟩ := ho3.read
      have HR3 := Lib.hid hr3
      have HR23 : Hid (RdL w3 a2 xs.length xs) := HR2.out.below hb3
      have HO3 : Hid (OwnL w1.heap.size (.slice a2 xs.length c2) xs w3) := HO2.out.keep hb3
      have HB3 := Lib.hid (nx HB2.out hb3)
      clear ho3 hr3 hb3
      go_wp2_with fail
      refine (mwTexts_any a2 a3 xs.length c2 xs.length c3 xs xs _ HR23.out HR3.out hm2' hm2').mono ?_
      rintro e w4 ⟨rfl, hb4⟩
      rw [decide_eq_true (rfl : xs = xs)]
      have HR34 : Hid (RdL w4 a3 xs.length xs) := HR3.out.below hb4
      have HR24 : Hid (RdL w4 a2 xs.length xs) := HR23.out.below hb4
      have HO4 : Hid (OwnL w1.heap.size (.slice a2 xs.length c2) xs w4) := HO3.out.keep hb4
      have HB4 := Lib.hid (nx HB3.out hb4)
      clear hb4
      cases ok
      · go_wp2_with fail
        refine (mwTexts_any a2 a3 xs.length c2 xs.length c3 xs xs _ HR24.out HR34.out hm2' hm2').mono ?_
        rintro e w5 ⟨rfl, hb5⟩
        rw [decide_eq_true (rfl : xs = xs)]
        go_wp2
        go_ret
        exact ⟨rfl, nx HB4.out hb5⟩
      · go_wp2_with fail
        refine (drawSplitWords_any a' n' c' _ (HCM.out.below HB4.out) hnc' hm').mono ?_
        rintro e w5 ⟨t, rfl, ht, hb5⟩
        have HO5 : Hid (OwnL w1.heap.size (.slice a2 xs.length c2) xs w5) := HO4.out.keep hb5
        have HB5 := Lib.hid (nx HB4.out hb5)
        have hbt := spL_bound2 t
        have HTW := Lib.hid (HTWO.out t (by first | rfl | trivial))
        clear hb5
        go_wp2_with fail
        refine (splitWords_any t _ (HTAB.out.below HB5.out) (by omega)).mono ?_
        rintro e w6 ⟨v6, rfl, ho6, hb6⟩
        have HO56 : Hid (OwnL w1.heap.size (.slice a2 xs.length c2) xs w6) := HO5.out.keep hb6
        generalize hY : spL t.data.toList = ys at *
        generalize hP : spO t.data.toList = fine at *
        have HO6 := Lib.hid ho6
        obtain ⟨a6, c6, rfl, hr6, hm6⟩ := ho6.read
        have HB6 := Lib.hid (nx HB5.out hb6)
        have e32 : (ByteArray.mk #[32]).size = 1 := rfl
        have hcat : (s ++ ⟨#[32]⟩ ++ t).size = s.size + 1 + t.size := by rw [ByteArray.size_append, ByteArray.size_append, e32]
        clear hY hP ho6 hr6 hb6
        go_wp2_with fail
        refine (splitWords_any _ _ (HTAB.out.below HB6.out) (by rw [hcat]; omega)).mono ?_
        rintro e w7 ⟨v7, rfl, ho7, hb7⟩
        have HO57 : Hid (OwnL w1.heap.size (.slice a2 xs.length c2) xs w7) := HO56.out.keep hb7
        have HO67 : Hid (OwnL w5.heap.size (.slice a6 ys.length c6) ys w7) := HO6.out.keep hb7
        have HB7 := Lib.hid (nx HB6.out hb7)
        generalize hZ : spL (s ++ ⟨#[32]⟩ ++ t).data.toList = zs at *
        generalize hG : spO (s ++ ⟨#[32]⟩ ++ t).data.toList = good at *
        obtain ⟨a7, c7, rfl, hr7, hm7⟩ := ho7.read
        have HR7 := Lib.hid hr7
        have hst0 : (0 : Int) ≤ (s.size : Int) + t.size := by omega
        clear hZ hG ho7 hr7 hb7 hcat
        cases fine
        · go_wp2
          go_ret
          exact ⟨rfl, HB7.out⟩
        · by_cases hbig : 200 ≤ s.size + t.size
          · have hd2 : decide ((200 : Int) ≤ (s.size : Int) + t.size) = true := by simp; omega
            go_wp2
            go_ret
            exact ⟨rfl, HB7.out⟩
          · have hd2 : decide ((200 : Int) ≤ (s.size : Int) + t.size) = false := by simp; omega
            obtain ⟨hgd, hzs⟩ := HTW.out rfl (by omega)
            subst hgd
            have HZS := Lib.hid hzs
            have hlx : xs.length ≤ 300 := by omega
            have hly : ys.length ≤ 300 := by omega
            clear hzs
            go_wp2_with (at_builtin; refine wpList_append_L (by rfl) _ _ rfl w7.heap.size w1.heap.size _ _ [] xs rfl rfl (OwnL.empty w7) (HO57.out.keep ((Below.refl _ _).alloc (Nat.le_refl _) _)) (by simp) (by simp; omega) ?_)
            intro v8 w8 hown8 hb8
            have hb78 : Below w7.heap.size w7 w8 := ((Below.refl w7.heap.size w7).alloc (Nat.le_refl _) _).trans hb8
            have HB78 := Lib.hid hb78
            have HOW8 := Lib.hid hown8
            have hz78 := hb78.size
            clear hb8 hb78 hown8
            go_wp2_with (at_builtin; refine wpList_append_L (by rfl) _ _ rfl w7.heap.size w5.heap.size _ _ xs ys rfl rfl HOW8.out (HO67.out.keep HB78.out) hz78 (by omega) ?_)
            intro v9 w9 hown9 hb9
            generalize hL : xs ++ ys = l at *
            obtain ⟨a9, c9, rfl, hr9, hm9⟩ := hown9.read
            have HB79 := Lib.hid (HB78.out.trans hb9)
            have HR9 := Lib.hid hr9
            clear hown9 hr9 hb9
            go_wp2_with fail
            refine (mwTexts_any a7 a9 zs.length c7 l.length c9 zs l _ (HR7.out.below HB79.out) HR9.out hm7 hm9).mono ?_
            rintro e w10 ⟨rfl, hb10⟩
            rw [decide_eq_true HZS.out]
            go_wp2
            go_ret
            exact ⟨rfl, nx (nx HB7.out HB79.out) hb10⟩
end Go.Proofs.YtepjnahliojnjaaDoor
