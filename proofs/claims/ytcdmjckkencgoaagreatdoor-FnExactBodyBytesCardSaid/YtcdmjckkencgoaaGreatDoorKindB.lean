/-
  Kinds: what BoundaryOf returns, the program's and the model's. No statement is proved here.
-/
import Derived.Test.YtcdmjckkencgoaaGreatDoorKindI
import Derived.Test.YtcdmjckkencgoaaGreatDoorPart
import Derived.Test.YtcdmjckkencgoaaGreatDoorKindV
import Derived.Test.YtcdmjckkencgoaaGreatDoorPartS
namespace Go.Proofs.YtcdmjckkencgoaaGreatDoor
open Go.RowKit

def bndOf (k : Knd) : Option (List UInt8) := if isKnd k = true ∧ k.main = multiL ∧ isBnd (getR k.params bndL) = true then some (getR k.params bndL) else none
theorem bndOf_some {k : Knd} (h1 : isKnd k = true) (h2 : k.main = multiL) (h3 : isBnd (getR k.params bndL) = true) : bndOf k = some (getR k.params bndL) := if_pos ⟨h1, h2, h3⟩
theorem bndOf_no1 {k : Knd} (h1 : isKnd k = false) : bndOf k = none := if_neg fun c => by rw [h1] at c; cases c.1
theorem bndOf_no2 {k : Knd} (h : k.main ≠ multiL) : bndOf k = none := if_neg fun c => h c.2.1
theorem bndOf_no3 {k : Knd} (h : isBnd (getR k.params bndL) = false) : bndOf k = none := if_neg fun c => by rw [h] at c; cases c.2.2
theorem bndOf_no4 {k : Knd} (h : (getF k.params bndL).isSome = false) : bndOf k = none := bndOf_no3 (by
  have : getF k.params bndL = none := by simpa using h
  unfold getR; rw [this]; rfl)
theorem getR_len {xs : List Fld} {n : List UInt8} {M : Nat} (h : ∀ x ∈ xs, SmallF M x) : (getR xs n).length ≤ M := by
  rcases findN_cases xs n with ⟨hq, hall⟩ | ⟨i, hi, hq, h1, h2⟩
  · unfold getR; rw [getF_none hall]; exact Nat.zero_le _
  · unfold getR; rw [getF_at hi h1 h2]; exact (h _ (List.getElem_mem hi)).2
def BndRet (o : Option (List UInt8)) (w : World) (e : Ending) (w' : World) : Prop := e = .returned (.tuple #[.string (str (o.getD [])), .bool o.isSome]) ∧ Below w.heap.size w w'
theorem bndRet_none {o : Option (List UInt8)} {w w' : World} {x : ByteArray} (h : o = none) (hx : x = str []) (hb : Below w.heap.size w w') : BndRet o w (.returned (.tuple #[.string x, .bool false])) w' := by subst h hx; exact ⟨rfl, hb⟩
theorem bndRet_some {o : Option (List UInt8)} {b : List UInt8} {w w' : World} {x : ByteArray} (h : o = some b) (hx : x = str b) (hb : Below w.heap.size w w') : BndRet o w (.returned (.tuple #[.string x, .bool true])) w' := by subst h hx; exact ⟨rfl, hb⟩
theorem lst_ne {s : ByteArray} {l : List UInt8} (h : s.data.toList ≠ l) : (s.toList == l) = false ∧ (s.toList != l) = true := by
  have : (s.toList == l) = false := by rw [ByteArray.toList_eq, beq_eq_false_iff_ne]; exact h
  exact ⟨this, by unfold bne; rw [this]; rfl⟩
theorem lst_eq {s : ByteArray} {l : List UInt8} (h : s.data.toList = l) : (s.toList == l) = true ∧ (s.toList != l) = false := by
  have : (s.toList == l) = true := by rw [ByteArray.toList_eq, h]; simp
  exact ⟨this, by unfold bne; rw [this]; rfl⟩
set_option maxRecDepth 100000 in
set_option maxHeartbeats 1000000 in
theorem boundaryOf_any (m s : ByteArray) (a : Option Addr) (n c : Nat) (xs : List Fld) (w : World) (tab : Tab w) (hm : m.size ≤ 1073741824) (hs : s.size ≤ 1073741824) (hr : RdF w a n xs) (hn : n ≤ 1073741824) (hx : ∀ x ∈ xs, SmallF 1048576 x) :
    Calls Tryz.prog 97 #[.agg #[.string m, .string s, .slice a n c]] w (BndRet (bndOf ⟨m.data.toList, s.data.toList, xs⟩) w) := by
  have hb0 : Below w.heap.size w (w.alloc (.cells #[.string m, .string s, .slice a n c] 97)) := (Below.refl _ _).alloc (Nat.le_refl _) _
  have HK0 := Lib.hid (KK3.new w (.string m) (.string s) (.slice a n c) 97)
  have HV := Lib.hid (kindValid_any m s a n c xs _ (tab.below hb0) hm hs (hr.below hb0) hn hx)
  have HG : Hid (∀ u, Below w.heap.size w u → Calls Tryz.prog 75 #[.slice a n c, .string ⟨#[98, 111, 117, 110, 100, 97, 114, 121]⟩] u fun e w' => e = .returned (.tuple #[.string (str (getR xs bndL)), .bool (getF xs bndL).isSome]) ∧ Below u.heap.size u w') := fun u h => getField_any a n c xs ⟨#[98, 111, 117, 110, 100, 97, 114, 121]⟩ u (hr.below h) hn (fun x hx' => (hx x hx').up (by omega)) (by decide)
  have hgl : (str (getR xs bndL)).size ≤ 1048576 := by rw [str_size]; exact getR_len hx
  have HB : Hid (∀ u, Calls Tryz.prog 135 #[.string (str (getR xs bndL))] u fun e w' => e = .returned (.bool (isBnd (getR xs bndL))) ∧ u = w') := fun u => by
    have := boundaryValid_any (str (getR xs bndL)) u (by omega)
    rw [str_list] at this; exact this
  have HNO : Hid ((⟨#[]⟩ : ByteArray) = str []) := rfl
  clear hr tab
  cases hv : isKnd ⟨m.data.toList, s.data.toList, xs⟩
  · have HN := Lib.hid (bndOf_no1 hv)
    rw [hv] at HV
    clear hv
    go_enter Tryz.func97, Tryz.ntmps97
    go_wp2_with fail
    refine (HV.out).mono ?_
    rintro e w1 ⟨rfl, hb1⟩
    go_wp2
    go_ret2
    exact bndRet_none HN.out HNO.out (nx hb0 hb1)
  · rw [hv] at HV
    by_cases hmn : m.data.toList = multiL
    · obtain ⟨e1, e2⟩ := lst_eq hmn
      unfold multiL at e1 e2
      have HSM : Hid (isBnd (getR xs bndL) = true → bndOf ⟨m.data.toList, s.data.toList, xs⟩ = some (getR xs bndL)) := fun h => bndOf_some hv hmn h
      have HNN : Hid (isBnd (getR xs bndL) = false → bndOf ⟨m.data.toList, s.data.toList, xs⟩ = none) := fun h => bndOf_no3 h
      generalize hGR : getR xs bndL = gr at *
      clear hGR
      generalize (getF xs bndL).isSome = gs at *
      clear hv hmn
      cases hbn : isBnd gr
      · have HN := Lib.hid (HNN.out hbn)
        rw [hbn] at HB
        clear hbn HSM
        generalize str gr = GR at *
        go_enter Tryz.func97, Tryz.ntmps97
        go_wp2_with fail
        refine (HV.out).mono ?_
        rintro e w1 ⟨rfl, hb1⟩
        obtain ⟨k0, k1, k2⟩ := HK0.out.below hb1
        go_wp2_with fail
        refine (HG.out _ (nx hb0 hb1)).mono ?_
        rintro e w2 ⟨rfl, hb2⟩
        clear k0 k1 k2
        go_wp2_with fail
        refine (HB.out _).mono ?_
        rintro e w3 ⟨rfl, rfl⟩
        go_wp2
        go_ret2
        exact bndRet_none HN.out HNO.out (nx hb0 (nx hb1 hb2))
      · have HN := Lib.hid (HSM.out hbn)
        rw [hbn] at HB
        clear hbn HNN
        have HGE : Hid (str gr = str gr) := rfl
        generalize hGR : str gr = GR at HG HB hgl
        have HGR := Lib.hid hGR
        clear hGR
        go_enter Tryz.func97, Tryz.ntmps97
        go_wp2_with fail
        refine (HV.out).mono ?_
        rintro e w1 ⟨rfl, hb1⟩
        obtain ⟨k0, k1, k2⟩ := HK0.out.below hb1
        go_wp2_with fail
        refine (HG.out _ (nx hb0 hb1)).mono ?_
        rintro e w2 ⟨rfl, hb2⟩
        clear k0 k1 k2
        go_wp2_with fail
        refine (HB.out _).mono ?_
        rintro e w3 ⟨rfl, rfl⟩
        go_wp2
        go_ret2
        exact bndRet_some HN.out HGR.out.symm (nx hb0 (nx hb1 hb2))
    · have HN : Hid (bndOf ⟨m.data.toList, s.data.toList, xs⟩ = none) := bndOf_no2 hmn
      obtain ⟨e1, e2⟩ := lst_ne hmn
      unfold multiL at e1 e2
      clear hmn hv
      go_enter Tryz.func97, Tryz.ntmps97
      go_wp2_with fail
      refine (HV.out).mono ?_
      rintro e w1 ⟨rfl, hb1⟩
      obtain ⟨k0, k1, k2⟩ := HK0.out.below hb1
      go_wp2
      go_ret2
      exact bndRet_none HN.out HNO.out (nx hb0 hb1)
set_option maxRecDepth 100000 in
set_option maxHeartbeats 1000000 in
theorem boundaryOfS_any (m s : ByteArray) (a : Option Addr) (n c : Nat) (xs : List Fld) (w : World) (hm : m.size ≤ 1073741824) (hs : s.size ≤ 1073741824) (hr : RdF w a n xs) (hnc : n ≤ c) (hn : n ≤ 1073741824) (hx : ∀ x ∈ xs, SmallF 1048576 x) :
    Calls Tryz.prog 85 #[.agg #[.string m, .string s, .slice a n c]] w (BndRet (bndOf ⟨m.data.toList, s.data.toList, xs⟩) w) := by
  have hb0 : Below w.heap.size w (w.alloc (.cells #[.string m, .string s, .slice a n c] 97)) := (Below.refl _ _).alloc (Nat.le_refl _) _
  have HK0 := Lib.hid (KK3.new w (.string m) (.string s) (.slice a n c) 97)
  have HV : Hid (∀ u, Below w.heap.size w u → Calls Tryz.prog 119 #[.agg #[.string m, .string s, .slice a n c]] u fun e w' => e = .returned (.bool (isKnd ⟨m.data.toList, s.data.toList, xs⟩)) ∧ Below u.heap.size u w') := fun u h => kindValidS_any m s a n c xs u hm hs (hr.below h) hnc hn hx
  have HG : Hid (∀ u, Below w.heap.size w u → Calls Tryz.prog 73 #[.slice a n c, .string ⟨#[98, 111, 117, 110, 100, 97, 114, 121]⟩] u fun e w' => e = .returned (.tuple #[.string (str (getR xs bndL)), .bool (getF xs bndL).isSome]) ∧ Below u.heap.size u w') := fun u h => getFieldS_any a n c xs ⟨#[98, 111, 117, 110, 100, 97, 114, 121]⟩ u (hr.below h) hn (fun x hx' => (hx x hx').up (by omega)) (by decide)
  have hgl : (str (getR xs bndL)).size ≤ 1048576 := by rw [str_size]; exact getR_len hx
  have HB : Hid (∀ u, Calls Tryz.prog 86 #[.string (str (getR xs bndL))] u fun e w' => e = .returned (.bool (isBnd (getR xs bndL))) ∧ u = w') := fun u => by
    have := l7Boundary_any (str (getR xs bndL)) u (by omega)
    rw [str_list] at this; exact this
  have HNO : Hid ((⟨#[]⟩ : ByteArray) = str []) := rfl
  have HN4 : Hid ((getF xs bndL).isSome = false → bndOf ⟨m.data.toList, s.data.toList, xs⟩ = none) := fun h => bndOf_no4 h
  have HN1 : Hid (isKnd ⟨m.data.toList, s.data.toList, xs⟩ = false → bndOf ⟨m.data.toList, s.data.toList, xs⟩ = none) := fun h => bndOf_no1 h
  have HN2 : Hid (m.data.toList ≠ multiL → bndOf ⟨m.data.toList, s.data.toList, xs⟩ = none) := fun h => bndOf_no2 h
  have HN3 : Hid (isBnd (getR xs bndL) = false → bndOf ⟨m.data.toList, s.data.toList, xs⟩ = none) := fun h => bndOf_no3 h
  have HN0 : Hid (isKnd ⟨m.data.toList, s.data.toList, xs⟩ = true → m.data.toList = multiL → isBnd (getR xs bndL) = true → bndOf ⟨m.data.toList, s.data.toList, xs⟩ = some (getR xs bndL)) := fun h1 h2 h3 => bndOf_some h1 h2 h3
  clear hr
  generalize isKnd ⟨m.data.toList, s.data.toList, xs⟩ = q1 at *
  generalize (getF xs bndL).isSome = q4 at *
  generalize getR xs bndL = gr at *
  generalize isBnd gr = q3 at *
  generalize hGR : str gr = GR at HG HB hgl
  have HGR := Lib.hid hGR
  clear hGR
  generalize bndOf ⟨m.data.toList, s.data.toList, xs⟩ = R at *
  cases q1
  · have HN := Lib.hid (HN1.out rfl)
    go_enter Tryz.func85, Tryz.ntmps85
    go_wp2_with fail
    refine (HG.out _ hb0).mono ?_
    rintro e w1 ⟨rfl, hb1⟩
    obtain ⟨k0, k1, k2⟩ := HK0.out.below hb1
    go_wp2_with fail
    refine (HV.out _ (nx hb0 hb1)).mono ?_
    rintro e w2 ⟨rfl, hb2⟩
    go_wp2
    go_ret2
    exact bndRet_none HN.out HNO.out (nx hb0 (nx hb1 hb2))
  · by_cases hmn : m.data.toList = multiL
    · obtain ⟨e1, e2⟩ := lst_eq hmn
      unfold multiL at e1 e2
      cases q4
      · have HN := Lib.hid (HN4.out rfl)
        clear hmn
        go_enter Tryz.func85, Tryz.ntmps85
        go_wp2_with fail
        refine (HG.out _ hb0).mono ?_
        rintro e w1 ⟨rfl, hb1⟩
        have HK1 := Lib.hid (HK0.out.below hb1)
        obtain ⟨k0, k1, k2⟩ := HK1.out
        go_wp2_with fail
        refine (HV.out _ (nx hb0 hb1)).mono ?_
        rintro e w2 ⟨rfl, hb2⟩
        clear k0 k1 k2
        obtain ⟨k0, k1, k2⟩ := HK1.out.below hb2
        go_wp2
        go_ret2
        exact bndRet_none HN.out HNO.out (nx hb0 (nx hb1 hb2))
      · cases q3
        · have HN := Lib.hid (HN3.out rfl)
          clear hmn
          go_enter Tryz.func85, Tryz.ntmps85
          go_wp2_with fail
          refine (HG.out _ hb0).mono ?_
          rintro e w1 ⟨rfl, hb1⟩
          have HK1 := Lib.hid (HK0.out.below hb1)
          obtain ⟨k0, k1, k2⟩ := HK1.out
          go_wp2_with fail
          refine (HV.out _ (nx hb0 hb1)).mono ?_
          rintro e w2 ⟨rfl, hb2⟩
          clear k0 k1 k2
          obtain ⟨k0, k1, k2⟩ := HK1.out.below hb2
          go_wp2_with fail
          refine (HB.out _).mono ?_
          rintro e w3 ⟨rfl, rfl⟩
          go_wp2
          go_ret2
          exact bndRet_none HN.out HNO.out (nx hb0 (nx hb1 hb2))
        · have HN := Lib.hid (HN0.out rfl hmn rfl)
          clear hmn
          go_enter Tryz.func85, Tryz.ntmps85
          go_wp2_with fail
          refine (HG.out _ hb0).mono ?_
          rintro e w1 ⟨rfl, hb1⟩
          have HK1 := Lib.hid (HK0.out.below hb1)
          obtain ⟨k0, k1, k2⟩ := HK1.out
          go_wp2_with fail
          refine (HV.out _ (nx hb0 hb1)).mono ?_
          rintro e w2 ⟨rfl, hb2⟩
          clear k0 k1 k2
          obtain ⟨k0, k1, k2⟩ := HK1.out.below hb2
          go_wp2_with fail
          refine (HB.out _).mono ?_
          rintro e w3 ⟨rfl, rfl⟩
          go_wp2
          go_ret2
          exact bndRet_some HN.out HGR.out.symm (nx hb0 (nx hb1 hb2))
    · have HN := Lib.hid (HN2.out hmn)
      obtain ⟨e1, e2⟩ := lst_ne hmn
      unfold multiL at e1 e2
      clear hmn
      go_enter Tryz.func85, Tryz.ntmps85
      go_wp2_with fail
      refine (HG.out _ hb0).mono ?_
      rintro e w1 ⟨rfl, hb1⟩
      have HK1 := Lib.hid (HK0.out.below hb1)
      obtain ⟨k0, k1, k2⟩ := HK1.out
      go_wp2_with fail
      refine (HV.out _ (nx hb0 hb1)).mono ?_
      rintro e w2 ⟨rfl, hb2⟩
      clear k0 k1 k2
      obtain ⟨k0, k1, k2⟩ := HK1.out.below hb2
      go_wp2
      go_ret2
      exact bndRet_none HN.out HNO.out (nx hb0 (nx hb1 hb2))
end Go.Proofs.YtcdmjckkencgoaaGreatDoor
