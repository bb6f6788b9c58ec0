/-
  Lists of fields, folded: what the program's functions return. No statement is proved here.
-/
import Derived.Test.YtfjpajeipihlaaaDoorFold
import Derived.Test.YtfjpajeipihlaaaDoorRowL
import Derived.Test.YtfjpajeipihlaaaDoorFoldS
namespace Go.Proofs.YtfjpajeipihlaaaDoor
open Go.RowKit

def FoldRet (xs : List Fld) (w : World) (e : Ending) (w' : World) : Prop := ∃ v, e = .returned (.tuple #[v, .bool (fldsOk xs)]) ∧ OwnL w.heap.size v (foldFs xs) w' ∧ Below w.heap.size w w'
theorem foldRet_none {xs : List Fld} {w w' : World} {v : Value} (h : fldsOk xs = false) (ho : OwnL w.heap.size v [] w') (hb : Below w.heap.size w w') : FoldRet xs w (.returned (.tuple #[v, .bool false])) w' :=
  ⟨v, by rw [h], by unfold foldFs; rw [if_neg (by simp [h])]; exact ho, hb⟩
theorem foldRet_some {xs : List Fld} {w w' : World} {v : Value} (h : fldsOk xs = true) (ho : OwnL w.heap.size v (foldFs xs) w') (hb : Below w.heap.size w w') : FoldRet xs w (.returned (.tuple #[v, .bool true])) w' :=
  ⟨v, by rw [h], ho, hb⟩
set_option maxRecDepth 100000 in
set_option maxHeartbeats 1000000 in
theorem foldFields_any (a : Option Addr) (n c : Nat) (xs : List Fld) (w : World) (hr : RdF w a n xs) (hn : n ≤ 1073741824) (hx : ∀ x ∈ xs, SmallF 1073741000 x) :
    Calls Tryd.prog 18 #[.slice a n c] w (FoldRet xs w) := by
  have HX := Lib.hid hx
  have HR := Lib.hid hr
  cases hok : fldsOk xs
  · have HV := Lib.hid hok
    clear hok hx
    go_enter Tryd.func18, Tryd.ntmps18
    go_wp2_with fail
    refine (fieldsValid_any a n c xs _ hr hn HX.out).mono ?_
    rintro e w1 ⟨rfl, hb1⟩
    rw [HV.out]
    go_wp2
    go_ret2
    exact foldRet_none HV.out (OwnL.nil _ _) hb1
  · have hall := (fldsOk_iff.1 hok).1
    have hl20 := (fldsOk_iff.1 hok).2
    have HV := Lib.hid hok
    have HALL := Lib.hid hall
    have hn20 : n ≤ 20 := by have := hr.1; omega
    have HLEN := Lib.hid hr.1
    clear hok hall hx
    go_enter Tryd.func18, Tryd.ntmps18
    go_wp2_with fail
    refine (fieldsValid_any a n c xs _ hr hn HX.out).mono ?_
    rintro e w1 ⟨rfl, hb1⟩
    rw [HV.out]
    have hB1 := hb1
    clear hr hl20
    go_wp2_with fail
    go_loopw [4, 12] (fun v i wr => ∃ (k : Nat) (acc : List (List UInt8)), k ≤ n ∧ i = .int .i64 k ∧ acc.length ≤ 183 * k ∧ (xs.take k).flatMap foldF = acc ∧ OwnL w.heap.size v acc wr ∧ Below w.heap.size w wr) (fun _ i _ => n - (intOf i).toNat)
    case atStart => exact ⟨0, [], Nat.zero_le _, rfl, Nat.zero_le _, rfl, OwnL.nil _ _, hB1⟩
    case round =>
      obtain ⟨k, acc, hk, rfl, hal, hacc, hown, hb⟩ := hrel
      have HACC := Lib.hid hacc
      clear hacc
      by_cases hlt : k < n
      · have hkx : k < xs.length := by rw [HLEN.out]; exact hlt
        obtain ⟨b, off, rfl, hbl, hcell⟩ := HR.out.2.resolve_left (by omega)
        obtain ⟨q0, q1⟩ := RdR.fld hcell hkx
        rw [← below_at hb hbl] at q0 q1
        have HSM := Lib.hid (HX.out _ (List.getElem_mem hkx))
        have HST : Hid ((xs.take (k + 1)).flatMap foldF = acc ++ foldF xs[k]) := by show _ = _; rw [List.take_succ_eq_append_getElem hkx, List.flatMap_append, HACC.out]; simp
        have hfl := (foldF_len xs[k]).1
        have HFC := Lib.hid (foldField_any xs[k])
        clear hcell
        generalize foldF xs[k] = fs at *
        generalize str xs[k].name = s0 at *
        generalize str xs[k].val = s1 at *
        have HOWN := Lib.hid hown
        clear hown
        have hbA : Below wr.heap.size wr (wr.alloc (.cells #[.string s0, .string s1] 24)) := (Below.refl _ _).alloc (Nat.le_refl _) _
        go_wp2_with fail
        refine (HFC.out _ HSM.out).mono ?_
        rintro e w2 ⟨v2, rfl, ho2, hb2⟩
        have hO2 := HOWN.out.keep (nx hbA hb2)
        have hB2 := nx hb (nx hbA hb2)
        have hsz := hB2.size
        go_wp2_with (at_builtin; refine wpList_append_LL rfl _ _ rfl w.heap.size _ _ _ acc fs rfl rfl hO2 ho2 hsz (by omega) ?_)
        intro v' w3 ho3 hb3
        go_wp2
        go_roundw
        case rel => exact ⟨k + 1, _, by omega, by go_num, by rw [List.length_append]; omega, HST.out, ho3, hB2.trans hb3⟩
        case measure => simp [intOf]; omega
      · have HE : Hid (foldFs xs = acc) := by
          show _ = _
          rw [← HACC.out, List.take_of_length_le (by rw [HLEN.out]; omega), foldAll_map HALL.out]
          unfold foldFs; rw [if_pos HV.out]
        go_wp2
        go_ret2
        exact foldRet_some HV.out (by rw [HE.out]; exact hown) hb
set_option maxRecDepth 100000 in
set_option maxHeartbeats 1000000 in
theorem foldFieldsS_any (a : Option Addr) (n c : Nat) (xs : List Fld) (w : World) (hr : RdF w a n xs) (hn : n ≤ 1073741824) (hx : ∀ x ∈ xs, SmallF 1073741000 x) :
    Calls Tryd.prog 19 #[.slice a n c] w (FoldRet xs w) := by
  have HX := Lib.hid hx
  have HR := Lib.hid hr
  have hb00 : Below w.heap.size w (w.alloc (.cells #[] 9)) := (Below.refl _ _).alloc (Nat.le_refl _) _
  have HOW : Hid (OwnL w.heap.size (.slice (some ⟨w.heap.size, 0, none⟩) 0 0) [] (w.alloc (.cells #[] 9))) := OwnL.empty _
  cases hok : fldsOk xs
  · have HV := Lib.hid hok
    clear hok hx
    go_enter Tryd.func19, Tryd.ntmps19
    go_wp2_with fail
    refine (l3Valid_any a n c xs _ (hr.below hb00) hn HX.out).mono ?_
    rintro e w1 ⟨rfl, hb1⟩
    rw [HV.out]
    go_wp2
    go_ret2
    exact foldRet_none HV.out (HOW.out.keep hb1) (nx hb00 hb1)
  · have hall := (fldsOk_iff.1 hok).1
    have hl20 := (fldsOk_iff.1 hok).2
    have HV := Lib.hid hok
    have HALL := Lib.hid hall
    have hn20 : n ≤ 20 := by have := hr.1; omega
    have HLEN := Lib.hid hr.1
    clear hok hall hx
    go_enter Tryd.func19, Tryd.ntmps19
    go_wp2_with fail
    refine (l3Valid_any a n c xs _ (hr.below hb00) hn HX.out).mono ?_
    rintro e w1 ⟨rfl, hb1⟩
    rw [HV.out]
    have hB1 := (nx hb00 hb1)
    clear hr hl20
    go_wp2_with fail
    go_loopw [4, 5] (fun v i wr => ∃ (k : Nat) (acc : List (List UInt8)), k ≤ n ∧ i = .int .i64 k ∧ acc.length ≤ 183 * k ∧ (xs.take k).flatMap foldF = acc ∧ OwnL w.heap.size v acc wr ∧ Below w.heap.size w wr) (fun _ i _ => n - (intOf i).toNat)
    case atStart => exact ⟨0, [], Nat.zero_le _, rfl, Nat.zero_le _, rfl, HOW.out.keep hb1, hB1⟩
    case round =>
      obtain ⟨k, acc, hk, rfl, hal, hacc, hown, hb⟩ := hrel
      have HACC := Lib.hid hacc
      clear hacc
      by_cases hlt : k < n
      · have hkx : k < xs.length := by rw [HLEN.out]; exact hlt
        obtain ⟨b, off, rfl, hbl, hcell⟩ := HR.out.2.resolve_left (by omega)
        obtain ⟨q0, q1⟩ := RdR.fld hcell hkx
        rw [← below_at hb hbl] at q0 q1
        have HSM := Lib.hid (HX.out _ (List.getElem_mem hkx))
        have HST : Hid ((xs.take (k + 1)).flatMap foldF = acc ++ foldF xs[k]) := by show _ = _; rw [List.take_succ_eq_append_getElem hkx, List.flatMap_append, HACC.out]; simp
        have hfl := (foldF_len xs[k]).1
        have HFC := Lib.hid (foldFieldS_any xs[k])
        clear hcell
        generalize foldF xs[k] = fs at *
        generalize str xs[k].name = s0 at *
        generalize str xs[k].val = s1 at *
        have HOWN := Lib.hid hown
        clear hown
        go_wp2_with fail
        refine (HFC.out _ HSM.out).mono ?_
        rintro e w2 ⟨v2, rfl, ho2, hb2⟩
        have hO2 := HOWN.out.keep hb2
        have hB2 := nx hb hb2
        have hsz := hB2.size
        go_wp2_with (at_builtin; refine wpList_append_LL rfl _ _ rfl w.heap.size _ _ _ acc fs rfl rfl hO2 ho2 hsz (by omega) ?_)
        intro v' w3 ho3 hb3
        go_wp2
        go_roundw
        case rel => exact ⟨k + 1, _, by omega, by go_num, by rw [List.length_append]; omega, HST.out, ho3, hB2.trans hb3⟩
        case measure => simp [intOf]; omega
      · have HE : Hid (foldFs xs = acc) := by
          show _ = _
          rw [← HACC.out, List.take_of_length_le (by rw [HLEN.out]; omega), foldAll_map HALL.out]
          unfold foldFs; rw [if_pos HV.out]
        go_wp2
        go_ret2
        exact foldRet_some HV.out (by rw [HE.out]; exact hown) hb
end Go.Proofs.YtfjpajeipihlaaaDoor
