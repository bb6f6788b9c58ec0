/-
  Codes of bytes: lines of letters: what the program's functions return. No statement is proved here.
-/
import Derived.Test.YtjnpkmenlecdmabDoorCodB
import Derived.Lib.TrimByte
namespace Go.Proofs.YtjnpkmenlecdmabDoor
open Go.RowKit

theorem encB_len (s : ByteArray) (h : s.size ≤ 300) : (b64 s.data.toList).length ≤ 400 := by rw [b64_len, size_list]; omega
set_option maxRecDepth 100000 in
set_option maxHeartbeats 2000000 in
theorem encodeBase_any (s : ByteArray) (w : World) (hs : s.size ≤ 1073741000) :
    Calls Tryd.prog 32 #[.string s] w (EncRet (encB s.data.toList) w) := by
  obtain ⟨i0, hi, hz0, hz1, hz2⟩ := info_parts sInfo
  by_cases h300 : 300 < s.size
  · have HN : Hid (encB s.data.toList = none) := encB_out (by rw [size_list]; exact h300)
    go_enter Tryd.func32, Tryd.ntmps32
    go_wp2
    go_ret2
    exact encRet_none HN.out (OwnL.nil _ _) (Below.refl _ _)
  · have HN : Hid (encB s.data.toList = some (chop (b64 s.data.toList))) := encB_in (by rw [size_list]; omega)
    have hbl := encB_len s (by omega)
    go_enter Tryd.func32, Tryd.ntmps32
    go_wp2_with fail
    refine (lettersOf_any s _ hs).mono ?_
    rintro e w1 ⟨rfl, hb1⟩
    generalize b64 s.data.toList = B at *
    go_wp2_with fail
    go_loopw [4, 5] (fun t v wr => ∃ (acc : List (List UInt8)) (l : List UInt8), t = .string (str l) ∧ l.length ≤ 400 ∧ acc.length + l.length ≤ 400 ∧ chop B = acc ++ chop l ∧ OwnL w.heap.size v acc wr ∧ Below w.heap.size w wr) (fun t _ _ => Lib.strSize t)
    case atStart => exact ⟨[], B, rfl, hbl, by simpa using hbl, rfl, OwnL.nil _ _, hb1⟩
    case round =>
      obtain ⟨acc, l, rfl, hl1, hl2, hg, hown, hb⟩ := hrel
      have HG := Lib.hid hg
      have hown1 := hown
      unfold OwnL at hown1
      have hbs := hb.size
      have hlz := str_size l
      clear hg
      by_cases h40 : 40 < l.length
      · have h40' : 40 < (str l).size := by omega
        have HE : Hid (chop B = (acc ++ [((str l).extract 0 40).data.toList]) ++ chop (l.drop 40)) := by show _ = _; rw [HG.out, chop_long h40, ext_tkC, str_list]; simp
        have HX : Hid ((str l).extract 40 l.length = str (l.drop 40)) := by show _ = _; rw [← ext_drC l 40, hlz]
        have HDL : Hid ((l.drop 40).length + 40 = l.length) := by show _ = _; rw [List.length_drop]; omega
        generalize hpx : str l = px at *
        have HPX := Lib.hid hpx
        clear hpx
        go_wp2_with (at_builtin; refine wpList_append_own _ rfl _ _ 22 rfl w.heap.size 9 i0 (.string ⟨#[]⟩) 1 16 Tryd.underlying22 hi hz0 hz1 hz2 rfl (by decide) _ _ _ rfl (World.ownsRow.alloc hown1 _) ⟨wr.heap.size, 0, none⟩ 1 1 [.string (px.extract 0 40)] rfl rfl ?c1 ?c2 ?c3 ?c4 ?c5 ?_)
        case c1 =>
          intro u v hj
          match u, hj with
          | 0, hj => simp at hj; subst hj; simp [Addr.add]
        case c2 => intro u hu; simp at hu; subst hu; rfl
        case c3 => unfold maxLen; omega
        case c4 => omega
        case c5 => simp; omega
        intro v' w3 hown' hgrow _
        have hO3 := own_snoc hown'
        have hb3 : Below w.heap.size wr w3 := ((Below.refl _ _).alloc (by omega) _).grown hgrow (by simp; omega) (fun k hk => (World.ownsRow.lt hown1 k hk).1)
        go_wp2
        go_roundw
        case rel => exact ⟨_, l.drop 40, by rw [← HX.out], by have := HDL.out; omega, by have := HDL.out; simp only [List.length_append, List.length_singleton]; omega, HE.out, hO3, hb.trans hb3⟩
        case measure =>
          show Lib.strSize _ < Lib.strSize _
          rw [HX.out, Lib.strSize_string, Lib.strSize_string, str_size, hlz]
          have := HDL.out; omega
      · have h40' : ¬ 40 < (str l).size := by omega
        have HE : Hid (encB s.data.toList = some (acc ++ [(str l).data.toList])) := by show _ = _; rw [HN.out, HG.out, chop_short (by omega), str_list]
        generalize str l = px at *
        go_wp2_with (at_builtin; refine wpList_append_own _ rfl _ _ 22 rfl w.heap.size 9 i0 (.string ⟨#[]⟩) 1 16 Tryd.underlying22 hi hz0 hz1 hz2 rfl (by decide) _ _ _ rfl (World.ownsRow.alloc hown1 _) ⟨wr.heap.size, 0, none⟩ 1 1 [.string px] rfl rfl ?r1 ?r2 ?r3 ?r4 ?r5 ?_)
        case r1 =>
          intro u v hj
          match u, hj with
          | 0, hj => simp at hj; subst hj; simp [Addr.add]
        case r2 => intro u hu; simp at hu; subst hu; rfl
        case r3 => unfold maxLen; omega
        case r4 => omega
        case r5 => simp; omega
        intro v' w3 hown' hgrow _
        have hO3 := own_snoc hown'
        have hb3 : Below w.heap.size wr w3 := ((Below.refl _ _).alloc (by omega) _).grown hgrow (by simp; omega) (fun k hk => (World.ownsRow.lt hown1 k hk).1)
        go_wp2
        go_ret2
        exact encRet_some HE.out hO3 (hb.trans hb3)
def LettersRet (xs : List (List UInt8)) (w : World) (e : Ending) (w' : World) : Prop := ∃ v, e = .returned v ∧ OwnL w.heap.size v xs w' ∧ Below w.heap.size w w'
set_option maxRecDepth 100000 in
set_option maxHeartbeats 2000000 in
theorem l5Lines_any (B : List UInt8) (w : World) (hbl : B.length ≤ 400) :
    Calls Tryd.prog 87 #[.string (str B), .int .i64 40] w (LettersRet (chop B) w) := by
  obtain ⟨i0, hi, hz0, hz1, hz2⟩ := info_parts sInfo
  go_enter Tryd.func87, Tryd.ntmps87
  go_wp2_with fail
  go_loopw [0, 5] (fun t v wr => ∃ (acc : List (List UInt8)) (l : List UInt8), t = .string (str l) ∧ l.length ≤ 400 ∧ acc.length + l.length ≤ 400 ∧ chop B = acc ++ chop l ∧ OwnL w.heap.size v acc wr ∧ Below w.heap.size w wr) (fun t _ _ => Lib.strSize t)
  case atStart => exact ⟨[], B, rfl, hbl, by simpa using hbl, rfl, OwnL.empty w, (Below.refl _ _).alloc (Nat.le_refl _) _⟩
  case round =>
    obtain ⟨acc, l, rfl, hl1, hl2, hg, hown, hb⟩ := hrel
    have HG := Lib.hid hg
    have hown1 := hown
    unfold OwnL at hown1
    have hbs := hb.size
    have hlz := str_size l
    clear hg
    by_cases h40 : 40 < l.length
    · have h40' : 40 < (str l).size := by omega
      have HE : Hid (chop B = (acc ++ [((str l).extract 0 40).data.toList]) ++ chop (l.drop 40)) := by show _ = _; rw [HG.out, chop_long h40, ext_tkC, str_list]; simp
      have HX : Hid ((str l).extract 40 l.length = str (l.drop 40)) := by show _ = _; rw [← ext_drC l 40, hlz]
      have HDL : Hid ((l.drop 40).length + 40 = l.length) := by show _ = _; rw [List.length_drop]; omega
      generalize hpx : str l = px at *
      have HPX := Lib.hid hpx
      clear hpx
      go_wp2_with (at_builtin; refine wpList_append_own _ rfl _ _ 22 rfl w.heap.size 9 i0 (.string ⟨#[]⟩) 1 16 Tryd.underlying22 hi hz0 hz1 hz2 rfl (by decide) _ _ _ rfl (World.ownsRow.alloc hown1 _) ⟨wr.heap.size, 0, none⟩ 1 1 [.string (px.extract 0 40)] rfl rfl ?c1 ?c2 ?c3 ?c4 ?c5 ?_)
      case c1 =>
        intro u v hj
        match u, hj with
        | 0, hj => simp at hj; subst hj; simp [Addr.add]
      case c2 => intro u hu; simp at hu; subst hu; rfl
      case c3 => unfold maxLen; omega
      case c4 => omega
      case c5 => simp; omega
      intro v' w3 hown' hgrow _
      have hO3 := own_snoc hown'
      have hb3 : Below w.heap.size wr w3 := ((Below.refl _ _).alloc (by omega) _).grown hgrow (by simp; omega) (fun k hk => (World.ownsRow.lt hown1 k hk).1)
      go_wp2
      go_roundw
      case rel => exact ⟨_, l.drop 40, by rw [← HX.out], by have := HDL.out; omega, by have := HDL.out; simp only [List.length_append, List.length_singleton]; omega, HE.out, hO3, hb.trans hb3⟩
      case measure =>
        show Lib.strSize _ < Lib.strSize _
        rw [HX.out, Lib.strSize_string, Lib.strSize_string, str_size, hlz]
        have := HDL.out; omega
    · have h40' : ¬ 40 < (str l).size := by omega
      have HE : Hid (chop B = acc ++ [(str l).data.toList]) := by show _ = _; rw [HG.out, chop_short (by omega), str_list]
      generalize str l = px at *
      go_wp2_with (at_builtin; refine wpList_append_own _ rfl _ _ 22 rfl w.heap.size 9 i0 (.string ⟨#[]⟩) 1 16 Tryd.underlying22 hi hz0 hz1 hz2 rfl (by decide) _ _ _ rfl (World.ownsRow.alloc hown1 _) ⟨wr.heap.size, 0, none⟩ 1 1 [.string px] rfl rfl ?r1 ?r2 ?r3 ?r4 ?r5 ?_)
      case r1 =>
        intro u v hj
        match u, hj with
        | 0, hj => simp at hj; subst hj; simp [Addr.add]
      case r2 => intro u hu; simp at hu; subst hu; rfl
      case r3 => unfold maxLen; omega
      case r4 => omega
      case r5 => simp; omega
      intro v' w3 hown' hgrow _
      have hO3 := own_snoc hown'
      have hb3 : Below w.heap.size wr w3 := ((Below.refl _ _).alloc (by omega) _).grown hgrow (by simp; omega) (fun k hk => (World.ownsRow.lt hown1 k hk).1)
      go_wp2
      go_ret
      exact ⟨v', rfl, by rw [HE.out]; exact hO3, hb.trans hb3⟩
set_option maxRecDepth 100000 in
set_option maxHeartbeats 1000000 in
theorem encodeBaseS_any (s : ByteArray) (w : World) (hs : s.size ≤ 1073741000) :
    Calls Tryd.prog 62 #[.string s] w (EncRet (encB s.data.toList) w) := by
  by_cases h300 : 300 < s.size
  · have HN : Hid (encB s.data.toList = none) := encB_out (by rw [size_list]; exact h300)
    go_enter Tryd.func62, Tryd.ntmps62
    go_wp2
    go_ret2
    exact encRet_none HN.out (OwnL.empty w) ((Below.refl _ _).alloc (Nat.le_refl _) _)
  · have HN : Hid (encB s.data.toList = some (chop (b64 s.data.toList))) := encB_in (by rw [size_list]; omega)
    have hbl := encB_len s (by omega)
    go_enter Tryd.func62, Tryd.ntmps62
    go_wp2_with fail
    refine (l5Base_any s _ hs).mono ?_
    rintro e w1 ⟨rfl, hb1⟩
    go_wp2_with fail
    refine (l5Lines_any _ _ hbl).mono ?_
    rintro e w2 ⟨v, rfl, ho, hb2⟩
    go_wp2
    go_ret2
    exact encRet_some HN.out (ho.base hb1.size) (nx hb1 hb2)
end Go.Proofs.YtjnpkmenlecdmabDoor
