/-
  Addresses, read from a text: what the program's function returns. No statement is proved here.
-/
import Derived.Test.YtepjnahliojnjaaGreatDoorParse
namespace Go.Proofs.YtepjnahliojnjaaGreatDoor
open Go.RowKit

def parseR (l : List UInt8) : Adr := (parseA l).getD adr0
/-- What reading an address leaves. -/
def ParseRet (l : List UInt8) (w : World) (e : Ending) (w' : World) : Prop := e = .returned (.tuple #[adrV (parseR l), .bool (parseA l).isSome]) ∧ Below w.heap.size w w'
theorem parseRet_none {l : List UInt8} {w w' : World} (h : parseA l = none) (hb : Below w.heap.size w w') : ParseRet l w (.returned (.tuple #[.agg #[.string ⟨#[]⟩, .string ⟨#[]⟩, .string ⟨#[]⟩], .bool false])) w' :=
  ⟨by unfold parseR; rw [h]; rfl, hb⟩
theorem parseRet_some {l : List UInt8} {w w' : World} {n x d : ByteArray} (h : parseA l = some (adr n x d)) (hb : Below w.heap.size w w') : ParseRet l w (.returned (.tuple #[.agg #[.string n, .string x, .string d], .bool true])) w' :=
  ⟨by unfold parseR; rw [h]; show _ = Ending.returned (.tuple #[adrV (adr n x d), .bool true]); rw [adrV_adr], hb⟩
theorem lowS_str (l : List UInt8) : lowS (str l) = str (low l) := by unfold lowS; rw [str_list]
theorem isText_trimS {l : List UInt8} (h : isText l = true) : isText (trimS l) = true := isText_sub h (fun _ hx => trimS_mem hx) (trimS_len l)
set_option maxRecDepth 100000 in
set_option maxHeartbeats 8000000 in
theorem parseAddress_any (s : ByteArray) (w : World) (en : Env w) (hs : s.size ≤ 1073741824) :
    Calls Tryz.prog 21 #[.string s] w (ParseRet s.data.toList w) := by
  have hb0 : Below w.heap.size w (w.alloc (.cells #[.string ⟨#[]⟩, .string ⟨#[]⟩, .string ⟨#[]⟩] 36)) := (Below.refl _ _).alloc (Nat.le_refl _) _
  cases htx : isText s.data.toList
  · have HX := Lib.hid htx
    have HN : Hid (parseA s.data.toList = none) := by show _ = _; unfold parseA; rw [if_neg (by simp [htx])]
    clear htx
    go_enter Tryz.func21, Tryz.ntmps21
    go_wp2_with fail
    refine (textValid_any s _ (by unfold maxLen; omega)).mono ?_
    rintro e w1 ⟨rfl, rfl⟩
    rw [HX.out]
    go_wp2
    exact bodyPost_ret (v := .tuple #[.agg #[.string ⟨#[]⟩, .string ⟨#[]⟩, .string ⟨#[]⟩], .bool false]) (by simp [results, Tryz.results21, go_sem]) rfl (parseRet_none HN.out hb0)
  · have HX := Lib.hid htx
    have HTT := Lib.hid (isText_trimS htx)
    have hts : (str (trimS s.data.toList)).size ≤ 200 := by rw [str_size]; exact text_len HTT.out
    have HP : Hid (parseA s.data.toList = (nameOf (trimS s.data.toList)).bind fun x => boxA x.1 x.2) := by show _ = _; unfold parseA; rw [if_pos htx, readA_name]
    have HTL := Lib.hid (str_list (trimS s.data.toList))
    clear htx
    cases hnm : nameOf (trimS s.data.toList) with
    | none =>
      have HN : Hid (parseA s.data.toList = none) := by show _ = _; rw [HP.out, hnm]; rfl
      have HNM := Lib.hid hnm
      clear hnm
      go_enter Tryz.func21, Tryz.ntmps21
      go_wp2_with fail
      refine (textValid_any s _ (by unfold maxLen; omega)).mono ?_
      rintro e w1 ⟨rfl, rfl⟩
      rw [HX.out]
      go_wp2_with fail
      refine (trim_any s _ hs).mono ?_
      rintro e w1 ⟨rfl, hb1⟩
      go_wp2_with fail
      refine (splitName_any (str (trimS s.data.toList)) _ (en.below (nx hb0 hb1)).tab (by rw [HTL.out]; exact HTT.out)).mono ?_
      rintro e w2 ⟨_, hno, hb2⟩
      rw [HTL.out] at hno
      obtain ⟨p, q, he⟩ := hno HNM.out
      clear hno
      subst he
      have hb12 := nx hb1 hb2
      obtain ⟨hc, hf⟩ := bcell hb12
      have hsz := hb12.size
      simp at hsz
      go_wp2
      exact bodyPost_ret (v := .tuple #[.agg #[.string ⟨#[]⟩, .string ⟨#[]⟩, .string ⟨#[]⟩], .bool false]) (by simp [results, Tryz.results21, go_sem, hc]) rfl (parseRet_none HN.out (((((nx hb0 hb12).setCell (by simp) _).setCell (by simp) _).setCell (by simp) _)))
    | some y =>
      obtain ⟨nm, bx⟩ := y
      obtain ⟨hnl, hbl, hbt⟩ := nameOf_len HTT.out hnm
      have HNM := Lib.hid hnm
      have HP2 : Hid (parseA s.data.toList = boxA nm bx) := by show _ = _; rw [HP.out, hnm]; rfl
      have HBX := Lib.hid (str_list bx)
      have hbz : (str bx).size ≤ 200 := by rw [str_size]; exact hbl
      have hnz : (str nm).size ≤ 40200 := by rw [str_size]; exact hnl
      clear hnm hbl hnl
      cases hcut : cutU 64 bx with
      | none =>
        have HN : Hid (parseA s.data.toList = none) := by show _ = _; rw [HP2.out]; unfold boxA; rw [hcut]
        have HC : Hid (cutU 64 (str bx).data.toList = none) := by show _ = _; rw [HBX.out]; exact hcut
        clear hcut
        go_enter Tryz.func21, Tryz.ntmps21
        go_wp2_with fail
        refine (textValid_any s _ (by unfold maxLen; omega)).mono ?_
        rintro e w1 ⟨rfl, rfl⟩
        rw [HX.out]
        go_wp2_with fail
        refine (trim_any s _ hs).mono ?_
        rintro e w1 ⟨rfl, hb1⟩
        go_wp2_with fail
        refine (splitName_any (str (trimS s.data.toList)) _ (en.below (nx hb0 hb1)).tab (by rw [HTL.out]; exact HTT.out)).mono ?_
        rintro e w2 ⟨hy, _, hb2⟩
        rw [HTL.out] at hy
        have he := hy nm bx HNM.out
        clear hy
        subst he
        have hb12 := nx hb1 hb2
        go_wp2_with fail
        refine (cutUnquoted_any (str bx) 64 _ (by decide) (by omega)).mono ?_
        rintro e w3 ⟨_, hno, hb3⟩
        have he := hno HC.out
        clear hno
        subst he
        have hb13 := nx hb12 hb3
        go_wp2_with fail
        refine (lowerText_any ⟨#[]⟩ _ (by decide)).mono ?_
        rintro e w4 ⟨rfl, hb4⟩
        have hb14 := nx hb13 hb4
        obtain ⟨hc, hf⟩ := bcell hb14
        have hsz := hb14.size
        simp at hsz
        have hlt : w.heap.size < w4.heap.size := by omega
        have hne : w.heap.size ≠ w4.heap.size := by omega
        have hne2 : w4.heap.size ≠ w.heap.size := by omega
        go_wp2
        exact bodyPost_ret (v := .tuple #[.agg #[.string ⟨#[]⟩, .string ⟨#[]⟩, .string ⟨#[]⟩], .bool false]) (by simp [results, Tryz.results21, go_sem, hc, hlt, World.cell?_alloc_lt]) rfl (parseRet_none HN.out (((((nx hb0 hb14).setCell (by simp) _).setCell (by simp) _).setCell (by simp) _).alloc (by simp; omega) _))
      | some y =>
        obtain ⟨l, d⟩ := y
        have hbd := cutU_bound hcut
        have hbxl : bx.length ≤ 200 := by rw [str_size] at hbz; exact hbz
        have HC : Hid (cutU 64 (str bx).data.toList = some (l, d)) := by show _ = _; rw [HBX.out]; exact hcut
        have HLD := Lib.hid (lowS_str d)
        have hlz : (str l).size ≤ 200 := by rw [str_size]; omega
        have hdz : (str d).size ≤ 200 := by rw [str_size]; omega
        have hez : (str (low d)).size ≤ 200 := by rw [str_size]; unfold low; rw [List.length_map]; omega
        have HAD : Hid (adr (str nm) (str l) (str (low d)) = ⟨nm, l, low d⟩) := adr_str ⟨nm, l, low d⟩
        have HPP : Hid (parseA s.data.toList = if isAdr ⟨nm, l, low d⟩ then some ⟨nm, l, low d⟩ else none) := by show _ = _; rw [HP2.out]; unfold boxA; rw [hcut]
        clear hcut hbd hbxl
        cases hv : isAdr ⟨nm, l, low d⟩
        · have HN : Hid (parseA s.data.toList = none) := by show _ = _; rw [HPP.out, hv]; rfl
          have HV : Hid (isAdr (adr (str nm) (str l) (str (low d))) = false) := by show _ = _; rw [HAD.out, hv]
          clear hv
          go_enter Tryz.func21, Tryz.ntmps21
          go_wp2_with fail
          refine (textValid_any s _ (by unfold maxLen; omega)).mono ?_
          rintro e w1 ⟨rfl, rfl⟩
          rw [HX.out]
          go_wp2_with fail
          refine (trim_any s _ hs).mono ?_
          rintro e w1 ⟨rfl, hb1⟩
          go_wp2_with fail
          refine (splitName_any (str (trimS s.data.toList)) _ (en.below (nx hb0 hb1)).tab (by rw [HTL.out]; exact HTT.out)).mono ?_
          rintro e w2 ⟨hy, _, hb2⟩
          rw [HTL.out] at hy
          have he := hy nm bx HNM.out
          clear hy
          subst he
          have hb12 := nx hb1 hb2
          go_wp2_with fail
          refine (cutUnquoted_any (str bx) 64 _ (by decide) (by omega)).mono ?_
          rintro e w3 ⟨hy, _, hb3⟩
          have he := hy l d HC.out
          clear hy
          subst he
          have hb13 := nx hb12 hb3
          go_wp2_with fail
          refine (lowerText_any (str d) _ (by omega)).mono ?_
          rintro e w4 ⟨rfl, hb4⟩
          rw [HLD.out]
          have hb14 := nx hb13 hb4
          have hb04 := nx hb0 hb14
          have hb05 := hb04.alloc hb04.size (.cells #[.string (str nm), .string (str l), .string (str (low d))] 36)
          go_wp2_with fail
          refine (addressValid_any (str nm) (str l) (str (low d)) _ (en.below hb05) (by omega) (by omega) (by omega)).mono ?_
          rintro e w5 ⟨rfl, hb5⟩
          rw [HV.out]
          obtain ⟨hc, hf⟩ := bcell hb14
          obtain ⟨hc5, hf5⟩ := bcell hb5
          have hsz := hb14.size
          simp at hsz
          have hlt : w.heap.size < w4.heap.size := by omega
          have hlt2 : w.heap.size < w4.heap.size + 1 := by omega
          have hne : w.heap.size ≠ w4.heap.size := by omega
          have hne2 : w4.heap.size ≠ w.heap.size := by omega
          go_wp2
          exact bodyPost_ret (v := .tuple #[.agg #[.string ⟨#[]⟩, .string ⟨#[]⟩, .string ⟨#[]⟩], .bool false]) (by simp [results, Tryz.results21, go_sem, hc, hc5, hlt, hlt2]) rfl (parseRet_none HN.out ((((nx hb05 hb5).setCell (by simp) _).setCell (by simp) _).setCell (by simp) _))
        · have HN : Hid (parseA s.data.toList = some (adr (str nm) (str l) (str (low d)))) := by show _ = _; rw [HPP.out, hv, HAD.out]; rfl
          have HV : Hid (isAdr (adr (str nm) (str l) (str (low d))) = true) := by show _ = _; rw [HAD.out, hv]
          clear hv
          go_enter Tryz.func21, Tryz.ntmps21
          go_wp2_with fail
          refine (textValid_any s _ (by unfold maxLen; omega)).mono ?_
          rintro e w1 ⟨rfl, rfl⟩
          rw [HX.out]
          go_wp2_with fail
          refine (trim_any s _ hs).mono ?_
          rintro e w1 ⟨rfl, hb1⟩
          go_wp2_with fail
          refine (splitName_any (str (trimS s.data.toList)) _ (en.below (nx hb0 hb1)).tab (by rw [HTL.out]; exact HTT.out)).mono ?_
          rintro e w2 ⟨hy, _, hb2⟩
          rw [HTL.out] at hy
          have he := hy nm bx HNM.out
          clear hy
          subst he
          have hb12 := nx hb1 hb2
          go_wp2_with fail
          refine (cutUnquoted_any (str bx) 64 _ (by decide) (by omega)).mono ?_
          rintro e w3 ⟨hy, _, hb3⟩
          have he := hy l d HC.out
          clear hy
          subst he
          have hb13 := nx hb12 hb3
          go_wp2_with fail
          refine (lowerText_any (str d) _ (by omega)).mono ?_
          rintro e w4 ⟨rfl, hb4⟩
          rw [HLD.out]
          have hb14 := nx hb13 hb4
          have hb04 := nx hb0 hb14
          have hb05 := hb04.alloc hb04.size (.cells #[.string (str nm), .string (str l), .string (str (low d))] 36)
          go_wp2_with fail
          refine (addressValid_any (str nm) (str l) (str (low d)) _ (en.below hb05) (by omega) (by omega) (by omega)).mono ?_
          rintro e w5 ⟨rfl, hb5⟩
          rw [HV.out]
          obtain ⟨hc, hf⟩ := bcell hb14
          obtain ⟨hc5, hf5⟩ := bcell hb5
          have hsz := hb14.size
          simp at hsz
          have hlt : w.heap.size < w4.heap.size := by omega
          have hlt2 : w.heap.size < w4.heap.size + 1 := by omega
          have hne : w.heap.size ≠ w4.heap.size := by omega
          have hne2 : w4.heap.size ≠ w.heap.size := by omega
          go_wp2
          exact bodyPost_ret (v := .tuple #[.agg #[.string (str nm), .string (str l), .string (str (low d))], .bool true]) (by simp [results, Tryz.results21, go_sem, hc, hc5, hlt, hlt2]) rfl (parseRet_some HN.out ((((nx hb05 hb5).setCell (by simp) _).setCell (by simp) _).setCell (by simp) _))
end Go.Proofs.YtepjnahliojnjaaGreatDoor
