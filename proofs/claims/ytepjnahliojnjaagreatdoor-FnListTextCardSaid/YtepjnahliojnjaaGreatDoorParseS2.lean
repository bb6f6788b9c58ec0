/-
  Addresses, read from a text: what the model's functions return. No statement is proved here.
-/
import Derived.Test.YtepjnahliojnjaaGreatDoorParseS
namespace Go.Proofs.YtepjnahliojnjaaGreatDoor
open Go.RowKit

def boxVal (l : List UInt8) : Adr × Bool := match cutU 64 l with
  | none => (⟨[], l, []⟩, false)
  | some (a, d) => (⟨[], a, low d⟩, isAdr ⟨[], a, low d⟩)
theorem boxVal_boxA (l : List UInt8) : boxA [] l = if (boxVal l).2 then some (boxVal l).1 else none := by
  unfold boxA boxVal
  cases cutU 64 l with
  | none => rfl
  | some y => rfl
theorem boxVal_small (l : List UInt8) : (boxVal l).1.loc.length ≤ l.length ∧ (boxVal l).1.dom.length ≤ l.length ∧ (boxVal l).1.name = [] := by
  unfold boxVal
  cases h : cutU 64 l with
  | none => exact ⟨Nat.le_refl _, by simp, rfl⟩
  | some y =>
    obtain ⟨a, d⟩ := y
    have := cutU_bound h
    exact ⟨by show a.length ≤ _; omega, by show (low d).length ≤ _; unfold low; rw [List.length_map]; omega, rfl⟩
def BoxRet (l : List UInt8) (w : World) (e : Ending) (w' : World) : Prop := e = .returned (.tuple #[adrV (boxVal l).1, .bool (boxVal l).2]) ∧ Below w.heap.size w w'
theorem boxRet_none {l : List UInt8} {w w' : World} {x : ByteArray} (h : cutU 64 l = none) (hx : x.data.toList = l) (hb : Below w.heap.size w w') : BoxRet l w (.returned (.tuple #[.agg #[.string ⟨#[]⟩, .string x, .string ⟨#[]⟩], .bool false])) w' := by
  refine ⟨?_, hb⟩
  unfold boxVal; rw [h]
  show _ = Ending.returned (.tuple #[.agg #[.string (str []), .string (str l), .string (str [])], .bool false])
  rw [← hx, str_of]; rfl
theorem boxRet_some {l a d : List UInt8} {w w' : World} {b : Bool} (h : cutU 64 l = some (a, d)) (hv : b = isAdr ⟨[], a, low d⟩) (hb : Below w.heap.size w w') : BoxRet l w (.returned (.tuple #[.agg #[.string ⟨#[]⟩, .string (str a), .string (str (low d))], .bool b])) w' := by
  refine ⟨?_, hb⟩
  unfold boxVal; rw [h, hv]; rfl
theorem lowS_nil : lowS ⟨#[]⟩ = ⟨#[]⟩ := rfl
set_option maxRecDepth 100000 in
set_option maxHeartbeats 1000000 in
theorem l2Box_any (s : ByteArray) (w : World) (hs : s.size ≤ 1073741000) :
    Calls Tryz.prog 48 #[.string s] w (BoxRet s.data.toList w) := by
  have hb0 : Below w.heap.size w (w.alloc (.cells #[.string ⟨#[]⟩, .string ⟨#[]⟩, .string ⟨#[]⟩] 36)) := (Below.refl _ _).alloc (Nat.le_refl _) _
  cases hcut : cutU 64 s.data.toList with
  | none =>
    have HC := Lib.hid hcut
    clear hcut
    go_enter Tryz.func48, Tryz.ntmps48
    go_wp2_with fail
    refine (l2Cut_any s 64 _ (by decide) (by omega)).mono ?_
    rintro e w1 ⟨_, hno, q, rfl⟩
    have he := hno HC.out
    clear hno
    subst he
    have hb1 := below_drewN hb0 q
    go_wp2_with fail
    refine (lowerTextS_any ⟨#[]⟩ _ (by decide)).mono ?_
    rintro e w2 ⟨rfl, hb2⟩
    rw [lowS_nil]
    obtain ⟨hc, hf⟩ := bcell hb2
    have hsz := hb2.size
    simp at hsz
    have hlt : w.heap.size < w2.heap.size := by omega
    have hne : w.heap.size ≠ w2.heap.size := by omega
    have hne2 : w2.heap.size ≠ w.heap.size := by omega
    go_wp2
    go_region
    all_goals
      go_wp2
      refine bodyPost_ret (v := .tuple #[.agg #[.string ⟨#[]⟩, .string s, .string ⟨#[]⟩], .bool false]) (by simp [results, Tryz.results48, go_sem, hc, hlt, World.cell?_alloc_lt]) rfl (boxRet_none HC.out rfl ?_)
      exact ((((((nx hb1 hb2).setCell (by simp) _).setCell (by simp) _).setCell (by simp) _).alloc (by simp; omega) _).drew)
  | some y =>
    obtain ⟨a, d⟩ := y
    have hbd := cutU_bound hcut
    rw [size_list] at hbd
    have HC := Lib.hid hcut
    have HLD := Lib.hid (lowS_str d)
    have hlz : (str a).size ≤ 1073741000 := by rw [str_size]; omega
    have hdz : (str d).size ≤ 1073741000 := by rw [str_size]; omega
    have hez : (str (low d)).size ≤ 1073741000 := by rw [str_size]; unfold low; rw [List.length_map]; omega
    have HAD : Hid (adr ⟨#[]⟩ (str a) (str (low d)) = ⟨[], a, low d⟩) := adr_str ⟨[], a, low d⟩
    clear hcut hbd
    go_enter Tryz.func48, Tryz.ntmps48
    go_wp2_with fail
    refine (l2Cut_any s 64 _ (by decide) (by omega)).mono ?_
    rintro e w1 ⟨hy, _, q, rfl⟩
    have he := hy a d HC.out
    clear hy
    subst he
    have hb1 := below_drewN hb0 q
    go_wp2_with fail
    refine (lowerTextS_any (str d) _ (by omega)).mono ?_
    rintro e w2 ⟨rfl, hb2⟩
    rw [HLD.out]
    obtain ⟨hc, hf⟩ := bcell hb2
    have hsz := hb2.size
    simp at hsz
    have hlt : w.heap.size < w2.heap.size := by omega
    have hlt2 : w.heap.size < w2.heap.size + 1 := by omega
    have hne : w.heap.size ≠ w2.heap.size := by omega
    have hne2 : w2.heap.size ≠ w.heap.size := by omega
    go_wp2
    go_region_with (go_at_call 16; refine (addressValidS_any ⟨#[]⟩ (str a) (str (low d)) _ ?_ ?_ ?_).mono ?_; exact Nat.zero_le _; exact hlz; exact hez; rintro e w5 ⟨rfl, hb5⟩; rw [HAD.out]; obtain ⟨hc5, hf5⟩ := bcell hb5)
    all_goals
      go_wp2
      refine bodyPost_ret (v := .tuple #[.agg #[.string ⟨#[]⟩, .string (str a), .string (str (low d))], .bool (isAdr ⟨[], a, low d⟩)]) (by simp [results, Tryz.results48, go_sem, hc, hc5, hlt, hlt2, World.cell?_alloc_lt]) rfl (boxRet_some HC.out rfl ?_)
      have h25 : Below w.heap.size w w5 := nx (((nx hb1 hb2).alloc (nx hb1 hb2).size _).drew) hb5
      exact (((h25.setCell (by simp) _).setCell (by simp) _).setCell (by simp) _)
theorem isAdr_noname {n a d : List UInt8} (h : isAdr ⟨n, a, d⟩ = true) : isAdr ⟨[], a, d⟩ = true := by
  obtain ⟨_, h2, h3⟩ := isAdr_iff.1 h
  exact isAdr_iff.2 ⟨⟨rfl, by simp⟩, h2, h3⟩
theorem boxA_val (n l : List UInt8) : boxA n l = if (boxVal l).2 = true then (if isAdr ⟨n, (boxVal l).1.loc, (boxVal l).1.dom⟩ = true then some ⟨n, (boxVal l).1.loc, (boxVal l).1.dom⟩ else none) else none := by
  unfold boxA boxVal
  cases cutU 64 l with
  | none => rfl
  | some y =>
    obtain ⟨a, d⟩ := y
    show (if isAdr ⟨n, a, low d⟩ = true then _ else _) = if isAdr ⟨[], a, low d⟩ = true then (if isAdr ⟨n, a, low d⟩ = true then _ else _) else _
    cases h : isAdr ⟨n, a, low d⟩
    · simp
    · rw [isAdr_noname h]; simp
theorem readA_some {t b r : List UInt8} (h : cutU 60 t = some (b, r)) : readA t = if r.getLast? = some 62 then (splitW b).bind (fun ws => boxA (spaced ws) r.dropLast) else none := by
  unfold readA
  rw [h]
  show (if r.getLast? = some 62 then _ else _) = _
  by_cases hl : r.getLast? = some 62
  · simp only [hl, if_true]; cases splitW b <;> rfl
  · simp only [hl, if_false]
set_option maxRecDepth 100000 in
set_option maxHeartbeats 1000000 in
theorem parseAddressS_any (s : ByteArray) (w : World) (hs : s.size ≤ 1073741824) :
    Calls Tryz.prog 27 #[.string s] w (ParseRet s.data.toList w) := by
  have hb0 : Below w.heap.size w (w.alloc (.cells #[.string ⟨#[]⟩, .string ⟨#[]⟩, .string ⟨#[]⟩] 36)) := (Below.refl _ _).alloc (Nat.le_refl _) _
  cases htx : isText s.data.toList
  · have HX := Lib.hid htx
    have HN : Hid (parseA s.data.toList = none) := by show _ = _; unfold parseA; rw [if_neg (by simp [htx])]
    clear htx
    go_enter Tryz.func27, Tryz.ntmps27
    go_wp2_with fail
    refine (textValidS_any s _ (by unfold maxLen; omega)).mono ?_
    rintro e w1 ⟨rfl, rfl⟩
    rw [HX.out]
    go_wp2
    exact bodyPost_ret (v := .tuple #[.agg #[.string ⟨#[]⟩, .string ⟨#[]⟩, .string ⟨#[]⟩], .bool false]) (by simp [results, Tryz.results27, go_sem]) rfl (parseRet_none HN.out hb0)
  · have HX := Lib.hid htx
    have HTT := Lib.hid (isText_trimS htx)
    have hts : (str (trimS s.data.toList)).size ≤ 200 := by rw [str_size]; exact text_len HTT.out
    have HP : Hid (parseA s.data.toList = readA (trimS s.data.toList)) := by show _ = _; unfold parseA; rw [if_pos htx]
    have HTL := Lib.hid (str_list (trimS s.data.toList))
    clear htx
    generalize htt : trimS s.data.toList = t at *
    have HTEQ := Lib.hid htt
    clear htt
    cases hcut : cutU 60 t with
    | none =>
      have HC : Hid (cutU 60 (str t).data.toList = none) := by show _ = _; rw [HTL.out]; exact hcut
      have HPN : Hid (parseA s.data.toList = if (boxVal t).2 then some (boxVal t).1 else none) := by show _ = _; rw [HP.out, ← boxVal_boxA]; unfold readA; rw [hcut]
      clear hcut
      obtain ⟨zl, zd, zn⟩ := boxVal_small t
      have HZN := Lib.hid zn
      have HVV : Hid ((boxVal t).1 = adr ⟨#[]⟩ (str (boxVal t).1.loc) (str (boxVal t).1.dom)) := by
        show _ = _
        have := adr_str (boxVal t).1
        rw [zn] at this; exact this.symm
      have HAV : Hid (adrV (boxVal t).1 = .agg #[.string ⟨#[]⟩, .string (str (boxVal t).1.loc), .string (str (boxVal t).1.dom)]) := by show _ = _; unfold adrV; rw [zn]; rfl
      clear zl zd zn
      go_enter Tryz.func27, Tryz.ntmps27
      go_wp2_with fail
      refine (textValidS_any s _ (by unfold maxLen; omega)).mono ?_
      rintro e w1 ⟨rfl, rfl⟩
      rw [HX.out]
      go_wp2_with fail
      refine (l2Trim_any s _ hs).mono ?_
      rintro e w1 ⟨rfl, rfl⟩
      rw [HTEQ.out]
      go_wp2_with fail
      refine (l2Cut_any (str t) 60 _ (by decide) (by omega)).mono ?_
      rintro e w1 ⟨_, hno, q, rfl⟩
      have he := hno HC.out
      clear hno
      subst he
      have hb1 := below_drewN hb0 q
      go_wp2_with fail
      refine (l2Box_any (str t) _ (by omega)).mono ?_
      rintro e w2 ⟨rfl, hb2⟩
      rw [HTL.out, HAV.out]
      obtain ⟨hc, hf⟩ := bcell hb2
      have hsz := hb2.size
      simp at hsz
      have hlt : w.heap.size < w2.heap.size := by omega
      have hne : w.heap.size ≠ w2.heap.size := by omega
      have hne2 : w2.heap.size ≠ w.heap.size := by omega
      cases hv : (boxVal t).2
      · have HN : Hid (parseA s.data.toList = none) := by show _ = _; rw [HPN.out, hv]; rfl
        clear hv
        go_wp2
        exact bodyPost_ret (v := .tuple #[.agg #[.string ⟨#[]⟩, .string ⟨#[]⟩, .string ⟨#[]⟩], .bool false]) (by simp [results, Tryz.results27, go_sem, hc, hlt, World.cell?_alloc_lt]) rfl (parseRet_none HN.out (((((nx hb1 hb2).setCell (by simp) _).setCell (by simp) _).setCell (by simp) _).alloc (by simp; omega) _))
      · have HN : Hid (parseA s.data.toList = some (adr ⟨#[]⟩ (str (boxVal t).1.loc) (str (boxVal t).1.dom))) := by show _ = _; rw [HPN.out, hv, ← HVV.out]; rfl
        clear hv
        go_wp2
        exact bodyPost_ret (v := .tuple #[.agg #[.string ⟨#[]⟩, .string (str (boxVal t).1.loc), .string (str (boxVal t).1.dom)], .bool true]) (by simp [results, Tryz.results27, go_sem, hc, hlt, World.cell?_alloc_lt]) rfl (parseRet_some HN.out (((((nx hb1 hb2).setCell (by simp) _).setCell (by simp) _).setCell (by simp) _).alloc (by simp; omega) _))
    | some y =>
      obtain ⟨b, r⟩ := y
      have hbd := cutU_bound hcut
      have htl := text_len HTT.out
      have HC : Hid (cutU 60 (str t).data.toList = some (b, r)) := by show _ = _; rw [HTL.out]; exact hcut
      have HPN : Hid (parseA s.data.toList = if r.getLast? = some 62 then (splitW b).bind (fun ws => boxA (spaced ws) r.dropLast) else none) := by show _ = _; rw [HP.out, readA_some hcut]
      have hbz : (str b).size ≤ 200 := by rw [str_size]; omega
      have hrz : (str r).size ≤ 200 := by rw [str_size]; omega
      have hrl : r.length ≤ 200 := by omega
      clear hcut hbd htl
      rcases snoc_cases r with rfl | ⟨r', c, rfl⟩
      · have HN : Hid (parseA s.data.toList = none) := by show _ = _; rw [HPN.out]; rfl
        have he : (str []).toList.isEmpty = true := empty_t rfl
        go_enter Tryz.func27, Tryz.ntmps27
        go_wp2_with fail
        refine (textValidS_any s _ (by unfold maxLen; omega)).mono ?_
        rintro e w1 ⟨rfl, rfl⟩
        rw [HX.out]
        go_wp2_with fail
        refine (l2Trim_any s _ hs).mono ?_
        rintro e w1 ⟨rfl, rfl⟩
        rw [HTEQ.out]
        go_wp2_with fail
        refine (l2Cut_any (str t) 60 _ (by decide) (by omega)).mono ?_
        rintro e w1 ⟨hy, _, q, rfl⟩
        have hee := hy b [] HC.out
        clear hy
        subst hee
        generalize str [] = y at *
        go_wp2
        exact bodyPost_ret (v := .tuple #[.agg #[.string ⟨#[]⟩, .string ⟨#[]⟩, .string ⟨#[]⟩], .bool false]) (by simp [results, Tryz.results27, go_sem]) rfl (parseRet_none HN.out ((((below_drewN hb0 q).setCell (by simp) _).setCell (by simp) _).setCell (by simp) _))
      · have hyz := str_size (r' ++ [c])
        have hyl : (r' ++ [c]).length = r'.length + 1 := by simp
        have hy1 : 0 < (str (r' ++ [c])).size := by omega
        have hy2 : 1 ≤ (str (r' ++ [c])).size := hy1
        have hy3 : (str (r' ++ [c])).size - 1 < (str (r' ++ [c])).size := by omega
        have hr'z : (str r').size ≤ 200 := by rw [str_size]; omega
        have HLS := Lib.hid (str_last r' c hy3)
        have HIN := Lib.hid (str_init r' c)
        have he := empty_f (s := str (r' ++ [c])) hy1
        by_cases hc62 : c = 62
        · subst hc62
          have e2 : (((str (r' ++ [62]))[(str (r' ++ [62])).size - 1].toNat : Int) != 62) = false := by rw [HLS.out]; rfl
          have HPN2 : Hid (parseA s.data.toList = (splitW b).bind fun ws => boxA (spaced ws) r') := by
            show _ = _
            rw [HPN.out, if_pos (by simp), List.dropLast_concat]
          have HBL := Lib.hid (str_list b)
          have HRL := Lib.hid (str_list r')
          obtain ⟨zl, zd, zn⟩ := boxVal_small r'
          have HAV : Hid (adrV (boxVal r').1 = .agg #[.string ⟨#[]⟩, .string (str (boxVal r').1.loc), .string (str (boxVal r').1.dom)]) := by show _ = _; unfold adrV; rw [zn]; rfl
          have HSB : Hid (((splitW b).getD []).length ≤ 200 ∧ ∀ x ∈ (splitW b).getD [], x.length ≤ 200) := by
            show _ ∧ _
            cases hw : splitW b with
            | none => simp
            | some ws =>
              obtain ⟨g1, g2⟩ := splitW_bound _ _ _ (Nat.le_refl _) hw
              rw [str_size] at hbz
              exact ⟨by show ws.length ≤ 200; omega, fun x hx => by have := g2 x hx; omega⟩
          have hlz : (str (boxVal r').1.loc).size ≤ 200 := by rw [str_size]; omega
          have hdz : (str (boxVal r').1.dom).size ≤ 200 := by rw [str_size]; omega
          have HPV : Hid ((splitW b).isSome = false → parseA s.data.toList = none) := fun h => by
            rw [HPN2.out]; cases hw : splitW b with
            | none => rfl
            | some ws => rw [hw] at h; cases h
          have HPV2 : Hid ((splitW b).isSome = true → parseA s.data.toList = boxA (spaced ((splitW b).getD [])) r') := fun h => by
            rw [HPN2.out]; cases hw : splitW b with
            | none => rw [hw] at h; cases h
            | some ws => rfl
          have HBV := Lib.hid (boxA_val (spaced ((splitW b).getD [])) r')
          clear zl zd zn hyz hyl
          generalize hY : str (r' ++ [62]) = y at *
          have HY := Lib.hid hY
          clear hY
          generalize hso : (splitW b).isSome = so at *
          generalize hws : (splitW b).getD [] = ws at *
          have HSO := Lib.hid hso
          have HWS := Lib.hid hws
          clear hso hws
          have hsz0 := spaced_len 200 ws HSB.out.2
          have hnz : (str (spaced ws)).size ≤ 40200 := by
            rw [str_size]
            have h3 : ws.length * 201 ≤ 200 * 201 := Nat.mul_le_mul_right _ HSB.out.1
            omega
          clear hsz0
          have HAD : Hid (adr (str (spaced ws)) (str (boxVal r').1.loc) (str (boxVal r').1.dom) = ⟨spaced ws, (boxVal r').1.loc, (boxVal r').1.dom⟩) := adr_str ⟨spaced ws, (boxVal r').1.loc, (boxVal r').1.dom⟩
          generalize hbl : (boxVal r').1.loc = bl at *
          generalize hbdm : (boxVal r').1.dom = bd at *
          generalize hbok : (boxVal r').2 = bok at *
          have HBOK := Lib.hid hbok
          clear hbl hbdm hbok
          go_enter Tryz.func27, Tryz.ntmps27
          go_wp2_with fail
          refine (textValidS_any s _ (by unfold maxLen; omega)).mono ?_
          rintro e w1 ⟨rfl, rfl⟩
          rw [HX.out]
          go_wp2_with fail
          refine (l2Trim_any s _ hs).mono ?_
          rintro e w1 ⟨rfl, rfl⟩
          rw [HTEQ.out]
          go_wp2_with fail
          refine (l2Cut_any (str t) 60 _ (by decide) (by omega)).mono ?_
          rintro e w1 ⟨hy, _, q, rfl⟩
          have hee := hy b _ HC.out
          clear hy
          rw [HY.out] at hee
          subst hee
          have hb1 := below_drewN hb0 q
          go_wp2_with fail
          refine (l1Words_any (str b) _ (by omega)).mono ?_
          rintro e w2 ⟨v, rfl, ho, hb2⟩
          rw [HBL.out, HWS.out] at ho
          rw [HBL.out, HSO.out]
          obtain ⟨a2, c2, rfl, hr2, hm2⟩ := ho.read
          have hb02 := nx hb1 hb2
          go_wp2_with fail
          refine (l2Box_any (y.extract 0 (y.size - 1)) _ (by rw [HIN.out]; omega)).mono ?_
          rintro e w3 ⟨rfl, hb3⟩
          rw [HIN.out, HRL.out, HAV.out, HBOK.out]
          have hb13 := nx hb2 hb3
          have hb03 := nx hb1 hb13
          obtain ⟨hc, hf⟩ := bcell hb13
          have hsz := hb13.size
          simp at hsz
          have hlt : w.heap.size < w3.heap.size := by omega
          have hlt2 : w.heap.size < w3.heap.size + 1 := by omega
          have hne : w.heap.size ≠ w3.heap.size := by omega
          have hne2 : w3.heap.size ≠ w.heap.size := by omega
          have hr3 := (hr2.below hb3).below ((Below.refl _ _).alloc (Nat.le_refl _) (.cells #[.string ⟨#[]⟩, .string (str bl), .string (str bd)] 36))
          go_wp2_with fail
          refine (l2Space_any a2 ws.length c2 ws _ hr3 (by have := HSB.out.1; omega) (fun x hx => by have := HSB.out.2 x hx; omega)).mono ?_
          rintro e w4 ⟨rfl, rfl⟩
          cases so
          · have HN := Lib.hid (HPV.out rfl)
            go_wp2
            refine bodyPost_ret (v := .tuple #[.agg #[.string ⟨#[]⟩, .string ⟨#[]⟩, .string ⟨#[]⟩], .bool false]) (by simp [results, Tryz.results27, go_sem, hc, hlt, World.cell?_alloc_lt]) rfl (parseRet_none HN.out ?_)
            exact (((((hb03).setCell (by simp) _).setCell (by simp) _).setCell (by simp) _).alloc (by simp; omega) _)
          · have HPB := Lib.hid ((HPV2.out rfl).trans HBV.out)
            cases bok
            · have HN : Hid (parseA s.data.toList = none) := by show _ = _; rw [HPB.out]; rfl
              go_wp2
              refine bodyPost_ret (v := .tuple #[.agg #[.string ⟨#[]⟩, .string ⟨#[]⟩, .string ⟨#[]⟩], .bool false]) (by simp [results, Tryz.results27, go_sem, hc, hlt, World.cell?_alloc_lt]) rfl (parseRet_none HN.out ?_)
              exact (((((hb03).setCell (by simp) _).setCell (by simp) _).setCell (by simp) _).alloc (by simp; omega) _)
            · go_wp2_with fail
              refine (addressValidS_any (str (spaced ws)) (str bl) (str bd) _ (by omega) (by omega) (by omega)).mono ?_
              rintro e w5 ⟨rfl, hb5⟩
              have hb05 := nx (hb03.alloc hb03.size (.cells #[.string (str (spaced ws)), .string (str bl), .string (str bd)] 36)) hb5
              obtain ⟨hc5, hf5⟩ := bcell hb5
              cases hv : isAdr ⟨spaced ws, bl, bd⟩
              · have HV : Hid (isAdr (adr (str (spaced ws)) (str bl) (str bd)) = false) := by show _ = _; rw [HAD.out, hv]
                have HN : Hid (parseA s.data.toList = none) := by show _ = _; rw [HPB.out, hv]; rfl
                rw [HV.out]
                clear hv
                go_wp2
                refine bodyPost_ret (v := .tuple #[.agg #[.string ⟨#[]⟩, .string ⟨#[]⟩, .string ⟨#[]⟩], .bool false]) (by simp [results, Tryz.results27, go_sem, hc, hc5, hlt, hlt2, World.cell?_alloc_lt]) rfl (parseRet_none HN.out ?_)
                exact (((hb05.setCell (by simp) _).setCell (by simp) _).setCell (by simp) _)
              · have HV : Hid (isAdr (adr (str (spaced ws)) (str bl) (str bd)) = true) := by show _ = _; rw [HAD.out, hv]
                have HN : Hid (parseA s.data.toList = some (adr (str (spaced ws)) (str bl) (str bd))) := by show _ = _; rw [HPB.out, hv, HAD.out]; rfl
                rw [HV.out]
                clear hv
                go_wp2
                refine bodyPost_ret (v := .tuple #[.agg #[.string (str (spaced ws)), .string (str bl), .string (str bd)], .bool true]) (by simp [results, Tryz.results27, go_sem, hc, hc5, hlt, hlt2, World.cell?_alloc_lt]) rfl (parseRet_some HN.out ?_)
                exact (((hb05.setCell (by simp) _).setCell (by simp) _).setCell (by simp) _)
        · have e2 : (((str (r' ++ [c]))[(str (r' ++ [c])).size - 1].toNat : Int) != 62) = true := by rw [HLS.out]; exact bneq_t hc62 rfl
          have HN : Hid (parseA s.data.toList = none) := by
            show _ = _
            rw [HPN.out, if_neg]
            rw [List.getLast?_concat]; intro e; injection e with e; exact hc62 e
          clear hyz hyl hc62
          go_enter Tryz.func27, Tryz.ntmps27
          go_wp2_with fail
          refine (textValidS_any s _ (by unfold maxLen; omega)).mono ?_
          rintro e w1 ⟨rfl, rfl⟩
          rw [HX.out]
          go_wp2_with fail
          refine (l2Trim_any s _ hs).mono ?_
          rintro e w1 ⟨rfl, rfl⟩
          rw [HTEQ.out]
          go_wp2_with fail
          refine (l2Cut_any (str t) 60 _ (by decide) (by omega)).mono ?_
          rintro e w1 ⟨hy, _, q, rfl⟩
          have hee := hy b _ HC.out
          clear hy
          subst hee
          generalize str (r' ++ [c]) = y at *
          go_wp2
          exact bodyPost_ret (v := .tuple #[.agg #[.string ⟨#[]⟩, .string ⟨#[]⟩, .string ⟨#[]⟩], .bool false]) (by simp [results, Tryz.results27, go_sem]) rfl (parseRet_none HN.out ((((below_drewN hb0 q).setCell (by simp) _).setCell (by simp) _).setCell (by simp) _))
end Go.Proofs.YtepjnahliojnjaaGreatDoor
