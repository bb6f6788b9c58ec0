/-
  Several texts in one. No statement is proved here.
-/
import Derived.Test.YtcdmjckkencgoaaGreatDoorZip1
import Derived.Test.YtcdmjckkencgoaaGreatDoorKindV
import Derived.Test.YtcdmjckkencgoaaGreatDoorAddrS
import Derived.Test.YtcdmjckkencgoaaGreatDoorParseS
import Derived.Test.YtcdmjckkencgoaaGreatDoorSplit2
import Derived.Test.YtcdmjckkencgoaaGreatDoorKindI
import Derived.Test.YtcdmjckkencgoaaGreatDoorKindB
import Derived.Test.YtcdmjckkencgoaaGreatDoorFld
import Derived.Lib.TrimByte
import Derived.Laws.AppendOwn
import Derived.Laws.OwnMore
import Derived.Laws.AppendOwnNone
import Derived.Test.YtcdmjckkencgoaaGreatDoorFldS
import Derived.Test.YtcdmjckkencgoaaGreatDoorRowL
import Derived.Test.YtcdmjckkencgoaaGreatDoorPartS
import Derived.Test.YtcdmjckkencgoaaGreatDoorQuietB
import Derived.Test.YtcdmjckkencgoaaGreatDoorAddrM
import Derived.Lib.Join
import Derived.Test.YtcdmjckkencgoaaGreatDoorAddr
import Derived.Test.YtcdmjckkencgoaaGreatDoorBuilder
import Derived.Laws.BitsLemmas
import Derived.Outline
section
namespace Go.Proofs.YtcdmjckkencgoaaGreatDoor
open Go.RowKit

/-- One field appended to a row of the call's own, as an operation. -/
theorem wp_append_F {o : Oper} {Q : Exit → Act → World → Prop} {K : Act → World → Prop} {a : Act} {w : World} (s x : Operand)
    (ho : o.op = .call { callee := .builtin .append, args := #[s, x], argTypes := #[30, 30] })
    (B : Nat) (v : Value) (xs : List Fld) (f : Fld) (g : Nat) (hs : a.eval s = v) (hx : a.eval x = .slice (some ⟨g, 0, none⟩) 1 1) (hown : OwnF B v xs w)
    (hy0 : w.cell? ⟨g, 0, none⟩ = some (.string (str f.name))) (hy1 : w.cell? ⟨g, 1, none⟩ = some (.string (str f.val))) (hB : B ≤ w.heap.size) (hl : xs.length ≤ 1000000)
    (h : ∀ v' w', OwnF B v' (xs ++ [f]) w' → Below B w w' → K (a.put o.dst v') w') : Oper.wp Tryz.prog o a w K Q := by
  obtain ⟨i0, hi, hz0, hz1, hz2⟩ := info_parts fInfo
  have hown1 := hown
  unfold OwnF OwnR at hown1
  refine wp_append_own w s x 30 ho B 78 i0 (.agg #[.string ⟨#[]⟩, .string ⟨#[]⟩]) 2 32 Tryz.underlying30 hi hz0 hz1 hz2 rfl (by decide) v xs.length (xs.flatMap fldC) hs hown1 ⟨g, 0, none⟩ 1 1 (fldC f) hx rfl ?_ ?_ ?_ ?_ hB ?_
  · intro j u hj
    rw [add0]
    match j, hj with
    | 0, hj => simp [fldC] at hj; subst hj; exact hy0
    | 1, hj => simp [fldC] at hj; subst hj; exact hy1
  · intro u hu; simp [fldC] at hu; rcases hu with rfl | rfl <;> rfl
  · unfold maxLen; omega
  · omega
  · intro v' w' h2 h3 _
    exact h v' w' (OwnR.snoc h2) ((Below.refl _ _).grown h3 hB (fun k hk => (World.ownsRow.lt hown1 k hk).1))
/-- What a cut leaves, and how it stands to the parts. -/
def CutP (s : ByteArray) (c : UInt8) (w : World) (e : Ending) (w' : World) : Prop := ∃ (p r : List UInt8) (more : Bool), e = .returned (.tuple #[.string (str p), .string (str r), .bool more]) ∧ partsU c s.data.toList = restU c more p r ∧ (cutU c s.data.toList = if more then some (p, r) else none) ∧ p.length ≤ s.size ∧ r.length ≤ s.size ∧ (more = true → r.length < s.size) ∧ Below w.heap.size w w'
theorem cutP_of {s : ByteArray} {c : UInt8} {w : World} {e : Ending} {w' : World} (h : CutRetS s c w e w') : CutP s c w e w' := by
  obtain ⟨h1, h2, q, h3⟩ := h
  have hb : Below w.heap.size w w' := by rw [h3]; exact below_drewN (Below.refl _ _) q
  cases hc : cutU c s.data.toList with
  | none =>
    refine ⟨s.data.toList, [], false, ?_, restU_last hc [], by simp [hc], by rw [size_list]; exact Nat.le_refl _, by simp, (fun h => by cases h), hb⟩
    rw [h2 hc, str_of]; rfl
  | some y =>
    obtain ⟨a, d⟩ := y
    have hbd := cutU_bound hc
    rw [size_list] at hbd
    exact ⟨a, d, true, h1 a d hc, restU_cut hc, by simp [hc], by omega, by omega, fun _ => by omega, hb⟩
theorem readPS_cut {l n v : List UInt8} (h : cutU 61 (trimS l) = some (n, v)) : readPS l = match splitW (trimS v) with | some [t] => some ⟨low (trimS n), t⟩ | _ => none := by unfold readPS; rw [h]; rfl
theorem readPS_uncut {l : List UInt8} (h : cutU 61 (trimS l) = none) : readPS l = none := by unfold readPS; rw [h]
theorem okS_cut {h a b : List UInt8} (fs : List Fld) (hc : cutU 47 (trimS h) = some (a, b)) : okS h fs = okK ⟨low a, low b, fs⟩ := by unfold okS headS; rw [hc]; rfl
theorem okS_uncut {h : List UInt8} (fs : List Fld) (hc : cutU 47 (trimS h) = none) : okS h fs = none := by unfold okS headS; rw [hc]; rfl
theorem restU_head {c : UInt8} {m : Bool} {p r : List UInt8} : restU c m p r = p :: (restU c m p r).tail := by cases m <;> rfl
set_option maxRecDepth 100000 in
set_option maxHeartbeats 4000000 in
theorem parseKindS_any (s : ByteArray) (w : World) (hs : s.size ≤ 1073741824) :
    Calls Tryz.prog 84 #[.string s] w (PKRet (parseK s.data.toList) w) := by
  have hb0 : Below w.heap.size w (w.alloc (.cells #[.string ⟨#[]⟩, .string ⟨#[]⟩, .slice none 0 0] 97)) := (Below.refl _ _).alloc (Nat.le_refl _) _
  cases htx : isText s.data.toList
  · have HX := Lib.hid htx
    have HN := Lib.hid (parseK_no htx)
    clear htx
    go_enter Tryz.func84, Tryz.ntmps84
    go_wp2_with fail
    refine (textValidS_any s _ (by unfold maxLen; omega)).mono ?_
    rintro e w1 ⟨rfl, rfl⟩
    rw [HX.out]
    go_wp2
    exact bodyPost_ret (v := .tuple #[.agg #[.string ⟨#[]⟩, .string ⟨#[]⟩, .slice none 0 0], .bool false]) (by simp [results, Tryz.results84, go_sem]) rfl (pkRet_none HN.out hb0)
  · have HX := Lib.hid htx
    have hs2 : s.size ≤ 200 := by have := text_len htx; rw [size_list] at this; exact this
    have HPK := Lib.hid (parseK_textS htx)
    clear htx
    go_enter Tryz.func84, Tryz.ntmps84
    go_wp2_with fail
    refine (textValidS_any s _ (by unfold maxLen; omega)).mono ?_
    rintro e w1 ⟨rfl, rfl⟩
    rw [HX.out]
    go_wp2_with fail
    refine (l2Cut_any s 59 _ (by decide) (by omega)).mono ?_
    intro e w1 hret
    obtain ⟨h, r0, m0, rfl, hpu, _, hpl, hrl, hml, hb1⟩ := cutP_of hret
    have HRS : Hid (∀ fs, mapPS (restU 59 m0 h r0).tail = some fs → parseK s.data.toList = okS h fs) := fun fs hf => by
      rw [HPK.out, readKS_parts (h := h) (ps := (restU 59 m0 h r0).tail) (by rw [hpu]; exact restU_head), hf]; rfl
    have HRN : Hid (mapPS (restU 59 m0 h r0).tail = none → parseK s.data.toList = none) := fun hf => by
      rw [HPK.out, readKS_parts (h := h) (ps := (restU 59 m0 h r0).tail) (by rw [hpu]; exact restU_head), hf]; rfl
    have HST : Hid (goesK (restU 59 m0 h r0).tail [] m0 r0) := goesK_start
    clear hpu hret
    generalize (restU 59 m0 h r0).tail = ps at *
    have hzh : (str h).size ≤ 200 := by rw [str_size]; omega
    have hzr : (str r0).size ≤ 200 := by rw [str_size]; omega
    have htl := trimS_len h
    have hzt : (str (trimS h)).size ≤ 200 := by rw [str_size]; omega
    have HTR : Hid (∀ u : World, Calls Tryz.prog 117 #[.string (str h)] u fun e w' => e = .returned (.string (str (trimS h))) ∧ Below u.heap.size u w') := fun u => by
      have := l2Trim_any (str h) u (by omega)
      rw [str_list] at this
      exact this.mono fun _ _ ⟨h1, h2⟩ => ⟨h1, by rw [← h2]; exact Below.refl _ _⟩
    have HTL : Hid ((str (trimS h)).data.toList = trimS h) := str_list _
    have hb01 := nx hb0 hb1
    have hl1 : w.heap.size < w1.heap.size := by have := hb1.size; simp at this; omega
    have HZ1 : Hid ((∀ i, w1.cell? ⟨w.heap.size, i, none⟩ = #[Value.string ⟨#[]⟩, .string ⟨#[]⟩, .slice none 0 0][i]?) ∧ ∀ i, w1.frozen? ⟨w.heap.size, i, none⟩ = false) := by
      obtain ⟨q1, q2, _⟩ := fresh1 hb1
      exact ⟨q1, q2⟩
    clear htl
    generalize hHS : str h = HS at *
    generalize hTT : str (trimS h) = TT at *
    clear hHS hTT
    go_wp2_with fail
    refine (HTR.out _).mono ?_
    rintro e w2 ⟨rfl, hb2⟩
    go_wp2_with fail
    refine (l2Cut_any TT 47 _ (by decide) (by omega)).mono ?_
    intro e w3 hret
    obtain ⟨ma, su, ok, rfl, _, hcu, hpl2, hrl2, _, hb3⟩ := cutP_of hret
    rw [HTL.out] at hcu
    have HCU := Lib.hid hcu
    clear hret hcu
    have hzm : (str ma).size ≤ 200 := by rw [str_size]; omega
    have hzs : (str su).size ≤ 200 := by rw [str_size]; omega
    have HL1 : Hid (∀ u : World, Calls Tryz.prog 102 #[.string (str ma)] u fun e w' => e = .returned (.string (str (low ma))) ∧ Below u.heap.size u w') := fun u => by
      have := lowerTextS_any (str ma) u (by omega)
      rw [lowS_str] at this; exact this
    have HL2 : Hid (∀ u : World, Calls Tryz.prog 102 #[.string (str su)] u fun e w' => e = .returned (.string (str (low su))) ∧ Below u.heap.size u w') := fun u => by
      have := lowerTextS_any (str su) u (by omega)
      rw [lowS_str] at this; exact this
    have hm1 : (str (low ma)).size ≤ 200 := by rw [str_size, low_len]; omega
    have hm2 : (str (low su)).size ≤ 200 := by rw [str_size, low_len]; omega
    have HM1 : Hid ((str (low ma)).data.toList = low ma ∧ (str (low su)).data.toList = low su) := ⟨str_list _, str_list _⟩
    generalize hMM : str (low ma) = MM at *
    generalize hSS : str (low su) = SS at *
    have HMM := Lib.hid hMM
    have HSS := Lib.hid hSS
    clear hMM hSS
    generalize str ma = m9 at *
    generalize str su = s9 at *
    go_wp2_with fail
    refine (HL1.out _).mono ?_
    rintro e w4 ⟨rfl, hb4⟩
    go_wp2_with fail
    refine (HL2.out _).mono ?_
    rintro e w5 ⟨rfl, hb5⟩
    have hb15 := nx (nx (nx hb2 hb3) hb4) hb5
    have hl5 : w.heap.size < w5.heap.size := Nat.lt_of_lt_of_le hl1 hb15.size
    have hA5 : Below w5.heap.size w5 (w5.alloc (.cells #[.string MM, .string SS, .slice none 0 0] 97)) := (Below.refl _ _).alloc (Nat.le_refl _) _
    go_wp2_with fail
    have hbA0 := nx hb01 (nx hb15 hA5)
    generalize hWK : w5.alloc (.cells #[.string MM, .string SS, .slice none 0 0] 97) = WK at *
    have cK : ∀ i, WK.cell? ⟨w5.heap.size, i, none⟩ = #[Value.string MM, .string SS, .slice none 0 0][i]? := fun i => by
      rw [← hWK, World.cell?_alloc_at _ _ _ _ rfl]
    have fK : ∀ i, WK.frozen? ⟨w5.heap.size, i, none⟩ = false := fun i => by
      rw [← hWK, World.frozen?_alloc_at _ _ _ _ rfl]
    have hlK : w5.heap.size < WK.heap.size := by rw [← hWK]; simp
    obtain ⟨K, hK⟩ : ∃ K, K = w5.heap.size := ⟨_, rfl⟩
    rw [← hK] at cK fK hlK hl5 hA5
    have HCW : Hid (∀ u, Below K WK u → (∀ i, u.cell? ⟨w.heap.size, i, none⟩ = #[Value.string ⟨#[]⟩, .string ⟨#[]⟩, .slice none 0 0][i]?) ∧ (∀ i, u.frozen? ⟨w.heap.size, i, none⟩ = false) ∧ Below w.heap.size w u) := fun u hu => by
      have h4K : Below w1.heap.size w1 WK := nx hb15 (by rw [hK] at hA5; exact hA5)
      refine ⟨fun i => ?_, fun i => ?_, ?_⟩
      · rw [below_at hu hl5, below_at h4K hl1]; exact HZ1.out.1 i
      · rw [below_fz hu hl5, below_fz h4K hl1]; exact HZ1.out.2 i
      · exact hbA0.trans (hu.mono (Nat.le_of_lt hl5))
    rw [← hK]
    have hKw := hl5
    clear hWK hK hb2 hb3 hb4 hb5 hb15 hA5 HZ1 hbA0 hb01 hb1 hb0 hl5
    have HRP := Lib.hid hrl
    have HMI := Lib.hid hml
    clear hml hrl
    go_loopw [5, 6] (fun r m wr => ∃ (rl : List UInt8) (mb : Bool) (acc : List Fld) (a : Option Addr) (d : Nat), r = .string (str rl) ∧ m = .bool mb ∧ rl.length ≤ s.size ∧ (mb = true → acc.length + rl.length + 1 ≤ s.size) ∧ acc.length ≤ s.size ∧ goesK ps acc mb rl ∧ (∀ x ∈ acc, SmallF 200 x) ∧ OwnF (K + 1) (.slice a acc.length d) acc wr ∧ wr.cell? ⟨K, 0, none⟩ = some (.string MM) ∧ wr.cell? ⟨K, 1, none⟩ = some (.string SS) ∧ wr.cell? ⟨K, 2, none⟩ = some (.slice a acc.length d) ∧ wr.frozen? ⟨K, 2, none⟩ = false ∧ Below K WK wr ∧ K < wr.heap.size) (fun r m _ => match m with | .bool true => Lib.strSize r + 1 | _ => 0)
    case atStart => exact ⟨r0, m0, [], none, 0, rfl, rfl, HRP.out, (fun h => by have := HMI.out h; simp; omega), by simp, HST.out, (fun x hx => by cases hx), OwnR.nil _ _ _ _ _, cK 0, cK 1, cK 2, fK 2, Below.refl _ _, hlK⟩
    case round =>
      obtain ⟨rl, mb, acc, a, d, rfl, rfl, hrl, hmb, hal, hg, hsm, hown, k0, k1, k2, kf, hb, hKr⟩ := hrel
      have HG := Lib.hid hg
      have HSM := Lib.hid hsm
      clear hg hsm cK fK
      cases mb
      · have HMP := Lib.hid (goesK_end HG.out)
        have HKK := Lib.hid (HRS.out acc HMP.out)
        have HOWN := Lib.hid hown
        obtain ⟨a0, d0, hv0, hrd, _, hcap⟩ := hown.read fldC_len
        injection hv0 with e1 _ e3
        subst e1 e3
        have HRD := Lib.hid hrd
        have hKV : Hid (∀ u, Below K WK u → RdF u a acc.length acc → Calls Tryz.prog 119 #[.agg #[.string MM, .string SS, .slice a acc.length d]] u fun e w' => e = .returned (.bool (isKnd ⟨low ma, low su, acc⟩)) ∧ Below u.heap.size u w') := fun u _ hr => by
          have := kindValidS_any MM SS a acc.length d acc u (by omega) (by omega) hr hcap (by omega) (fun x hx => (HSM.out x hx).up (by omega))
          rw [HM1.out.1, HM1.out.2] at this; exact this
        obtain ⟨cZ, fZ, hBZ⟩ := HCW.out _ hb
        have hlz : w.heap.size < wr.heap.size := Nat.lt_trans hKw hKr
        have HMK : Hid (MM = str (Knd.mk (low ma) (low su) acc).main ∧ SS = str (Knd.mk (low ma) (low su) acc).sub) := ⟨HMM.out.symm, HSS.out.symm⟩
        clear hown hrd hmb hrl
        cases ok
        · have HN : Hid (parseK s.data.toList = none) := by show _ = _; rw [HKK.out]; exact okS_uncut acc HCU.out
          clear HKK hKV
          go_wp2
          refine bodyPost_ret (v := .tuple #[.agg #[.string ⟨#[]⟩, .string ⟨#[]⟩, .slice none 0 0], .bool false]) (by simp [results, Tryz.results84, go_sem, cZ]) rfl (pkRet_none HN.out ?_)
          exact (((hBZ.setCell (by simp) _).setCell (by simp) _).setCell (by simp) _)
        · have HKL : Hid (parseK s.data.toList = okK ⟨low ma, low su, acc⟩) := by show _ = _; rw [HKK.out]; exact okS_cut acc HCU.out
          clear HKK
          cases hkn : isKnd ⟨low ma, low su, acc⟩
          · have HN : Hid (parseK s.data.toList = none) := by show _ = _; rw [HKL.out]; exact okK_no hkn
            rw [hkn] at hKV
            clear hkn
            go_wp2_with fail
            refine (hKV.out _ hb HRD.out).mono ?_
            rintro e w8 ⟨rfl, hb8⟩
            have cZ8 : ∀ i, w8.cell? ⟨w.heap.size, i, none⟩ = #[Value.string ⟨#[]⟩, .string ⟨#[]⟩, .slice none 0 0][i]? := fun i => (below_at hb8 hlz).trans (cZ i)
            have fZ8 : ∀ i, w8.frozen? ⟨w.heap.size, i, none⟩ = false := fun i => (below_fz hb8 hlz).trans (fZ i)
            clear cZ fZ
            go_wp2
            refine bodyPost_ret (v := .tuple #[.agg #[.string ⟨#[]⟩, .string ⟨#[]⟩, .slice none 0 0], .bool false]) (by simp [results, Tryz.results84, go_sem, cZ8]) rfl (pkRet_none HN.out ?_)
            exact ((((hBZ.trans (hb8.mono (Nat.le_of_lt hlz))).setCell (by simp) _).setCell (by simp) _).setCell (by simp) _)
          · have HN : Hid (parseK s.data.toList = some ⟨low ma, low su, acc⟩) := by show _ = _; rw [HKL.out]; exact okK_yes hkn
            rw [hkn] at hKV
            clear hkn
            go_wp2_with fail
            refine (hKV.out _ hb HRD.out).mono ?_
            rintro e w8 ⟨rfl, hb8⟩
            have cZ8 : ∀ i, w8.cell? ⟨w.heap.size, i, none⟩ = #[Value.string ⟨#[]⟩, .string ⟨#[]⟩, .slice none 0 0][i]? := fun i => (below_at hb8 hlz).trans (cZ i)
            have fZ8 : ∀ i, w8.frozen? ⟨w.heap.size, i, none⟩ = false := fun i => (below_fz hb8 hlz).trans (fZ i)
            have k08 := (below_at hb8 hKr).trans k0
            have k18 := (below_at hb8 hKr).trans k1
            have k28 := (below_at hb8 hKr).trans k2
            have HO8 := Lib.hid (HOWN.out.keep hb8)
            have hlz8 : w.heap.size < w8.heap.size := Nat.lt_of_lt_of_le hlz hb8.size
            clear cZ fZ k0 k1 k2
            go_wp2
            refine bodyPost_ret (v := .tuple #[.agg #[.string MM, .string SS, .slice a acc.length d], .bool true]) (by simp [results, Tryz.results84, go_sem, cZ8]) rfl (pkRet_some HN.out HMK.out.1 HMK.out.2 ?_ ?_)
            · exact OwnR.base (ownF_offG (ownF_offG (ownF_offG HO8.out (by omega) 0 _) (by omega) 1 _) (by omega) 2 _) (by omega)
            · exact ((((hBZ.trans (hb8.mono (Nat.le_of_lt hlz))).setCell (by simp) _).setCell (by simp) _).setCell (by simp) _)
      · have hmb' := hmb rfl
        have hzl : (str rl).size ≤ 200 := by rw [str_size]; omega
        have HRL : Hid ((str rl).data.toList = rl ∧ (str rl).size = rl.length) := ⟨str_list _, str_size _⟩
        have HRZ : Hid (Lib.strSize (.string (str rl)) = (str rl).size) := rfl
        clear hmb
        generalize str rl = RL at *
        go_wp2_with fail
        refine (l2Cut_any RL 59 _ (by decide) (by omega)).mono ?_
        intro e w6 hret
        obtain ⟨pl, r1, m1, rfl, hpu, _, hpl3, hrl3, hml3, hb6⟩ := cutP_of hret
        rw [HRL.out.1] at hpu
        have HPU := Lib.hid hpu
        have hzp : (str pl).size ≤ 200 := by rw [str_size]; omega
        have HPS : Hid (readPS pl = none → parseK s.data.toList = none) := fun h => HRN.out (goesK_bad HG.out HPU.out h)
        have HPN : Hid (∀ f, readPS pl = some f → goesK ps (acc ++ [f]) m1 r1 ∧ SmallF 200 f) := fun f h => ⟨goesK_next HG.out HPU.out h, (readPS_small h).up (by rw [str_size] at hzp; exact hzp)⟩
        have hb06 : Below K WK w6 := hb.trans (hb6.mono (Nat.le_of_lt hKr))
        have hzt6 : (str (trimS pl)).size ≤ 200 := by rw [str_size] at hzp ⊢; have := trimS_len pl; omega
        have HTP : Hid (∀ u : World, Calls Tryz.prog 117 #[.string (str pl)] u fun e w' => e = .returned (.string (str (trimS pl))) ∧ Below u.heap.size u w') := fun u => by
          have := l2Trim_any (str pl) u (by omega)
          rw [str_list] at this
          exact this.mono fun _ _ ⟨h1, h2⟩ => ⟨h1, by rw [← h2]; exact Below.refl _ _⟩
        have HTL6 : Hid ((str (trimS pl)).data.toList = trimS pl) := str_list _
        clear hret hpu
        generalize str pl = PL at *
        generalize str (trimS pl) = TP at *
        go_wp2_with fail
        refine (HTP.out _).mono ?_
        rintro e w7 ⟨rfl, hb7⟩
        go_wp2_with fail
        refine (l2Cut_any TP 61 _ (by decide) (by omega)).mono ?_
        intro e w8 hret
        obtain ⟨na, va, fi, rfl, _, hcu, hpl4, hrl4, _, hb8⟩ := cutP_of hret
        rw [HTL6.out] at hcu
        have HCP := Lib.hid hcu
        clear hret hcu
        have hzn : (str na).size ≤ 200 := by rw [str_size]; omega
        have hzv : (str va).size ≤ 200 := by rw [str_size]; omega
        have HTV : Hid (∀ u : World, Calls Tryz.prog 117 #[.string (str va)] u fun e w' => e = .returned (.string (str (trimS va))) ∧ Below u.heap.size u w') := fun u => by
          have := l2Trim_any (str va) u (by omega)
          rw [str_list] at this
          exact this.mono fun _ _ ⟨h1, h2⟩ => ⟨h1, by rw [← h2]; exact Below.refl _ _⟩
        have hzw : (str (trimS va)).size ≤ 200 := by rw [str_size] at hzv ⊢; have := trimS_len va; omega
        have HWV : Hid (∀ u : World, Calls Tryz.prog 118 #[.string (str (trimS va))] u fun e w' => ∃ v, e = .returned (.tuple #[v, .bool (splitW (trimS va)).isSome]) ∧ OwnL u.heap.size v ((splitW (trimS va)).getD []) w' ∧ Below u.heap.size u w') := fun u => by
          have := l1Words_any (str (trimS va)) u (by omega)
          unfold WordsRet at this
          rw [str_list] at this; exact this
        have HTN : Hid (∀ u : World, Calls Tryz.prog 117 #[.string (str na)] u fun e w' => e = .returned (.string (str (trimS na))) ∧ Below u.heap.size u w') := fun u => by
          have := l2Trim_any (str na) u (by omega)
          rw [str_list] at this
          exact this.mono fun _ _ ⟨h1, h2⟩ => ⟨h1, by rw [← h2]; exact Below.refl _ _⟩
        have HLN : Hid (∀ u : World, Calls Tryz.prog 102 #[.string (str (trimS na))] u fun e w' => e = .returned (.string (str (low (trimS na)))) ∧ Below u.heap.size u w') := fun u => by
          have := lowerTextS_any (str (trimS na)) u (by rw [str_size] at hzn ⊢; have := trimS_len na; omega)
          rw [lowS_str] at this; exact this
        generalize str va = VA at *
        generalize str (trimS va) = VT at *
        go_wp2_with fail
        refine (HTV.out _).mono ?_
        rintro e w9 ⟨rfl, hb9⟩
        go_wp2_with fail
        refine (HWV.out _).mono ?_
        rintro e w10 ⟨v10, rfl, ho10, hb10⟩
        have hbr := nx (nx (nx (nx hb6 hb7) hb8) hb9) hb10
        have hBr : Below K WK w10 := hb.trans (hbr.mono (Nat.le_of_lt hKr))
        obtain ⟨cZ, fZ, hBZ⟩ := HCW.out _ hBr
        have hK10 : K < w10.heap.size := Nat.lt_of_lt_of_le hKr hbr.size
        have hlz : w.heap.size < w10.heap.size := Nat.lt_trans hKw hK10
        obtain ⟨a10, d10, rfl, hr10, hm10⟩ := ho10.read
        have HR10 := Lib.hid hr10
        clear hb6 hb7 hb8 hb9 hb10 ho10 hr10
        cases fi
        · have HN : Hid (parseK s.data.toList = none) := HPS.out (readPS_uncut HCP.out)
          clear HWV HTN HLN HPN
          go_wp2
          refine bodyPost_ret (v := .tuple #[.agg #[.string ⟨#[]⟩, .string ⟨#[]⟩, .slice none 0 0], .bool false]) (by simp [results, Tryz.results84, go_sem, cZ]) rfl (pkRet_none HN.out ?_)
          exact (((hBZ.setCell (by simp) _).setCell (by simp) _).setCell (by simp) _)
        · have HRD := Lib.hid (readPS_cut HCP.out)
          cases hsw : splitW (trimS va) with
          | none =>
            have HN : Hid (parseK s.data.toList = none) := HPS.out (by rw [HRD.out, hsw])
            simp only [Option.getD_none, Option.isSome_none, List.length_nil]
            clear hsw
            clear HWV HTN HLN HPN
            go_wp2
            refine bodyPost_ret (v := .tuple #[.agg #[.string ⟨#[]⟩, .string ⟨#[]⟩, .slice none 0 0], .bool false]) (by simp [results, Tryz.results84, go_sem, cZ]) rfl (pkRet_none HN.out ?_)
            exact (((hBZ.setCell (by simp) _).setCell (by simp) _).setCell (by simp) _)
          | some xs =>
            rw [hsw] at HR10 hm10
            simp only [Option.getD_some, Option.isSome_some]
            have HR11 : Hid (RdL w10 a10 xs.length xs) := HR10.out
            by_cases h1 : xs.length = 1
            · match xs, h1 with
              | [t], _ =>
              have HSP : Hid (readPS pl = some ⟨low (trimS na), t⟩) := by show _ = _; rw [HRD.out, hsw]
              obtain ⟨hgn, hsf⟩ := HPN.out _ HSP.out
              have HGN := Lib.hid hgn
              have HSF := Lib.hid hsf
              obtain ⟨b, off, rfl, hbl, hcell⟩ := HR11.out.2.resolve_left (by simp)
              have hq := hcell 0 (by simp)
              rw [Nat.add_zero] at hq
              replace hq : w10.cell? ⟨b, off, none⟩ = some (.string (str t)) := hq
              have k010 := (below_at hbr hKr).trans k0
              have k110 := (below_at hbr hKr).trans k1
              have k210 := (below_at hbr hKr).trans k2
              have kf10 := (below_fz hbr hKr).trans kf
              have HO10 := Lib.hid (hown.keep hbr)
              have HFE : Hid (str (low (trimS na)) = str (Fld.mk (low (trimS na)) t).name ∧ str t = str (Fld.mk (low (trimS na)) t).val) := ⟨rfl, rfl⟩
              obtain ⟨f, hf⟩ : ∃ f, f = Fld.mk (low (trimS na)) t := ⟨_, rfl⟩
              rw [← hf] at HFE HGN HSF
              have HFA := Lib.hid HFE.out.1
              have HFB := Lib.hid HFE.out.2
              clear HFE hf
              generalize hLN : str (low (trimS na)) = LN at *
              generalize hTV : str t = TV at *
              generalize str (trimS na) = TN at *
              generalize str na = NA at *
              have HB : Hid (∀ u, Below w10.heap.size w10 u → u.cell? ⟨K, 2, none⟩ = some (.slice a acc.length d) ∧ u.cell? ⟨b, off, none⟩ = some (.string TV)) := fun u hu => ⟨(below_at hu hK10).trans k210, (below_at hu hbl).trans hq⟩
              clear hcell hgn hsf k0 k1 k2 kf hown hsw hLN hTV cZ fZ
              go_wp2_with fail
              refine wp_region_tail (by kernel_rfl) ?_
              refine wpAny_tail (fuel := 10) (tf := 3) [10, 11, 12] (by kernel_rfl) ?_
              refine wpAnyZ_take (fuel := 1) [true, true, true, true, true, true, true, true, true] (by kernel_rfl) (by kernel_rfl) (by rfl) (by kernel_rfl) (by kernel_rfl) (by kernel_rfl) ?_
              apply Exists.intro
              refine ⟨fun x => ?_, ?_⟩
              · have y0 := fun (y : BelowT x.val) => (HB.out y.val (nx ((Below.refl _ _).drew) (nx x.below y.below))).1
                have y1 := fun (y : BelowT x.val) => (HB.out y.val (nx ((Below.refl _ _).drew) (nx x.below y.below))).2
                simp only [pickL]
                repeat (go_big_quiet_step (first
                  | (go_at_call 117; exact calls_belowT (HTN.out _))
                  | (go_at_call 102; exact calls_belowT (HLN.out _))))
                exact wpQuiet_nil rfl
              refine wpAnyZ_one (m := 9) (by kernel_rfl) (fun u1 g1 => ?_)
              refine wpOp_at (o := _) (by rfl) (by rfl) ?_
              go_simp
              refine ⟨(Below.refl _ _).alloc (Nat.le_refl _) _, ?_⟩
              try simp only [Act.put, List.setIfInBounds_toArray, List.set_cons_zero, List.set_cons_succ]
              have hg1 : Below w10.heap.size w10 u1 := nx ((Below.refl _ _).drew) g1
              have HA1 : Hid (Below w10.heap.size w10 (u1.alloc (.cells #[.string LN, .string TV] 78))) := nx hg1 ((Below.refl _ _).alloc (Nat.le_refl _) _)
              have hnew0 : (u1.alloc (.cells #[.string LN, .string TV] 78)).cell? ⟨u1.heap.size, 0, none⟩ = some (.string LN) := by rw [World.cell?_alloc_at _ _ _ _ rfl]; rfl
              have hnew1 : (u1.alloc (.cells #[.string LN, .string TV] 78)).cell? ⟨u1.heap.size, 1, none⟩ = some (.string TV) := by rw [World.cell?_alloc_at _ _ _ _ rfl]; rfl
              have hnl : u1.heap.size < (u1.alloc (.cells #[.string LN, .string TV] 78)).heap.size := by simp
              generalize hU : u1.alloc (.cells #[.string LN, .string TV] 78) = U1 at *
              clear hU
              refine wpAnyZ_rest (by kernel_rfl) (fun u2 g2 => ?_)
              have HB2 : Hid (Below w10.heap.size w10 u2) := nx HA1.out g2
              have hB2 : Below K WK u2 := hBr.trans (HB2.out.mono (Nat.le_of_lt hK10))
              have k02 := (below_at HB2.out hK10).trans k010
              have k12 := (below_at HB2.out hK10).trans k110
              have k22 := (below_at HB2.out hK10).trans k210
              have kf2 := (below_fz HB2.out hK10).trans kf10
              have hK2 : K < u2.heap.size := Nat.lt_of_lt_of_le hK10 HB2.out.size
              have hO2 := HO10.out.keep HB2.out
              refine wpAny_one (m := 10) (by kernel_rfl) ?_
              refine wpOp_at (o := _) (by rfl) (by rfl) ?_
              refine wp_append_F _ _ rfl (K + 1) _ acc f u1.heap.size rfl rfl hO2 (by rw [below_at g2 hnl, hnew0, HFA.out]) (by rw [below_at g2 hnl, hnew1, HFB.out]) hK2 (by omega) ?_
              intro v3 u3 hO3 hb3
              have hB3 : Below K WK u3 := hB2.trans (hb3.mono (by omega))
              have k03 := (below_at hb3 (by omega)).trans k02
              have k13 := (below_at hb3 (by omega)).trans k12
              have k23 := (below_at hb3 (by omega)).trans k22
              have kf3 := (below_fz hb3 (by omega)).trans kf2
              have hK3 : K < u3.heap.size := Nat.lt_of_lt_of_le hK2 hb3.size
              obtain ⟨ys, hys⟩ : ∃ ys, ys = acc ++ [f] := ⟨_, rfl⟩
              have hyl : ys.length = acc.length + 1 := by rw [hys]; simp
              have HYL := Lib.hid hyl
              have HYS : Hid (∀ x ∈ ys, SmallF 200 x) := fun x hx => by
                rw [hys] at hx
                rcases List.mem_append.1 hx with h | h
                · exact HSM.out x h
                · rw [List.mem_singleton.1 h]; exact HSF.out
              rw [← hys] at hO3 HGN
              have HO3 := Lib.hid hO3
              obtain ⟨a', d', rfl, _, _, _⟩ := hO3.read fldC_len
              have HO4 := Lib.hid (ownF_off HO3.out 2 (.slice a' ys.length d'))
              clear hys hO3 hyl k010 k110 k210 kf10 k02 k12 k22 kf2 hO2 hb3 hB2 hnew0 hnew1
              try simp only [Act.put, List.setIfInBounds_toArray]
              refine wpAny_one (m := 11) (by kernel_rfl) ?_
              refine wpOp_at (o := _) (by rfl) (by rfl) ?_
              go_simp
              try simp only [Act.put, List.setIfInBounds_toArray, List.set_cons_zero, List.set_cons_succ]
              refine wpAny_one (m := 12) (by kernel_rfl) ?_
              refine wpOp_at (o := _) (by rfl) (by rfl) ?_
              go_simp
              try simp only [Act.put]
              refine wpAny_end (by kernel_rfl) ?_ _
              have hz1 : (str r1).size = r1.length := str_size r1
              have hz2 := HRL.out.2
              go_wp2
              go_roundw
              case rel => exact ⟨r1, m1, ys, a', d', rfl, rfl, by omega, (fun h => by have := hml3 h; have := HYL.out; omega), by have := HYL.out; omega, HGN.out, HYS.out, HO4.out, (cell_off (by omega) _).trans k03, (cell_off (by omega) _).trans k13, cell_same k23 _, (World.frozen?_setCell _ _ _ _).trans kf3, hB3.setCell (Nat.le_refl _) _, by simpa using hK3⟩
              case measure =>
                cases m1
                · simp
                · have := hml3 rfl
                  show Lib.strSize (.string (str r1)) + 1 < Lib.strSize (.string RL) + 1
                  rw [Lib.strSize_string, Lib.strSize_string, str_size]; omega
            · have hne : ((xs.length : Int) != 1) = true := by rw [bne_iff_ne]; omega
              have HN : Hid (parseK s.data.toList = none) := HPS.out (by
                rw [HRD.out, hsw]
                match xs, h1 with
                | [], _ => rfl
                | _ :: _ :: _, _ => rfl)
              clear hsw
              clear HWV HTN HLN HPN
              go_wp2
              refine bodyPost_ret (v := .tuple #[.agg #[.string ⟨#[]⟩, .string ⟨#[]⟩, .slice none 0 0], .bool false]) (by simp [results, Tryz.results84, go_sem, cZ]) rfl (pkRet_none HN.out ?_)
              exact (((hBZ.setCell (by simp) _).setCell (by simp) _).setCell (by simp) _)
end Go.Proofs.YtcdmjckkencgoaaGreatDoor
end

section
namespace Go.Proofs.YtcdmjckkencgoaaGreatDoor
open Go.RowKit

def SmallK2 (k : Knd) : Prop := k.main.length ≤ 1000 ∧ k.sub.length ≤ 1000 ∧ (∀ x ∈ k.params, SmallF 1000 x) ∧ k.params.length ≤ 1000
/-- A kind that lies in memory: its parameters are read at a. -/
def RdK (u : World) (k : Knd) (a : Option Addr) (d : Nat) : Prop := RdF u a k.params.length k.params ∧ k.params.length ≤ d ∧ SmallK2 k
theorem RdK.below {u u' : World} {k : Knd} {a : Option Addr} {d : Nat} (h : RdK u k a d) (b : Below u.heap.size u u') : RdK u' k a d := ⟨h.1.below b, h.2⟩
theorem RdK.own {B : Nat} {u : World} {k : Knd} {a : Option Addr} {d : Nat} (h : OwnF B (.slice a k.params.length d) k.params u) (hs : SmallK2 k) : RdK u k a d := by
  obtain ⟨a', d', e, h2, _, h4⟩ := OwnR.read h fldC_len
  injection e with e1 _ e3
  subst e1 e3
  exact ⟨h2, h4, hs⟩
theorem smallK2_valid {k : Knd} (h : isKnd k = true) : SmallK2 k := by
  obtain ⟨h1, h2, h3, h4⟩ := isKnd_small h
  exact ⟨by omega, by omega, fun x hx => (h4 x hx).up (by omega), by omega⟩
theorem smallK2_zero : SmallK2 knd0 := ⟨by simp [knd0], by simp [knd0], (fun x hx => by cases hx), by simp [knd0]⟩
theorem smallK2_parse (l : List UInt8) : SmallK2 ((parseK l).getD knd0) := by
  cases h : parseK l with
  | none => exact smallK2_zero
  | some k => exact smallK2_valid (parseK_valid h)
theorem kndL_str (k : Knd) : (⟨(str k.main).data.toList, (str k.sub).data.toList, k.params⟩ : Knd) = k := Knd.ext' (str_list _) (str_list _) rfl
/-- A kind's value. -/
def kV (k : Knd) (a : Option Addr) (d : Nat) : Value := .agg #[.string (str k.main), .string (str k.sub), .slice a k.params.length d]
theorem kindValid_k {k : Knd} {a : Option Addr} {d : Nat} (u : World) (tab : Tab u) (h : RdK u k a d) :
    Calls Tryz.prog 134 #[.agg #[.string (str k.main), .string (str k.sub), .slice a k.params.length d]] u fun e w' => e = .returned (.bool (isKnd k)) ∧ Below u.heap.size u w' := by
  have := kindValid_any (str k.main) (str k.sub) a k.params.length d k.params u tab (by rw [str_size]; have := h.2.2.1; omega) (by rw [str_size]; have := h.2.2.2.1; omega) h.1 (by have := h.2.2.2.2.2; omega) (fun x hx => (h.2.2.2.2.1 x hx).up (by omega))
  rw [kndL_str] at this; exact this
theorem kindValidS_k {k : Knd} {a : Option Addr} {d : Nat} (u : World) (h : RdK u k a d) :
    Calls Tryz.prog 119 #[.agg #[.string (str k.main), .string (str k.sub), .slice a k.params.length d]] u fun e w' => e = .returned (.bool (isKnd k)) ∧ Below u.heap.size u w' := by
  have := kindValidS_any (str k.main) (str k.sub) a k.params.length d k.params u (by rw [str_size]; have := h.2.2.1; omega) (by rw [str_size]; have := h.2.2.2.1; omega) h.1 h.2.1 (by have := h.2.2.2.2.2; omega) (fun x hx => (h.2.2.2.2.1 x hx).up (by omega))
  rw [kndL_str] at this; exact this
theorem boundaryOf_k {k : Knd} {a : Option Addr} {d : Nat} (u : World) (tab : Tab u) (h : RdK u k a d) :
    Calls Tryz.prog 97 #[.agg #[.string (str k.main), .string (str k.sub), .slice a k.params.length d]] u fun e w' => e = .returned (.tuple #[.string (str ((bndOf k).getD [])), .bool (bndOf k).isSome]) ∧ Below u.heap.size u w' := by
  have := boundaryOf_any (str k.main) (str k.sub) a k.params.length d k.params u tab (by rw [str_size]; have := h.2.2.1; omega) (by rw [str_size]; have := h.2.2.2.1; omega) h.1 (by have := h.2.2.2.2.2; omega) (fun x hx => (h.2.2.2.2.1 x hx).up (by omega))
  rw [kndL_str] at this; exact this
theorem boundaryOfS_k {k : Knd} {a : Option Addr} {d : Nat} (u : World) (h : RdK u k a d) :
    Calls Tryz.prog 85 #[.agg #[.string (str k.main), .string (str k.sub), .slice a k.params.length d]] u fun e w' => e = .returned (.tuple #[.string (str ((bndOf k).getD [])), .bool (bndOf k).isSome]) ∧ Below u.heap.size u w' := by
  have := boundaryOfS_any (str k.main) (str k.sub) a k.params.length d k.params u (by rw [str_size]; have := h.2.2.1; omega) (by rw [str_size]; have := h.2.2.2.1; omega) h.1 h.2.1 (by have := h.2.2.2.2.2; omega) (fun x hx => (h.2.2.2.2.1 x hx).up (by omega))
  rw [kndL_str] at this; exact this
def PKL (o : Option Knd) (w : World) (e : Ending) (w' : World) : Prop := ∃ a c, e = .returned (.tuple #[.agg #[.string (str (o.getD knd0).main), .string (str (o.getD knd0).sub), .slice a (o.getD knd0).params.length c], .bool o.isSome]) ∧ RdK w' (o.getD knd0) a c ∧ Below w.heap.size w w'
theorem parseKind_k (s : ByteArray) (u : World) (tab : Tab u) (hs : s.size ≤ 1073741824) : Calls Tryz.prog 96 #[.string s] u (PKL (parseK s.data.toList) u) :=
  (parseKind_any s u tab hs).mono fun _ _ ⟨a, c, h1, h2, h3⟩ => ⟨a, c, h1, RdK.own h2 (smallK2_parse _), h3⟩
theorem parseKindS_k (s : ByteArray) (u : World) (hs : s.size ≤ 1073741824) : Calls Tryz.prog 84 #[.string s] u (PKL (parseK s.data.toList) u) :=
  (parseKindS_any s u hs).mono fun _ _ ⟨a, c, h1, h2, h3⟩ => ⟨a, c, h1, RdK.own h2 (smallK2_parse _), h3⟩
end Go.Proofs.YtcdmjckkencgoaaGreatDoor
end

section
namespace Go.Proofs.YtcdmjckkencgoaaGreatDoor
open Go.RowKit

theorem alone_at (s : ByteArray) (k : Nat) (h1 : 1 ≤ k) (h2 : k + 1 < s.size) : alone s.data.toList k = (decide (s[k] = 32) && (decide (s[k - 1] ≠ 32) && decide (s[k + 1] ≠ 32))) := by
  have hg : ∀ i, (h : i < s.size) → s.data.toList.getD i 0 = s[i] := fun i h => by
    rw [List.getD_eq_getElem?_getD, List.getElem?_eq_getElem (by rw [size_list]; exact h)]; rfl
  unfold alone
  rw [hg k (by omega), hg (k - 1) (by omega), hg (k + 1) h2]
/-- A line as a string, its rest. -/
theorem ext_tk (l : List UInt8) (a : Nat) : (str l).extract 0 a = str (l.take a) := by rw [ext_take, str_list]
theorem ext_dr (l : List UInt8) (a : Nat) : (str l).extract a (str l).size = str (l.drop a) := by rw [ext_drop, str_list]
set_option maxRecDepth 100000 in
set_option maxHeartbeats 400000 in
theorem standsAlone_any (s : ByteArray) (k : Nat) (w : World) (hs : s.size ≤ 1073741824) (h1 : 1 ≤ k) (h2 : k + 1 < s.size) :
    Calls Tryz.prog 155 #[.string s, .int .i64 k] w fun e w' => e = .returned (.bool (alone s.data.toList k)) ∧ w = w' := by
  have HA := Lib.hid (alone_at s k h1 h2)
  have h3 : k < s.size := by omega
  have h4 : k - 1 < s.size := by omega
  by_cases ha : s[k] = 32
  · have e1 := beq_t ha (n := 32) rfl
    by_cases hb : s[k - 1] = 32
    · have e2 := bneq_f hb (n := 32) rfl
      have HR : Hid (alone s.data.toList k = false) := by show _ = _; rw [HA.out, hb]; simp
      clear ha hb
      go_enter Tryz.func155, Tryz.ntmps155
      go_wp2
      go_ret
      exact ⟨ret_bool HR.out.symm, rfl⟩
    · have e2 := bneq_t hb (n := 32) rfl
      by_cases hc : s[k + 1] = 32
      · have e3 := bneq_f hc (n := 32) rfl
        have HR : Hid (alone s.data.toList k = false) := by show _ = _; rw [HA.out, hc]; simp
        clear ha hb hc
        go_enter Tryz.func155, Tryz.ntmps155
        go_wp2
        go_ret
        exact ⟨ret_bool HR.out.symm, rfl⟩
      · have e3 := bneq_t hc (n := 32) rfl
        have HR : Hid (alone s.data.toList k = true) := by show _ = _; rw [HA.out]; simp [ha, hb, hc]
        clear ha hb hc
        go_enter Tryz.func155, Tryz.ntmps155
        go_wp2
        go_ret
        exact ⟨ret_bool HR.out.symm, rfl⟩
  · have e1 := beq_f ha (n := 32) rfl
    have HR : Hid (alone s.data.toList k = false) := by show _ = _; rw [HA.out]; simp [ha]
    clear ha
    go_enter Tryz.func155, Tryz.ntmps155
    go_wp2
    go_ret
    exact ⟨ret_bool HR.out.symm, rfl⟩
def BrkRet (l : List UInt8) (first : Nat) (w : World) (e : Ending) (w' : World) : Prop := e = .returned (.tuple #[.int .i64 ((brk l first).getD 0 : Nat), .bool (brk l first).isSome]) ∧ w = w'
theorem brkRet_none {l : List UInt8} {first : Nat} {w : World} (h : brk l first = none) : BrkRet l first w (.returned (.tuple #[.int .i64 0, .bool false])) w := by
  unfold BrkRet; rw [h]; exact ⟨rfl, rfl⟩
theorem brkRet_some {l : List UInt8} {first b : Nat} {w : World} (h : brk l first = some b) : BrkRet l first w (.returned (.tuple #[.int .i64 (b : Int), .bool true])) w := by
  unfold BrkRet; rw [h]; exact ⟨rfl, rfl⟩
theorem brk_of (s : ByteArray) (first n : Nat) (h : s.size ≤ first + n + 1) (hn : n = 0 ∨ first + n + 1 ≤ s.size) : brk s.data.toList first = brkTo s.data.toList first n := by
  unfold brk; rw [size_list]
  congr 1; omega
theorem best_t {l : List UInt8} {b : Option Nat} {i : Nat} (h : alone l i = true) (h2 : i ≤ 40 ∨ b = none) : bestStep l b i = some i := by
  unfold bestStep; rw [if_pos]; rw [h]; rcases h2 with h2 | h2 <;> simp [h2]
theorem best_f {l : List UInt8} {b : Option Nat} {i : Nat} (h : alone l i = false) : bestStep l b i = b := by
  unfold bestStep; rw [h]; rfl
theorem best_late {l : List UInt8} {b : Option Nat} {i c : Nat} (h : 40 < i) (hb : b = some c) : bestStep l b i = b := by
  unfold bestStep; rw [if_neg]; rw [hb]; simp; omega
set_option maxRecDepth 100000 in
set_option maxHeartbeats 1000000 in
theorem breakPlace_any (s : ByteArray) (first : Nat) (w : World) (hs : s.size ≤ 1073741824) (hf : 2 ≤ first) (hf2 : first ≤ 1073741824) :
    Calls Tryz.prog 122 #[.string s, .int .i64 first] w (BrkRet s.data.toList first w) := by
  go_enter Tryz.func122, Tryz.ntmps122
  go_wp2_with fail
  go_loop [6, 7, 8] (fun p f i => ∃ (n j : Nat), j = first + n ∧ (n = 0 ∨ j + 1 ≤ s.size) ∧ i = .int .i64 j ∧ ((p = .int .i64 0 ∧ f = .bool false ∧ brkTo s.data.toList first n = none) ∨ ∃ b : Nat, p = .int .i64 b ∧ f = .bool true ∧ brkTo s.data.toList first n = some b)) (fun _ _ i => s.size - (intOf i).toNat)
  case atStart => exact ⟨0, first, rfl, .inl rfl, rfl, .inl ⟨rfl, rfl, rfl⟩⟩
  case round =>
    obtain ⟨n, j, hj, hn, rfl, hb⟩ := hrel
    have HJ := Lib.hid hj
    have hj2 : 2 ≤ j := by omega
    by_cases hlt : (j : Int) < s.size - 1
    · have h2 : j + 1 < s.size := by omega
      rcases hb with ⟨rfl, rfl, hbr⟩ | ⟨b, rfl, rfl, hbr⟩
      · cases ha : alone s.data.toList j
        · have HN : Hid (brkTo s.data.toList first (n + 1) = none) := by show _ = _; rw [brkTo_succ, ← hj, best_f ha, hbr]
          have HA := Lib.hid ha
          clear ha hbr hj hn
          go_wp2_with fail
          refine (standsAlone_any s j _ hs (by omega) h2).mono ?_
          rintro e w1 ⟨rfl, rfl⟩
          rw [HA.out]
          go_wp2
          go_round
          case rel => exact ⟨n + 1, j + 1, by have := HJ.out; omega, by omega, by go_num, .inl ⟨rfl, rfl, HN.out⟩⟩
          case measure => simp [intOf]; omega
        · have HN : Hid (brkTo s.data.toList first (n + 1) = some j) := by show _ = _; rw [brkTo_succ, ← hj, best_t ha (.inr hbr)]
          have HA := Lib.hid ha
          clear ha hbr hj hn
          go_wp2_with fail
          refine (standsAlone_any s j _ hs (by omega) h2).mono ?_
          rintro e w1 ⟨rfl, rfl⟩
          rw [HA.out]
          go_wp2
          go_round
          case rel => exact ⟨n + 1, j + 1, by have := HJ.out; omega, by omega, by go_num, .inr ⟨j, rfl, rfl, HN.out⟩⟩
          case measure => simp [intOf]; omega
      · by_cases h40 : 40 < j
        · have HR : Hid (brk s.data.toList first = some b) := by
            show _ = _; unfold brk; rw [size_list]; exact brkTo_stay hbr (by omega) (by omega)
          clear hbr hj hn
          go_wp2
          go_ret2
          exact brkRet_some HR.out
        · cases ha : alone s.data.toList j
          · have HN : Hid (brkTo s.data.toList first (n + 1) = some b) := by show _ = _; rw [brkTo_succ, ← hj, best_f ha, hbr]
            have HA := Lib.hid ha
            clear ha hbr hj hn
            go_wp2_with fail
            refine (standsAlone_any s j _ hs (by omega) h2).mono ?_
            rintro e w1 ⟨rfl, rfl⟩
            rw [HA.out]
            go_wp2
            go_round
            case rel => exact ⟨n + 1, j + 1, by have := HJ.out; omega, by omega, by go_num, .inr ⟨b, rfl, rfl, HN.out⟩⟩
            case measure => simp [intOf]; omega
          · have HN : Hid (brkTo s.data.toList first (n + 1) = some j) := by show _ = _; rw [brkTo_succ, ← hj, best_t ha (.inl (by omega))]
            have HA := Lib.hid ha
            clear ha hbr hj hn
            go_wp2_with fail
            refine (standsAlone_any s j _ hs (by omega) h2).mono ?_
            rintro e w1 ⟨rfl, rfl⟩
            rw [HA.out]
            go_wp2
            go_round
            case rel => exact ⟨n + 1, j + 1, by have := HJ.out; omega, by omega, by go_num, .inr ⟨j, rfl, rfl, HN.out⟩⟩
            case measure => simp [intOf]; omega
    · have HR := Lib.hid (brk_of s first n (by omega) (by omega))
      clear hj hn
      rcases hb with ⟨rfl, rfl, hbr⟩ | ⟨b, rfl, rfl, hbr⟩
      · have HB := Lib.hid hbr
        clear hbr
        go_wp2
        go_ret2
        exact brkRet_none (by rw [HR.out, HB.out])
      · have HB := Lib.hid hbr
        clear hbr
        go_wp2
        go_ret2
        exact brkRet_some (by rw [HR.out, HB.out])
theorem breakPlace_none (s : ByteArray) (first : Nat) (w : World) (hs : s.size ≤ 1073741824) (hf : 2 ≤ first) (hf2 : first ≤ 1073741824) (h : brk s.data.toList first = none) :
    Calls Tryz.prog 122 #[.string s, .int .i64 first] w fun e w' => e = .returned (.tuple #[.int .i64 0, .bool false]) ∧ w = w' := by
  refine (breakPlace_any s first w hs hf hf2).mono ?_
  rintro e w' ⟨h1, h2⟩
  rw [h] at h1; exact ⟨h1, h2⟩
theorem breakPlace_some (s : ByteArray) (first a : Nat) (w : World) (hs : s.size ≤ 1073741824) (hf : 2 ≤ first) (hf2 : first ≤ 1073741824) (h : brk s.data.toList first = some a) :
    Calls Tryz.prog 122 #[.string s, .int .i64 first] w fun e w' => e = .returned (.tuple #[.int .i64 (a : Int), .bool true]) ∧ w = w' := by
  refine (breakPlace_any s first w hs hf hf2).mono ?_
  rintro e w' ⟨h1, h2⟩
  rw [h] at h1; exact ⟨h1, h2⟩
def RowL (xs : List (List UInt8)) (w : World) (e : Ending) (w' : World) : Prop := ∃ v, e = .returned v ∧ OwnL w.heap.size v xs w' ∧ Below w.heap.size w w'
theorem line_val (f : Fld) (h : f.val ≠ []) : str f.name ++ ⟨#[58]⟩ ++ (⟨#[32]⟩ ++ str f.val) = str (lineF f) := by
  apply bytes_ext
  rw [Joins.data_append, Joins.data_append, Joins.data_append, str_list, str_list, str_list]
  unfold lineF
  rw [if_neg h]; simp
theorem line_val2 (f : Fld) (h : f.val ≠ []) : str f.name ++ ⟨#[58]⟩ ++ ⟨#[32]⟩ ++ str f.val = str (lineF f) := by
  apply bytes_ext
  rw [Joins.data_append, Joins.data_append, Joins.data_append, str_list, str_list, str_list]
  unfold lineF
  rw [if_neg h]; simp
theorem line_none (f : Fld) (h : f.val = []) : str f.name ++ ⟨#[58]⟩ = str (lineF f) := by
  apply bytes_ext
  rw [Joins.data_append, str_list, str_list]
  unfold lineF
  rw [if_pos h]
theorem neq_empty_t {s : ByteArray} (h : 0 < s.size) : (s.toList != (ByteArray.mk #[]).toList) = true := by
  rw [bne, beq_dec, decide_eq_false]; rfl
  intro e; rw [e] at h; exact absurd h (by decide)
set_option maxRecDepth 100000 in
set_option maxHeartbeats 2000000 in
theorem foldField_any (f : Fld) (w : World) (hf : SmallF 1073741000 f) :
    Calls Tryz.prog 88 #[.agg #[.string (str f.name), .string (str f.val)]] w (RowL (foldF f) w) := by
  obtain ⟨i0, hi, hz0, hz1, hz2⟩ := info_parts sInfo
  have hb0 : Below w.heap.size w (w.alloc (.cells #[.string (str f.name), .string (str f.val)] 78)) := (Below.refl _ _).alloc (Nat.le_refl _) _
  have HF := Lib.hid hf
  have HFV := Lib.hid (fieldValid_fld f)
  cases hv : isFld f
  · have HV := Lib.hid hv
    have HN := Lib.hid (foldF_no hv)
    clear hv hf
    generalize str f.name = n at *
    generalize str f.val = v at *
    go_enter Tryz.func88, Tryz.ntmps88
    go_wp2_with fail
    refine (HFV.out _ HF.out).mono ?_
    rintro e w1 ⟨rfl, hb1⟩
    rw [HV.out]
    go_wp2
    go_ret
    exact ⟨_, rfl, by rw [HN.out]; exact OwnL.nil _ _, nx hb0 hb1⟩
  · have HV := Lib.hid hv
    have hll := line_len hv
    have hnl := (isFName_iff.1 (isFld_iff.1 hv).1).2.1
    have hvl := (isFld_iff.1 hv).2.2.1
    have HG0 : Hid (foldF f = [] ++ foldL (lineF f) (f.name.length + 3)) := foldF_val hv
    have hzn := str_size f.name
    have hzv := str_size f.val
    have HFI : Hid (((f.name.length + 3 : Nat) : Int) = ((str f.name).size : Int) + 1 + 2) := by
      show _ = _
      rw [hzn]; omega
    clear hv hf
    by_cases hv0 : f.val = []
    all_goals
      first
        | (have HLN := Lib.hid (line_none f hv0); have he := empty_t (s := str f.val) (by rw [hzv, hv0]; rfl))
        | (have HLN := Lib.hid (line_val f hv0); have he := empty_f (s := str f.val) (by rw [hzv]; exact List.length_pos_iff.2 hv0))
    all_goals
      have hzn1 : (str f.name).size ≤ 30 := by omega
      have hzv1 : (str f.val).size ≤ 150 := by omega
      clear hv0 hzn hzv hvl
      generalize hln : lineF f = ln at *
      generalize hfi : f.name.length + 3 = fi at *
      have hfi2 : 2 ≤ fi ∧ fi ≤ 100 := by omega
      have HLN2 := Lib.hid hln
      have HFI2 := Lib.hid hfi
      clear hln hfi hnl
      generalize str f.name = n at *
      generalize str f.val = v at *
      have hsz1 : (ByteArray.mk #[58]).size = 1 := rfl
      have hsz2 : (ByteArray.mk #[32]).size = 1 := rfl
      have hA1 : (n ++ ⟨#[58]⟩ : ByteArray).size ≤ 40 := by rw [ByteArray.size_append]; omega
      go_enter Tryz.func88, Tryz.ntmps88
      go_wp2_with fail
      refine (HFV.out _ HF.out).mono ?_
      rintro e w1 ⟨rfl, hb1⟩
      rw [HV.out]
      obtain ⟨cA, fA, zA⟩ := fresh1 hb1
      have hbw := nx hb0 hb1
      go_wp2_with fail
      go_loopw [3, 4, 5] (fun s q r wr => ∃ (acc : List (List UInt8)) (l : List UInt8) (k : Nat), s = .string (str l) ∧ q = .int .i64 k ∧ OwnL w.heap.size r acc wr ∧ foldF f = acc ++ foldL l k ∧ 2 ≤ k ∧ k ≤ 100 ∧ l.length ≤ 182 ∧ acc.length + l.length ≤ 182 ∧ Below w.heap.size w wr) (fun s _ _ _ => Lib.strSize s)
      case atStart => exact ⟨[], ln, fi, by rw [← HLN.out], by rw [HFI.out], OwnL.nil _ _, HG0.out, hfi2.1, hfi2.2, hll, by simp; omega, hbw⟩
      case round =>
        obtain ⟨acc, l, k, rfl, rfl, hown, hg, hk1, hk2, hl1, hl2, hb⟩ := hrel
        have HG := Lib.hid hg
        have hown1 := hown
        unfold OwnL at hown1
        have hbs := hb.size
        have hlz := str_size l
        have HLI := Lib.hid (str_list l)
        have HSS : Hid (Lib.strSize (.string (str l)) = l.length) := by show Lib.strSize _ = _; rw [Lib.strSize_string, hlz]
        clear hg
        by_cases h40 : 40 < l.length
        · have h40' : 40 < (str l).size := by omega
          cases hbk : brk l k with
          | none =>
            have HE : Hid (foldF f = acc ++ [(str l).data.toList]) := by show _ = _; rw [HG.out, str_list, foldL_stop hbk]
            have HB : Hid (brk (str l).data.toList k = none) := by show _ = _; rw [str_list]; exact hbk
            clear hbk
            generalize str l = px at *
            go_wp2_with fail
            refine (breakPlace_none px k _ (by omega) hk1 (by omega) HB.out).mono ?_
            rintro e w2 ⟨rfl, rfl⟩
            go_wp2_with (at_builtin; refine wpList_append_own _ rfl _ _ 23 rfl w.heap.size 9 i0 (.string ⟨#[]⟩) 1 16 Tryz.underlying23 hi hz0 hz1 hz2 rfl (by decide) _ _ _ rfl (World.ownsRow.alloc hown1 _) ⟨wr.heap.size, 0, none⟩ 1 1 [.string px] rfl rfl ?q1 ?q2 ?q3 ?q4 ?q5 ?_)
            case q1 =>
              intro u v hj
              match u, hj with
              | 0, hj => simp at hj; subst hj; simp [Addr.add]
            case q2 => intro u hu; simp at hu; subst hu; rfl
            case q3 => unfold maxLen; omega
            case q4 => omega
            case q5 => simp; omega
            intro v' w3 hown' hgrow _
            have hO3 := own_snoc hown'
            have hb3 : Below w.heap.size wr w3 := ((Below.refl _ _).alloc (by omega) _).grown hgrow (by simp; omega) (fun k hk => (World.ownsRow.lt hown1 k hk).1)
            go_wp2
            go_ret
            exact ⟨v', rfl, by rw [HE.out]; exact hO3, hb.trans hb3⟩
          | some a =>
            obtain ⟨ha1, ha2, _, _⟩ := brk_some hbk
            have HE : Hid (foldF f = (acc ++ [((str l).extract 0 a).data.toList]) ++ foldL (l.drop a) 2) := by show _ = _; rw [HG.out, foldL_cut h40 hk1 hbk, ext_tk, str_list]; simp
            have HB : Hid (brk (str l).data.toList k = some a) := by show _ = _; rw [str_list]; exact hbk
            have HX : Hid ((str l).extract a l.length = str (l.drop a)) := by show _ = _; rw [← ext_dr l a, hlz]
            have ha3 : a ≤ (str l).size := by omega
            have ha4 : a ≤ 182 := by omega
            have hdl : (l.drop a).length + a = l.length := by rw [List.length_drop]; omega
            have HDL := Lib.hid hdl
            clear hbk hdl
            generalize hpx : str l = px at *
            have HPX := Lib.hid hpx
            clear hpx
            go_wp2_with fail
            refine (breakPlace_some px k a _ (by omega) hk1 (by omega) HB.out).mono ?_
            rintro e w2 ⟨rfl, rfl⟩
            go_wp2_with (at_builtin; refine wpList_append_own _ rfl _ _ 23 rfl w.heap.size 9 i0 (.string ⟨#[]⟩) 1 16 Tryz.underlying23 hi hz0 hz1 hz2 rfl (by decide) _ _ _ rfl (World.ownsRow.alloc hown1 _) ⟨wr.heap.size, 0, none⟩ 1 1 [.string (px.extract 0 a)] rfl rfl ?c1 ?c2 ?c3 ?c4 ?c5 ?_)
            case c1 =>
              intro u v hj
              match u, hj with
              | 0, hj => simp at hj; subst hj; simp [Addr.add]
            case c2 => intro u hu; simp at hu; subst hu; rfl
            case c3 => unfold maxLen; omega
            case c4 => omega
            case c5 => simp; omega
            intro v' w3 hown' hgrow _
            have hO3 := own_snoc hown'
            have hb3 : Below w.heap.size wr w3 := ((Below.refl _ _).alloc (by omega) _).grown hgrow (by simp; omega) (fun k hk => (World.ownsRow.lt hown1 k hk).1)
            go_wp2
            go_roundw
            case rel => exact ⟨_, l.drop a, 2, by rw [← HX.out], rfl, hO3, HE.out, by omega, by omega, by have := HDL.out; omega, by have := HDL.out; simp only [List.length_append, List.length_singleton]; omega, hb.trans hb3⟩
            case measure =>
              show Lib.strSize _ < Lib.strSize _
              rw [HX.out, Lib.strSize_string, Lib.strSize_string, str_size, hlz]
              have := HDL.out; omega
        · have h40' : ¬ 40 < (str l).size := by omega
          have HE : Hid (foldF f = acc ++ [(str l).data.toList]) := by show _ = _; rw [HG.out, str_list, foldL_short (by omega)]
          generalize str l = px at *
          go_wp2_with (at_builtin; refine wpList_append_own _ rfl _ _ 23 rfl w.heap.size 9 i0 (.string ⟨#[]⟩) 1 16 Tryz.underlying23 hi hz0 hz1 hz2 rfl (by decide) _ _ _ rfl (World.ownsRow.alloc hown1 _) ⟨wr.heap.size, 0, none⟩ 1 1 [.string px] rfl rfl ?r1 ?r2 ?r3 ?r4 ?r5 ?_)
          case r1 =>
            intro u v hj
            match u, hj with
            | 0, hj => simp at hj; subst hj; simp [Addr.add]
          case r2 => intro u hu; simp at hu; subst hu; rfl
          case r3 => unfold maxLen; omega
          case r4 => omega
          case r5 => simp; omega
          intro v' w3 hown' hgrow _
          have hO3 := own_snoc hown'
          have hb3 : Below w.heap.size wr w3 := ((Below.refl _ _).alloc (by omega) _).grown hgrow (by simp; omega) (fun k hk => (World.ownsRow.lt hown1 k hk).1)
          go_wp2
          go_ret
          exact ⟨v', rfl, by rw [HE.out]; exact hO3, hb.trans hb3⟩
end Go.Proofs.YtcdmjckkencgoaaGreatDoor
end

section
namespace Go.Proofs.YtcdmjckkencgoaaGreatDoor
open Go.RowKit

set_option maxRecDepth 100000 in
set_option maxHeartbeats 1000000 in
theorem l3Break_any (s : ByteArray) (from0 : Nat) (w : World) (hs : s.size ≤ 1073741824) (hf : 1 ≤ from0) (hf2 : from0 ≤ 1073741824) :
    Calls Tryz.prog 115 #[.string s, .int .i64 from0] w fun e w' => e = .returned (.int .i64 (idxI (brk s.data.toList (from0 + 1)))) ∧ w = w' := by
  go_enter Tryz.func115, Tryz.ntmps115
  go_wp2_with fail
  go_loop [5, 6] (fun p i => ∃ (n j : Nat), j = from0 + 1 + n ∧ (n = 0 ∨ j + 1 ≤ s.size) ∧ i = .int .i64 j ∧ ((p = .int .i64 (-1) ∧ brkTo s.data.toList (from0 + 1) n = none) ∨ ∃ b : Nat, p = .int .i64 b ∧ brkTo s.data.toList (from0 + 1) n = some b)) (fun _ i => s.size - (intOf i).toNat)
  case atStart => exact ⟨0, from0 + 1, rfl, .inl rfl, by go_num, .inl ⟨rfl, rfl⟩⟩
  case round =>
    obtain ⟨n, j, hj, hn, rfl, hb⟩ := hrel
    have HJ := Lib.hid hj
    have hj2 : 2 ≤ j := by omega
    by_cases hlt : (j : Int) + 1 < s.size
    · have h2 : j + 1 < s.size := by omega
      have h3 : j < s.size := by omega
      have h4 : j - 1 < s.size := by omega
      have h5 : 1 ≤ j := by omega
      have HA := Lib.hid (alone_at s j (by omega) h2)
      cases ha : alone s.data.toList j
      · have HN : Hid (brkTo s.data.toList (from0 + 1) (n + 1) = brkTo s.data.toList (from0 + 1) n) := by show _ = _; rw [brkTo_succ, ← hj, best_f ha]
        have ho : s[j] ≠ 32 ∨ (s[j] = 32 ∧ s[j - 1] = 32) ∨ (s[j] = 32 ∧ s[j - 1] ≠ 32 ∧ s[j + 1] = 32) := by
          have := HA.out
          rw [ha] at this
          by_cases g1 : s[j] = 32 <;> by_cases g2 : s[j - 1] = 32 <;> by_cases g3 : s[j + 1] = 32 <;> simp [g1, g2, g3] at this ⊢
        have HB := Lib.hid hb
        clear ha hj hn hb
        rcases ho with g1 | ⟨g1, g2⟩ | ⟨g1, g2, g3⟩
        · have e1 := bneq_t g1 (n := 32) rfl
          clear g1
          go_wp2
          go_round
          case rel => exact ⟨n + 1, j + 1, by have := HJ.out; omega, by omega, by go_num, by rw [HN.out]; exact HB.out⟩
          case measure => simp [intOf]; omega
        · have e1 := bneq_f g1 (n := 32) rfl
          have e2 := beq_t g2 (n := 32) rfl
          clear g1 g2
          go_wp2
          go_round
          case rel => exact ⟨n + 1, j + 1, by have := HJ.out; omega, by omega, by go_num, by rw [HN.out]; exact HB.out⟩
          case measure => simp [intOf]; omega
        · have e1 := bneq_f g1 (n := 32) rfl
          have e2 := beq_f g2 (n := 32) rfl
          have e3 := beq_t g3 (n := 32) rfl
          clear g1 g2 g3
          go_wp2
          go_round
          case rel => exact ⟨n + 1, j + 1, by have := HJ.out; omega, by omega, by go_num, by rw [HN.out]; exact HB.out⟩
          case measure => simp [intOf]; omega
      · have ho : s[j] = 32 ∧ s[j - 1] ≠ 32 ∧ s[j + 1] ≠ 32 := by
          have := HA.out
          rw [ha] at this
          by_cases g1 : s[j] = 32 <;> by_cases g2 : s[j - 1] = 32 <;> by_cases g3 : s[j + 1] = 32 <;> simp [g1, g2, g3] at this ⊢
        obtain ⟨g1, g2, g3⟩ := ho
        have e1 := bneq_f g1 (n := 32) rfl
        have e2 := beq_f g2 (n := 32) rfl
        have e3 := beq_f g3 (n := 32) rfl
        clear g1 g2 g3 hn
        rcases hb with ⟨rfl, hbr⟩ | ⟨b, rfl, hbr⟩
        · have HN : Hid (brkTo s.data.toList (from0 + 1) (n + 1) = some j) := by show _ = _; rw [brkTo_succ, ← hj, best_t ha (.inr hbr)]
          clear ha hj hbr
          by_cases h40 : j ≤ 40
          all_goals
            go_wp2
            go_round
            case rel => exact ⟨n + 1, j + 1, by have := HJ.out; omega, by omega, by go_num, .inr ⟨j, rfl, HN.out⟩⟩
            case measure => simp [intOf]; omega
        · by_cases h40 : j ≤ 40
          · have HN : Hid (brkTo s.data.toList (from0 + 1) (n + 1) = some j) := by show _ = _; rw [brkTo_succ, ← hj, best_t ha (.inl h40)]
            clear ha hj hbr
            go_wp2
            go_round
            case rel => exact ⟨n + 1, j + 1, by have := HJ.out; omega, by omega, by go_num, .inr ⟨j, rfl, HN.out⟩⟩
            case measure => simp [intOf]; omega
          · have HN : Hid (brkTo s.data.toList (from0 + 1) (n + 1) = some b) := by show _ = _; rw [brkTo_succ, ← hj, best_late (by omega) hbr, hbr]
            have hbn : ¬ ((b : Int) < 0) := by omega
            clear ha hj hbr
            go_wp2
            go_round
            case rel => exact ⟨n + 1, j + 1, by have := HJ.out; omega, by omega, by go_num, .inr ⟨b, rfl, HN.out⟩⟩
            case measure => simp [intOf]; omega
    · have HR := Lib.hid (brk_of s (from0 + 1) n (by omega) (by omega))
      have hjb : j ≤ 2147483648 := by omega
      clear hj hn
      rcases hb with ⟨rfl, hbr⟩ | ⟨b, rfl, hbr⟩
      · have HB := Lib.hid hbr
        clear hbr
        go_wp2
        go_ret
        exact ⟨ret_int (by rw [HR.out, HB.out]; rfl), rfl⟩
      · have HB := Lib.hid hbr
        clear hbr
        go_wp2
        go_ret
        exact ⟨ret_int (by rw [HR.out, HB.out]; rfl), rfl⟩
set_option maxRecDepth 100000 in
set_option maxHeartbeats 2000000 in
theorem foldFieldS_any (f : Fld) (w : World) (hf : SmallF 1073741000 f) :
    Calls Tryz.prog 83 #[.agg #[.string (str f.name), .string (str f.val)]] w (RowL (foldF f) w) := by
  obtain ⟨i0, hi, hz0, hz1, hz2⟩ := info_parts sInfo
  have hb0 : Below w.heap.size w (w.alloc (.cells #[.string (str f.name), .string (str f.val)] 78)) := (Below.refl _ _).alloc (Nat.le_refl _) _
  have hb00 := hb0.alloc hb0.size (.cells #[] 9)
  have hown0 : OwnL w.heap.size (.slice (some ⟨w.heap.size + 1, 0, none⟩) 0 0) [] ((w.alloc (.cells #[.string (str f.name), .string (str f.val)] 78)).alloc (.cells #[] 9)) := by
    have := (OwnL.empty (w.alloc (.cells #[.string (str f.name), .string (str f.val)] 78))).base (B' := w.heap.size) (by simp)
    simpa using this
  have HF := Lib.hid hf
  have HFV := Lib.hid (fieldValidS_fld f)
  cases hv : isFld f
  · have HV := Lib.hid hv
    have HN := Lib.hid (foldF_no hv)
    clear hv hf
    generalize str f.name = n at *
    generalize str f.val = v at *
    go_enter Tryz.func83, Tryz.ntmps83
    go_wp2_with fail
    refine (HFV.out _ HF.out).mono ?_
    rintro e w1 ⟨rfl, hb1⟩
    rw [HV.out]
    go_wp2
    go_ret
    exact ⟨_, rfl, by rw [HN.out]; exact hown0.keep hb1, nx hb00 hb1⟩
  · have HV := Lib.hid hv
    have hll := line_len hv
    have hnl := (isFName_iff.1 (isFld_iff.1 hv).1).2.1
    have hvl := (isFld_iff.1 hv).2.2.1
    have HG0 : Hid (foldF f = [] ++ foldL (lineF f) (f.name.length + 3)) := foldF_val hv
    have hzn := str_size f.name
    have hzv := str_size f.val
    have HSH : Hid (f.val = [] → foldF f = [] ++ foldL (lineF f) (f.name.length + 2)) := fun h => by
      have hl : (lineF f).length ≤ 40 := by unfold lineF; rw [if_pos h]; simp; omega
      rw [HG0.out, foldL_short hl, foldL_short hl]
    have HFI : Hid (((f.name.length + 1 : Nat) : Int) = ((str f.name).size : Int) + 1 ∧ ((f.name.length + 2 : Nat) : Int) = ((str f.name).size : Int) + 1 + 1) := by
      show _ ∧ _
      rw [hzn]; exact ⟨by omega, by omega⟩
    clear hv hf
    by_cases hv0 : f.val = []
    all_goals
      first
        | (have HLN := Lib.hid (line_none f hv0); have HGS : Hid (foldF f = [] ++ foldL (lineF f) (f.name.length + 1 + 1)) := HSH.out hv0; have HK : Hid (((f.name.length + 1 : Nat) : Int) = ((str f.name).size : Int) + 1) := HFI.out.1; have hki : f.name.length + 1 ≤ 99 ∧ 1 ≤ f.name.length + 1 := by omega
           generalize f.name.length + 1 = ki at *; have he := empty_t (s := str f.val) (by rw [hzv, hv0]; rfl))
        | (have HLN := Lib.hid (line_val2 f hv0); have HGS : Hid (foldF f = [] ++ foldL (lineF f) (f.name.length + 2 + 1)) := HG0.out; have HK : Hid (((f.name.length + 2 : Nat) : Int) = ((str f.name).size : Int) + 1 + 1) := HFI.out.2; have hki : f.name.length + 2 ≤ 99 ∧ 1 ≤ f.name.length + 2 := by omega
           generalize f.name.length + 2 = ki at *; have he := empty_f (s := str f.val) (by rw [hzv]; exact List.length_pos_iff.2 hv0))
    all_goals
      have hzn1 : (str f.name).size ≤ 30 := by omega
      have hzv1 : (str f.val).size ≤ 150 := by omega
      clear hv0 hzn hzv hvl
      generalize hln : lineF f = ln at *
      have HLN2 := Lib.hid hln
      clear hln hnl HSH HG0 HFI
      generalize str f.name = n at *
      generalize str f.val = v at *
      have hsz1 : (ByteArray.mk #[58]).size = 1 := rfl
      have hsz2 : (ByteArray.mk #[32]).size = 1 := rfl
      have hA1 : (n ++ ⟨#[58]⟩ : ByteArray).size ≤ 40 := by rw [ByteArray.size_append]; omega
      go_enter Tryz.func83, Tryz.ntmps83
      go_wp2_with fail
      refine (HFV.out _ HF.out).mono ?_
      rintro e w1 ⟨rfl, hb1⟩
      rw [HV.out]
      have hbw := nx hb00 hb1
      have hownw := hown0.keep hb1
      obtain ⟨hcB, hfB⟩ := bcell hb1
      go_wp2_with fail
      go_loopw [3, 4, 5] (fun r s q wr => ∃ (acc : List (List UInt8)) (l : List UInt8) (k : Nat), s = .string (str l) ∧ q = .int .i64 k ∧ OwnL w.heap.size r acc wr ∧ foldF f = acc ++ foldL l (k + 1) ∧ 1 ≤ k ∧ k ≤ 99 ∧ l.length ≤ 182 ∧ acc.length + l.length ≤ 182 ∧ Below w.heap.size w wr) (fun _ s _ _ => Lib.strSize s)
      case atStart => exact ⟨[], ln, ki, by rw [← HLN.out], by rw [HK.out], hownw, HGS.out, hki.2, hki.1, hll, by simp; omega, hbw⟩
      case round =>
        obtain ⟨acc, l, k, rfl, rfl, hown, hg, hk1, hk2, hl1, hl2, hb⟩ := hrel
        have HG := Lib.hid hg
        have hown1 := hown
        unfold OwnL at hown1
        have hbs := hb.size
        have hlz := str_size l
        have HLI := Lib.hid (str_list l)
        have HSS : Hid (Lib.strSize (.string (str l)) = l.length) := by show Lib.strSize _ = _; rw [Lib.strSize_string, hlz]
        clear hg
        by_cases h40 : 40 < l.length
        · have h40' : 40 < (str l).size := by omega
          cases hbk : brk l (k + 1) with
          | none =>
            have HE : Hid (foldF f = acc ++ [(str l).data.toList]) := by show _ = _; rw [HG.out, str_list, foldL_stop hbk]
            have HB : Hid (brk (str l).data.toList (k + 1) = none) := by show _ = _; rw [str_list]; exact hbk
            clear hbk
            generalize str l = px at *
            go_wp2_with fail
            refine (l3Break_any px k _ (by omega) hk1 (by omega)).mono ?_
            rintro e w2 ⟨rfl, rfl⟩
            rw [HB.out, idxI_none]
            go_wp2_with (at_builtin; refine wpList_append_own _ rfl _ _ 23 rfl w.heap.size 9 i0 (.string ⟨#[]⟩) 1 16 Tryz.underlying23 hi hz0 hz1 hz2 rfl (by decide) _ _ _ rfl (World.ownsRow.alloc hown1 _) ⟨wr.heap.size, 0, none⟩ 1 1 [.string px] rfl rfl ?q1 ?q2 ?q3 ?q4 ?q5 ?_)
            case q1 =>
              intro u v hj
              match u, hj with
              | 0, hj => simp at hj; subst hj; simp [Addr.add]
            case q2 => intro u hu; simp at hu; subst hu; rfl
            case q3 => unfold maxLen; omega
            case q4 => omega
            case q5 => simp; omega
            intro v' w3 hown' hgrow _
            have hO3 := own_snoc hown'
            have hb3 : Below w.heap.size wr w3 := ((Below.refl _ _).alloc (by omega) _).grown hgrow (by simp; omega) (fun k hk => (World.ownsRow.lt hown1 k hk).1)
            go_wp2
            go_ret
            exact ⟨v', rfl, by rw [HE.out]; exact hO3, hb.trans hb3⟩
          | some a =>
            obtain ⟨ha1, ha2, _, _⟩ := brk_some hbk
            have HE : Hid (foldF f = (acc ++ [((str l).extract 0 a).data.toList]) ++ foldL (l.drop a) 2) := by show _ = _; rw [HG.out, foldL_cut h40 (by omega) hbk, ext_tk, str_list]; simp
            have HB : Hid (brk (str l).data.toList (k + 1) = some a) := by show _ = _; rw [str_list]; exact hbk
            have HX : Hid ((str l).extract a l.length = str (l.drop a)) := by show _ = _; rw [← ext_dr l a, hlz]
            have ha3 : a ≤ (str l).size := by omega
            have ha4 : a ≤ 182 := by omega
            have hdl : (l.drop a).length + a = l.length := by rw [List.length_drop]; omega
            have HDL := Lib.hid hdl
            clear hbk hdl
            generalize hpx : str l = px at *
            have HPX := Lib.hid hpx
            clear hpx
            go_wp2_with fail
            refine (l3Break_any px k _ (by omega) hk1 (by omega)).mono ?_
            rintro e w2 ⟨rfl, rfl⟩
            rw [HB.out, idxI_some]
            go_wp2_with (at_builtin; refine wpList_append_own _ rfl _ _ 23 rfl w.heap.size 9 i0 (.string ⟨#[]⟩) 1 16 Tryz.underlying23 hi hz0 hz1 hz2 rfl (by decide) _ _ _ rfl (World.ownsRow.alloc hown1 _) ⟨wr.heap.size, 0, none⟩ 1 1 [.string (px.extract 0 a)] rfl rfl ?c1 ?c2 ?c3 ?c4 ?c5 ?_)
            case c1 =>
              intro u v hj
              match u, hj with
              | 0, hj => simp at hj; subst hj; simp [Addr.add]
            case c2 => intro u hu; simp at hu; subst hu; rfl
            case c3 => unfold maxLen; omega
            case c4 => omega
            case c5 => simp; omega
            intro v' w3 hown' hgrow _
            have hO3 := own_snoc hown'
            have hb3 : Below w.heap.size wr w3 := ((Below.refl _ _).alloc (by omega) _).grown hgrow (by simp; omega) (fun k hk => (World.ownsRow.lt hown1 k hk).1)
            go_wp2
            go_roundw
            case rel => exact ⟨_, l.drop a, 1, by rw [← HX.out], rfl, hO3, HE.out, by omega, by omega, by have := HDL.out; omega, by have := HDL.out; simp only [List.length_append, List.length_singleton]; omega, hb.trans hb3⟩
            case measure =>
              show Lib.strSize _ < Lib.strSize _
              rw [HX.out, Lib.strSize_string, Lib.strSize_string, str_size, hlz]
              have := HDL.out; omega
        · have h40' : ¬ 40 < (str l).size := by omega
          have HE : Hid (foldF f = acc ++ [(str l).data.toList]) := by show _ = _; rw [HG.out, str_list, foldL_short (by omega)]
          generalize str l = px at *
          go_wp2_with (at_builtin; refine wpList_append_own _ rfl _ _ 23 rfl w.heap.size 9 i0 (.string ⟨#[]⟩) 1 16 Tryz.underlying23 hi hz0 hz1 hz2 rfl (by decide) _ _ _ rfl (World.ownsRow.alloc hown1 _) ⟨wr.heap.size, 0, none⟩ 1 1 [.string px] rfl rfl ?r1 ?r2 ?r3 ?r4 ?r5 ?_)
          case r1 =>
            intro u v hj
            match u, hj with
            | 0, hj => simp at hj; subst hj; simp [Addr.add]
          case r2 => intro u hu; simp at hu; subst hu; rfl
          case r3 => unfold maxLen; omega
          case r4 => omega
          case r5 => simp; omega
          intro v' w3 hown' hgrow _
          have hO3 := own_snoc hown'
          have hb3 : Below w.heap.size wr w3 := ((Below.refl _ _).alloc (by omega) _).grown hgrow (by simp; omega) (fun k hk => (World.ownsRow.lt hown1 k hk).1)
          go_wp2
          go_ret
          exact ⟨v', rfl, by rw [HE.out]; exact hO3, hb.trans hb3⟩
end Go.Proofs.YtcdmjckkencgoaaGreatDoor
end

section
namespace Go.Proofs.YtcdmjckkencgoaaGreatDoor
open Go.RowKit

def FoldRet (xs : List Fld) (w : World) (e : Ending) (w' : World) : Prop := ∃ v, e = .returned (.tuple #[v, .bool (fldsOk xs)]) ∧ OwnL w.heap.size v (foldFs xs) w' ∧ Below w.heap.size w w'
theorem foldRet_none {xs : List Fld} {w w' : World} {v : Value} (h : fldsOk xs = false) (ho : OwnL w.heap.size v [] w') (hb : Below w.heap.size w w') : FoldRet xs w (.returned (.tuple #[v, .bool false])) w' :=
  ⟨v, by rw [h], by unfold foldFs; rw [if_neg (by simp [h])]; exact ho, hb⟩
theorem foldRet_some {xs : List Fld} {w w' : World} {v : Value} (h : fldsOk xs = true) (ho : OwnL w.heap.size v (foldFs xs) w') (hb : Below w.heap.size w w') : FoldRet xs w (.returned (.tuple #[v, .bool true])) w' :=
  ⟨v, by rw [h], ho, hb⟩
set_option maxRecDepth 100000 in
set_option maxHeartbeats 1000000 in
theorem foldFields_any (a : Option Addr) (n c : Nat) (xs : List Fld) (w : World) (hr : RdF w a n xs) (hn : n ≤ 1073741824) (hx : ∀ x ∈ xs, SmallF 1073741000 x) :
    Calls Tryz.prog 58 #[.slice a n c] w (FoldRet xs w) := by
  have HX := Lib.hid hx
  have HR := Lib.hid hr
  cases hok : fldsOk xs
  · have HV := Lib.hid hok
    clear hok hx
    go_enter Tryz.func58, Tryz.ntmps58
    go_wp2_with fail
    refine (fieldsValid_any a n c xs _ hr hn HX.out).mono ?_
    rintro e w1 ⟨rfl, hb1⟩
    rw [HV.out]
    go_wp2
    go_ret2
    exact foldRet_none HV.out (OwnL.nil _ _) hb1
  · have hall := (fldsOk_iff.1 hok).1
    have hl20 := (fldsOk_iff.1 hok).2
    have HV := Lib.hid hok
    have HALL := Lib.hid hall
    have hn20 : n ≤ 20 := by have := hr.1; omega
    have HLEN := Lib.hid hr.1
    clear hok hall hx
    go_enter Tryz.func58, Tryz.ntmps58
    go_wp2_with fail
    refine (fieldsValid_any a n c xs _ hr hn HX.out).mono ?_
    rintro e w1 ⟨rfl, hb1⟩
    rw [HV.out]
    have hB1 := hb1
    clear hr hl20
    go_wp2_with fail
    go_loopw [4, 12] (fun v i wr => ∃ (k : Nat) (acc : List (List UInt8)), k ≤ n ∧ i = .int .i64 k ∧ acc.length ≤ 183 * k ∧ (xs.take k).flatMap foldF = acc ∧ OwnL w.heap.size v acc wr ∧ Below w.heap.size w wr) (fun _ i _ => n - (intOf i).toNat)
    case atStart => exact ⟨0, [], Nat.zero_le _, rfl, Nat.zero_le _, rfl, OwnL.nil _ _, hB1⟩
    case round =>
      obtain ⟨k, acc, hk, rfl, hal, hacc, hown, hb⟩ := hrel
      have HACC := Lib.hid hacc
      clear hacc
      by_cases hlt : k < n
      · have hkx : k < xs.length := by rw [HLEN.out]; exact hlt
        obtain ⟨b, off, rfl, hbl, hcell⟩ := HR.out.2.resolve_left (by omega)
        obtain ⟨q0, q1⟩ := RdR.fld hcell hkx
        rw [← below_at hb hbl] at q0 q1
        have HSM := Lib.hid (HX.out _ (List.getElem_mem hkx))
        have HST : Hid ((xs.take (k + 1)).flatMap foldF = acc ++ foldF xs[k]) := by show _ = _; rw [List.take_succ_eq_append_getElem hkx, List.flatMap_append, HACC.out]; simp
        have hfl := (foldF_len xs[k]).1
        have HFC := Lib.hid (foldField_any xs[k])
        clear hcell
        generalize foldF xs[k] = fs at *
        generalize str xs[k].name = s0 at *
        generalize str xs[k].val = s1 at *
        have HOWN := Lib.hid hown
        clear hown
        have hbA : Below wr.heap.size wr (wr.alloc (.cells #[.string s0, .string s1] 78)) := (Below.refl _ _).alloc (Nat.le_refl _) _
        go_wp2_with fail
        refine (HFC.out _ HSM.out).mono ?_
        rintro e w2 ⟨v2, rfl, ho2, hb2⟩
        have hO2 := HOWN.out.keep (nx hbA hb2)
        have hB2 := nx hb (nx hbA hb2)
        have hsz := hB2.size
        go_wp2_with (at_builtin; refine wpList_append_LL rfl _ _ rfl w.heap.size _ _ _ acc fs rfl rfl hO2 ho2 hsz (by omega) ?_)
        intro v' w3 ho3 hb3
        go_wp2
        go_roundw
        case rel => exact ⟨k + 1, _, by omega, by go_num, by rw [List.length_append]; omega, HST.out, ho3, hB2.trans hb3⟩
        case measure => simp [intOf]; omega
      · have HE : Hid (foldFs xs = acc) := by
          show _ = _
          rw [← HACC.out, List.take_of_length_le (by rw [HLEN.out]; omega), foldAll_map HALL.out]
          unfold foldFs; rw [if_pos HV.out]
        go_wp2
        go_ret2
        exact foldRet_some HV.out (by rw [HE.out]; exact hown) hb
set_option maxRecDepth 100000 in
set_option maxHeartbeats 1000000 in
theorem foldFieldsS_any (a : Option Addr) (n c : Nat) (xs : List Fld) (w : World) (hr : RdF w a n xs) (hn : n ≤ 1073741824) (hx : ∀ x ∈ xs, SmallF 1073741000 x) :
    Calls Tryz.prog 54 #[.slice a n c] w (FoldRet xs w) := by
  have HX := Lib.hid hx
  have HR := Lib.hid hr
  have hb00 : Below w.heap.size w (w.alloc (.cells #[] 9)) := (Below.refl _ _).alloc (Nat.le_refl _) _
  have HOW : Hid (OwnL w.heap.size (.slice (some ⟨w.heap.size, 0, none⟩) 0 0) [] (w.alloc (.cells #[] 9))) := OwnL.empty _
  cases hok : fldsOk xs
  · have HV := Lib.hid hok
    clear hok hx
    go_enter Tryz.func54, Tryz.ntmps54
    go_wp2_with fail
    refine (l3Valid_any a n c xs _ (hr.below hb00) hn HX.out).mono ?_
    rintro e w1 ⟨rfl, hb1⟩
    rw [HV.out]
    go_wp2
    go_ret2
    exact foldRet_none HV.out (HOW.out.keep hb1) (nx hb00 hb1)
  · have hall := (fldsOk_iff.1 hok).1
    have hl20 := (fldsOk_iff.1 hok).2
    have HV := Lib.hid hok
    have HALL := Lib.hid hall
    have hn20 : n ≤ 20 := by have := hr.1; omega
    have HLEN := Lib.hid hr.1
    clear hok hall hx
    go_enter Tryz.func54, Tryz.ntmps54
    go_wp2_with fail
    refine (l3Valid_any a n c xs _ (hr.below hb00) hn HX.out).mono ?_
    rintro e w1 ⟨rfl, hb1⟩
    rw [HV.out]
    have hB1 := (nx hb00 hb1)
    clear hr hl20
    go_wp2_with fail
    go_loopw [4, 5] (fun v i wr => ∃ (k : Nat) (acc : List (List UInt8)), k ≤ n ∧ i = .int .i64 k ∧ acc.length ≤ 183 * k ∧ (xs.take k).flatMap foldF = acc ∧ OwnL w.heap.size v acc wr ∧ Below w.heap.size w wr) (fun _ i _ => n - (intOf i).toNat)
    case atStart => exact ⟨0, [], Nat.zero_le _, rfl, Nat.zero_le _, rfl, HOW.out.keep hb1, hB1⟩
    case round =>
      obtain ⟨k, acc, hk, rfl, hal, hacc, hown, hb⟩ := hrel
      have HACC := Lib.hid hacc
      clear hacc
      by_cases hlt : k < n
      · have hkx : k < xs.length := by rw [HLEN.out]; exact hlt
        obtain ⟨b, off, rfl, hbl, hcell⟩ := HR.out.2.resolve_left (by omega)
        obtain ⟨q0, q1⟩ := RdR.fld hcell hkx
        rw [← below_at hb hbl] at q0 q1
        have HSM := Lib.hid (HX.out _ (List.getElem_mem hkx))
        have HST : Hid ((xs.take (k + 1)).flatMap foldF = acc ++ foldF xs[k]) := by show _ = _; rw [List.take_succ_eq_append_getElem hkx, List.flatMap_append, HACC.out]; simp
        have hfl := (foldF_len xs[k]).1
        have HFC := Lib.hid (foldFieldS_any xs[k])
        clear hcell
        generalize foldF xs[k] = fs at *
        generalize str xs[k].name = s0 at *
        generalize str xs[k].val = s1 at *
        have HOWN := Lib.hid hown
        clear hown
        go_wp2_with fail
        refine (HFC.out _ HSM.out).mono ?_
        rintro e w2 ⟨v2, rfl, ho2, hb2⟩
        have hO2 := HOWN.out.keep hb2
        have hB2 := nx hb hb2
        have hsz := hB2.size
        go_wp2_with (at_builtin; refine wpList_append_LL rfl _ _ rfl w.heap.size _ _ _ acc fs rfl rfl hO2 ho2 hsz (by omega) ?_)
        intro v' w3 ho3 hb3
        go_wp2
        go_roundw
        case rel => exact ⟨k + 1, _, by omega, by go_num, by rw [List.length_append]; omega, HST.out, ho3, hB2.trans hb3⟩
        case measure => simp [intOf]; omega
      · have HE : Hid (foldFs xs = acc) := by
          show _ = _
          rw [← HACC.out, List.take_of_length_le (by rw [HLEN.out]; omega), foldAll_map HALL.out]
          unfold foldFs; rw [if_pos HV.out]
        go_wp2
        go_ret2
        exact foldRet_some HV.out (by rw [HE.out]; exact hown) hb
end Go.Proofs.YtcdmjckkencgoaaGreatDoor
end

section
namespace Go.Proofs.YtcdmjckkencgoaaGreatDoor
open Go.RowKit

theorem linesRet_noneE {o : Option (List (List UInt8))} {w w' : World} (h : o = none) (hb : Below w.heap.size w w') : LinesRet o w (.returned (.tuple #[.slice (some ⟨w'.heap.size, 0, none⟩) 0 0, .bool false])) (w'.alloc (.cells #[] 9)) := by
  subst h; exact ⟨_, rfl, (OwnL.empty w').base hb.size, hb.alloc hb.size _⟩
theorem linesRet_noneO {o : Option (List (List UInt8))} {w w' : World} {v : Value} (h : o = none) (ho : OwnL w.heap.size v [] w') (hb : Below w.heap.size w w') : LinesRet o w (.returned (.tuple #[v, .bool false])) w' := by
  subst h; exact ⟨v, rfl, ho, hb⟩
set_option maxRecDepth 100000 in
set_option maxHeartbeats 4000000 in
theorem joinPartsS_any (a : Option Addr) (n c : Nat) (ps : List (List (List UInt8))) (s : ByteArray) (w : World) (hr : RdSS w a n ps) (hn : n ≤ 1048576) (hps : sumP ps ≤ 4000000) (hs : s.size ≤ 1073741824) :
    Calls Tryz.prog 56 #[.slice a n c, .string s] w (LinesRet (joinP ps s.data.toList) w) := by
  obtain ⟨hl, hr2⟩ := hr
  have HLEN := Lib.hid hl
  have HR := Lib.hid hr2
  have hbA : Below w.heap.size w (w.alloc (.cells #[] 9)) := (Below.refl _ _).alloc (Nat.le_refl _) _
  have HE : Hid (OwnL w.heap.size (.slice (some ⟨w.heap.size, 0, none⟩) 0 0) [] (w.alloc (.cells #[] 9))) := OwnL.empty w
  clear hl hr2
  cases hv : isBnd s.data.toList
  · have HP := Lib.hid (joinP_no (ps := ps) hv)
    have HV := Lib.hid hv
    clear hv
    go_enter Tryz.func56, Tryz.ntmps56
    go_wp2_with fail
    refine (l7Boundary_any s _ hs).mono ?_
    rintro e w1 ⟨rfl, rfl⟩
    rw [HV.out]
    go_wp2
    go_ret2
    exact linesRet_noneO HP.out HE.out hbA
  · have hz := bnd_size hv
    have HV := Lib.hid hv
    by_cases h0 : n = 0
    · have HP : Hid (joinP ps s.data.toList = none) := by show _ = _; rw [List.length_eq_zero_iff.1 (HLEN.out.trans h0), joinP_nil]
      subst h0
      clear hv hz
      go_enter Tryz.func56, Tryz.ntmps56
      go_wp2_with fail
      refine (l7Boundary_any s _ hs).mono ?_
      rintro e w1 ⟨rfl, rfl⟩
      rw [HV.out]
      go_wp2
      go_ret2
      exact linesRet_noneO HP.out HE.out hbA
    have HPN : Hid (ps ≠ []) := by show _ ≠ _; intro e; exact h0 (by rw [← HLEN.out, e]; rfl)
    have e0 : ((n : Int) == 0) = false := by rw [beq_eq_false_iff_ne]; omega
    have HS4 := Lib.hid hps
    have HB := Lib.hid (beg_str s)
    have HB2 : Hid ((⟨#[45, 45]⟩ : ByteArray) ++ s ++ ⟨#[45, 45]⟩ = str (endL s.data.toList)) := by show _ = _; rw [HB.out]; exact end_str s
    have HBL : Hid (((⟨#[45, 45]⟩ : ByteArray) ++ s).data.toList = begL s.data.toList) := by show _ = _; rw [HB.out, str_list]
    have HBL2 : Hid (((⟨#[45, 45]⟩ : ByteArray) ++ s ++ ⟨#[45, 45]⟩).data.toList = endL s.data.toList) := by show _ = _; rw [HB2.out, str_list]
    have z2 : (⟨#[45, 45]⟩ : ByteArray).size = 2 := rfl
    obtain ⟨b, off, rfl, hbl, hcell⟩ := HR.out.resolve_left h0
    have HC := Lib.hid hcell
    have hs6 : s.size ≤ 1000000 := by omega
    clear hv hps hcell h0
    go_enter Tryz.func56, Tryz.ntmps56
    go_wp2_with fail
    refine (l7Boundary_any s _ hs).mono ?_
    rintro e w1 ⟨rfl, rfl⟩
    rw [HV.out]
    go_wp2_with fail
    go_loopw [6, 7] (fun v i wr => ∃ (k : Nat), k ≤ n ∧ i = .int .i64 k ∧ (∀ j, j < k → (hj : j < ps.length) → freeB s.data.toList ps[j] = true) ∧ OwnL w.heap.size v (partsL s.data.toList (ps.take k)) wr ∧ Below w.heap.size w wr) (fun _ i _ => n - (intOf i).toNat)
    case atStart => exact ⟨0, Nat.zero_le _, rfl, (fun j hj => by omega), HE.out, hbA⟩
    case round =>
      obtain ⟨k, hk, rfl, hall, ho, hb⟩ := hrel
      have HALL := Lib.hid hall
      have HO := Lib.hid ho
      have hbs := hb.size
      have hpl := partsL_len s.data.toList (ps.take k)
      have hpt := sumP_take ps k
      have hs4 := HS4.out
      have hlen4 : (partsL s.data.toList (ps.take k)).length ≤ 4000000 := by omega
      clear hall hpl hpt hs4 ho
      by_cases hlt : k < n
      · have hkx : k < ps.length := by rw [HLEN.out]; exact hlt
        obtain ⟨a5, c5, q0, hd5, hac5, hnc5⟩ := HC.out k hkx
        have HQ0 := Lib.hid q0
        rw [← below_at hb hbl] at q0
        have hpk : ps[k].length ≤ 4000000 := by have := sumP_mem (List.getElem_mem hkx); have := HS4.out; omega
        have HSU := Lib.hid (partsL_succ s.data.toList ps k hkx)
        have HPT : Hid ((partsL s.data.toList (ps.take k)).length + 1 + ps[k].length ≤ 4000000) := by
          have h1 := partsL_len s.data.toList (ps.take (k + 1))
          have h2 := sumP_take ps (k + 1)
          have h3 := HS4.out
          show _ ≤ _
          rw [HSU.out, List.length_append, List.length_append, List.length_singleton] at h1
          omega
        have HD5 := Lib.hid hd5
        have hps1 := HPT.out
        obtain ⟨P, hP⟩ : ∃ P, P = partsL s.data.toList (ps.take k) := ⟨_, rfl⟩
        have HPP := Lib.hid hP
        rw [← hP] at HO hlen4 hps1
        obtain ⟨p, hp⟩ : ∃ p, p = ps[k] := ⟨_, rfl⟩
        have HPK := Lib.hid hp
        rw [← hp] at hpk hps1 q0 HQ0 hnc5 HD5
        clear hd5 hac5 hP hp
        obtain ⟨a6, c6, rfl, _, _, _, hnc6⟩ := HO.out.readc
        have HA : Hid (OwnL w.heap.size (.slice a6 P.length c6) P (wr.alloc (.cells #[.string ((⟨#[45, 45]⟩ : ByteArray) ++ s)] 9))) := HO.out.keep ((Below.refl _ _).alloc (Nat.le_refl _) _)
        go_wp2_with (at_builtin; refine wpList_append_1L rfl _ _ rfl w.heap.size _ P ((⟨#[45, 45]⟩ : ByteArray) ++ s) wr.heap.size rfl rfl (by rw [World.cell?_alloc_at _ _ _ _ rfl]; rfl) HA.out ?c2 ?c3 ?_)
        case c2 => first | omega | (simp; omega)
        case c3 => omega
        intro v4 w4 hO4 hgr4 _
        have hb4 : Below w.heap.size w w4 := (hb.alloc hbs _).grown hgr4 (by simp; omega) (fun g hg => (HA.out.lt g hg).1)
        have HO4 : Hid (OwnL w.heap.size v4 (P ++ [begL s.data.toList]) w4) := by show OwnL _ _ _ _; rw [← HBL.out]; exact hO4
        clear hO4 hgr4
        go_wp2_with fail
        obtain ⟨wo, rfl⟩ : ∃ wo : World, wo = wr := ⟨_, rfl⟩
        go_loopw [6, 8] (fun v i wq => ∃ (j : Nat), j ≤ p.length ∧ i = .int .i64 j ∧ (∀ t, t < j → (ht : t < p.length) → looksB s.data.toList p[t] = false) ∧ OwnL w.heap.size v (P ++ [begL s.data.toList] ++ p.take j) wq ∧ Below w.heap.size w wq) (fun _ i _ => p.length - (intOf i).toNat)
        case atStart => exact ⟨0, Nat.zero_le _, rfl, (fun t ht => by omega), by rw [List.take_zero, List.append_nil]; exact HO4.out, hb4⟩
        case round =>
          obtain ⟨j, hj, rfl, hfr, ho, hb⟩ := hrel
          have HFR := Lib.hid hfr
          have HO5 := Lib.hid ho
          have hbs5 := hb.size
          clear hfr ho q0
          have q0 : wr.cell? ⟨b, off + k, none⟩ = some (.slice a5 p.length c5) := by rw [below_at hb hbl]; exact HQ0.out
          obtain ⟨P2, hP2⟩ : ∃ P2, P2 = P ++ [begL s.data.toList] ++ p.take j := ⟨_, rfl⟩
          have hP2l : P2.length ≤ 4000000 := by rw [hP2, List.length_append, List.length_append, List.length_singleton, List.length_take]; omega
          have HP2 := Lib.hid hP2
          rw [← hP2] at HO5
          clear hP2
          obtain ⟨a7, c7, rfl, _, _, _, hnc7⟩ := HO5.out.readc
          by_cases hjl : j < p.length
          · obtain ⟨b2, off2, ha5, hbl2, hc2⟩ := HD5.out.2.resolve_left (by omega)
            subst ha5
            have q1 : wr.cell? ⟨b2, off2 + j, none⟩ = some (.string (str p[j])) := by rw [below_at hb hbl2]; exact hc2 j hjl
            have HTK := Lib.hid (List.take_succ_eq_append_getElem hjl)
            have HFB : Hid (looksB s.data.toList p[j] = true → freeB s.data.toList p = false) := fun h => freeB_f hjl h
            obtain ⟨x, hx⟩ : ∃ x, x = p[j] := ⟨_, rfl⟩
            have HX := Lib.hid hx
            rw [← hx] at q1 HTK HFB
            clear hc2 hx
            cases hlo : looksB s.data.toList x
            · have HLO := Lib.hid hlo
              have HLC : Hid (∀ u, Calls Tryz.prog 82 #[.string (str x), .string s] u fun e w' => e = .returned (.bool false) ∧ u = w') := fun u => by have := l7Looks_any x s u hs6; rw [hlo] at this; exact this
              have HXS : Hid ((str x).data.toList = x) := str_list x
              clear hlo
              obtain ⟨X, hX⟩ : ∃ X, X = str x := ⟨_, rfl⟩
              rw [← hX] at q1 HLC HXS
              clear hX
              go_wp2_with fail
              refine (HLC.out _).mono ?_
              rintro e w5 ⟨rfl, rfl⟩
              have HA5 : Hid (OwnL w.heap.size (.slice a7 P2.length c7) P2 (wr.alloc (.cells #[.string X] 9))) := HO5.out.keep ((Below.refl _ _).alloc (Nat.le_refl _) _)
              go_wp2_with (at_builtin; refine wpList_append_1L rfl _ _ rfl w.heap.size _ P2 X wr.heap.size rfl rfl (by rw [World.cell?_alloc_at _ _ _ _ rfl]; rfl) HA5.out ?c2 ?c3 ?_)
              case c2 => first | omega | (simp; omega)
              case c3 => omega
              intro v6 w6 hO6 hgr6 _
              have hb6 : Below w.heap.size w w6 := (hb.alloc hbs5 _).grown hgr6 (by simp; omega) (fun g hg => (HA5.out.lt g hg).1)
              have HN : Hid (OwnL w.heap.size v6 (P ++ [begL s.data.toList] ++ p.take (j + 1)) w6) := by
                show OwnL _ _ _ _
                rw [HTK.out, ← List.append_assoc, ← HP2.out, ← HXS.out]; exact hO6
              clear hO6 hgr6
              go_wp2
              go_roundw
              case rel => exact ⟨j + 1, by omega, by go_num, (fun t ht htl => by
                by_cases e : t = j
                · subst e; have := HLO.out; rw [HX.out] at this; exact this
                · exact HFR.out t (by omega) htl), HN.out, hb6⟩
              case measure => simp [intOf]; omega
            · have HP : Hid (joinP ps s.data.toList = none) := by
                have h1 := HFB.out hlo
                rw [HPK.out] at h1
                exact joinP_bad (okParts_bad hkx h1)
              have HLC : Hid (∀ u, Calls Tryz.prog 82 #[.string (str x), .string s] u fun e w' => e = .returned (.bool true) ∧ u = w') := fun u => by have := l7Looks_any x s u hs6; rw [hlo] at this; exact this
              clear hlo
              obtain ⟨X, hX⟩ : ∃ X, X = str x := ⟨_, rfl⟩
              rw [← hX] at q1 HLC
              clear hX
              go_wp2_with fail
              refine (HLC.out _).mono ?_
              rintro e w5 ⟨rfl, rfl⟩
              go_wp2
              go_ret2
              exact linesRet_noneE HP.out hb
          · have hjp : j = p.length := by omega
            have HN : Hid (P2 = partsL s.data.toList (ps.take (k + 1))) := by
              show _ = _
              rw [HP2.out, HSU.out, ← HPP.out, ← HPK.out, hjp, List.take_length]
            have HFK : Hid (freeB s.data.toList p = true) := freeB_t (fun t ht => HFR.out t (by omega) ht)
            clear hjp
            go_wp2
            go_roundw
            case rel => exact ⟨k + 1, by omega, by go_num, (fun t ht htl => by
              by_cases e : t = k
              · subst e; rw [← HPK.out]; exact HFK.out
              · exact HALL.out t (by omega) htl), by rw [← HN.out]; exact HO5.out, hb⟩
            case measure => simp [intOf]; omega
      · have hkn : k = ps.length := by rw [HLEN.out]; omega
        have HT : Hid (ps.take k = ps) := by show _ = _; rw [hkn, List.take_length]
        rw [HT.out] at HO hlen4
        have HP : Hid (joinP ps s.data.toList = some (partsL s.data.toList ps ++ [endL s.data.toList])) := by
          show _ = _
          exact joinP_yes HV.out HPN.out (okParts_good fun j hj => HALL.out j (by omega) hj)
        clear hkn
        obtain ⟨P, hP⟩ : ∃ P, P = partsL s.data.toList ps := ⟨_, rfl⟩
        rw [← hP] at HO hlen4 HP
        clear hP
        obtain ⟨a6, c6, rfl, _, _, _, hnc6⟩ := HO.out.readc
        have HA : Hid (OwnL w.heap.size (.slice a6 P.length c6) P (wr.alloc (.cells #[.string ((⟨#[45, 45]⟩ : ByteArray) ++ s ++ ⟨#[45, 45]⟩)] 9))) := HO.out.keep ((Below.refl _ _).alloc (Nat.le_refl _) _)
        go_wp2_with (at_builtin; refine wpList_append_1L rfl _ _ rfl w.heap.size _ P ((⟨#[45, 45]⟩ : ByteArray) ++ s ++ ⟨#[45, 45]⟩) wr.heap.size rfl rfl (by rw [World.cell?_alloc_at _ _ _ _ rfl]; rfl) HA.out ?c2 ?c3 ?_)
        case c2 => first | omega | (simp; omega)
        case c3 => omega
        intro v4 w4 hO4 hgr4 _
        have hb4 : Below w.heap.size w w4 := (hb.alloc hbs _).grown hgr4 (by simp; omega) (fun g hg => (HA.out.lt g hg).1)
        go_wp2
        go_ret2
        exact linesRet_some HP.out (by rw [← HBL2.out]; exact hO4) hb4
end Go.Proofs.YtcdmjckkencgoaaGreatDoor
end

section
namespace Go.Proofs.YtcdmjckkencgoaaGreatDoor
open Go.RowKit

theorem PartsRet.none' {w : World} {e : Ending} {w' : World} (h : PartsRet none w e w') : ∃ a c, e = .returned (.tuple #[.slice a 0 c, .bool false]) ∧ Below w.heap.size w w' := by
  obtain ⟨v, us, rfl, ho, hb⟩ := h
  obtain ⟨a, c, rfl, _⟩ := ho.read
  exact ⟨a, c, rfl, hb⟩
theorem PartsRet.some' {ps : List (List (List UInt8))} {w : World} {e : Ending} {w' : World} (h : PartsRet (some ps) w e w') : ∃ a c us, e = .returned (.tuple #[.slice a ps.length c, .bool true]) ∧ OwnSS w.heap.size (.slice a ps.length c) us ps w' ∧ RdSS w' a ps.length ps ∧ Below w.heap.size w w' := by
  obtain ⟨v, us, rfl, ho, hb⟩ := h
  have ho : OwnSS w.heap.size v us ps w' := ho
  obtain ⟨a, c, rfl, hr, _⟩ := ho.read
  exact ⟨a, c, us, rfl, ho, hr, hb⟩
theorem LinesRet.none' {w : World} {e : Ending} {w' : World} (h : LinesRet none w e w') : ∃ a c, e = .returned (.tuple #[.slice a 0 c, .bool false]) ∧ RdL w' a 0 [] ∧ Below w.heap.size w w' := by
  obtain ⟨v, rfl, ho, hb⟩ := h
  have ho : OwnL w.heap.size v [] w' := ho
  obtain ⟨a, c, rfl, hr, _⟩ := ho.read
  exact ⟨a, c, rfl, hr, hb⟩
theorem LinesRet.some' {ls : List (List UInt8)} {w : World} {e : Ending} {w' : World} (h : LinesRet (some ls) w e w') : ∃ a c, e = .returned (.tuple #[.slice a ls.length c, .bool true]) ∧ OwnL w.heap.size (.slice a ls.length c) ls w' ∧ RdL w' a ls.length ls ∧ Below w.heap.size w w' := by
  obtain ⟨v, rfl, ho, hb⟩ := h
  have ho : OwnL w.heap.size v ls w' := ho
  obtain ⟨a, c, rfl, hr, _⟩ := ho.read
  exact ⟨a, c, rfl, ho, hr, hb⟩
theorem RdSS.cellT {W0 wr : World} {a : Option Addr} {n : Nat} {ps : List (List (List UInt8))} (h : RdSS W0 a n ps) (hb : Below W0.heap.size W0 wr) {k : Nat} (hk : k < ps.length) :
    ∃ b off a' c', a = some ⟨b, off, none⟩ ∧ (∀ y : BelowT wr, y.val.cell? ⟨b, off + k, none⟩ = some (.slice a' ps[k].length c')) ∧ (∀ y : BelowT wr, RdL y.val a' ps[k].length ps[k]) ∧ ps[k].length ≤ c' := by
  obtain ⟨b, off, ha, hbl, hc⟩ := h.2.resolve_left (by have := h.1; omega)
  obtain ⟨a', c', h1, h2, _, h4⟩ := hc k hk
  exact ⟨b, off, a', c', ha, fun y => by rw [below_at (nx hb y.below) hbl, h1], fun y => h2.below (nx hb y.below), h4⟩
theorem RdSS.cellW {W0 wr : World} {a : Option Addr} {n : Nat} {ps : List (List (List UInt8))} (h : RdSS W0 a n ps) (hb : Below W0.heap.size W0 wr) {k : Nat} (hk : k < ps.length) :
    ∃ b off a' c', a = some ⟨b, off, none⟩ ∧ wr.cell? ⟨b, off + k, none⟩ = some (.slice a' ps[k].length c') ∧ RdL wr a' ps[k].length ps[k] ∧ ps[k].length ≤ c' := by
  obtain ⟨b, off, a', c', ha, h1, h2, h3⟩ := h.cellT hb hk
  exact ⟨b, off, a', c', ha, h1 ⟨wr, Below.refl _ _⟩, h2 ⟨wr, Below.refl _ _⟩, h3⟩
end Go.Proofs.YtcdmjckkencgoaaGreatDoor
end

section
namespace Go.Proofs.YtcdmjckkencgoaaGreatDoor
open Go.RowKit

set_option maxRecDepth 100000 in
set_option maxHeartbeats 1000000 in
theorem boundaryOfFields_any (a : Option Addr) (n c : Nat) (fs : List Fld) (w : World) (tab : Tab w) (hr : RdF w a n fs) (hn : n ≤ 1048576) (hx : ∀ x ∈ fs, SmallF 1048576 x) :
    Calls Tryz.prog 65 #[.slice a n c] w (BndRet (bndF fs) w) := by
  have HG := Lib.hid (getField_any a n c fs ⟨#[67, 111, 110, 116, 101, 110, 116, 45, 84, 121, 112, 101]⟩ w hr (by omega) (fun x h => (hx x h).up (by omega)) (by decide))
  unfold GetRet at HG
  have hgl : (str (getR fs typeL)).size ≤ 1048576 := by rw [str_size]; exact getR_len hx
  have HP : Hid (∀ u, Below w.heap.size w u → Calls Tryz.prog 96 #[.string (str (getR fs typeL))] u (PKL (parseK (getR fs typeL)) u)) := fun u h => by
    have := parseKind_k (str (getR fs typeL)) u (tab.below h) (by omega)
    rw [str_list] at this; exact this
  have HB : Hid (∀ u b f, Below w.heap.size w u → RdK u (parseKR (getR fs typeL)) b f → Calls Tryz.prog 97 #[.agg #[.string (str (parseKR (getR fs typeL)).main), .string (str (parseKR (getR fs typeL)).sub), .slice b (parseKR (getR fs typeL)).params.length f]] u (BndRet (bndF fs) u)) := fun u b f h k => boundaryOf_k u (tab.below h) k
  have HE : Hid (str (getR fs ((⟨#[67, 111, 110, 116, 101, 110, 116, 45, 84, 121, 112, 101]⟩ : ByteArray).data.toList)) = str (getR fs typeL)) := rfl
  unfold PKL at HP
  have HKE : Hid ((parseK (getR fs typeL)).getD knd0 = parseKR (getR fs typeL)) := rfl
  rw [HKE.out] at HP
  rw [HE.out] at HG
  clear hr hx tab HE HKE
  generalize (getF fs ((⟨#[67, 111, 110, 116, 101, 110, 116, 45, 84, 121, 112, 101]⟩ : ByteArray).data.toList)).isSome = gs at *
  generalize (parseK (getR fs typeL)).isSome = ps at *
  generalize str (getR fs typeL) = GT at *
  generalize parseKR (getR fs typeL) = q at *
  generalize q.params.length = nq at *
  generalize str q.main = MQ at *
  generalize str q.sub = SQ at *
  unfold BndRet at *
  generalize str ((bndF fs).getD []) = BS at *
  generalize (bndF fs).isSome = bs at *
  go_enter Tryz.func65, Tryz.ntmps65
  go_wp2_with fail
  refine HG.out.mono ?_
  rintro e w1 ⟨rfl, hb1⟩
  go_wp2_with fail
  refine (HP.out _ hb1).mono ?_
  rintro e w2 ⟨b2, f2, rfl, hr2, hb2⟩
  have hb12 := nx hb1 hb2
  go_wp2_with fail
  first
    | refine (HB.out _ _ _ hb12 hr2).mono ?_
    | refine (HB.out _ _ _ (nx hb12 ((Below.refl _ _).alloc (Nat.le_refl _) _)) (hr2.below ((Below.refl _ _).alloc (Nat.le_refl _) _))).mono ?_
  rintro e w3 ⟨rfl, hb3⟩
  go_wp2
  go_ret2
  first
    | exact ⟨rfl, nx hb12 hb3⟩
    | exact ⟨rfl, nx (nx hb12 ((Below.refl _ _).alloc (Nat.le_refl _) _)) hb3⟩
end Go.Proofs.YtcdmjckkencgoaaGreatDoor
end

section
namespace Go.Proofs.YtcdmjckkencgoaaGreatDoor
open Go.RowKit

theorem pow5 {d : Nat} (h : d ≤ 3) : 5 ^ d ≤ 125 := Nat.pow_le_pow_right (n := 5) (by omega) h
set_option maxRecDepth 100000 in
set_option maxHeartbeats 1000000 in
theorem bodyValid_any (a : Option Addr) (n c : Nat) (xs : List (List UInt8)) (w : World) (hr : RdL w a n xs) (hn : n ≤ 1048576) (hx : ∀ x ∈ xs, x.length ≤ 1048576) :
    Calls Tryz.prog 90 #[.slice a n c] w fun e w' => e = .returned (.bool (okBody xs)) ∧ Below w.heap.size w w' := by
  have HLEN := Lib.hid hr.1
  have HR := Lib.hid hr.2
  have HX := Lib.hid hx
  clear hr hx
  by_cases h30 : 30 < n
  · have d1 : decide ((30 : Int) < n) = true := by simp; omega
    have HN := Lib.hid (okBody_long (b := xs) (by rw [HLEN.out]; exact h30))
    go_enter Tryz.func90, Tryz.ntmps90
    go_wp2
    go_ret
    exact ⟨ret_bool HN.out.symm, Below.refl _ _⟩
  · have d1 : decide ((30 : Int) < n) = false := by simp; omega
    go_enter Tryz.func90, Tryz.ntmps90
    go_wp2_with fail
    go_loopw [10] (fun i wr => ∃ (k : Nat), k ≤ n ∧ i = .int .i64 k ∧ wr = w ∧ ∀ j, j < k → (hj : j < xs.length) → isText xs[j] = true) (fun i _ => n - (intOf i).toNat)
    case atStart => exact ⟨0, Nat.zero_le _, rfl, rfl, fun j h => by omega⟩
    case round =>
      obtain ⟨k, hk, rfl, rfl, hall⟩ := hrel
      have HA := Lib.hid hall
      clear hall
      by_cases hlt : k < n
      · have hkx : k < xs.length := by rw [HLEN.out]; exact hlt
        obtain ⟨b, off, rfl, hbl, hcell⟩ := HR.out.resolve_left (by omega)
        have q0 := hcell k hkx
        have hz : (str xs[k]).size ≤ 1048576 := by rw [str_size]; exact HX.out _ (List.getElem_mem hkx)
        have HTX : Hid (∀ u : World, Calls Tryz.prog 124 #[.string (str xs[k])] u fun e w' => e = .returned (.bool (isText xs[k])) ∧ u = w') := fun u => by
          have := textValid_any (str xs[k]) u (by unfold maxLen; omega)
          rw [str_list] at this; exact this
        have HBAD : Hid (isText xs[k] = false → okBody xs = false) := fun h => okBody_bad hkx h
        have HAK : Hid (isText xs[k] = true → ∀ j, j < k + 1 → (hj : j < xs.length) → isText xs[j] = true) := fun h j hj hjx => by
          by_cases e : j = k
          · subst e; exact h
          · exact HA.out j (by omega) hjx
        clear hcell
        generalize isText xs[k] = q at *
        generalize str xs[k] = S at *
        cases q
        · have HB := Lib.hid (HBAD.out rfl)
          go_wp2_with fail
          refine (HTX.out _).mono ?_
          rintro e w1 ⟨rfl, rfl⟩
          go_wp2
          go_ret
          exact ⟨ret_bool HB.out.symm, Below.refl _ _⟩
        · have HN := Lib.hid (HAK.out rfl)
          go_wp2_with fail
          refine (HTX.out _).mono ?_
          rintro e w1 ⟨rfl, rfl⟩
          go_wp2
          go_roundw
          case rel =>
            first
              | exact ⟨k + 1, by omega, by go_num, rfl, HN.out⟩
              | exact ⟨k + 1, by omega, by go_num, trivial, HN.out⟩
              | exact ⟨k + 1, by omega, by go_num, HN.out⟩
          case measure => simp [intOf]; omega
      · have HG := Lib.hid (okBody_good (b := xs) (fun j hj => HA.out j (by have := HLEN.out; omega) hj) (by have := HLEN.out; omega))
        go_wp2
        go_ret
        exact ⟨ret_bool HG.out.symm, Below.refl _ _⟩
theorem mapO_take {α β : Type} {f : α → Option β} {xs : List α} {ys : List β} {k : Nat} (hk : k < xs.length) {y : β} (h : mapO f (xs.take k) = some ys) (hy : f xs[k] = some y) : mapO f (xs.take (k + 1)) = some (ys ++ [y]) := by
  rw [List.take_succ_eq_append_getElem hk, mapO_snoc, h, Option.bind_some, hy]; rfl
def LinesAt (d : Nat) : Prop := ∀ (f : Nat) (v : Value) (p : Prt) (u : World), Tab u → RdT u f v p → Calls Tryz.prog 34 #[v, .int .i64 (d : Int)] u (LinesRet (linesT d p) u)
set_option maxRecDepth 100000 in
set_option maxHeartbeats 2000000 in
theorem linesOfKids_of (d : Nat) (hd : d ≤ 3) (IH : LinesAt d) (f : Nat) (a : Option Addr) (n c : Nat) (ks : List Prt) (s : ByteArray) (w : World) (tab : Tab w) (hr : RdKs w f a ks) (hn : ks.length = n) (hn2 : n ≤ 1048576) (hs : s.size ≤ 1048576) :
    Calls Tryz.prog 89 #[.slice a n c, .string s, .int .i64 (d : Int)] w (LinesRet (kidsO d ks s.data.toList) w) := by
  have HLEN := Lib.hid hn
  have HR := Lib.hid hr
  clear hr hn
  by_cases h4 : 4 < n
  · have d1 : decide ((4 : Int) < n) = true := by simp; omega
    have HN := Lib.hid (kidsO_long (d := d) (ks := ks) (b := s.data.toList) (by rw [HLEN.out]; exact h4))
    go_enter Tryz.func89, Tryz.ntmps89
    go_wp2
    go_ret2
    exact linesRet_none HN.out (Below.refl _ _)
  · have d1 : decide ((4 : Int) < n) = false := by simp; omega
    go_enter Tryz.func89, Tryz.ntmps89
    go_wp2_with fail
    go_loopw [8, 18] (fun v i wr => ∃ (k : Nat) (us : List Value) (ps : List (List (List UInt8))), k ≤ n ∧ i = .int .i64 k ∧ mapO (linesT d) (ks.take k) = some ps ∧ OwnSS w.heap.size v us ps wr ∧ ps.length = k ∧ Below w.heap.size w wr) (fun _ i _ => n - (intOf i).toNat)
    case atStart => exact ⟨0, [], [], Nat.zero_le _, rfl, rfl, OwnSS.nil _ _, rfl, Below.refl _ _⟩
    case round =>
      obtain ⟨k, us, ps, hk, rfl, hm, hown, hpl, hb⟩ := hrel
      have HM := Lib.hid hm
      have HO := Lib.hid hown
      have HPL := Lib.hid hpl
      have hbs := hb.size
      clear hm hown hpl
      by_cases hlt : k < n
      · have hkx : k < ks.length := by rw [HLEN.out]; exact hlt
        obtain ⟨b, off, rfl, hbl, a1, c1, a2, c2, a3, c3, g0, g1, g2, g3⟩ := (HR.out.below hb).at hkx
        have HT := Lib.hid g3
        have tabr := tab.below hb
        have HC := Lib.hid (fun u (h : Below wr.heap.size wr u) => IH f _ ks[k] u (tabr.below h) (g3.below h f))
        have hAr : Below wr.heap.size wr (wr.alloc (.cells #[.slice a1 ks[k].fields.length c1, .slice a2 ks[k].body.length c2, .slice a3 ks[k].kids.length c3] 33)) := (Below.refl _ _).alloc (Nat.le_refl _) _
        have HTK : Hid (∀ y, linesT d ks[k] = some y → mapO (linesT d) (ks.take (k + 1)) = some (ps ++ [y])) := fun y h => mapO_take hkx HM.out h
        have HBAD := Lib.hid (kidsO_bad (d := d) (b := s.data.toList) hkx)
        clear g3
        generalize linesT d ks[k] = o at *
        generalize ks[k].fields.length = n1 at *
        generalize ks[k].body.length = n2 at *
        generalize ks[k].kids.length = n3 at *
        cases o with
        | none =>
          have HN := Lib.hid (HBAD.out rfl)
          clear HTK HBAD
          go_wp2_with fail
          refine (HC.out _ hAr).mono ?_
          intro e w1 hret
          obtain ⟨ax, cx, rfl, _, hb1⟩ := hret.none'
          go_wp2
          go_ret2
          exact linesRet_none HN.out (nx hb (nx hAr hb1))
        | some ls =>
          have HN := Lib.hid (HTK.out _ rfl)
          clear HTK HBAD
          obtain ⟨a9, c9, rfl, _, _, _, _⟩ := HO.out.read
          go_wp2_with fail
          refine (HC.out _ hAr).mono ?_
          intro e w1 hret
          obtain ⟨ax, cx, rfl, ho1', _, hb1'⟩ := hret.some'
          have hb1 := nx hAr hb1'
          have ho1 := ho1'.base hAr.size
          have hbs1 := hb1.size
          clear hret ho1' hb1'
          have hA1 : Below w1.heap.size w1 (w1.alloc (.cells #[.slice ax ls.length cx] 23)) := (Below.refl _ _).alloc (Nat.le_refl _) _
          have HOU : Hid (OwnL w.heap.size (.slice ax ls.length cx) ls (w1.alloc (.cells #[.slice ax ls.length cx] 23))) := (ho1.keep hA1).base hbs
          have HOV : Hid (OwnSS w.heap.size (.slice a9 ps.length c9) us ps (w1.alloc (.cells #[.slice ax ls.length cx] 23))) := (HO.out.keep hb1).keep hA1
          have HO1 := Lib.hid ho1
          have hpk : ps.length ≤ 4 := by have := HPL.out; omega
          clear ho1
          go_wp2_with (at_builtin; refine wpList_append_SS rfl _ _ rfl w.heap.size _ (.slice ax ls.length cx) us ps ls w1.heap.size rfl rfl ?c1 rfl HOV.out HOU.out ?c4 ?c5 ?c2 ?c3 ?_)
          case c1 => rw [World.cell?_alloc_at _ _ _ _ rfl]; rfl
          case c4 => exact fun g hg e => by have := (HO1.out.lt g hg).1; have := (HO.out.lt.1 g e).2; omega
          case c5 => exact fun i z g hz hg e => by have := (HO1.out.lt g hg).1; have := (HO.out.lt.2 i z g hz e).2; omega
          case c2 => simp; omega
          case c3 => omega
          intro v' w6 hO6 hgr6 _
          have hb6 : Below w.heap.size w w6 := ((nx hb hb1).alloc (nx hb hb1).size _).grown hgr6 (by simp; omega) (fun g hg => (HOV.out.lt.1 g hg).1)
          have HN6 := Lib.hid hO6
          have hpl6 : (ps ++ [ls]).length = k + 1 := by rw [List.length_append, HPL.out]; rfl
          have HPL6 := Lib.hid hpl6
          obtain ⟨ys, hys⟩ : ∃ ys, ys = ps ++ [ls] := ⟨_, rfl⟩
          rw [← hys] at HN HN6 HPL6
          clear hO6 hgr6 hys hpl6
          go_wp2
          go_roundw
          case rel => exact ⟨k + 1, _, ys, by omega, by go_num, HN.out, HN6.out, HPL6.out, hb6⟩
          case measure => simp [intOf]; omega
      · have hkn : k = n := by omega
        have HMA : Hid (mapO (linesT d) ks = some ps) := by
          have := HM.out
          rw [List.take_of_length_le (by rw [HLEN.out]; omega)] at this; exact this
        have HKO : Hid (kidsO d ks s.data.toList = joinP ps s.data.toList) := kidsO_all (by rw [HLEN.out]; omega) HMA.out
        have hsum := mapO_sum hd (by rw [HLEN.out]; omega) HMA.out
        obtain ⟨a9, c9, rfl, hrd, _, _, _⟩ := HO.out.read
        have hpk : ps.length ≤ 4 := by have := HPL.out; omega
        have HJ := Lib.hid (joinParts_any a9 ps.length c9 ps s wr hrd (by omega) (by omega) (by omega))
        rw [← HKO.out] at HJ
        clear hrd hsum hkn
        generalize ps.length = np at *
        go_wp2_with fail
        refine HJ.out.mono ?_
        rintro e w1 ⟨v1, rfl, ho1, hb1⟩
        go_wp2
        go_ret2
        exact ⟨v1, rfl, ho1.base hbs, nx hb hb1⟩
/-- What stands behind the fields, where it is right. -/
def RestRet (o : Option (List (List UInt8))) (W0 w : World) (e : Ending) (w' : World) : Prop := ∃ (a : Option Addr) (n c : Nat), e = .returned (.tuple #[.slice a n c, .bool o.isSome]) ∧ (∀ r, o = some r → n = r.length ∧ (a = none → c = 0) ∧ (RdL W0 a r.length r ∨ OwnL w.heap.size (.slice a r.length c) r w')) ∧ Below w.heap.size w w'
set_option maxRecDepth 100000 in
set_option maxHeartbeats 2000000 in
theorem linesBehind_of (d : Nat) (hd : d ≤ 2) (IH : LinesAt d) (f : Nat) (v : Value) (p : Prt) (W0 w : World) (hw0 : Below W0.heap.size W0 w) (tab : Tab w) (hr : RdT W0 f v p) :
    Calls Tryz.prog 59 #[v, .int .i64 ((d : Int) + 1)] w (RestRet (restO d p) W0 w) := by
  obtain ⟨f', a1, c1, a2, c2, a3, c3, rfl, rfl, ⟨hf, hfc⟩, ⟨hbd, hbc, hbn⟩, hkc, hpf, hks⟩ := hr.open
  have HBD := Lib.hid hbd
  replace hf := hf.below hw0
  replace hbd := hbd.below hw0
  replace hks := hks.below hw0
  clear hw0
  have hA : Below w.heap.size w (w.alloc (.cells #[.slice a1 p.fields.length c1, .slice a2 p.body.length c2, .slice a3 p.kids.length c3] 33)) := (Below.refl _ _).alloc (Nat.le_refl _) _
  have HX := Lib.hid (KK3.new w (.slice a1 p.fields.length c1) (.slice a2 p.body.length c2) (.slice a3 p.kids.length c3) 33)
  have HB := Lib.hid (boundaryOfFields_any a1 p.fields.length c1 p.fields _ (tab.below hA) (hf.below hA) hpf.1 hpf.2.1)
  have HK : Hid (∀ (b : List UInt8) u, b.length ≤ 20 → Below w.heap.size w u → Calls Tryz.prog 89 #[.slice a3 p.kids.length c3, .string (str b), .int .i64 (d : Int)] u (LinesRet (kidsO d p.kids b) u)) := fun b u hbl h => by
    have := linesOfKids_of d (by omega) IH f' a3 p.kids.length c3 p.kids (str b) u (tab.below h) (hks.below h) rfl hpf.2.2.2.2 (by rw [str_size]; omega)
    rw [str_list] at this; exact this
  have HV : Hid (∀ u, Below w.heap.size w u → Calls Tryz.prog 90 #[.slice a2 p.body.length c2] u fun e w' => e = .returned (.bool (okBody p.body)) ∧ Below u.heap.size u w') := fun u h => bodyValid_any a2 p.body.length c2 p.body u (hbd.below h) hpf.2.2.1 hpf.2.2.2.1
  have HBN := Lib.hid hbn
  have HPF := Lib.hid hpf
  have hnb : p.body.length ≤ 1048576 := hpf.2.2.1
  have hnk : p.kids.length ≤ 1048576 := hpf.2.2.2.2
  clear hf hfc hbd hbc hbn hkc hpf hks tab hr
  unfold BndRet at HB
  cases hq : bndF p.fields with
  | none =>
    have HL := Lib.hid (restO_leaf (d := d) hq)
    rw [hq] at HB
    clear HK hq
    by_cases hk0 : p.kids.length = 0
    · have HKN : Hid (p.kids = []) := List.length_eq_zero_iff.1 hk0
      have e0 : ((p.kids.length : Int) == 0) = true := by rw [beq_iff_eq]; omega
      cases hv : okBody p.body
      · have HN : Hid (restO d p = none) := by show _ = _; rw [HL.out, if_neg (fun c => by rw [hv] at c; cases c.1)]
        rw [hv] at HV
        clear hv hk0
        generalize p.kids.length = nk at *
        generalize p.body.length = nb at *
        generalize p.fields.length = nf at *
        go_enter Tryz.func59, Tryz.ntmps59
        go_wp2_with fail
        refine HB.out.mono ?_
        rintro e w1 ⟨rfl, hb1⟩
        obtain ⟨y0, y1, y2⟩ := HX.out.below hb1
        have hb01 := nx hA hb1
        have z0 : ∀ y : BelowT w1, y.val.cell? ⟨w.heap.size, 0, none⟩ = some (.slice a1 nf c1) := fun y => ((HX.out.below hb1).below y.below).1
        have z1 : ∀ y : BelowT w1, y.val.cell? ⟨w.heap.size, 1, none⟩ = some (.slice a2 nb c2) := fun y => ((HX.out.below hb1).below y.below).2.1
        have z2 : ∀ y : BelowT w1, y.val.cell? ⟨w.heap.size, 2, none⟩ = some (.slice a3 nk c3) := fun y => ((HX.out.below hb1).below y.below).2.2
        go_wp2_with fail
        refine wp_region_quietB (W := w1) (by kernel_rfl) (by kernel_rfl) (Below.refl _ _) ?_
        repeat (go_big_quiet_step (first
          | (go_at_call 90; exact calls_belowT (HV.out _ (nx hb01 (BelowT.below _))))))
        refine wpQuiet_nil ?_
        intro wz hwz
        obtain ⟨x9, rfl⟩ := hwz
        have hbx := nx hb01 x9.below
        clear z0 z1 z2 y0 y1 y2
        generalize x9.val = w9 at *
        go_wp2
        go_ret2
        exact ⟨_, _, _, by rw [HN.out]; rfl, (fun r hr => by rw [HN.out] at hr; cases hr), hbx⟩
      · have HN : Hid (restO d p = some p.body) := by show _ = _; rw [HL.out, if_pos ⟨hv, HKN.out⟩]
        rw [hv] at HV
        clear hv hk0
        have HNB : Hid (p.body.length = p.body.length) := rfl
        generalize p.kids.length = nk at *
        generalize hnbq : p.body.length = nb at *
        have HNQ := Lib.hid hnbq
        clear hnbq
        generalize p.fields.length = nf at *
        go_enter Tryz.func59, Tryz.ntmps59
        go_wp2_with fail
        refine HB.out.mono ?_
        rintro e w1 ⟨rfl, hb1⟩
        obtain ⟨y0, y1, y2⟩ := HX.out.below hb1
        have hb01 := nx hA hb1
        have z0 : ∀ y : BelowT w1, y.val.cell? ⟨w.heap.size, 0, none⟩ = some (.slice a1 nf c1) := fun y => ((HX.out.below hb1).below y.below).1
        have z1 : ∀ y : BelowT w1, y.val.cell? ⟨w.heap.size, 1, none⟩ = some (.slice a2 nb c2) := fun y => ((HX.out.below hb1).below y.below).2.1
        have z2 : ∀ y : BelowT w1, y.val.cell? ⟨w.heap.size, 2, none⟩ = some (.slice a3 nk c3) := fun y => ((HX.out.below hb1).below y.below).2.2
        go_wp2_with fail
        refine wp_region_quietB (W := w1) (by kernel_rfl) (by kernel_rfl) (Below.refl _ _) ?_
        repeat (go_big_quiet_step (first
          | (go_at_call 90; exact calls_belowT (HV.out _ (nx hb01 (BelowT.below _))))))
        refine wpQuiet_nil ?_
        intro wz hwz
        obtain ⟨x9, rfl⟩ := hwz
        have hbx := nx hb01 x9.below
        clear z0 z1 z2 y0 y1 y2
        generalize x9.val = w9 at *
        go_wp2
        go_ret2
        exact ⟨_, _, _, by rw [HN.out]; rfl, (fun r hr => by
          rw [HN.out] at hr; injection hr with hr; subst hr
          exact ⟨HNQ.out.symm, HBN.out, .inl (by rw [HNQ.out]; exact HBD.out)⟩), hbx⟩
    · have HN : Hid (restO d p = none) := by show _ = _; rw [HL.out, if_neg (fun c => hk0 (by rw [c.2]; rfl))]
      have e0 : ((p.kids.length : Int) == 0) = false := by rw [beq_eq_false_iff_ne]; omega
      clear hk0
      generalize okBody p.body = ob at *
      generalize p.kids.length = nk at *
      generalize p.body.length = nb at *
      generalize p.fields.length = nf at *
      cases ob
      all_goals
        go_enter Tryz.func59, Tryz.ntmps59
        go_wp2_with fail
        refine HB.out.mono ?_
        rintro e w1 ⟨rfl, hb1⟩
        obtain ⟨y0, y1, y2⟩ := HX.out.below hb1
        have hb01 := nx hA hb1
        have z0 : ∀ y : BelowT w1, y.val.cell? ⟨w.heap.size, 0, none⟩ = some (.slice a1 nf c1) := fun y => ((HX.out.below hb1).below y.below).1
        have z1 : ∀ y : BelowT w1, y.val.cell? ⟨w.heap.size, 1, none⟩ = some (.slice a2 nb c2) := fun y => ((HX.out.below hb1).below y.below).2.1
        have z2 : ∀ y : BelowT w1, y.val.cell? ⟨w.heap.size, 2, none⟩ = some (.slice a3 nk c3) := fun y => ((HX.out.below hb1).below y.below).2.2
        go_wp2_with fail
        refine wp_region_quietB (W := w1) (by kernel_rfl) (by kernel_rfl) (Below.refl _ _) ?_
        repeat (go_big_quiet_step (first
          | (go_at_call 90; exact calls_belowT (HV.out _ (nx hb01 (BelowT.below _))))))
        refine wpQuiet_nil ?_
        intro wz hwz
        obtain ⟨x9, rfl⟩ := hwz
        have hbx := nx hb01 x9.below
        clear z0 z1 z2 y0 y1 y2
        generalize x9.val = w9 at *
        go_wp2
        go_ret2
        exact ⟨_, _, _, by rw [HN.out]; rfl, (fun r hr => by rw [HN.out] at hr; cases hr), hbx⟩
  | some b =>
    have HL := Lib.hid (restO_many (d := d) hq)
    have hbl : b.length ≤ 20 := by have := bndF_bnd hq; unfold isBnd at this; simp at this; omega
    rw [hq] at HB
    have HK2 := Lib.hid (fun u h => HK.out b u hbl h)
    have HB : Hid (Calls Tryz.prog 65 #[.slice a1 p.fields.length c1] (w.alloc (.cells #[.slice a1 p.fields.length c1, .slice a2 p.body.length c2, .slice a3 p.kids.length c3] 33)) fun e w' => e = .returned (.tuple #[.string (str b), .bool true]) ∧ Below (w.alloc (.cells #[.slice a1 p.fields.length c1, .slice a2 p.body.length c2, .slice a3 p.kids.length c3] 33)).heap.size (w.alloc (.cells #[.slice a1 p.fields.length c1, .slice a2 p.body.length c2, .slice a3 p.kids.length c3] 33)) w') := HB.out
    have hbz : (str b).size ≤ 20 := by rw [str_size]; exact hbl
    clear HK hq HV hbl
    generalize hX : str b = X at *
    clear hX
    generalize kidsO d p.kids b = O at *
    by_cases hb0 : p.body.length = 0
    · have HBE : Hid (p.body = []) := List.length_eq_zero_iff.1 hb0
      have HRO : Hid (restO d p = O) := by show _ = _; rw [HL.out, if_pos HBE.out]
      have e0 : ((p.body.length : Int) == 0) = true := by rw [beq_iff_eq]; omega
      clear hb0 HL HBD
      generalize p.kids.length = nk at *
      generalize p.body.length = nb at *
      generalize p.fields.length = nf at *
      go_enter Tryz.func59, Tryz.ntmps59
      go_wp2_with fail
      refine HB.out.mono ?_
      rintro e w1 ⟨rfl, hb1⟩
      obtain ⟨y0, y1, y2⟩ := HX.out.below hb1
      go_wp2_with fail
      refine (HK2.out _ (nx hA hb1)).mono ?_
      intro e w2 hret
      cases O with
      | none =>
        obtain ⟨ax, cx, rfl, _, hb2⟩ := hret.none'
        have HX2 := Lib.hid ((HX.out.below hb1).below hb2)
        clear y0 y1 y2 hret
        have hb02 := nx (nx hA hb1) hb2
        have z1 : ∀ y : BelowT w2, y.val.cell? ⟨w.heap.size, 1, none⟩ = some (.slice a2 nb c2) := fun y => (HX2.out.below y.below).2.1
        go_wp2_with fail
        refine wp_region_quietB (W := w2) (by kernel_rfl) (by kernel_rfl) (Below.refl _ _) ?_
        repeat (go_big_quiet_step (fail))
        refine wpQuiet_nil ?_
        intro wz hwz
        obtain ⟨x9, rfl⟩ := hwz
        have hbx := nx hb02 x9.below
        have hbx2 := x9.below
        clear z1
        generalize x9.val = w9 at *
        go_wp2
        go_ret2
        exact ⟨_, _, _, by rw [HRO.out]; rfl, (fun r hr => by rw [HRO.out] at hr; cases hr), hbx⟩
      | some ls =>
        obtain ⟨ax, cx, rfl, ho2, hr2, hb2⟩ := hret.some'
        have HX2 := Lib.hid ((HX.out.below hb1).below hb2)
        have HO2 := Lib.hid (ho2.base (nx hA hb1).size)
        have HAC : Hid (ax = none → cx = 0) := by
          obtain ⟨_, _, e, _, _, h, _⟩ := ho2.readc
          injection e with e1 _ e3
          subst e1 e3; exact h
        clear y0 y1 y2 hret ho2 hr2
        have hb02 := nx (nx hA hb1) hb2
        have z1 : ∀ y : BelowT w2, y.val.cell? ⟨w.heap.size, 1, none⟩ = some (.slice a2 nb c2) := fun y => (HX2.out.below y.below).2.1
        go_wp2_with fail
        refine wp_region_quietB (W := w2) (by kernel_rfl) (by kernel_rfl) (Below.refl _ _) ?_
        repeat (go_big_quiet_step (fail))
        refine wpQuiet_nil ?_
        intro wz hwz
        obtain ⟨x9, rfl⟩ := hwz
        have hbx := nx hb02 x9.below
        have hbx2 := x9.below
        clear z1
        generalize x9.val = w9 at *
        go_wp2
        go_ret2
        exact ⟨_, _, _, by rw [HRO.out]; rfl, (fun r hr => by rw [HRO.out] at hr; injection hr with hr; subst hr; exact ⟨rfl, HAC.out, .inr (HO2.out.keep hbx2)⟩), hbx⟩
    · have HRO : Hid (restO d p = none) := by show _ = _; rw [HL.out, if_neg (fun c => hb0 (by rw [c]; rfl))]
      have e0 : ((p.body.length : Int) == 0) = false := by rw [beq_eq_false_iff_ne]; omega
      clear hb0 HL HBD
      generalize p.kids.length = nk at *
      generalize p.body.length = nb at *
      generalize p.fields.length = nf at *
      go_enter Tryz.func59, Tryz.ntmps59
      go_wp2_with fail
      refine HB.out.mono ?_
      rintro e w1 ⟨rfl, hb1⟩
      obtain ⟨y0, y1, y2⟩ := HX.out.below hb1
      go_wp2_with fail
      refine (HK2.out _ (nx hA hb1)).mono ?_
      intro e w2 hret
      have hret2 : ∃ ax nx' cx, e = .returned (.tuple #[.slice ax nx' cx, .bool O.isSome]) ∧ Below w1.heap.size w1 w2 := by
        cases O with
        | none => obtain ⟨ax, cx, rfl, _, hb2⟩ := hret.none'; exact ⟨_, _, _, rfl, hb2⟩
        | some ls => obtain ⟨ax, cx, rfl, _, _, hb2⟩ := hret.some'; exact ⟨_, _, _, rfl, hb2⟩
      obtain ⟨ax, nx', cx, rfl, hb2⟩ := hret2
      have HX2 := Lib.hid ((HX.out.below hb1).below hb2)
      clear y0 y1 y2 hret
      generalize O.isSome = oq at *
      cases oq
      all_goals
        have hb02 := nx (nx hA hb1) hb2
        have z1 : ∀ y : BelowT w2, y.val.cell? ⟨w.heap.size, 1, none⟩ = some (.slice a2 nb c2) := fun y => (HX2.out.below y.below).2.1
        go_wp2_with fail
        refine wp_region_quietB (W := w2) (by kernel_rfl) (by kernel_rfl) (Below.refl _ _) ?_
        repeat (go_big_quiet_step (fail))
        refine wpQuiet_nil ?_
        intro wz hwz
        obtain ⟨x9, rfl⟩ := hwz
        have hbx := nx hb02 x9.below
        have hbx2 := x9.below
        clear z1
        generalize x9.val = w9 at *
        go_wp2
        go_ret2
        exact ⟨_, _, _, by rw [HRO.out]; rfl, (fun r hr => by rw [HRO.out] at hr; cases hr), hbx⟩
theorem lines_zero : LinesAt 0 := by
  intro f v p u tab hr
  obtain ⟨f', a1, c1, a2, c2, a3, c3, rfl, rfl, _⟩ := hr.open
  generalize p.fields.length = n1 at *
  generalize p.body.length = n2 at *
  generalize p.kids.length = n3 at *
  go_enter Tryz.func34, Tryz.ntmps34
  go_wp2
  go_ret2
  first
    | exact linesRet_none rfl (Below.refl _ _)
    | exact linesRet_none rfl ((Below.refl _ _).alloc (Nat.le_refl _) _)
theorem ownL_rd' {B : Nat} {a : Option Addr} {n c : Nat} {xs : List (List UInt8)} {w : World} (h : OwnL B (.slice a n c) xs w) : RdL w a n xs := by
  obtain ⟨a', c', e, hr, _⟩ := h.read
  injection e with e1 e2 e3
  subst e1 e2
  exact hr
set_option maxRecDepth 100000 in
set_option maxHeartbeats 2000000 in
theorem lines_step (d : Nat) (hd : d ≤ 2) (IH : LinesAt d) : LinesAt (d + 1) := by
  intro f v p w tab hr
  have HBEH : Hid (∀ u, Below w.heap.size w u → Calls Tryz.prog 59 #[v, .int .i64 ((d : Int) + 1)] u (RestRet (restO d p) w u)) := fun u h => linesBehind_of d hd IH f v p w u h (tab.below h) hr
  have HT := Lib.hid hr
  obtain ⟨f', a1, c1, a2, c2, a3, c3, rfl, rfl, ⟨hf, hfc⟩, _, _, hpf, _⟩ := hr.open
  have HF : Hid (∀ u, Below w.heap.size w u → Calls Tryz.prog 58 #[.slice a1 p.fields.length c1] u (FoldRet p.fields u)) := fun u h => foldFields_any a1 p.fields.length c1 p.fields u (hf.below h) (by have := hpf.1; omega) (fun x hx => (hpf.2.1 x hx).up (by omega))
  have HPF := Lib.hid hpf
  have HL := Lib.hid (linesT_rest d p)
  have hA : Below w.heap.size w (w.alloc (.cells #[.slice a1 p.fields.length c1, .slice a2 p.body.length c2, .slice a3 p.kids.length c3] 33)) := (Below.refl _ _).alloc (Nat.le_refl _) _
  have HX := Lib.hid (KK3.new w (.slice a1 p.fields.length c1) (.slice a2 p.body.length c2) (.slice a3 p.kids.length c3) 33)
  have e0 : ((d : Int) + 1 == 0) = false := by rw [beq_eq_false_iff_ne]; omega
  have hdd : (((d + 1 : Nat) : Int)) = (d : Int) + 1 := by omega
  rw [hdd]
  clear hf hfc hpf hdd hr
  unfold FoldRet at HF
  cases hok : fldsOk p.fields with
  | false =>
    have HN : Hid (linesT (d + 1) p = none) := by show _ = _; rw [HL.out, hok]; rfl
    rw [hok] at HF
    clear hok HL
    generalize p.kids.length = nk at *
    generalize p.body.length = nb at *
    generalize p.fields.length = nf at *
    go_enter Tryz.func34, Tryz.ntmps34
    go_wp2_with fail
    refine (HF.out _ hA).mono ?_
    rintro e w1 ⟨v1, rfl, ho1, hb1⟩
    obtain ⟨a9, c9, rfl, _⟩ := ho1.read
    clear ho1
    generalize (foldFs p.fields).length = nz at *
    go_wp2
    go_ret2
    exact linesRet_none HN.out (nx hA hb1)
  | true =>
    rw [hok] at HF HL
    have hFL := foldFs_len hok
    clear hok
    generalize hFS : foldFs p.fields = FS at *
    clear hFS
    unfold RestRet at HBEH
    cases hro : restO d p with
    | none =>
      have HN : Hid (linesT (d + 1) p = none) := by show _ = _; rw [HL.out, hro]; rfl
      rw [hro] at HBEH
      clear hro HL
      generalize p.kids.length = nk at *
      generalize p.body.length = nb at *
      generalize p.fields.length = nf at *
      go_enter Tryz.func34, Tryz.ntmps34
      go_wp2_with fail
      refine (HF.out _ hA).mono ?_
      rintro e w1 ⟨v1, rfl, ho1, hb1⟩
      obtain ⟨a9, c9, rfl, _⟩ := ho1.read
      clear ho1
      obtain ⟨y0, y1, y2⟩ := HX.out.below hb1
      go_wp2_with fail
      refine (HBEH.out _ (nx hA hb1)).mono ?_
      rintro e w2 ⟨a8, n8, c8, rfl, _, hb2⟩
      go_wp2
      go_ret2
      exact linesRet_none HN.out (nx (nx hA hb1) hb2)
    | some r =>
      have HN : Hid (linesT (d + 1) p = some (FS ++ [] :: r)) := by show _ = _; rw [HL.out, hro]; rfl
      have hrl : r.length ≤ 500000 := by
        have h1 := linesT_len (d + 1) p _ HN.out
        have h5 : 5 ^ (d + 1) ≤ 125 := pow5 (by omega)
        rw [List.length_append, List.length_cons] at h1; omega
      have HR : Hid (∀ u, Below w.heap.size w u → Calls Tryz.prog 59 #[.agg #[.slice a1 p.fields.length c1, .slice a2 p.body.length c2, .slice a3 p.kids.length c3], .int .i64 ((d : Int) + 1)] u fun e w' => ∃ (a : Option Addr) (c : Nat), e = .returned (.tuple #[.slice a r.length c, .bool true]) ∧ (a = none → c = 0) ∧ (RdL w a r.length r ∨ OwnL u.heap.size (.slice a r.length c) r w') ∧ Below u.heap.size u w') := fun u h => (HBEH.out u h).mono fun e w' q => by
        rw [hro] at q
        obtain ⟨a, n, c, he, hq, hb⟩ := q
        obtain ⟨rfl, h1, h2⟩ := hq r rfl
        exact ⟨a, c, he, h1, h2, hb⟩
      clear hro HL HBEH
      generalize p.kids.length = nk at *
      generalize p.body.length = nb at *
      generalize p.fields.length = nf at *
      go_enter Tryz.func34, Tryz.ntmps34
      go_wp2_with fail
      refine (HF.out _ hA).mono ?_
      rintro e w1 ⟨v1, rfl, ho1, hb1⟩
      have HO1 := Lib.hid (ho1.base hA.size)
      obtain ⟨a9, c9, rfl, _⟩ := ho1.read
      have HO1 : Hid (OwnL w.heap.size (.slice a9 FS.length c9) FS w1) := HO1
      clear ho1
      obtain ⟨y0, y1, y2⟩ := HX.out.below hb1
      have hb01 := nx hA hb1
      go_wp2_with fail
      refine (HR.out _ hb01).mono ?_
      rintro e w2 ⟨a8, c8, rfl, hac2, hr2, hb2⟩
      have hb02 := nx hb01 hb2
      have hbs2 := hb02.size
      have HR2 := Lib.hid hr2
      have HAC := Lib.hid hac2
      have HA : Hid (OwnL w.heap.size (.slice a9 FS.length c9) FS (w2.alloc (.cells #[.string ⟨#[]⟩] 9))) := (HO1.out.keep hb2).keep ((Below.refl _ _).alloc (Nat.le_refl _) _)
      clear hr2 hac2 y0 y1 y2
      go_wp2_with (at_builtin; refine wpList_append_1L rfl _ _ rfl w.heap.size _ FS ⟨#[]⟩ w2.heap.size rfl rfl ?c1 HA.out ?c2 ?c3 ?_)
      case c1 => rw [World.cell?_alloc_at _ _ _ _ rfl]; rfl
      case c2 => simp; omega
      case c3 => omega
      intro v4 w4 hO4 hgr4 _
      have hb4 : Below w.heap.size w w4 := (hb02.alloc hbs2 _).grown hgr4 (by simp; omega) (fun g hg => (HA.out.lt g hg).1)
      have HR4 : Hid (RdL w4 a8 r.length r) := by
        show RdL _ _ _ _
        rcases HR2.out with h | h
        · exact h.below hb4
        · refine ownL_rd' (OwnL.grown (h.keep ((Below.refl _ _).alloc (Nat.le_refl _) _)) hgr4 fun g hg e => ?_)
          have h1 := (h.lt g hg).1
          have h2 := (HO1.out.lt g e).2
          omega
      have HO4 := Lib.hid hO4
      have hbs4 := hb4.size
      clear hO4 hgr4
      go_wp2_with (at_builtin; refine wpList_append_RL rfl _ _ rfl w.heap.size _ (FS ++ [[]]) r a8 r.length c8 rfl rfl HO4.out HR4.out HAC.out hbs4 ?d1 ?_)
      case d1 => rw [List.length_append, List.length_singleton]; omega
      intro v5 w5 hO5 hgr5 _
      have hb5 : Below w.heap.size w w5 := hb4.grown hgr5 hbs4 (fun g hg => (HO4.out.lt g hg).1)
      have HO5 : Hid (OwnL w.heap.size v5 (FS ++ [] :: r) w5) := by
        show OwnL _ _ _ _
        first
          | exact hO5
          | (have := hO5; rw [List.append_assoc] at this; exact this)
      clear hO5 hgr5
      go_wp2
      go_ret2
      exact linesRet_some HN.out HO5.out hb5
theorem lines_all : ∀ d, d ≤ 3 → LinesAt d
  | 0, _ => lines_zero
  | d + 1, h => lines_step d (by omega) (lines_all d (by omega))
end Go.Proofs.YtcdmjckkencgoaaGreatDoor
end

section
namespace Go.Proofs.YtcdmjckkencgoaaGreatDoor
open Go.RowKit

theorem parseK_nil : parseK [] = none := by decide +kernel
theorem bndOf_zero : bndOf knd0 = none := bndOf_no1 (by decide +kernel)
/-- Fields that have a boundary have the field, and a kind in it. -/
theorem bndF_has {fs : List Fld} (h : (bndF fs).isSome = true) : (getF fs typeL).isSome = true ∧ (parseK (getR fs typeL)).isSome = true := by
  have h2 : (parseK (getR fs typeL)).isSome = true := by
    cases hq : parseK (getR fs typeL) with
    | some k => rfl
    | none =>
      unfold bndF parseKR at h
      rw [hq] at h
      have h : (bndOf knd0).isSome = true := h
      rw [bndOf_zero] at h; cases h
  refine ⟨?_, h2⟩
  cases hq : getF fs typeL with
  | some k => rfl
  | none =>
    unfold getR at h2
    rw [hq] at h2
    have h2 : (parseK []).isSome = true := h2
    rw [parseK_nil] at h2; cases h2
set_option maxRecDepth 100000 in
set_option maxHeartbeats 2000000 in
theorem l8Boundary_any (a : Option Addr) (n c : Nat) (fs : List Fld) (w : World) (hr : RdF w a n fs) (hn : n ≤ 1048576) (hx : ∀ x ∈ fs, SmallF 1048576 x) :
    Calls Tryz.prog 55 #[.slice a n c] w (BndRet (bndF fs) w) := by
  have HG := Lib.hid (getFieldS_any a n c fs ⟨#[67, 111, 110, 116, 101, 110, 116, 45, 84, 121, 112, 101]⟩ w hr (by omega) (fun x h => (hx x h).up (by omega)) (by decide))
  unfold GetRet at HG
  have hgl : (str (getR fs typeL)).size ≤ 1048576 := by rw [str_size]; exact getR_len hx
  have HP : Hid (∀ u, Calls Tryz.prog 84 #[.string (str (getR fs typeL))] u (PKL (parseK (getR fs typeL)) u)) := fun u => by
    have := parseKindS_k (str (getR fs typeL)) u (by omega)
    rw [str_list] at this; exact this
  have HB : Hid (∀ u b f, RdK u (parseKR (getR fs typeL)) b f → Calls Tryz.prog 85 #[.agg #[.string (str (parseKR (getR fs typeL)).main), .string (str (parseKR (getR fs typeL)).sub), .slice b (parseKR (getR fs typeL)).params.length f]] u (BndRet (bndF fs) u)) := fun u b f k => boundaryOfS_k u k
  have HE : Hid (str (getR fs ((⟨#[67, 111, 110, 116, 101, 110, 116, 45, 84, 121, 112, 101]⟩ : ByteArray).data.toList)) = str (getR fs typeL)) := rfl
  have HE2 : Hid (getF fs ((⟨#[67, 111, 110, 116, 101, 110, 116, 45, 84, 121, 112, 101]⟩ : ByteArray).data.toList) = getF fs typeL) := rfl
  unfold PKL at HP
  have HKE : Hid ((parseK (getR fs typeL)).getD knd0 = parseKR (getR fs typeL)) := rfl
  rw [HKE.out] at HP
  rw [HE.out, HE2.out] at HG
  have HH := Lib.hid (bndF_has (fs := fs))
  clear hr hx HE HE2 HKE
  generalize (getF fs typeL).isSome = gs at *
  generalize (parseK (getR fs typeL)).isSome = ps at *
  generalize str (getR fs typeL) = GT at *
  generalize parseKR (getR fs typeL) = q at *
  generalize q.params.length = nq at *
  generalize str q.main = MQ at *
  generalize str q.sub = SQ at *
  unfold BndRet at *
  generalize str ((bndF fs).getD []) = BS at *
  generalize (bndF fs).isSome = bs at *
  cases gs <;> cases ps <;> cases bs
  all_goals first
    | (have hx := HH.out rfl; first | (cases hx.1; done) | (cases hx.2; done))
    | (clear HH
       go_enter Tryz.func55, Tryz.ntmps55
       go_wp2_with fail
       refine HG.out.mono ?_
       rintro e w1 ⟨rfl, hb1⟩
       go_wp2_with fail
       refine (HP.out _).mono ?_
       rintro e w2 ⟨b2, f2, rfl, hr2, hb2⟩
       have hb12 := nx hb1 hb2
       go_wp2_with fail
       have hA2 : Below w2.heap.size w2 (w2.alloc (.cells #[.string MQ, .string SQ, .slice b2 nq f2] 97)) := (Below.refl _ _).alloc (Nat.le_refl _) _
       refine (HB.out _ _ _ (hr2.below hA2)).mono ?_
       rintro e w3 ⟨rfl, hb3⟩
       go_wp2
       go_ret2
       exact ⟨rfl, nx hb12 (nx hA2 hb3)⟩)
set_option maxRecDepth 100000 in
set_option maxHeartbeats 1000000 in
theorem l8Body_any (a : Option Addr) (n c : Nat) (xs : List (List UInt8)) (w : World) (hr : RdL w a n xs) (hn : n ≤ 1048576) (hx : ∀ x ∈ xs, x.length ≤ 1048576) :
    Calls Tryz.prog 81 #[.slice a n c] w fun e w' => e = .returned (.bool (okBody xs)) ∧ Below w.heap.size w w' := by
  have HLEN := Lib.hid hr.1
  have HR := Lib.hid hr.2
  have HX := Lib.hid hx
  clear hr hx
  go_enter Tryz.func81, Tryz.ntmps81
  go_wp2_with fail
  go_loopw [3] (fun i wr => ∃ (k : Nat), k ≤ n ∧ k ≤ 31 ∧ i = .int .i64 k ∧ wr = w ∧ ∀ j, j < k → (hj : j < xs.length) → isText xs[j] = true) (fun i _ => n - (intOf i).toNat)
  case atStart => exact ⟨0, Nat.zero_le _, by omega, rfl, rfl, fun j h => by omega⟩
  case round =>
    obtain ⟨k, hk, hk31, rfl, rfl, hall⟩ := hrel
    have HA := Lib.hid hall
    clear hall
    by_cases hlt : k < n ∧ k ≤ 30
    · obtain ⟨hlt, h30⟩ := hlt
      have d1 : decide ((k : Int) < n) = true := by simp; omega
      have d2 : decide ((k : Int) ≤ 30) = true := by simp; omega
      have hkx : k < xs.length := by rw [HLEN.out]; exact hlt
      obtain ⟨b, off, rfl, hbl, hcell⟩ := HR.out.resolve_left (by omega)
      have q0 := hcell k hkx
      have hz : (str xs[k]).size ≤ 1048576 := by rw [str_size]; exact HX.out _ (List.getElem_mem hkx)
      have HTX : Hid (∀ u : World, Calls Tryz.prog 72 #[.string (str xs[k])] u fun e w' => e = .returned (.bool (isText xs[k])) ∧ u = w') := fun u => by
        have := textValidS_any (str xs[k]) u (by unfold maxLen; omega)
        rw [str_list] at this; exact this
      have HBAD : Hid (isText xs[k] = false → okBody xs = false) := fun h => okBody_bad hkx h
      have HAK : Hid (isText xs[k] = true → ∀ j, j < k + 1 → (hj : j < xs.length) → isText xs[j] = true) := fun h j hj hjx => by
        by_cases e : j = k
        · subst e; exact h
        · exact HA.out j (by omega) hjx
      clear hcell
      generalize isText xs[k] = q at *
      generalize str xs[k] = S at *
      cases q
      · have HB := Lib.hid (HBAD.out rfl)
        go_wp2_with fail
        refine (HTX.out _).mono ?_
        rintro e w1 ⟨rfl, rfl⟩
        go_wp2
        go_ret
        exact ⟨ret_bool HB.out.symm, Below.refl _ _⟩
      · have HN := Lib.hid (HAK.out rfl)
        go_wp2_with fail
        refine (HTX.out _).mono ?_
        rintro e w1 ⟨rfl, rfl⟩
        go_wp2
        go_roundw
        case rel =>
          first
            | exact ⟨k + 1, by omega, by omega, by go_num, rfl, HN.out⟩
            | exact ⟨k + 1, by omega, by omega, by go_num, trivial, HN.out⟩
            | exact ⟨k + 1, by omega, by omega, by go_num, HN.out⟩
        case measure => simp [intOf]; omega
    · have HD : Hid (decide ((n : Int) ≤ 30) = okBody xs) := by
        show _ = _
        by_cases h : n ≤ 30
        · rw [okBody_good (b := xs) (fun j hj => HA.out j (by have := HLEN.out; omega) hj) (by have := HLEN.out; omega)]
          simp; omega
        · rw [okBody_long (b := xs) (by have := HLEN.out; omega)]
          simp; omega
      by_cases hln : k < n
      · have d1 : decide ((k : Int) < n) = true := by simp; omega
        have d2 : decide ((k : Int) ≤ 30) = false := by simp; omega
        go_wp2
        go_ret
        exact ⟨ret_bool HD.out, Below.refl _ _⟩
      · have d1 : decide ((k : Int) < n) = false := by simp; omega
        go_wp2
        go_ret
        exact ⟨ret_bool HD.out, Below.refl _ _⟩
def FmtAt (d : Nat) : Prop := ∀ (f : Nat) (v : Value) (p : Prt) (u : World) (ls : List (List UInt8)), RdT u f v p → linesT d p = some ls →
  Calls Tryz.prog 31 #[v] u fun e w' => ∃ v', e = .returned v' ∧ OwnL u.heap.size v' ls w' ∧ Below u.heap.size u w'
set_option maxRecDepth 100000 in
set_option maxHeartbeats 4000000 in
theorem fmt_step (d : Nat) (hd : d ≤ 2) (IH : FmtAt d) : FmtAt (d + 1) := by
  intro f v p w ls hr hls
  have hll := linesT_len (d + 1) p _ hls
  have hll5 : ls.length ≤ 500000 := by
    have h5 : 5 ^ (d + 1) ≤ 125 := pow5 (by omega)
    omega
  obtain ⟨hok, r, hlr, hrest⟩ := linesT_some hls
  obtain ⟨f', a1, c1, a2, c2, a3, c3, rfl, rfl, ⟨hf, hfc⟩, ⟨hbd, hbc, hbn⟩, hkc, hpf, hks⟩ := hr.open
  have hFL := foldFs_len hok
  have HF : Hid (∀ u, Below w.heap.size w u → Calls Tryz.prog 54 #[.slice a1 p.fields.length c1] u (FoldRet p.fields u)) := fun u h => foldFieldsS_any a1 p.fields.length c1 p.fields u (hf.below h) (by have := hpf.1; omega) (fun x hx => (hpf.2.1 x hx).up (by omega))
  have HBO : Hid (∀ u, Below w.heap.size w u → Calls Tryz.prog 55 #[.slice a1 p.fields.length c1] u (BndRet (bndF p.fields) u)) := fun u h => l8Boundary_any a1 p.fields.length c1 p.fields u (hf.below h) hpf.1 hpf.2.1
  have HPF := Lib.hid hpf
  have HBD := Lib.hid hbd
  have HBN := Lib.hid hbn
  have HKS := Lib.hid hks
  have hA : Below w.heap.size w (w.alloc (.cells #[.slice a1 p.fields.length c1, .slice a2 p.body.length c2, .slice a3 p.kids.length c3] 33)) := (Below.refl _ _).alloc (Nat.le_refl _) _
  have HX := Lib.hid (KK3.new w (.slice a1 p.fields.length c1) (.slice a2 p.body.length c2) (.slice a3 p.kids.length c3) 33)
  have hrl : (foldFs p.fields).length + r.length + 1 ≤ 500000 := by
    rw [hlr, List.length_append, List.length_cons] at hll5; omega
  clear hf hfc hbd hbc hbn hkc hpf hks hr hls hll hll5 hFL
  unfold FoldRet at HF
  unfold BndRet at HBO
  rw [hok] at HF
  have HLR := Lib.hid hlr
  clear hok hlr
  rcases hrest with ⟨h1, h2, h3, h4⟩ | ⟨b, ps, h1, h2, h3, h4, h5⟩
  · rw [h1] at HBO
    have HRB := Lib.hid h4
    rw [h4] at hrl
    clear h1 h2 h3 h4
    generalize foldFs p.fields = FS at *
    generalize hnbq : p.body.length = nb at *
    have HNQ := Lib.hid hnbq
    clear hnbq
    generalize p.kids.length = nk at *
    generalize p.fields.length = nf at *
    go_enter Tryz.func31, Tryz.ntmps31
    go_wp2_with fail
    refine (HF.out _ hA).mono ?_
    rintro e w1 ⟨v1, rfl, ho1, hb1⟩
    have HO0 := Lib.hid ho1
    obtain ⟨a9, c9, rfl, _⟩ := ho1.read
    clear ho1
    generalize w.alloc (.cells #[.slice a1 nf c1, .slice a2 nb c2, .slice a3 nk c3] 33) = W at *
    have HO1 : Hid (OwnL W.heap.size (.slice a9 FS.length c9) FS w1) := HO0
    clear HO0
    have hWs := hA.size
    have hs1 := hb1.size
    have hWl : w.heap.size < W.heap.size := lt_of_cell HX.out.1
    have HA : Hid (OwnL W.heap.size (.slice a9 FS.length c9) FS (w1.alloc (.cells #[.string ⟨#[]⟩] 9))) := HO1.out.keep ((Below.refl _ _).alloc (Nat.le_refl _) _)
    obtain ⟨y0, y1, y2⟩ := HX.out.below hb1
    go_wp2_with (at_builtin; refine wpList_append_1L rfl _ _ rfl W.heap.size _ FS ⟨#[]⟩ w1.heap.size rfl rfl ?c1 HA.out ?c2 ?c3 ?_)
    case c1 => rw [World.cell?_alloc_at _ _ _ _ rfl]; rfl
    case c2 => simp; omega
    case c3 => omega
    intro v4 w4 hO4 hgr4 _
    have hb4 : Below W.heap.size W w4 := (hb1.alloc hs1 _).grown hgr4 (by simp; omega) (fun g hg => (HA.out.lt g hg).1)
    have HO4 : Hid (OwnL W.heap.size v4 (FS ++ [[]]) w4) := hO4
    have hb04 := nx hA hb4
    clear y0 y1 y2 hgr4 hO4 HA HO1
    obtain ⟨y0, y1, y2⟩ := HX.out.below hb4
    go_wp2_with fail
    refine (HBO.out _ hb04).mono ?_
    rintro e w5 ⟨rfl, hb5⟩
    have hb15 := nx hb4 hb5
    have hs5 := hb15.size
    clear y0 y1 y2
    obtain ⟨y0, y1, y2⟩ := HX.out.below hb15
    have HO5 := Lib.hid (HO4.out.keep hb5)
    go_wp2_with (at_builtin; refine wpList_append_RL rfl _ _ rfl W.heap.size _ (FS ++ [[]]) p.body a2 nb c2 rfl rfl HO5.out (HBD.out.below (nx hA hb15)) HBN.out hs5 ?d1 ?_)
    case d1 => rw [List.length_append, List.length_singleton, HNQ.out]; omega
    intro v6 w6 hO6 hgr6 _
    have hb6 : Below W.heap.size W w6 := hb15.grown hgr6 hs5 (fun g hg => (HO5.out.lt g hg).1)
    have HO6 : Hid (OwnL w.heap.size v6 ls w6) := by
      show OwnL _ _ _ _
      rw [HLR.out, HRB.out]
      have := hO6.base hWs
      first
        | exact this
        | (rw [List.append_assoc] at this; exact this)
    clear hO6 hgr6
    go_wp2
    go_ret
    exact ⟨_, rfl, HO6.out, nx hA hb6⟩
  · rw [h1] at HBO
    have HB : Hid (∀ u, Below w.heap.size w u → Calls Tryz.prog 55 #[.slice a1 p.fields.length c1] u fun e w' => e = .returned (.tuple #[.string (str b), .bool true]) ∧ Below u.heap.size u w') := HBO
    have hbl : b.length ≤ 20 := by have := bndF_bnd h1; unfold isBnd at this; simp at this; omega
    have hbz : (str b).size ≤ 20 := by rw [str_size]; exact hbl
    have hms := mapO_some h4
    have HMS := Lib.hid hms.2
    have hpl := hms.1
    have HPL := Lib.hid hpl
    have hpk4 : ps.length ≤ 4 := by omega
    have hsum := mapO_sum (by omega) h3 h4
    have HPM : Hid (∀ i, (h : i < ps.length) → ps[i].length ≤ 500000) := fun i h => by
      have h5 : 5 ^ d ≤ 125 := pow5 (by omega)
      have := linesT_len d _ _ (hms.2 i (by omega) h); omega
    have HJ : Hid (∀ a c u, RdSS u a ps.length ps → Calls Tryz.prog 56 #[.slice a ps.length c, .string (str b)] u (LinesRet (some r) u)) := fun a c u h => by
      have := joinPartsS_any a ps.length c ps (str b) u h (by omega) (by omega) (by omega)
      rw [str_list, h5] at this; exact this
    obtain ⟨nk, hnk⟩ : ∃ nk, nk = ps.length := ⟨_, rfl⟩
    have HKK : Hid (p.kids.length = nk) := hpl.symm.trans hnk.symm
    have HNK : Hid (ps.length = nk) := hnk.symm
    rw [← hnk] at hpk4 HJ
    clear HBO h1 h2 h3 h4 h5 hms hpl hbl hsum hnk
    rw [HKK.out] at HX hA ⊢
    generalize str b = BB at *
    generalize foldFs p.fields = FS at *
    generalize p.body.length = nb at *
    generalize p.fields.length = nf at *
    have HBO := HB
    clear HB
    go_enter Tryz.func31, Tryz.ntmps31
    go_wp2_with fail
    refine (HF.out _ hA).mono ?_
    rintro e w1 ⟨v1, rfl, ho1, hb1⟩
    have HO0 := Lib.hid ho1
    obtain ⟨a9, c9, rfl, _⟩ := ho1.read
    clear ho1
    generalize w.alloc (.cells #[.slice a1 nf c1, .slice a2 nb c2, .slice a3 nk c3] 33) = W at *
    have HO1 : Hid (OwnL W.heap.size (.slice a9 FS.length c9) FS w1) := HO0
    clear HO0
    have hWs := hA.size
    have hs1 := hb1.size
    have hWl : w.heap.size < W.heap.size := lt_of_cell HX.out.1
    have HA : Hid (OwnL W.heap.size (.slice a9 FS.length c9) FS (w1.alloc (.cells #[.string ⟨#[]⟩] 9))) := HO1.out.keep ((Below.refl _ _).alloc (Nat.le_refl _) _)
    obtain ⟨y0, y1, y2⟩ := HX.out.below hb1
    go_wp2_with (at_builtin; refine wpList_append_1L rfl _ _ rfl W.heap.size _ FS ⟨#[]⟩ w1.heap.size rfl rfl ?c1 HA.out ?c2 ?c3 ?_)
    case c1 => rw [World.cell?_alloc_at _ _ _ _ rfl]; rfl
    case c2 => simp; omega
    case c3 => omega
    intro v4 w4 hO4 hgr4 _
    have hb4 : Below W.heap.size W w4 := (hb1.alloc hs1 _).grown hgr4 (by simp; omega) (fun g hg => (HA.out.lt g hg).1)
    have HO4 : Hid (OwnL W.heap.size v4 (FS ++ [[]]) w4) := hO4
    have hb04 := nx hA hb4
    clear y0 y1 y2 hgr4 hO4 HA HO1
    obtain ⟨y0, y1, y2⟩ := HX.out.below hb4
    go_wp2_with fail
    refine (HBO.out _ hb04).mono ?_
    rintro e w5 ⟨rfl, hb5⟩
    have hb15 := nx hb4 hb5
    have hs5 := hb15.size
    clear y0 y1 y2
    obtain ⟨y0, y1, y2⟩ := HX.out.below hb15
    have HO5 := Lib.hid (HO4.out.keep hb5)
    have HB15 := Lib.hid hb15
    go_wp2_with fail
    go_loopw [7, 8] (fun v i wr => ∃ (k : Nat) (us : List Value), k ≤ nk ∧ i = .int .i64 k ∧ OwnSS w5.heap.size v us (ps.take k) wr ∧ Below w5.heap.size w5 wr) (fun _ i _ => nk - (intOf i).toNat)
    case atStart =>
      exact ⟨0, [], Nat.zero_le _, rfl, (OwnSS.empty w5), (Below.refl _ _).alloc (Nat.le_refl _) _⟩
    case round =>
      obtain ⟨k, us, hk, rfl, hown, hb⟩ := hrel
      have HO := Lib.hid hown
      have hbs := hb.size
      have hb1r := nx hb15 hb
      have hpt : (ps.take k).length = k := by rw [List.length_take]; have := HNK.out; omega
      have HPT := Lib.hid hpt
      clear hown hpt y0 y1 y2
      obtain ⟨y0, y1, y2⟩ := HX.out.below hb1r
      by_cases hlt : k < nk
      · have d1 : decide ((k : Int) < nk) = true := by simp; omega
        have hkp : k < ps.length := by rw [HNK.out]; exact hlt
        have hkx : k < p.kids.length := by rw [HKK.out]; exact hlt
        obtain ⟨bk, off, rfl, hbl, b1, e1, b2, e2, b3, e3, g0, g1, g2, g3⟩ := (HKS.out.below (nx hA hb1r)).at hkx
        have HC := Lib.hid (IH f' _ p.kids[k] wr ps[k] g3 (HMS.out k hkx hkp))
        have HTK : Hid (ps.take (k + 1) = ps.take k ++ [ps[k]]) := List.take_succ_eq_append_getElem hkp
        clear g3
        generalize p.kids[k].fields.length = n1 at *
        generalize p.kids[k].body.length = n2 at *
        generalize p.kids[k].kids.length = n3 at *
        obtain ⟨X, hX⟩ : ∃ X, X = ps[k] := ⟨_, rfl⟩
        have hXl : X.length ≤ 500000 := by rw [hX]; exact HPM.out k hkp
        rw [← hX] at HC HTK
        clear hX
        obtain ⟨a10, c10, rfl, _, _, _, _⟩ := HO.out.read
        rw [HPT.out] at HO ⊢
        go_wp2_with fail
        refine HC.out.mono ?_
        rintro e w6 ⟨v7, rfl, ho7, hb7⟩
        have hbs7 := hb7.size
        obtain ⟨ax, cx, rfl, _⟩ := ho7.read
        have hA1 : Below w6.heap.size w6 (w6.alloc (.cells #[.slice ax X.length cx] 23)) := (Below.refl _ _).alloc (Nat.le_refl _) _
        have HOU : Hid (OwnL w5.heap.size (.slice ax X.length cx) X (w6.alloc (.cells #[.slice ax X.length cx] 23))) := (ho7.keep hA1).base hbs
        have HOV : Hid (OwnSS w5.heap.size (.slice a10 k c10) us (ps.take k) (w6.alloc (.cells #[.slice ax X.length cx] 23))) := (HO.out.keep hb7).keep hA1
        have HO7 := Lib.hid ho7
        clear ho7 y0 y1 y2
        go_wp2_with (at_builtin; refine wpList_append_SS rfl _ _ rfl w5.heap.size _ (.slice ax X.length cx) us (ps.take k) X w6.heap.size rfl rfl ?q1 rfl HOV.out HOU.out ?q4 ?q5 ?q2 ?q3 ?_)
        case q1 => rw [World.cell?_alloc_at _ _ _ _ rfl]; rfl
        case q4 => exact fun g hg e => by have := (HO7.out.lt g hg).1; have := (HO.out.lt.1 g e).2; omega
        case q5 => exact fun i z g hz hg e => by have := (HO7.out.lt g hg).1; have := (HO.out.lt.2 i z g hz e).2; omega
        case q2 => simp; omega
        case q3 => rw [HPT.out]; omega
        intro v' w8 hO8 hgr8 _
        have hb8 : Below w5.heap.size w5 w8 := ((nx hb hb7).alloc (nx hb hb7).size _).grown hgr8 (by simp; omega) (fun g hg => (HOV.out.lt.1 g hg).1)
        rw [← HTK.out] at hO8
        have HN8 := Lib.hid hO8
        clear hO8 hgr8
        go_wp2
        go_roundw
        case rel => exact ⟨k + 1, _, by omega, by go_num, HN8.out, hb8⟩
        case measure => simp [intOf]; omega
      · have hkn : k = nk := by omega
        have d1 : decide ((k : Int) < nk) = false := by simp; omega
        have HT : Hid (ps.take k = ps) := by show _ = _; rw [hkn, ← HNK.out, List.take_length]
        rw [HT.out] at HO
        obtain ⟨a10, c10, rfl, hrd, _, _, _⟩ := HO.out.read
        have HRD := Lib.hid hrd
        clear hrd
        have HJ2 : Hid (Calls Tryz.prog 56 #[.slice a10 nk c10, .string BB] wr (LinesRet (some r) wr)) := HJ.out a10 c10 wr (by have := HRD.out; rw [HNK.out] at this; exact this)
        rw [HNK.out] at HO ⊢
        clear hkn HRD
        go_wp2_with fail
        refine HJ2.out.mono ?_
        intro e w6 hret
        obtain ⟨ax, cx, rfl, ho6, _, hb6⟩ := hret.some'
        have hb56 := nx hb hb6
        have hb16 := nx hb15 hb56
        have hs6 := hb16.size
        have HO6 := Lib.hid (HO5.out.keep hb56)
        have HR6 := Lib.hid (ownL_rd' ho6)
        have HAC : Hid (ax = none → cx = 0) := by
          obtain ⟨_, _, e, _, _, h, _⟩ := ho6.readc
          injection e with e1 _ e3
          subst e1 e3; exact h
        clear ho6 hret y0 y1 y2
        go_wp2_with (at_builtin; refine wpList_append_RL rfl _ _ rfl W.heap.size _ (FS ++ [[]]) r ax r.length cx rfl rfl HO6.out HR6.out HAC.out hs6 ?d1 ?_)
        case d1 => rw [List.length_append, List.length_singleton]; omega
        intro v9 w9 hO9 hgr9 _
        have hb9 : Below W.heap.size W w9 := hb16.grown hgr9 hs6 (fun g hg => (HO6.out.lt g hg).1)
        have HO9 : Hid (OwnL w.heap.size v9 ls w9) := by
          show OwnL _ _ _ _
          rw [HLR.out]
          have := hO9.base hWs
          first
            | exact this
            | (rw [List.append_assoc] at this; exact this)
        clear hO9 hgr9
        go_wp2
        go_ret
        exact ⟨_, rfl, HO9.out, nx hA hb9⟩
theorem fmt_all : ∀ d, d ≤ 3 → FmtAt d
  | 0, _ => fun _ _ _ _ _ _ h => by cases h
  | d + 1, h => fmt_step d (by omega) (fmt_all d (by omega))
theorem linesT_restSome {d : Nat} {p : Prt} (h : fldsOk p.fields = true) : (linesT (d + 1) p).isSome = (restO d p).isSome := by
  rw [linesT_rest, if_pos h]; cases restO d p <;> rfl
def ValidAt (d : Nat) : Prop := ∀ (f : Nat) (v : Value) (p : Prt) (u : World), RdT u f v p → Calls Tryz.prog 53 #[v, .int .i64 (d : Int)] u fun e w' => e = .returned (.bool (linesT d p).isSome) ∧ Below u.heap.size u w'
set_option maxRecDepth 100000 in
set_option maxHeartbeats 1000000 in
theorem valid_zero : ValidAt 0 := by
  intro f v p w hr
  obtain ⟨f', a1, c1, a2, c2, a3, c3, rfl, rfl, ⟨hf, hfc⟩, _, _, hpf, _⟩ := hr.open
  have HV : Hid (∀ u, Below w.heap.size w u → Calls Tryz.prog 80 #[.slice a1 p.fields.length c1] u fun e w' => e = .returned (.bool (fldsOk p.fields)) ∧ Below u.heap.size u w') := fun u h => l3Valid_any a1 p.fields.length c1 p.fields u (hf.below h) (by have := hpf.1; omega) (fun x hx => (hpf.2.1 x hx).up (by omega))
  have hA : Below w.heap.size w (w.alloc (.cells #[.slice a1 p.fields.length c1, .slice a2 p.body.length c2, .slice a3 p.kids.length c3] 33)) := (Below.refl _ _).alloc (Nat.le_refl _) _
  have HN : Hid ((linesT 0 p).isSome = false) := rfl
  clear hf hfc hpf hr
  rw [HN.out]
  generalize fldsOk p.fields = ok at *
  generalize p.fields.length = n1 at *
  generalize p.body.length = n2 at *
  generalize p.kids.length = n3 at *
  cases ok
  all_goals
    go_enter Tryz.func53, Tryz.ntmps53
    go_wp2_with fail
    refine (HV.out _ hA).mono ?_
    rintro e w1 ⟨rfl, hb1⟩
    go_wp2
    go_ret
    exact ⟨rfl, nx hA hb1⟩
set_option maxRecDepth 100000 in
set_option maxHeartbeats 4000000 in
theorem valid_step (d : Nat) (hd : d ≤ 2) (IH : ValidAt d) : ValidAt (d + 1) := by
  intro f v p w hr
  obtain ⟨f', a1, c1, a2, c2, a3, c3, rfl, rfl, ⟨hf, hfc⟩, ⟨hbd, hbc, hbn⟩, hkc, hpf, hks⟩ := hr.open
  have HV : Hid (∀ u, Below w.heap.size w u → Calls Tryz.prog 80 #[.slice a1 p.fields.length c1] u fun e w' => e = .returned (.bool (fldsOk p.fields)) ∧ Below u.heap.size u w') := fun u h => l3Valid_any a1 p.fields.length c1 p.fields u (hf.below h) (by have := hpf.1; omega) (fun x hx => (hpf.2.1 x hx).up (by omega))
  have HBO : Hid (∀ u, Below w.heap.size w u → Calls Tryz.prog 55 #[.slice a1 p.fields.length c1] u (BndRet (bndF p.fields) u)) := fun u h => l8Boundary_any a1 p.fields.length c1 p.fields u (hf.below h) hpf.1 hpf.2.1
  have HBY : Hid (∀ u, Below w.heap.size w u → Calls Tryz.prog 81 #[.slice a2 p.body.length c2] u fun e w' => e = .returned (.bool (okBody p.body)) ∧ Below u.heap.size u w') := fun u h => l8Body_any a2 p.body.length c2 p.body u (hbd.below h) hpf.2.2.1 hpf.2.2.2.1
  have HKS := Lib.hid hks
  have hnb : p.body.length ≤ 1048576 := hpf.2.2.1
  have hnk : p.kids.length ≤ 1048576 := hpf.2.2.2.2
  have hA : Below w.heap.size w (w.alloc (.cells #[.slice a1 p.fields.length c1, .slice a2 p.body.length c2, .slice a3 p.kids.length c3] 33)) := (Below.refl _ _).alloc (Nat.le_refl _) _
  have HX := Lib.hid (KK3.new w (.slice a1 p.fields.length c1) (.slice a2 p.body.length c2) (.slice a3 p.kids.length c3) 33)
  have hdd : (((d + 1 : Nat) : Int)) = (d : Int) + 1 := by omega
  have e1 : decide ((d : Int) + 1 < 1) = false := by simp; omega
  rw [hdd]
  clear hf hfc hbd hbc hbn hkc hpf hks hr hdd
  cases hok : fldsOk p.fields with
  | false =>
    have HN : Hid ((linesT (d + 1) p).isSome = false) := by show _ = _; rw [linesT_no hok]; rfl
    rw [hok] at HV
    rw [HN.out]
    clear hok HKS HBO HBY
    generalize p.fields.length = n1 at *
    generalize p.body.length = n2 at *
    generalize p.kids.length = n3 at *
    go_enter Tryz.func53, Tryz.ntmps53
    go_wp2_with fail
    refine (HV.out _ hA).mono ?_
    rintro e w1 ⟨rfl, hb1⟩
    go_wp2
    go_ret
    exact ⟨rfl, nx hA hb1⟩
  | true =>
    rw [linesT_restSome hok]
    rw [hok] at HV
    clear hok
    unfold BndRet at HBO
    cases hq : bndF p.fields with
    | none =>
      have HL := Lib.hid (restO_leaf (d := d) hq)
      rw [hq] at HBO
      clear hq HKS
      by_cases hk0 : p.kids.length = 0
      · have HKN : Hid (p.kids = []) := List.length_eq_zero_iff.1 hk0
        have e0 : ((p.kids.length : Int) == 0) = true := by rw [beq_iff_eq]; omega
        have HN : Hid ((restO d p).isSome = okBody p.body) := by
          show _ = _
          rw [HL.out]
          cases hv : okBody p.body
          · rw [if_neg (fun c => by cases c.1)]; rfl
          · rw [if_pos ⟨rfl, HKN.out⟩]; rfl
        rw [HN.out]
        clear hk0 HL
        generalize okBody p.body = ob at *
        generalize p.fields.length = n1 at *
        generalize p.body.length = n2 at *
        generalize p.kids.length = n3 at *
        go_enter Tryz.func53, Tryz.ntmps53
        go_wp2_with fail
        refine (HV.out _ hA).mono ?_
        rintro e w1 ⟨rfl, hb1⟩
        have hb01 := nx hA hb1
        obtain ⟨y0, y1, y2⟩ := HX.out.below hb1
        go_wp2_with fail
        refine (HBO.out _ hb01).mono ?_
        rintro e w2 ⟨rfl, hb2⟩
        have hb02 := nx hb01 hb2
        clear y0 y1 y2
        obtain ⟨y0, y1, y2⟩ := HX.out.below (nx hb1 hb2)
        go_wp2_with fail
        refine (HBY.out _ hb02).mono ?_
        rintro e w3 ⟨rfl, hb3⟩
        go_wp2
        go_ret
        exact ⟨rfl, nx hb02 hb3⟩
      · have HN : Hid ((restO d p).isSome = false) := by show _ = _; rw [HL.out, if_neg (fun c => hk0 (by rw [c.2]; rfl))]; rfl
        have e0 : ((p.kids.length : Int) == 0) = false := by rw [beq_eq_false_iff_ne]; omega
        rw [HN.out]
        clear hk0 HL HBY
        generalize p.fields.length = n1 at *
        generalize p.body.length = n2 at *
        generalize p.kids.length = n3 at *
        go_enter Tryz.func53, Tryz.ntmps53
        go_wp2_with fail
        refine (HV.out _ hA).mono ?_
        rintro e w1 ⟨rfl, hb1⟩
        have hb01 := nx hA hb1
        obtain ⟨y0, y1, y2⟩ := HX.out.below hb1
        go_wp2_with fail
        refine (HBO.out _ hb01).mono ?_
        rintro e w2 ⟨rfl, hb2⟩
        have hb02 := nx hb01 hb2
        clear y0 y1 y2
        obtain ⟨y0, y1, y2⟩ := HX.out.below (nx hb1 hb2)
        go_wp2
        go_ret
        exact ⟨rfl, hb02⟩
    | some b =>
      have HL := Lib.hid (restO_many (d := d) hq)
      have HBD := Lib.hid (bndF_bnd hq)
      have hbl : b.length ≤ 20 := by have := bndF_bnd hq; unfold isBnd at this; simp at this; omega
      have hbz : (str b).size ≤ 20 := by rw [str_size]; exact hbl
      rw [hq] at HBO
      have HB : Hid (∀ u, Below w.heap.size w u → Calls Tryz.prog 55 #[.slice a1 p.fields.length c1] u fun e w' => e = .returned (.tuple #[.string (str b), .bool true]) ∧ Below u.heap.size u w') := HBO.out
      have HLK : Hid (∀ (x : List UInt8) u, Calls Tryz.prog 82 #[.string (str x), .string (str b)] u fun e w' => e = .returned (.bool (looksB b x)) ∧ u = w') := fun x u => by
        have := l7Looks_any x (str b) u (by omega)
        rw [str_list] at this; exact this
      clear hq hbl HBO HBY
      generalize str b = BB at *
      by_cases hgo : p.body.length = 0 ∧ 1 ≤ p.kids.length ∧ p.kids.length ≤ 4
      · obtain ⟨hb0, hk1, hk4⟩ := hgo
        have HBE : Hid (p.body = []) := List.length_eq_zero_iff.1 hb0
        have HRO : Hid ((restO d p).isSome = (kidsO d p.kids b).isSome) := by show _ = _; rw [HL.out, if_pos HBE.out]
        have d1 : decide (0 < p.body.length) = false := decide_eq_false (by omega)
        have d2 : decide ((p.kids.length : Int) < 1) = false := decide_eq_false (by omega)
        have d3 : decide ((4 : Int) < p.kids.length) = false := decide_eq_false (by omega)
        rw [HRO.out]
        clear HL HRO HBE hb0
        generalize hnkq : p.kids.length = nk at *
        have HNK := Lib.hid hnkq
        clear hnkq
        generalize p.body.length = nb at *
        generalize p.fields.length = nf at *
        go_enter Tryz.func53, Tryz.ntmps53
        go_wp2_with fail
        refine (HV.out _ hA).mono ?_
        rintro e w1 ⟨rfl, hb1⟩
        have hb01 := nx hA hb1
        obtain ⟨y0, y1, y2⟩ := HX.out.below hb1
        go_wp2_with fail
        refine (HB.out _ hb01).mono ?_
        rintro e w2 ⟨rfl, hb2⟩
        have hb02 := nx hb01 hb2
        have hb12 := nx hb1 hb2
        clear y0 y1 y2
        obtain ⟨y0, y1, y2⟩ := HX.out.below hb12
        go_wp2_with fail
        go_loopw [7] (fun i wr => ∃ (k : Nat), k ≤ nk ∧ i = .int .i64 k ∧ (∀ j, j < k → (hj : j < p.kids.length) → kidGood d b p.kids[j]) ∧ Below w2.heap.size w2 wr) (fun i _ => nk - (intOf i).toNat)
        case atStart => exact ⟨0, Nat.zero_le _, rfl, (fun j h => by omega), Below.refl _ _⟩
        case round =>
          obtain ⟨k, hk, rfl, hall, hb⟩ := hrel
          have HALL := Lib.hid hall
          have hb0r := nx hb02 hb
          have hb1r := nx hb12 hb
          clear hall y0 y1 y2
          obtain ⟨y0, y1, y2⟩ := HX.out.below hb1r
          by_cases hlt : k < nk
          · have d4 : decide ((k : Int) < nk) = true := decide_eq_true (by omega)
            have hkx : k < p.kids.length := by rw [HNK.out]; exact hlt
            obtain ⟨bk, off, rfl, hbl, b1, e1, b2, e2, b3, e3, g0, g1, g2, g3⟩ := (HKS.out.below hb0r).at hkx
            have HC := Lib.hid (IH f' _ p.kids[k] wr g3)
            have HFM : Hid (∀ u ls, Below wr.heap.size wr u → linesT d p.kids[k] = some ls → Calls Tryz.prog 31 #[.agg #[.slice b1 p.kids[k].fields.length e1, .slice b2 p.kids[k].body.length e2, .slice b3 p.kids[k].kids.length e3]] u fun e w' => ∃ v', e = .returned v' ∧ OwnL u.heap.size v' ls w' ∧ Below u.heap.size u w') := fun u ls h hl => fmt_all d (by omega) f' _ p.kids[k] u ls (g3.below h f') hl
            have hblr := lt_of_cell g0
            have HG : Hid (∀ u, Below wr.heap.size wr u → u.cell? ⟨bk, off + k * 3, none⟩ = some (.slice b1 p.kids[k].fields.length e1) ∧ u.cell? ⟨bk, off + k * 3 + 1, none⟩ = some (.slice b2 p.kids[k].body.length e2) ∧ u.cell? ⟨bk, off + k * 3 + 2, none⟩ = some (.slice b3 p.kids[k].kids.length e3)) := fun u h => ⟨by rw [below_at h hblr, g0], by rw [below_at h hblr, g1], by rw [below_at h hblr, g2]⟩
            have HBAD := Lib.hid (kidsO_bad (d := d) (b := b) hkx)
            have HSZ : Hid (∀ ls, linesT d p.kids[k] = some ls → ls.length ≤ 500000) := fun ls h => by
              have h5 : 5 ^ d ≤ 125 := pow5 (by omega)
              have := linesT_len d _ _ h; omega
            have HLO : Hid (∀ ls, linesT d p.kids[k] = some ls → freeB b ls = false → kidsO d p.kids b = none) := fun ls h1 h2 => kidsO_looks hkx h1 h2
            have HGO : Hid (∀ ls, linesT d p.kids[k] = some ls → freeB b ls = true → ∀ j, j < k + 1 → (hj : j < p.kids.length) → kidGood d b p.kids[j]) := fun ls h1 h2 j hj hjx => by
              by_cases e : j = k
              · subst e; exact ⟨ls, h1, h2⟩
              · exact HALL.out j (by omega) hjx
            clear g3
            generalize p.kids[k].fields.length = n1 at *
            generalize p.kids[k].body.length = n2 at *
            generalize p.kids[k].kids.length = n3 at *
            generalize linesT d p.kids[k] = o at *
            cases o with
            | none =>
              have HN : Hid ((kidsO d p.kids b).isSome = false) := by show _ = _; rw [HBAD.out rfl]; rfl
              clear HFM HLO HGO HBAD
              go_wp2_with fail
              refine HC.out.mono ?_
              rintro e w6 ⟨rfl, hb6⟩
              go_wp2
              go_ret
              exact ⟨ret_bool HN.out.symm, nx hb0r hb6⟩
            | some ls =>
              have HF6 := Lib.hid (fun u h => HFM.out u ls h rfl)
              have HL6 := Lib.hid (HLO.out ls rfl)
              have HG6 := Lib.hid (HGO.out ls rfl)
              clear HFM HLO HGO HBAD
              go_wp2_with fail
              refine HC.out.mono ?_
              rintro e w6 ⟨rfl, hb6⟩
              have hb16 := nx hb1r hb6
              clear y0 y1 y2 g0 g1 g2
              obtain ⟨y0, y1, y2⟩ := HX.out.below hb16
              obtain ⟨g0, g1, g2⟩ := HG.out _ hb6
              go_wp2_with fail
              refine (HF6.out _ hb6).mono ?_
              rintro e w7 ⟨v7, rfl, ho7, hb7⟩
              have hb17 := nx hb16 hb7
              have hb67 := nx hb6 hb7
              clear y0 y1 y2 g0 g1 g2
              obtain ⟨y0, y1, y2⟩ := HX.out.below hb17
              obtain ⟨a7, c7, rfl, hr7, _⟩ := ho7.read
              have HR7 := Lib.hid hr7
              clear ho7 hr7
              have hm : ls.length ≤ 500000 := HSZ.out ls rfl
              obtain ⟨m, hmq⟩ : ∃ m, m = ls.length := ⟨_, rfl⟩
              rw [← hmq] at HR7 hm ⊢
              have HM := Lib.hid hmq
              clear hmq
              go_wp2_with fail
              go_loopw [9] (fun i wq => ∃ (t : Nat), t ≤ m ∧ i = .int .i64 t ∧ wq = w7 ∧ (∀ s, s < t → (hs : s < ls.length) → looksB b ls[s] = false)) (fun i _ => m - (intOf i).toNat)
              case atStart => exact ⟨0, Nat.zero_le _, rfl, rfl, (fun s h => by omega)⟩
              case round =>
                obtain ⟨t, ht, rfl, rfl, hal⟩ := hrel
                have HAL := Lib.hid hal
                clear hal
                by_cases htl : t < m
                · have d5 : decide ((t : Int) < m) = true := decide_eq_true (by omega)
                  have htx : t < ls.length := by rw [← HM.out]; exact htl
                  obtain ⟨b7, o7, rfl, hb7l, hc7⟩ := HR7.out.2.resolve_left (by omega)
                  have q7 := hc7 t htx
                  have HLL := Lib.hid (HLK.out ls[t])
                  have HBD7 : Hid (looksB b ls[t] = true → (kidsO d p.kids b).isSome = false) := fun h => by rw [HL6.out (freeB_f htx h)]; rfl
                  have HNX : Hid (looksB b ls[t] = false → ∀ s, s < t + 1 → (hs : s < ls.length) → looksB b ls[s] = false) := fun h s hs hsx => by
                    by_cases e : s = t
                    · subst e; exact h
                    · exact HAL.out s (by omega) hsx
                  clear hc7
                  generalize looksB b ls[t] = q at *
                  generalize str ls[t] = S at *
                  cases q
                  · have HN := Lib.hid (HNX.out rfl)
                    go_wp2_with fail
                    refine (HLL.out _).mono ?_
                    rintro e w9 ⟨rfl, rfl⟩
                    go_wp2
                    go_roundw
                    case rel =>
                      first
                        | exact ⟨t + 1, by omega, by go_num, rfl, HN.out⟩
                        | exact ⟨t + 1, by omega, by go_num, trivial, HN.out⟩
                        | exact ⟨t + 1, by omega, by go_num, HN.out⟩
                    case measure => simp [intOf]; omega
                  · have HN := Lib.hid (HBD7.out rfl)
                    go_wp2_with fail
                    refine (HLL.out _).mono ?_
                    rintro e w9 ⟨rfl, rfl⟩
                    go_wp2
                    go_ret
                    exact ⟨ret_bool HN.out.symm, nx hb0r hb67⟩
                · have d5 : decide ((t : Int) < m) = false := decide_eq_false (by omega)
                  have HN := Lib.hid (HG6.out (freeB_t fun s hs => HAL.out s (by have := HM.out; omega) hs))
                  go_wp2
                  go_roundw
                  case rel => exact ⟨k + 1, by omega, by go_num, HN.out, nx hb hb67⟩
                  case measure => simp [intOf]; omega
          · have d4 : decide ((k : Int) < nk) = false := decide_eq_false (by omega)
            have HN : Hid ((kidsO d p.kids b).isSome = true) := kidsO_good HBD.out (fun e => by have := HNK.out; rw [e] at this; simp at this; omega) (by rw [HNK.out]; exact hk4) (fun i hi => HALL.out i (by have := HNK.out; omega) hi)
            go_wp2
            go_ret
            exact ⟨ret_bool HN.out.symm, hb0r⟩
      · have HN : Hid ((restO d p).isSome = false) := by
          show _ = _
          rw [HL.out]
          by_cases hb0 : p.body = []
          · rw [if_pos hb0]
            by_cases h4 : p.kids.length ≤ 4
            · have : p.kids = [] := by
                refine List.length_eq_zero_iff.1 ?_
                have : p.body.length = 0 := by rw [hb0]; rfl
                omega
              rw [this, kidsO_nil]; rfl
            · rw [kidsO_long (by omega)]; rfl
          · rw [if_neg hb0]; rfl
        rw [HN.out]
        clear HL HN HKS HBD
        by_cases hb0 : p.body.length = 0
        · have d1 : decide (0 < p.body.length) = false := decide_eq_false (by omega)
          by_cases hk1 : p.kids.length < 1
          · have d2 : decide ((p.kids.length : Int) < 1) = true := decide_eq_true (by omega)
            clear hgo hb0 hk1
            generalize p.fields.length = n1 at *
            generalize p.body.length = n2 at *
            generalize p.kids.length = n3 at *
            go_enter Tryz.func53, Tryz.ntmps53
            go_wp2_with fail
            refine (HV.out _ hA).mono ?_
            rintro e w1 ⟨rfl, hb1⟩
            have hb01 := nx hA hb1
            obtain ⟨y0, y1, y2⟩ := HX.out.below hb1
            go_wp2_with fail
            refine (HB.out _ hb01).mono ?_
            rintro e w2 ⟨rfl, hb2⟩
            have hb02 := nx hb01 hb2
            clear y0 y1 y2
            obtain ⟨y0, y1, y2⟩ := HX.out.below (nx hb1 hb2)
            go_wp2
            go_ret
            exact ⟨rfl, hb02⟩
          · have d2 : decide ((p.kids.length : Int) < 1) = false := decide_eq_false (by omega)
            have d3 : decide ((4 : Int) < p.kids.length) = true := decide_eq_true (by omega)
            clear hgo hb0 hk1
            generalize p.fields.length = n1 at *
            generalize p.body.length = n2 at *
            generalize p.kids.length = n3 at *
            go_enter Tryz.func53, Tryz.ntmps53
            go_wp2_with fail
            refine (HV.out _ hA).mono ?_
            rintro e w1 ⟨rfl, hb1⟩
            have hb01 := nx hA hb1
            obtain ⟨y0, y1, y2⟩ := HX.out.below hb1
            go_wp2_with fail
            refine (HB.out _ hb01).mono ?_
            rintro e w2 ⟨rfl, hb2⟩
            have hb02 := nx hb01 hb2
            clear y0 y1 y2
            obtain ⟨y0, y1, y2⟩ := HX.out.below (nx hb1 hb2)
            go_wp2
            go_ret
            exact ⟨rfl, hb02⟩
        · have d1 : decide (0 < p.body.length) = true := decide_eq_true (by omega)
          clear hgo hb0
          generalize p.fields.length = n1 at *
          generalize p.body.length = n2 at *
          generalize p.kids.length = n3 at *
          go_enter Tryz.func53, Tryz.ntmps53
          go_wp2_with fail
          refine (HV.out _ hA).mono ?_
          rintro e w1 ⟨rfl, hb1⟩
          have hb01 := nx hA hb1
          obtain ⟨y0, y1, y2⟩ := HX.out.below hb1
          go_wp2_with fail
          refine (HB.out _ hb01).mono ?_
          rintro e w2 ⟨rfl, hb2⟩
          have hb02 := nx hb01 hb2
          clear y0 y1 y2
          obtain ⟨y0, y1, y2⟩ := HX.out.below (nx hb1 hb2)
          go_wp2
          go_ret
          exact ⟨rfl, hb02⟩
theorem valid_all : ∀ d, d ≤ 3 → ValidAt d
  | 0, _ => valid_zero
  | d + 1, h => valid_step d (by omega) (valid_all d (by omega))
end Go.Proofs.YtcdmjckkencgoaaGreatDoor
end

section
namespace Go.Proofs.YtcdmjckkencgoaaGreatDoor
open Go.RowKit

set_option maxRecDepth 100000 in
set_option maxHeartbeats 1000000 in
theorem partValid_any (f : Nat) (v : Value) (p : Prt) (w : World) (tab : Tab w) (hr : RdT w f v p) :
    Calls Tryz.prog 43 #[v] w fun e w' => e = .returned (.bool (isPrt p)) ∧ Below w.heap.size w w' := by
  have HL : Hid (∀ u, Below w.heap.size w u → Calls Tryz.prog 34 #[v, .int .i64 3] u (LinesRet (linesT 3 p) u)) := fun u h => lines_all 3 (by omega) f v p u (tab.below h) (hr.below h f)
  have HQ : Hid ((linesT 3 p).isSome = isPrt p) := rfl
  obtain ⟨f', a1, c1, a2, c2, a3, c3, hff, rfl, _⟩ := hr.open
  have hA : Below w.heap.size w (w.alloc (.cells #[.slice a1 p.fields.length c1, .slice a2 p.body.length c2, .slice a3 p.kids.length c3] 33)) := (Below.refl _ _).alloc (Nat.le_refl _) _
  clear hr tab hff
  unfold LinesRet at HL
  rw [HQ.out] at HL
  generalize isPrt p = q at *
  generalize p.fields.length = n1 at *
  generalize p.body.length = n2 at *
  generalize p.kids.length = n3 at *
  go_enter Tryz.func43, Tryz.ntmps43
  go_wp2_with fail
  refine (HL.out _ hA).mono ?_
  rintro e w1 ⟨v', rfl, _, hb1⟩
  go_wp2
  go_ret
  exact ⟨rfl, nx hA hb1⟩
set_option maxRecDepth 100000 in
set_option maxHeartbeats 1000000 in
theorem partValidS_any (f : Nat) (v : Value) (p : Prt) (w : World) (hr : RdT w f v p) :
    Calls Tryz.prog 30 #[v] w fun e w' => e = .returned (.bool (isPrt p)) ∧ Below w.heap.size w w' := by
  have HL : Hid (∀ u, Below w.heap.size w u → Calls Tryz.prog 53 #[v, .int .i64 3] u fun e w' => e = .returned (.bool (isPrt p)) ∧ Below u.heap.size u w') := fun u h => valid_all 3 (by omega) f v p u (hr.below h f)
  obtain ⟨f', a1, c1, a2, c2, a3, c3, hff, rfl, _⟩ := hr.open
  have hA : Below w.heap.size w (w.alloc (.cells #[.slice a1 p.fields.length c1, .slice a2 p.body.length c2, .slice a3 p.kids.length c3] 33)) := (Below.refl _ _).alloc (Nat.le_refl _) _
  clear hr hff
  generalize isPrt p = q at *
  generalize p.fields.length = n1 at *
  generalize p.body.length = n2 at *
  generalize p.kids.length = n3 at *
  go_enter Tryz.func30, Tryz.ntmps30
  go_wp2_with fail
  refine (HL.out _ hA).mono ?_
  rintro e w1 ⟨rfl, hb1⟩
  go_wp2
  go_ret
  exact ⟨rfl, nx hA hb1⟩
end Go.Proofs.YtcdmjckkencgoaaGreatDoor
end

section
namespace Go.Proofs.YtcdmjckkencgoaaGreatDoor
open Go.RowKit

theorem kids_valid {d : Nat} {p : Prt} {ls : List (List UInt8)} (h : linesT (d + 1) p = some ls) : p.kids.length ≤ 4 ∧ ∀ i, (hi : i < p.kids.length) → (linesT d p.kids[i]).isSome = true := by
  obtain ⟨_, r, _, hr⟩ := linesT_some h
  rcases hr with ⟨_, _, h3, _⟩ | ⟨b, ps, _, _, h4, h5, _⟩
  · exact ⟨by rw [h3]; simp, fun i hi => by rw [h3] at hi; simp at hi⟩
  · obtain ⟨g1, g2⟩ := mapO_some h5
    exact ⟨h4, fun i hi => by rw [g2 i hi (by omega)]; rfl⟩
theorem sum_takeT (g : Prt → Nat) (ks : List Prt) (k : Nat) (h : k < ks.length) : ((ks.take (k + 1)).map g).sum = ((ks.take k).map g).sum + g ks[k] := by
  rw [List.take_succ_eq_append_getElem h, List.map_append, List.sum_append]; simp
theorem sum_leT {g : Prt → Nat} {M : Nat} : ∀ {ks : List Prt}, (∀ i, (h : i < ks.length) → g ks[i] ≤ M) → (ks.map g).sum ≤ ks.length * M
  | [], _ => by simp
  | x :: ks, h => by
    have h1 : g x ≤ M := h 0 (by simp)
    have h2 := sum_leT (g := g) (M := M) (ks := ks) (fun i hi => h (i + 1) (by simpa using hi))
    rw [List.map_cons, List.sum_cons, List.length_cons, Nat.add_mul]; omega
theorem countT_le : ∀ (d : Nat) (p : Prt), (linesT d p).isSome = true → countT d p ≤ 4 ^ d
  | 0, p, h => by cases h
  | d + 1, p, h => by
    obtain ⟨ls, hls⟩ := Option.isSome_iff_exists.1 h
    obtain ⟨h4, hv⟩ := kids_valid hls
    show (if p.kids = [] then 1 else (p.kids.map (countT d)).sum) ≤ _
    have h1 : 1 ≤ 4 ^ d := Nat.one_le_pow _ _ (by omega)
    rw [Nat.pow_succ]
    split
    · omega
    · have hs := sum_leT (g := countT d) (M := 4 ^ d) (ks := p.kids) (fun i hi => countT_le d _ (hv i hi))
      have : p.kids.length * 4 ^ d ≤ 4 * 4 ^ d := Nat.mul_le_mul_right _ h4
      omega
theorem pow4 {d : Nat} (h : d ≤ 3) : 4 ^ d ≤ 64 := Nat.pow_le_pow_right (n := 4) (by omega) h
/-- How many parts without further parts a part has, where it is valid. -/
def cntT (p : Prt) : Nat := if isPrt p then countT 3 p else 0
end Go.Proofs.YtcdmjckkencgoaaGreatDoor
end

section
namespace Go.Proofs.YtcdmjckkencgoaaGreatDoor
open Go.RowKit

def cteN : ByteArray := ⟨#[67, 111, 110, 116, 101, 110, 116, 45, 84, 114, 97, 110, 115, 102, 101, 114, 45, 69, 110, 99, 111, 100, 105, 110, 103]⟩
def way0 : ByteArray := ⟨#[55, 98, 105, 116]⟩
def way1 : ByteArray := ⟨#[113, 117, 111, 116, 101, 100, 45, 112, 114, 105, 110, 116, 97, 98, 108, 101]⟩
def way2 : ByteArray := ⟨#[98, 97, 115, 101, 54, 52]⟩
/-- The way that fields name: the number, or -1. -/
def wayI (fs : List Fld) : Int := if (getF fs cteN.data.toList).isSome = false then 0 else if lowS (str (getR fs cteN.data.toList)) = lowS way0 then 0 else if lowS (str (getR fs cteN.data.toList)) = lowS way1 then 1 else if lowS (str (getR fs cteN.data.toList)) = lowS way2 then 2 else -1
set_option maxRecDepth 100000 in
set_option maxHeartbeats 1000000 in
theorem l8Way_any (a : Option Addr) (n c : Nat) (fs : List Fld) (w : World) (hr : RdF w a n fs) (hn : n ≤ 1048576) (hx : ∀ x ∈ fs, SmallF 1048576 x) :
    Calls Tryz.prog 49 #[.slice a n c] w fun e w' => e = .returned (.int .i64 (wayI fs)) ∧ Below w.heap.size w w' := by
  have HG := Lib.hid (getFieldS_any a n c fs cteN w hr (by omega) (fun x h => (hx x h).up (by omega)) (by decide))
  unfold GetRet at HG
  have hgl : (str (getR fs cteN.data.toList)).size ≤ 1048576 := by rw [str_size]; exact getR_len hx
  have H0 : Hid (∀ u, Calls Tryz.prog 74 #[.string (str (getR fs cteN.data.toList)), .string way0] u fun e w' => e = .returned (.bool (decide (lowS (str (getR fs cteN.data.toList)) = lowS way0))) ∧ Below u.heap.size u w') := fun u => sameTextS_any _ _ u (by omega) (by decide)
  have H1 : Hid (∀ u, Calls Tryz.prog 74 #[.string (str (getR fs cteN.data.toList)), .string way1] u fun e w' => e = .returned (.bool (decide (lowS (str (getR fs cteN.data.toList)) = lowS way1))) ∧ Below u.heap.size u w') := fun u => sameTextS_any _ _ u (by omega) (by decide)
  have H2 : Hid (∀ u, Calls Tryz.prog 74 #[.string (str (getR fs cteN.data.toList)), .string way2] u fun e w' => e = .returned (.bool (decide (lowS (str (getR fs cteN.data.toList)) = lowS way2))) ∧ Below u.heap.size u w') := fun u => sameTextS_any _ _ u (by omega) (by decide)
  have HW : Hid (wayI fs = if (getF fs cteN.data.toList).isSome = false then 0 else if decide (lowS (str (getR fs cteN.data.toList)) = lowS way0) = true then 0 else if decide (lowS (str (getR fs cteN.data.toList)) = lowS way1) = true then 1 else if decide (lowS (str (getR fs cteN.data.toList)) = lowS way2) = true then 2 else -1) := by
    show _ = _
    unfold wayI; simp only [decide_eq_true_eq]
  clear hr hx
  generalize (getF fs cteN.data.toList).isSome = gs at *
  generalize decide (lowS (str (getR fs cteN.data.toList)) = lowS way0) = q0 at *
  generalize decide (lowS (str (getR fs cteN.data.toList)) = lowS way1) = q1 at *
  generalize decide (lowS (str (getR fs cteN.data.toList)) = lowS way2) = q2 at *
  generalize str (getR fs cteN.data.toList) = GT at *
  generalize wayI fs = R at *
  unfold cteN at HG
  unfold way0 at H0
  unfold way1 at H1
  unfold way2 at H2
  cases gs
  · obtain rfl : R = 0 := HW.out
    clear HW H0 H1 H2
    go_enter Tryz.func49, Tryz.ntmps49
    go_wp2_with fail
    refine HG.out.mono ?_
    rintro e w1 ⟨rfl, hb1⟩
    go_wp2
    go_ret
    exact ⟨rfl, hb1⟩
  cases q0
  · cases q1
    · cases q2
      all_goals
        have HR := Lib.hid HW.out
        go_enter Tryz.func49, Tryz.ntmps49
        go_wp2_with fail
        refine HG.out.mono ?_
        rintro e w1 ⟨rfl, hb1⟩
        go_wp2_with fail
        refine (H0.out _).mono ?_
        rintro e w2 ⟨rfl, hb2⟩
        go_wp2_with fail
        refine (H1.out _).mono ?_
        rintro e w3 ⟨rfl, hb3⟩
        go_wp2_with fail
        refine (H2.out _).mono ?_
        rintro e w4 ⟨rfl, hb4⟩
        go_wp2
        go_ret
        exact ⟨by rw [HR.out]; rfl, nx (nx (nx hb1 hb2) hb3) hb4⟩
    · have HR : Hid (R = 1) := HW.out
      go_enter Tryz.func49, Tryz.ntmps49
      go_wp2_with fail
      refine HG.out.mono ?_
      rintro e w1 ⟨rfl, hb1⟩
      go_wp2_with fail
      refine (H0.out _).mono ?_
      rintro e w2 ⟨rfl, hb2⟩
      go_wp2_with fail
      refine (H1.out _).mono ?_
      rintro e w3 ⟨rfl, hb3⟩
      go_wp2
      go_ret
      exact ⟨by rw [HR.out]; rfl, nx (nx hb1 hb2) hb3⟩
  · have HR : Hid (R = 0) := HW.out
    go_enter Tryz.func49, Tryz.ntmps49
    go_wp2_with fail
    refine HG.out.mono ?_
    rintro e w1 ⟨rfl, hb1⟩
    go_wp2_with fail
    refine (H0.out _).mono ?_
    rintro e w2 ⟨rfl, hb2⟩
    go_wp2
    go_ret
    exact ⟨by rw [HR.out]; rfl, nx hb1 hb2⟩
/-- The names of the ways, as the program's table holds them. -/
def CTab (w : World) : Prop := w.cell? ⟨0, 0, none⟩ = some (.string way0) ∧ w.cell? ⟨0, 1, none⟩ = some (.string way1) ∧ w.cell? ⟨0, 2, none⟩ = some (.string way2)
theorem CTab.below {w w' : World} (h : CTab w) (hb : Below w.heap.size w w') : CTab w' := by
  have hl := lt_of_cell h.1
  exact ⟨by rw [below_at hb hl, h.1], by rw [below_at hb hl, h.2.1], by rw [below_at hb hl, h.2.2]⟩
theorem codes_index0 (w : World) : (Instr.index 93 (.agg #[.string way0, .string way1, .string way2]) (.int .i64 0)).run Tryz.prog w = .ok (.string way0) w := by kernel_rfl
theorem codes_index1 (w : World) : (Instr.index 93 (.agg #[.string way0, .string way1, .string way2]) (.int .i64 1)).run Tryz.prog w = .ok (.string way1) w := by kernel_rfl
theorem codes_index2 (w : World) : (Instr.index 93 (.agg #[.string way0, .string way1, .string way2]) (.int .i64 2)).run Tryz.prog w = .ok (.string way2) w := by kernel_rfl
set_option maxRecDepth 100000 in
set_option maxHeartbeats 2000000 in
theorem codeOfFields_any (a : Option Addr) (n c : Nat) (fs : List Fld) (w : World) (ct : CTab w) (hr : RdF w a n fs) (hn : n ≤ 1048576) (hx : ∀ x ∈ fs, SmallF 1048576 x) :
    Calls Tryz.prog 50 #[.slice a n c] w fun e w' => ∃ r : Int, e = .returned (.tuple #[.int .i64 r, .bool (decide (wayI fs ≠ -1))]) ∧ (wayI fs ≠ -1 → r = wayI fs) ∧ Below w.heap.size w w' := by
  have HG := Lib.hid (getField_any a n c fs cteN w hr (by omega) (fun x h => (hx x h).up (by omega)) (by decide))
  unfold GetRet at HG
  have hgl : (str (getR fs cteN.data.toList)).size ≤ 1048576 := by rw [str_size]; exact getR_len hx
  have H0 : Hid (∀ u, Calls Tryz.prog 76 #[.string (str (getR fs cteN.data.toList)), .string way0] u fun e w' => e = .returned (.bool (decide (lowS (str (getR fs cteN.data.toList)) = lowS way0))) ∧ Below u.heap.size u w') := fun u => sameText_any _ _ u (by omega) (by decide)
  have H1 : Hid (∀ u, Calls Tryz.prog 76 #[.string (str (getR fs cteN.data.toList)), .string way1] u fun e w' => e = .returned (.bool (decide (lowS (str (getR fs cteN.data.toList)) = lowS way1))) ∧ Below u.heap.size u w') := fun u => sameText_any _ _ u (by omega) (by decide)
  have H2 : Hid (∀ u, Calls Tryz.prog 76 #[.string (str (getR fs cteN.data.toList)), .string way2] u fun e w' => e = .returned (.bool (decide (lowS (str (getR fs cteN.data.toList)) = lowS way2))) ∧ Below u.heap.size u w') := fun u => sameText_any _ _ u (by omega) (by decide)
  have HW : Hid (wayI fs = if (getF fs cteN.data.toList).isSome = false then 0 else if decide (lowS (str (getR fs cteN.data.toList)) = lowS way0) = true then 0 else if decide (lowS (str (getR fs cteN.data.toList)) = lowS way1) = true then 1 else if decide (lowS (str (getR fs cteN.data.toList)) = lowS way2) = true then 2 else -1) := by
    show _ = _
    unfold wayI; simp only [decide_eq_true_eq]
  have HCT := Lib.hid ct
  clear hr hx ct
  generalize (getF fs cteN.data.toList).isSome = gs at *
  generalize decide (lowS (str (getR fs cteN.data.toList)) = lowS way0) = q0 at *
  generalize decide (lowS (str (getR fs cteN.data.toList)) = lowS way1) = q1 at *
  generalize decide (lowS (str (getR fs cteN.data.toList)) = lowS way2) = q2 at *
  generalize str (getR fs cteN.data.toList) = GT at *
  generalize wayI fs = R at *
  unfold cteN at HG
  cases gs
  · obtain rfl : R = 0 := HW.out
    clear HW H0 H1 H2
    go_enter Tryz.func50, Tryz.ntmps50
    go_wp2_with fail
    refine HG.out.mono ?_
    rintro e w1 ⟨rfl, hb1⟩
    go_wp2
    go_ret2
    exact ⟨0, rfl, fun _ => rfl, hb1⟩
  · have HR0 : Hid (q0 = true → R = 0) := fun h => by rw [HW.out, h]; rfl
    have HR1 : Hid (q0 = false → q1 = true → R = 1) := fun h h1 => by rw [HW.out, h, h1]; rfl
    have HR2 : Hid (q0 = false → q1 = false → q2 = true → R = 2) := fun h h1 h2 => by rw [HW.out, h, h1, h2]; rfl
    have HR3 : Hid (q0 = false → q1 = false → q2 = false → R = -1) := fun h h1 h2 => by rw [HW.out, h, h1, h2]; rfl
    clear HW
    go_enter Tryz.func50, Tryz.ntmps50
    go_wp2_with fail
    refine HG.out.mono ?_
    rintro e w1 ⟨rfl, hb1⟩
    obtain ⟨y0, y1, y2⟩ := HCT.out.below hb1
    go_wp2_with fail
    go_loopw [16] (fun i wr => ∃ (k : Nat), k ≤ 3 ∧ i = .int .i64 k ∧ (0 < k → q0 = false) ∧ (1 < k → q1 = false) ∧ (2 < k → q2 = false) ∧ Below w.heap.size w wr) (fun i _ => 3 - (intOf i).toNat)
    case atStart => exact ⟨0, by omega, rfl, (fun h => by omega), (fun h => by omega), (fun h => by omega), hb1⟩
    case round =>
      obtain ⟨k, hk, rfl, h0, h1, h2, hb⟩ := hrel
      have hi0 := codes_index0
      have hi1 := codes_index1
      have hi2 := codes_index2
      obtain rfl | rfl | rfl | rfl : k = 0 ∨ k = 1 ∨ k = 2 ∨ k = 3 := by omega
      · cases hq : q0 with
        | true =>
          have HR := Lib.hid (HR0.out hq)
          rw [hq] at H0
          clear hq
          go_wp2_with fail
          refine (H0.out _).mono ?_
          rintro e w2 ⟨rfl, hb2⟩
          go_wp2
          go_ret2
          exact ⟨0, by rw [HR.out]; rfl, fun _ => HR.out.symm, nx hb hb2⟩
        | false =>
          have HQ := Lib.hid hq
          rw [hq] at H0
          clear hq
          go_wp2_with fail
          refine (H0.out _).mono ?_
          rintro e w2 ⟨rfl, hb2⟩
          go_wp2
          go_roundw
          case rel => exact ⟨1, by omega, by go_num, (fun _ => by first | exact HQ.out | trivial), (fun h => by omega), (fun h => by omega), nx hb hb2⟩
          case measure => simp [intOf]
      · cases hq : q1 with
        | true =>
          have HR := Lib.hid (HR1.out (h0 (by omega)) hq)
          rw [hq] at H1
          clear hq
          go_wp2_with fail
          refine (H1.out _).mono ?_
          rintro e w2 ⟨rfl, hb2⟩
          go_wp2
          go_ret2
          exact ⟨1, by rw [HR.out]; rfl, fun _ => HR.out.symm, nx hb hb2⟩
        | false =>
          have HQ := Lib.hid hq
          rw [hq] at H1
          clear hq
          go_wp2_with fail
          refine (H1.out _).mono ?_
          rintro e w2 ⟨rfl, hb2⟩
          go_wp2
          go_roundw
          case rel => exact ⟨2, by omega, by go_num, (fun _ => h0 (by omega)), (fun _ => by first | exact HQ.out | trivial), (fun h => by omega), nx hb hb2⟩
          case measure => simp [intOf]
      · cases hq : q2 with
        | true =>
          have HR := Lib.hid (HR2.out (h0 (by omega)) (h1 (by omega)) hq)
          rw [hq] at H2
          clear hq
          go_wp2_with fail
          refine (H2.out _).mono ?_
          rintro e w2 ⟨rfl, hb2⟩
          go_wp2
          go_ret2
          exact ⟨2, by rw [HR.out]; rfl, fun _ => HR.out.symm, nx hb hb2⟩
        | false =>
          have HQ := Lib.hid hq
          rw [hq] at H2
          clear hq
          go_wp2_with fail
          refine (H2.out _).mono ?_
          rintro e w2 ⟨rfl, hb2⟩
          go_wp2
          go_roundw
          case rel => exact ⟨3, by omega, by go_num, (fun _ => h0 (by omega)), (fun _ => h1 (by omega)), (fun _ => by first | exact HQ.out | trivial), nx hb hb2⟩
          case measure => simp [intOf]
      · have HR := Lib.hid (HR3.out (h0 (by omega)) (h1 (by omega)) (h2 (by omega)))
        go_wp2
        go_ret2
        exact ⟨0, by rw [HR.out]; rfl, fun h => absurd HR.out h, hb⟩
end Go.Proofs.YtcdmjckkencgoaaGreatDoor
end

section
namespace Go.Proofs.YtcdmjckkencgoaaGreatDoor
open Go.RowKit

/-! Letters. -/
def alphaL : List UInt8 := [65, 66, 67, 68, 69, 70, 71, 72, 73, 74, 75, 76, 77, 78, 79, 80, 81, 82, 83, 84, 85, 86, 87, 88, 89, 90, 97, 98, 99, 100, 101, 102, 103, 104, 105, 106, 107, 108, 109, 110, 111, 112, 113, 114, 115, 116, 117, 118, 119, 120, 121, 122, 48, 49, 50, 51, 52, 53, 54, 55, 56, 57, 43, 47]
def l64 (n : Nat) : UInt8 := alphaL.getD n 0
/-- The number of a letter. -/
def i64 (c : UInt8) : Option Nat := if alphaL.idxOf c < 64 then some (alphaL.idxOf c) else none
theorem i64_l64_nat : ∀ n, n < 64 → i64 (l64 n) = some n := by decide +kernel
theorem l64_ne_nat : ∀ n, n < 64 → l64 n ≠ 61 := by decide +kernel
theorem i64_61 : i64 61 = none := by decide +kernel
theorem i64_lt {c : UInt8} {n : Nat} (h : i64 c = some n) : n < 64 := by
  unfold i64 at h; split at h
  · injection h with h; omega
  · cases h
/-- The number that up to three bytes make. -/
def num3 (g : List UInt8) : Nat := (g.getD 0 0).toNat * 65536 + (g.getD 1 0).toNat * 256 + (g.getD 2 0).toNat
theorem num3_lt (g : List UInt8) : num3 g < 16777216 := by
  unfold num3
  have := (g.getD 0 0).toNat_lt; have := (g.getD 1 0).toNat_lt; have := (g.getD 2 0).toNat_lt
  omega
def four (g : List UInt8) : List UInt8 := [l64 (num3 g / 262144 % 64), l64 (num3 g / 4096 % 64), if 2 ≤ g.length then l64 (num3 g / 64 % 64) else 61, if 3 ≤ g.length then l64 (num3 g % 64) else 61]
theorem four_len (g : List UInt8) : (four g).length = 4 := rfl
def b64 : List UInt8 → List UInt8
  | [] => []
  | [a] => four [a]
  | [a, b] => four [a, b]
  | a :: b :: c :: l => four [a, b, c] ++ b64 l
theorem b64_drop : ∀ (l : List UInt8), l ≠ [] → b64 l = four (l.take 3) ++ b64 (l.drop 3)
  | [], h => absurd rfl h
  | [a], _ => by simp [b64]
  | [a, b], _ => by simp [b64]
  | a :: b :: c :: l, _ => by simp [b64]
theorem b64_len : ∀ (l : List UInt8), (b64 l).length = (l.length + 2) / 3 * 4
  | [] => rfl
  | [a] => by simp [b64, four_len]
  | [a, b] => by simp [b64, four_len]
  | a :: b :: c :: l => by
    have ih := b64_len l
    simp only [b64, List.length_append, four_len, List.length_cons, ih]; omega
/-! Reading letters: a number of so many binary digits that are left over, and the bytes so far. -/
def stp (st : Nat × Nat × List UInt8) (v : Nat) : Nat × Nat × List UInt8 :=
  if 8 ≤ st.2.1 + 6 then ((st.1 * 64 + v) % 2 ^ (st.2.1 - 2), st.2.1 - 2, st.2.2 ++ [UInt8.ofNat ((st.1 * 64 + v) / 2 ^ (st.2.1 - 2))]) else (st.1 * 64 + v, st.2.1 + 6, st.2.2)
def rdL : Nat × Nat × List UInt8 → List UInt8 → List UInt8
  | st, [] => st.2.2
  | st, c :: l => match i64 c with | none => st.2.2 | some v => rdL (stp st v) l
theorem rdL_hit {st : Nat × Nat × List UInt8} {c : UInt8} {v : Nat} (l : List UInt8) (h : i64 c = some v) : rdL st (c :: l) = rdL (stp st v) l := by rw [rdL, h]
theorem rdL_stop {st : Nat × Nat × List UInt8} {c : UInt8} (l : List UInt8) (h : i64 c = none) : rdL st (c :: l) = st.2.2 := by rw [rdL, h]
theorem rdL_l64 {st : Nat × Nat × List UInt8} {v : Nat} (l : List UInt8) (h : v < 64) : rdL st (l64 v :: l) = rdL (stp st v) l := rdL_hit l (i64_l64_nat v h)
theorem stp0 (o : List UInt8) (v : Nat) : stp (0, 0, o) v = (v, 6, o) := by simp [stp]
theorem stp6 (n : Nat) (o : List UInt8) (v : Nat) : stp (n, 6, o) v = ((n * 64 + v) % 16, 4, o ++ [UInt8.ofNat ((n * 64 + v) / 16)]) := by simp [stp]
theorem stp4 (n : Nat) (o : List UInt8) (v : Nat) : stp (n, 4, o) v = ((n * 64 + v) % 4, 2, o ++ [UInt8.ofNat ((n * 64 + v) / 4)]) := by simp [stp]
theorem stp2 (n : Nat) (o : List UInt8) (v : Nat) : stp (n, 2, o) v = (0, 0, o ++ [UInt8.ofNat (n * 64 + v)]) := by simp [stp]; omega
theorem byte_of {n : Nat} (a : UInt8) (h : n = a.toNat) : UInt8.ofNat n = a := by rw [h]; exact UInt8.ofNat_toNat
theorem rd_b64 : ∀ (b o : List UInt8), rdL (0, 0, o) (b64 b) = o ++ b
  | [], o => by simp [b64, rdL]
  | [a], o => by
    have ha := a.toNat_lt
    simp only [b64, four, num3, List.getD_cons_zero, List.getD_cons_succ, List.getD_nil, List.length_cons, List.length_nil]
    rw [rdL_l64 _ (by omega), stp0, rdL_l64 _ (by omega), stp6, if_neg (by omega), rdL_stop _ i64_61]
    show o ++ [_] = _
    rw [byte_of a (by first | omega | (simp; omega))]
  | [a, b], o => by
    have ha := a.toNat_lt
    have hb := b.toNat_lt
    simp only [b64, four, num3, List.getD_cons_zero, List.getD_cons_succ, List.getD_nil, List.length_cons, List.length_nil]
    rw [rdL_l64 _ (by omega), stp0, rdL_l64 _ (by omega), stp6, if_pos (by omega), rdL_l64 _ (by omega), stp4, if_neg (by omega), rdL_stop _ i64_61]
    show o ++ [_] ++ [_] = _
    rw [byte_of a (by first | omega | (simp; omega)), byte_of b (by first | omega | (simp; omega))]; simp
  | a :: b :: c :: l, o => by
    have ha := a.toNat_lt
    have hb := b.toNat_lt
    have hc := c.toNat_lt
    simp only [b64, four, num3, List.getD_cons_zero, List.getD_cons_succ, List.length_cons, List.length_nil, List.cons_append, List.nil_append]
    rw [rdL_l64 _ (by omega), stp0, rdL_l64 _ (by omega), stp6, if_pos (by omega), rdL_l64 _ (by omega), stp4, if_pos (by omega), rdL_l64 _ (by omega), stp2, rd_b64 l]
    rw [byte_of a (by omega), byte_of b (by omega), byte_of c (by omega)]; simp
/-- The bytes whose letters these are. -/
def dB (s : List UInt8) : Option (List UInt8) := if b64 (rdL (0, 0, []) s) = s then some (rdL (0, 0, []) s) else none
theorem dB_b64 (b : List UInt8) : dB (b64 b) = some b := by
  unfold dB; rw [rd_b64, List.nil_append, if_pos rfl]
theorem dB_some {s b : List UInt8} (h : dB s = some b) : b64 b = s := by
  unfold dB at h; split at h
  · rename_i h2; injection h with h; rw [← h]; exact h2
  · cases h
theorem dB_none {s : List UInt8} (h : ∀ b, b64 b ≠ s) : dB s = none := by
  unfold dB; rw [if_neg (h _)]
/-! The model's way to read four letters. -/
def u4 (last : Bool) (k : Nat) (st : Option (Nat × Nat)) (c : UInt8) : Option (Nat × Nat) :=
  st.bind fun x => if c = 61 ∧ 2 ≤ k ∧ last = true then some (x.1 * 64, x.2 + 1) else if 0 < x.2 then none else (i64 c).map fun d => (x.1 * 64 + d, x.2)
def un4 (last : Bool) (a b c d : UInt8) : Option (Nat × Nat) := u4 last 3 (u4 last 2 (u4 last 1 (u4 last 0 (some (0, 0)) a) b) c) d
def bytes3 (x : Nat × Nat) : List UInt8 := [UInt8.ofNat (x.1 / 65536), UInt8.ofNat (x.1 / 256 % 256), UInt8.ofNat (x.1 % 256)].take (3 - x.2)
def mdB : List UInt8 → Option (List UInt8)
  | [] => some []
  | a :: b :: c :: d :: l => match un4 l.isEmpty a b c d with | none => none | some x => (mdB l).map (bytes3 x ++ ·)
  | _ => none
theorem u4_l64 (last : Bool) (k n v : Nat) (h : v < 64) : u4 last k (some (n, 0)) (l64 v) = some (n * 64 + v, 0) := by
  unfold u4
  simp only [Option.bind_some]
  rw [if_neg (fun e => l64_ne_nat v h e.1), if_neg (by omega), i64_l64_nat v h]; rfl
theorem u4_fill (k n f : Nat) (h : 2 ≤ k) : u4 true k (some (n, f)) 61 = some (n * 64, f + 1) := by
  unfold u4
  simp [h]
theorem mdB_b64 : ∀ b : List UInt8, mdB (b64 b) = some b
  | [] => rfl
  | [a] => by
    have ha := a.toNat_lt
    simp only [b64, four, num3, List.getD_cons_zero, List.getD_cons_succ, List.getD_nil, List.length_cons, List.length_nil]
    rw [if_neg (by omega), if_neg (by omega)]
    simp only [mdB, un4, List.isEmpty_nil]
    rw [u4_l64 _ _ _ _ (by omega), u4_l64 _ _ _ _ (by omega), u4_fill _ _ _ (by omega), u4_fill _ _ _ (by omega)]
    simp only [bytes3, Option.map_some]
    rw [byte_of a (by first | omega | (simp; omega))]; rfl
  | [a, b] => by
    have ha := a.toNat_lt
    have hb := b.toNat_lt
    simp only [b64, four, num3, List.getD_cons_zero, List.getD_cons_succ, List.getD_nil, List.length_cons, List.length_nil]
    rw [if_pos (by omega), if_neg (by omega)]
    simp only [mdB, un4, List.isEmpty_nil]
    rw [u4_l64 _ _ _ _ (by omega), u4_l64 _ _ _ _ (by omega), u4_l64 _ _ _ _ (by omega), u4_fill _ _ _ (by omega)]
    simp only [bytes3, Option.map_some]
    rw [byte_of a (by first | omega | (simp; omega)), byte_of b (by first | omega | (simp; omega))]; rfl
  | a :: b :: c :: l => by
    have ha := a.toNat_lt
    have hb := b.toNat_lt
    have hc := c.toNat_lt
    simp only [b64, four, num3, List.getD_cons_zero, List.getD_cons_succ, List.length_cons, List.length_nil, List.cons_append, List.nil_append]
    rw [if_pos (by omega), if_pos (by omega)]
    simp only [mdB, un4]
    rw [u4_l64 _ _ _ _ (by omega), u4_l64 _ _ _ _ (by omega), u4_l64 _ _ _ _ (by omega), u4_l64 _ _ _ _ (by omega), mdB_b64 l]
    simp only [bytes3, Option.map_some]
    rw [byte_of a (by omega), byte_of b (by omega), byte_of c (by omega)]; rfl
/-- What the model's reader gives is what the program's gives. -/
theorem dB_of_mdB_none {s : List UInt8} (h : mdB s = none) : dB s = none := dB_none fun b e => by rw [← e, mdB_b64] at h; cases h
theorem dB_of_mdB_some {s o : List UInt8} (h : mdB s = some o) : dB s = if b64 o = s then some o else none := by
  split
  · rename_i h2; rw [← h2]; exact dB_b64 o
  · rename_i h2; exact dB_none fun b e => by
      rw [← e, mdB_b64] at h; injection h with h; subst h; exact h2 e
/-! Lines of letters. -/
def chopF : Nat → List UInt8 → List (List UInt8)
  | 0, l => [l]
  | n + 1, l => if 40 < l.length then l.take 40 :: chopF n (l.drop 40) else [l]
theorem chopF_fuel : ∀ (n m : Nat) (l : List UInt8), l.length ≤ n → l.length ≤ m → chopF n l = chopF m l
  | 0, 0, _, _, _ => rfl
  | 0, m + 1, l, h, _ => by rw [chopF, chopF, if_neg (by omega)]
  | n + 1, 0, l, _, h => by rw [chopF, chopF, if_neg (by omega)]
  | n + 1, m + 1, l, h, h2 => by
    rw [chopF, chopF]
    by_cases h40 : 40 < l.length
    · rw [if_pos h40, if_pos h40, chopF_fuel n m _ (by rw [List.length_drop]; omega) (by rw [List.length_drop]; omega)]
    · rw [if_neg h40, if_neg h40]
def chop (l : List UInt8) : List (List UInt8) := chopF l.length l
theorem chop_short {l : List UInt8} (h : l.length ≤ 40) : chop l = [l] := by
  unfold chop
  cases hl : l.length with
  | zero => rfl
  | succ n => rw [chopF, if_neg (by omega)]
theorem chop_long {l : List UInt8} (h : 40 < l.length) : chop l = l.take 40 :: chop (l.drop 40) := by
  unfold chop
  obtain ⟨n, hn⟩ : ∃ n, l.length = n + 1 := ⟨l.length - 1, by omega⟩
  rw [hn, chopF, if_pos h, chopF_fuel n _ _ (by rw [List.length_drop]; omega) (Nat.le_refl _)]
theorem chop_flat : ∀ (n : Nat) (l : List UInt8), l.length ≤ n → (chop l).flatten = l
  | n, l, h => by
    by_cases h40 : 40 < l.length
    · match n, h with
      | 0, h => omega
      | n + 1, h =>
        rw [chop_long h40, List.flatten_cons, chop_flat n _ (by rw [List.length_drop]; omega), List.take_append_drop]
    · rw [chop_short (by omega)]; simp
theorem chop_count : ∀ (n : Nat) (l : List UInt8), l.length ≤ n → (chop l).length ≤ n + 1 ∧ ∀ x ∈ chop l, x.length ≤ 40
  | n, l, h => by
    by_cases h40 : 40 < l.length
    · match n, h with
      | 0, h => omega
      | n + 1, h =>
        have ih := chop_count n (l.drop 40) (by rw [List.length_drop]; omega)
        rw [chop_long h40]
        refine ⟨by rw [List.length_cons]; omega, fun x hx => ?_⟩
        rcases List.mem_cons.1 hx with e | e
        · rw [e, List.length_take]; omega
        · exact ih.2 x e
    · rw [chop_short (by omega)]
      refine ⟨by simp, fun x hx => ?_⟩
      simp at hx; rw [hx]; omega
def encB (b : List UInt8) : Option (List (List UInt8)) := if b.length ≤ 300 then some (chop (b64 b)) else none
def lim (o : Option (List UInt8)) : Option (List UInt8) := match o with | some b => if b.length ≤ 300 then some b else none | none => none
def decB (ls : List (List UInt8)) : Option (List UInt8) := lim (dB ls.flatten)
theorem lim_some {o : Option (List UInt8)} {b : List UInt8} (h : lim o = some b) : o = some b ∧ b.length ≤ 300 := by
  unfold lim at h
  cases o with
  | none => cases h
  | some c =>
    dsimp only at h
    split at h
    · rename_i h2; injection h with h; subst h; exact ⟨rfl, h2⟩
    · cases h
theorem lim_in {b : List UInt8} (h : b.length ≤ 300) : lim (some b) = some b := by unfold lim; dsimp only; rw [if_pos h]
theorem lim_out {b : List UInt8} (h : 300 < b.length) : lim (some b) = none := by unfold lim; dsimp only; rw [if_neg (by omega)]
theorem decB_long {ls : List (List UInt8)} (h : 400 < ls.flatten.length) : decB ls = none := by
  unfold decB
  cases hd : dB ls.flatten with
  | none => rfl
  | some b =>
    have := b64_len b
    rw [dB_some hd] at this
    exact lim_out (by omega)
theorem decB_encB {b : List UInt8} (h : b.length ≤ 300) : decB (chop (b64 b)) = some b := by
  unfold decB; rw [chop_flat _ _ (Nat.le_refl _), dB_b64, lim_in h]
theorem decB_back {ls : List (List UInt8)} {b : List UInt8} (h : decB ls = some b) : encB b = some (chop ls.flatten) ∧ (chop (b64 b)).flatten = ls.flatten ∧ b.length ≤ 300 := by
  obtain ⟨h1, h2⟩ := lim_some h
  have h3 := dB_some h1
  refine ⟨by unfold encB; rw [if_pos h2, h3], by rw [chop_flat _ _ (Nat.le_refl _), h3], h2⟩
end Go.Proofs.YtcdmjckkencgoaaGreatDoor
end

section
namespace Go.Proofs.YtcdmjckkencgoaaGreatDoor
open Go.RowKit

/-! Bytes as they are written. -/
def hexC (n : Nat) : UInt8 := UInt8.ofNat (if n < 10 then 48 + n else 55 + n)
def hexV (c : UInt8) : Option Nat := if 48 ≤ c.toNat ∧ c.toNat ≤ 57 then some (c.toNat - 48) else if 65 ≤ c.toNat ∧ c.toNat ≤ 70 then some (c.toNat - 55) else none
theorem hexV_hexC_nat : ∀ n, n < 16 → hexV (hexC n) = some n := by decide +kernel
theorem hexC_ok_nat : ∀ n, n < 16 → okB (hexC n) = true ∧ hexC n ≠ 61 ∧ hexC n ≠ 32 := by decide +kernel
theorem hexV_lt {c : UInt8} {n : Nat} (h : hexV c = some n) : n < 16 := by
  unfold hexV at h
  split at h
  · injection h with h; omega
  · split at h
    · injection h with h; omega
    · cases h
theorem hexV_61 : hexV 61 = none := by decide +kernel
def plainB (c : UInt8) (last : Bool) : Bool := (decide (33 ≤ c.toNat) && decide (c.toNat ≤ 126) && decide (c ≠ 61)) || (decide (c = 32) && !last)
def hexL (c : UInt8) : List UInt8 := [61, hexC (c.toNat / 16), hexC (c.toNat % 16)]
def qb (c : UInt8) (last : Bool) : List UInt8 := if plainB c last then [c] else hexL c
theorem qb_len (c : UInt8) (last : Bool) : 1 ≤ (qb c last).length ∧ (qb c last).length ≤ 3 := by
  unfold qb; split <;> simp [hexL]
def lastB : List UInt8 → Bool
  | [] => true
  | c :: _ => decide (c = 10)
/-- Lines that go on from a line that is begun. -/
def qgo : List UInt8 → List UInt8 → List (List UInt8)
  | line, [] => [line]
  | line, c :: l => if c = 10 then line :: qgo [] l else
      if 39 < line.length + (qb c (lastB l)).length then (line ++ [61]) :: qgo (qb c (lastB l)) l else qgo (line ++ qb c (lastB l)) l
theorem qgo_nil (line : List UInt8) : qgo line [] = [line] := rfl
theorem qgo_line (line l : List UInt8) : qgo line (10 :: l) = line :: qgo [] l := by rw [qgo, if_pos rfl]
theorem qgo_full {line l : List UInt8} {c : UInt8} (h : c ≠ 10) (h2 : 39 < line.length + (qb c (lastB l)).length) : qgo line (c :: l) = (line ++ [61]) :: qgo (qb c (lastB l)) l := by rw [qgo, if_neg h, if_pos h2]
theorem qgo_more {line l : List UInt8} {c : UInt8} (h : c ≠ 10) (h2 : ¬ 39 < line.length + (qb c (lastB l)).length) : qgo line (c :: l) = qgo (line ++ qb c (lastB l)) l := by rw [qgo, if_neg h, if_neg h2]
def encQ (b : List UInt8) : Option (List (List UInt8)) := if b.length ≤ 300 then some (qgo [] b) else none
theorem qgo_count : ∀ (l line : List UInt8), (qgo line l).length ≤ l.length + 1 ∧ 1 ≤ (qgo line l).length
  | [], line => by simp [qgo]
  | c :: l, line => by
    by_cases h : c = 10
    · subst h; rw [qgo_line]; have := qgo_count l []; simp only [List.length_cons]; omega
    · by_cases h2 : 39 < line.length + (qb c (lastB l)).length
      · rw [qgo_full h h2]; have := qgo_count l (qb c (lastB l)); simp only [List.length_cons]; omega
      · rw [qgo_more h h2]; have := qgo_count l (line ++ qb c (lastB l)); simp only [List.length_cons]; omega
/-- Each part between newlines is written for itself. -/
theorem qgo_part : ∀ (p line l : List UInt8), (∀ x ∈ p, x ≠ 10) → qgo line (p ++ 10 :: l) = qgo line p ++ qgo [] l
  | [], line, l, _ => by rw [List.nil_append, qgo_line, qgo_nil]; rfl
  | c :: p, line, l, h => by
    have hc : c ≠ 10 := h c (by simp)
    have hp : ∀ x ∈ p, x ≠ 10 := fun x hx => h x (by simp [hx])
    have hl : lastB (p ++ 10 :: l) = lastB p := by cases p <;> simp [lastB]
    rw [List.cons_append]
    by_cases h2 : 39 < line.length + (qb c (lastB p)).length
    · rw [qgo_full hc (by rw [hl]; exact h2), qgo_full hc h2, hl, qgo_part p _ l hp]; rfl
    · rw [qgo_more hc (by rw [hl]; exact h2), qgo_more hc h2, hl, qgo_part p _ l hp]
theorem splitC_free (c : UInt8) : ∀ (l : List UInt8), ∀ p ∈ splitC c l, ∀ x ∈ p, x ≠ c
  | [], p, hp, x, hx => by simp [splitC] at hp; subst hp; cases hx
  | y :: l, p, hp, x, hx => by
    by_cases hy : y = c
    · subst hy
      rw [splitC_hit] at hp
      rcases List.mem_cons.1 hp with e | e
      · subst e; cases hx
      · exact splitC_free y l p e x hx
    · rw [splitC_skip l hy] at hp
      cases hs : splitC c l with
      | nil => exact absurd hs (splitC_ne c l)
      | cons q qs =>
        rw [hs] at hp
        simp only [glue, List.singleton_append, List.mem_cons] at hp
        rcases hp with e | e
        · subst e
          rcases List.mem_cons.1 hx with e2 | e2
          · subst e2; exact hy
          · exact splitC_free c l q (by rw [hs]; simp) x e2
        · exact splitC_free c l p (by rw [hs]; simp [e]) x hx
/-- The first part of a text, and the rest behind the newline. -/
theorem splitC_parts (c : UInt8) : ∀ (l : List UInt8), (∃ p, splitC c l = [p] ∧ l = p) ∨ ∃ p r, splitC c l = p :: splitC c r ∧ l = p ++ c :: r
  | [] => .inl ⟨[], rfl, rfl⟩
  | y :: l => by
    by_cases hy : y = c
    · subst hy; exact .inr ⟨[], l, splitC_hit y l, rfl⟩
    · rw [splitC_skip l hy]
      rcases splitC_parts c l with ⟨p, h1, h2⟩ | ⟨p, r, h1, h2⟩
      · exact .inl ⟨y :: p, by rw [h1]; rfl, by rw [← h2]⟩
      · exact .inr ⟨y :: p, r, by rw [h1]; rfl, by rw [h2]; rfl⟩
theorem qgo_split : ∀ (n : Nat) (l : List UInt8), l.length ≤ n → (splitC 10 l).flatMap (qgo []) = qgo [] l
  | n, l, hn => by
    have hf := splitC_free 10 l
    rcases splitC_parts 10 l with ⟨p, h1, h2⟩ | ⟨p, r, h1, h2⟩
    · rw [h1, h2]; simp
    · match n, hn with
      | 0, hn => rw [h2] at hn; simp at hn
      | n + 1, hn =>
        rw [h1, List.flatMap_cons, qgo_split n r (by rw [h2, List.length_append, List.length_cons] at hn; omega)]
        conv => rhs; rw [h2]
        rw [qgo_part p [] r (hf p (by rw [h1]; simp))]
/-! Reading. -/
/-- A line: its bytes, and whether it goes on. -/
def uq : List UInt8 → Option (List UInt8 × Bool)
  | [] => some ([], false)
  | [c] => if c = 61 then some ([], true) else if okB c then some ([c], false) else none
  | [c, x] => if c = 61 then none else if okB c then (uq [x]).map (fun r => (c :: r.1, r.2)) else none
  | c :: x :: y :: m => if c = 61 then (match hexV x, hexV y with | some a, some b => (uq m).map (fun r => (UInt8.ofNat (16 * a + b) :: r.1, r.2)) | _, _ => none)
      else if okB c then (uq (x :: y :: m)).map (fun r => (c :: r.1, r.2)) else none
/-- A line without the mark that it goes on. -/
def rq : List UInt8 → Option (List UInt8)
  | [] => some []
  | [c] => if okB c = false then none else if c = 61 then none else some [c]
  | [c, x] => if okB c = false then none else if c = 61 then none else (rq [x]).map (c :: ·)
  | c :: x :: y :: m => if okB c = false then none else if c = 61 then (match hexV x, hexV y with | some a, some b => (rq m).map (UInt8.ofNat (16 * a + b) :: ·) | _, _ => none)
      else (rq (x :: y :: m)).map (c :: ·)
theorem uq_plain {c : UInt8} (l : List UInt8) (h : c ≠ 61) (h2 : okB c = true) : uq (c :: l) = (uq l).map (fun r => (c :: r.1, r.2)) := by
  match l with
  | [] => simp [uq, h, h2]
  | [x] => simp only [uq, h, h2, if_true, if_false]
  | x :: y :: m => rw [uq, if_neg h, if_pos h2]
theorem uq_bad {c : UInt8} (l : List UInt8) (h2 : okB c = false) : uq (c :: l) = none := by
  have h : c ≠ 61 := by intro e; subst e; exact absurd h2 (by decide)
  match l with
  | [] => simp [uq, h, h2]
  | [x] => simp [uq, h, h2]
  | x :: y :: m => rw [uq, if_neg h, if_neg (by simp [h2])]
theorem uq_end : uq [61] = some ([], true) := by simp [uq]
theorem uq_short (x : UInt8) : uq [61, x] = none := by simp [uq]
theorem uq_hex {x y : UInt8} {a b : Nat} (m : List UInt8) (hx : hexV x = some a) (hy : hexV y = some b) : uq (61 :: x :: y :: m) = (uq m).map (fun r => (UInt8.ofNat (16 * a + b) :: r.1, r.2)) := by
  rw [uq, if_pos rfl, hx, hy]
theorem uq_nohex {x y : UInt8} (m : List UInt8) (h : hexV x = none ∨ hexV y = none) : uq (61 :: x :: y :: m) = none := by
  rw [uq, if_pos rfl]
  rcases h with h | h
  · rw [h]
  · rw [h]; cases hexV x <;> rfl
theorem rq_plain {c : UInt8} (l : List UInt8) (h : c ≠ 61) (h2 : okB c = true) : rq (c :: l) = (rq l).map (c :: ·) := by
  match l with
  | [] => simp [rq, h, h2]
  | [x] => simp only [rq, h, h2, if_false, Bool.true_eq_false]
  | x :: y :: m => rw [rq, if_neg (by simp [h2]), if_neg h]
theorem rq_bad {c : UInt8} (l : List UInt8) (h2 : okB c = false) : rq (c :: l) = none := by
  match l with
  | [] => simp [rq, h2]
  | [x] => simp [rq, h2]
  | x :: y :: m => rw [rq, if_pos h2]
theorem rq_end : rq [61] = none := by decide +kernel
theorem rq_short (x : UInt8) : rq [61, x] = none := by
  rw [rq, if_neg (by decide), if_pos rfl]
theorem rq_hex {x y : UInt8} {a b : Nat} (m : List UInt8) (hx : hexV x = some a) (hy : hexV y = some b) : rq (61 :: x :: y :: m) = (rq m).map (UInt8.ofNat (16 * a + b) :: ·) := by
  rw [rq, if_neg (by decide), if_pos rfl, hx, hy]
theorem rq_nohex {x y : UInt8} (m : List UInt8) (h : hexV x = none ∨ hexV y = none) : rq (61 :: x :: y :: m) = none := by
  rw [rq, if_neg (by decide), if_pos rfl]
  rcases h with h | h
  · rw [h]
  · rw [h]; cases hexV x <;> rfl
theorem uq_soft : ∀ (n : Nat) (l : List UInt8), l.length ≤ n → uq (l ++ [61]) = (rq l).map (·, true)
  | _, [], _ => by simp [uq, rq]
  | n + 1, c :: l, hn => by
    rw [List.length_cons] at hn
    cases h2 : okB c
    · rw [List.cons_append, uq_bad _ h2, rq_bad _ h2]; rfl
    by_cases h : c = 61
    · subst h
      match l, hn with
      | [], _ => rw [rq_end]; exact uq_short 61
      | [x], _ => rw [rq_short]; exact uq_nohex [] (.inr hexV_61)
      | x :: y :: m, hn =>
        rw [List.cons_append, List.cons_append, List.cons_append]
        cases hx : hexV x with
        | none => rw [uq_nohex _ (.inl hx), rq_nohex _ (.inl hx)]; rfl
        | some a =>
          cases hy : hexV y with
          | none => rw [uq_nohex _ (.inr hy), rq_nohex _ (.inr hy)]; rfl
          | some b =>
            rw [uq_hex _ hx hy, rq_hex _ hx hy, uq_soft n m (by simp only [List.length_cons] at hn; omega)]
            cases rq m <;> rfl
    · rw [List.cons_append, uq_plain _ h h2, rq_plain _ h h2, uq_soft n l (by omega)]
      cases rq l <;> rfl
theorem uq_hard : ∀ (n : Nat) (l : List UInt8), l.length ≤ n → l.getLast? ≠ some 61 → uq l = (rq l).map (·, false)
  | _, [], _, _ => by simp [uq, rq]
  | n + 1, c :: l, hn, hl => by
    rw [List.length_cons] at hn
    cases h2 : okB c
    · rw [uq_bad _ h2, rq_bad _ h2]; rfl
    by_cases h : c = 61
    · subst h
      match l, hn, hl with
      | [], _, hl => exact absurd rfl hl
      | [x], _, _ => rw [rq_short, uq_short]; rfl
      | x :: y :: m, hn, hl =>
        cases hx : hexV x with
        | none => rw [uq_nohex _ (.inl hx), rq_nohex _ (.inl hx)]; rfl
        | some a =>
          cases hy : hexV y with
          | none => rw [uq_nohex _ (.inr hy), rq_nohex _ (.inr hy)]; rfl
          | some b =>
            have hm : m.getLast? ≠ some 61 := by
              intro e; apply hl
              cases m with
              | nil => cases e
              | cons z m => rw [← e]; simp [List.getLast?_cons_cons]
            rw [uq_hex _ hx hy, rq_hex _ hx hy, uq_hard n m (by simp only [List.length_cons] at hn; omega) hm]
            cases rq m <;> rfl
    · have hm : l.getLast? ≠ some 61 := by
        intro e; apply hl
        cases l with
        | nil => cases e
        | cons z m => rw [← e]; simp [List.getLast?_cons_cons]
      rw [uq_plain _ h h2, rq_plain _ h h2, uq_hard n l (by omega) hm]
      cases rq l <;> rfl
/-- Lines behind one that went on (g) or did not. -/
def decG : Bool → List (List UInt8) → Option (List UInt8)
  | g, [] => if g then none else some []
  | g, l :: ls => match uq l with
    | none => none
    | some x => (decG x.2 ls).map fun t => (if g then [] else [10]) ++ x.1 ++ t
def decQ (ls : List (List UInt8)) : Option (List UInt8) := lim (decG true ls)
theorem decG_none {g : Bool} {l : List UInt8} (ls : List (List UInt8)) (h : uq l = none) : decG g (l :: ls) = none := by rw [decG, h]
theorem decG_some {g : Bool} {l : List UInt8} {x : List UInt8 × Bool} (ls : List (List UInt8)) (h : uq l = some x) : decG g (l :: ls) = (decG x.2 ls).map fun t => (if g then [] else [10]) ++ x.1 ++ t := by rw [decG, h]
theorem decG_false {ls : List (List UInt8)} (h : ls ≠ []) : decG false ls = (decG true ls).map (10 :: ·) := by
  cases ls with
  | nil => exact absurd rfl h
  | cons l ls =>
    cases hu : uq l with
    | none => rw [decG_none _ hu, decG_none _ hu]; rfl
    | some x =>
      rw [decG_some _ hu, decG_some _ hu]
      cases decG x.2 ls <;> rfl
/-- A written form of bytes, whatever is behind it. -/
def WL (line B : List UInt8) : Prop := ∀ m, uq (line ++ m) = (uq m).map (fun r => (B ++ r.1, r.2))
theorem WL.nil : WL [] [] := fun m => by show uq m = _; cases uq m <;> rfl
theorem WL.app {a b A B : List UInt8} (h : WL a A) (k : WL b B) : WL (a ++ b) (A ++ B) := fun m => by
  rw [List.append_assoc, h, k]; cases uq m <;> simp
theorem wl_qb (c : UInt8) (last : Bool) : WL (qb c last) [c] := fun m => by
  unfold qb
  split
  · rename_i h
    have hc : c ≠ 61 ∧ okB c = true := by
      unfold plainB at h; simp only [Bool.or_eq_true, Bool.and_eq_true, decide_eq_true_eq] at h
      rcases h with ⟨⟨h1, h2⟩, h3⟩ | ⟨h1, _⟩
      · exact ⟨h3, by unfold okB; simp; omega⟩
      · subst h1; exact ⟨by decide, by decide⟩
    rw [List.singleton_append, uq_plain _ hc.1 hc.2]; rfl
  · have hc := c.toNat_lt
    show uq (61 :: _ :: _ :: m) = _
    rw [uq_hex m (hexV_hexC_nat _ (by omega)) (hexV_hexC_nat _ (by omega)), byte_of c (by omega)]; rfl
theorem WL.last {l B : List UInt8} (h : WL l B) : uq l = some (B, false) := by
  have := h []; rw [List.append_nil] at this; rw [this]; simp [uq]
theorem WL.soft {l B : List UInt8} (h : WL l B) : uq (l ++ [61]) = some (B, true) := by
  rw [h, uq_end]; simp
theorem decG_qgo : ∀ (l line B : List UInt8) (g : Bool), WL line B → decG g (qgo line l) = some ((if g then [] else [10]) ++ B ++ l)
  | [], line, B, g, h => by rw [qgo_nil, decG_some _ h.last]; simp [decG]
  | c :: l, line, B, g, h => by
    by_cases hc : c = 10
    · subst hc
      rw [qgo_line, decG_some _ h.last, decG_qgo l [] [] false WL.nil]; simp
    · by_cases h2 : 39 < line.length + (qb c (lastB l)).length
      · rw [qgo_full hc h2, decG_some _ h.soft, decG_qgo l _ _ true (wl_qb c (lastB l))]; simp
      · rw [qgo_more hc h2, decG_qgo l _ _ g (h.app (wl_qb c (lastB l)))]; simp
theorem decQ_qgo {b : List UInt8} (h : b.length ≤ 300) : decQ (qgo [] b) = some b := by
  unfold decQ; rw [decG_qgo b [] [] true WL.nil]; exact lim_in h
/-- Each line is a text that is not too wide. -/
theorem qb_ok (c : UInt8) (last : Bool) : ∀ x ∈ qb c last, okB x = true := by
  intro x hx
  unfold qb at hx
  split at hx
  · rename_i h
    simp at hx; subst hx
    unfold plainB at h; simp only [Bool.or_eq_true, Bool.and_eq_true, decide_eq_true_eq] at h
    rcases h with ⟨⟨h1, h2⟩, h3⟩ | ⟨h1, _⟩
    · unfold okB; simp; omega
    · subst h1; decide
  · have hc := c.toNat_lt
    simp only [hexL, List.mem_cons, List.not_mem_nil, or_false] at hx
    rcases hx with rfl | rfl | rfl
    · decide
    · exact (hexC_ok_nat _ (by omega)).1
    · exact (hexC_ok_nat _ (by omega)).1
theorem qgo_wide : ∀ (l line : List UInt8), line.length ≤ 39 → (∀ x ∈ line, okB x = true) → ∀ p ∈ qgo line l, p.length ≤ 40 ∧ ∀ x ∈ p, okB x = true
  | [], line, h, ho, p, hp => by simp [qgo] at hp; subst hp; exact ⟨by omega, ho⟩
  | c :: l, line, h, ho, p, hp => by
    have hq := qb_len c (lastB l)
    have hqo := qb_ok c (lastB l)
    by_cases hc : c = 10
    · subst hc
      rw [qgo_line] at hp
      rcases List.mem_cons.1 hp with e | e
      · subst e; exact ⟨by omega, ho⟩
      · exact qgo_wide l [] (by simp) (by simp) p e
    · by_cases h2 : 39 < line.length + (qb c (lastB l)).length
      · rw [qgo_full hc h2] at hp
        rcases List.mem_cons.1 hp with e | e
        · subst e
          refine ⟨by simp; omega, fun x hx => ?_⟩
          rcases List.mem_append.1 hx with e | e
          · exact ho x e
          · simp at e; subst e; decide
        · exact qgo_wide l _ (by omega) hqo p e
      · rw [qgo_more hc h2] at hp
        refine qgo_wide l _ (by rw [List.length_append]; omega) (fun x hx => ?_) p hp
        rcases List.mem_append.1 hx with e | e
        · exact ho x e
        · exact hqo x e
theorem qgo_text {b p : List UInt8} (h : p ∈ qgo [] b) : isText p = true ∧ p.length ≤ 40 := by
  obtain ⟨h1, h2⟩ := qgo_wide b [] (by simp) (by simp) p h
  refine ⟨?_, h1⟩
  unfold isText
  rw [Bool.and_eq_true]; refine ⟨by simp; omega, List.all_eq_true.2 h2⟩
/-! Plain lines. -/
def plOk (l : List UInt8) : Bool := isText l && decide (l.length ≤ 40)
def encP (b : List UInt8) : Option (List (List UInt8)) := if b.length ≤ 300 ∧ (splitC 10 b).all plOk = true then some (splitC 10 b) else none
def joinNl : List (List UInt8) → List UInt8
  | [] => []
  | [x] => x
  | x :: y :: xs => x ++ 10 :: joinNl (y :: xs)
theorem join_nl : ∀ xs : List (List UInt8), Lib.join xs [10] = joinNl xs
  | [] => rfl
  | [x] => Lib.join_one x _
  | x :: y :: xs => by
    rw [Lib.join_cons]
    show x ++ Lib.joinTail [10] (y :: xs) = x ++ 10 :: joinNl (y :: xs)
    rw [← join_nl (y :: xs), Lib.join_cons]; rfl
def decP (ls : List (List UInt8)) : Option (List UInt8) := if ls ≠ [] ∧ ls.all plOk = true then lim (some (joinNl ls)) else none
theorem joinNl_cons (x : List UInt8) {xs : List (List UInt8)} (h : xs ≠ []) : joinNl (x :: xs) = x ++ 10 :: joinNl xs := by
  cases xs with
  | nil => exact absurd rfl h
  | cons y ys => rfl
theorem join_split : ∀ (n : Nat) (l : List UInt8), l.length ≤ n → joinNl (splitC 10 l) = l
  | n, l, hn => by
    rcases splitC_parts 10 l with ⟨p, h1, h2⟩ | ⟨p, r, h1, h2⟩
    · rw [h1, h2]; rfl
    · match n, hn with
      | 0, hn => rw [h2] at hn; simp at hn
      | n + 1, hn => rw [h1, joinNl_cons _ (splitC_ne 10 r), join_split n r (by rw [h2, List.length_append, List.length_cons] at hn; omega), ← h2]
theorem split_one : ∀ (p : List UInt8), (∀ x ∈ p, x ≠ 10) → splitC 10 p = [p]
  | [], _ => rfl
  | y :: p, h => by rw [splitC_skip p (h y (by simp)), split_one p (fun x hx => h x (by simp [hx]))]; rfl
theorem split_two : ∀ (p l : List UInt8), (∀ x ∈ p, x ≠ 10) → splitC 10 (p ++ 10 :: l) = p :: splitC 10 l
  | [], l, _ => splitC_hit 10 l
  | y :: p, l, h => by rw [List.cons_append, splitC_skip _ (h y (by simp)), split_two p l (fun x hx => h x (by simp [hx]))]; rfl
theorem split_join : ∀ (xs : List (List UInt8)), xs ≠ [] → (∀ p ∈ xs, ∀ x ∈ p, x ≠ 10) → splitC 10 (joinNl xs) = xs
  | [], h, _ => absurd rfl h
  | [x], _, h => split_one x (h x (by simp))
  | x :: y :: xs, _, h => by
    show splitC 10 (x ++ 10 :: joinNl (y :: xs)) = _
    rw [split_two x _ (h x (by simp)), split_join (y :: xs) (by simp) (fun p hp => h p (by simp only [List.mem_cons] at hp ⊢; exact .inr hp))]
theorem plOk_free {p : List UInt8} (h : plOk p = true) : ∀ x ∈ p, x ≠ 10 := by
  intro x hx e
  unfold plOk isText at h
  simp only [Bool.and_eq_true, List.all_eq_true] at h
  have := h.1.2 x hx
  subst e; exact absurd this (by decide)
theorem decP_encP {b : List UInt8} {ls : List (List UInt8)} (h : encP b = some ls) : decP ls = some b ∧ b.length ≤ 300 := by
  unfold encP at h
  split at h
  · rename_i h2
    injection h with h; subst h
    unfold decP
    rw [if_pos ⟨splitC_ne 10 b, h2.2⟩, join_split _ b (Nat.le_refl _), lim_in h2.1]
    exact ⟨rfl, h2.1⟩
  · cases h
theorem encP_decP {b : List UInt8} {ls : List (List UInt8)} (h : decP ls = some b) : encP b = some ls ∧ b.length ≤ 300 := by
  unfold decP at h
  split at h
  · rename_i h2
    obtain ⟨h3, h4⟩ := lim_some h
    injection h3 with h3
    have hs : splitC 10 b = ls := by rw [← h3]; exact split_join ls h2.1 (fun p hp => plOk_free (List.all_eq_true.1 h2.2 p hp))
    refine ⟨?_, h4⟩
    unfold encP
    rw [hs, if_pos ⟨h4, h2.2⟩]
  · cases h
/-! All ways. -/
def encW (b : List UInt8) (code : Int) : Option (List (List UInt8)) := if code = 0 then encP b else if code = 1 then encQ b else if code = 2 then encB b else none
def decW (ls : List (List UInt8)) (code : Int) : Option (List UInt8) := if code = 0 then decP ls else if code = 1 then decQ ls else if code = 2 then decB ls else none
def lenL (ls : List (List UInt8)) : Nat := (ls.map fun l => l.length + 1).sum
def best (b : List UInt8) : Option Nat := if 300 < b.length then none else if (encP b).isSome then some 0 else if lenL (chop (b64 b)) < lenL (qgo [] b) then some 2 else some 1
theorem encB_in {b : List UInt8} (h : b.length ≤ 300) : encB b = some (chop (b64 b)) := by unfold encB; rw [if_pos h]
theorem encB_out {b : List UInt8} (h : 300 < b.length) : encB b = none := by unfold encB; rw [if_neg (by omega)]
theorem encQ_in {b : List UInt8} (h : b.length ≤ 300) : encQ b = some (qgo [] b) := by unfold encQ; rw [if_pos h]
theorem encQ_out {b : List UInt8} (h : 300 < b.length) : encQ b = none := by unfold encQ; rw [if_neg (by omega)]
end Go.Proofs.YtcdmjckkencgoaaGreatDoor
end

section
namespace Go.Proofs.YtcdmjckkencgoaaGreatDoor
open Go.RowKit

/-! Lines of letters are full. -/
theorem chop_width : ∀ (n : Nat) (l : List UInt8), l.length ≤ n → ∀ i, (h : i < (chop l).length) → (i + 1 < (chop l).length → (chop l)[i].length = 40) ∧ (i + 1 = (chop l).length → (chop l)[i].length ≤ 40 ∧ (0 < (chop l)[i].length ↔ 0 < l.length))
  | n, l, hn, i, h => by
    by_cases h40 : 40 < l.length
    · match n, hn with
      | 0, hn => omega
      | n + 1, hn =>
        have hd : (l.drop 40).length = l.length - 40 := List.length_drop
        have ih := chop_width n (l.drop 40) (by omega)
        have hc := chop_long h40
        have hne : 1 ≤ (chop (l.drop 40)).length := by
          by_cases h2 : 40 < (l.drop 40).length
          · rw [chop_long h2]; simp
          · rw [chop_short (by omega)]; simp
        have hl : (chop l).length = (chop (l.drop 40)).length + 1 := by rw [hc]; simp
        match i, h with
        | 0, h =>
          have h0 : (chop l)[0] = l.take 40 := by simp only [hc]; rfl
          rw [h0, List.length_take]
          exact ⟨fun _ => by omega, fun e => by omega⟩
        | i + 1, h =>
          have h1 : (chop l)[i + 1] = (chop (l.drop 40))[i]'(by omega) := by simp only [hc]; rfl
          rw [h1]
          obtain ⟨a, b⟩ := ih i (by omega)
          refine ⟨fun e => a (by omega), fun e => ?_⟩
          obtain ⟨b1, b2⟩ := b (by omega)
          exact ⟨b1, by rw [b2]; omega⟩
    · have hc := chop_short (l := l) (by omega)
      have h0 : i = 0 := by rw [hc] at h; simp at h; exact h
      subst h0
      have h1 : (chop l)[0] = l := by simp only [hc]; rfl
      rw [h1, hc]
      exact ⟨fun e => by simp at e, fun _ => ⟨by omega, Iff.rfl⟩⟩
theorem b64_pos (b : List UInt8) : 0 < (b64 b).length ↔ 0 < b.length := by rw [b64_len]; omega
/-! Plain bytes in quoted lines. -/
def selfB (c : UInt8) : Bool := decide (33 ≤ c.toNat) && decide (c.toNat ≤ 126) && decide (c ≠ 61)
theorem qb_self {c : UInt8} {last : Bool} (h : selfB c = true) : qb c last = [c] := by
  unfold qb plainB; unfold selfB at h; rw [h]; simp
theorem qgo_self : ∀ (l line : List UInt8), line.length + l.length ≤ 39 → (∀ x ∈ l, selfB x = true) → qgo line l = [line ++ l]
  | [], line, _, _ => by simp [qgo]
  | c :: l, line, h, hs => by
    have hc := hs c (by simp)
    have h10 : c ≠ 10 := by intro e; subst e; exact absurd hc (by decide)
    rw [List.length_cons] at h
    rw [qgo_more h10 (by rw [qb_self hc]; simp; omega), qb_self hc, qgo_self l _ (by simp; omega) (fun x hx => hs x (by simp [hx]))]; simp
/-! Newlines and soft breaks. -/
def nls (b : List UInt8) : Nat := b.count 10
def softs (ls : List (List UInt8)) : Nat := ls.countP fun l => decide (l.getLast? = some 61)
theorem qb_last (c : UInt8) (last : Bool) (line : List UInt8) : (line ++ qb c last).getLast? ≠ some 61 ∧ (last = true → (line ++ qb c last).getLast? ≠ some 32) := by
  unfold qb
  split
  · rename_i h
    rw [List.getLast?_append]
    simp only [List.getLast?_singleton, Option.some_or]
    unfold plainB at h; simp only [Bool.or_eq_true, Bool.and_eq_true, decide_eq_true_eq, Bool.not_eq_true'] at h
    rcases h with ⟨⟨h1, h2⟩, h3⟩ | ⟨h1, h2⟩
    · refine ⟨fun e => h3 (Option.some.inj e), fun _ e => ?_⟩
      have := Option.some.inj e
      subst this; exact absurd h1 (by decide)
    · subst h1
      exact ⟨by decide, fun e => by rw [h2] at e; cases e⟩
  · have hc := c.toNat_lt
    have := hexC_ok_nat (c.toNat % 16) (by omega)
    rw [List.getLast?_append]
    simp only [hexL, List.getLast?_cons_cons, List.getLast?_singleton, Option.some_or]
    exact ⟨fun e => this.2.1 (Option.some.inj e), fun _ e => this.2.2 (Option.some.inj e)⟩
theorem qgo_breaks : ∀ (l line : List UInt8), line.getLast? ≠ some 61 → (lastB l = true → line.getLast? ≠ some 32) → (qgo line l).length = nls l + softs (qgo line l) + 1 ∧ ∀ p ∈ qgo line l, p.getLast? ≠ some 32
  | [], line, h, h2 => by
    have h2 := h2 rfl
    rw [qgo_nil]
    refine ⟨?_, fun p hp => by simp at hp; subst hp; exact h2⟩
    simp [nls, softs, h]
  | c :: l, line, h, h2 => by
    by_cases hc : c = 10
    · subst hc
      have h2 := h2 rfl
      obtain ⟨i1, i2⟩ := qgo_breaks l [] (by simp) (by simp)
      rw [qgo_line]
      refine ⟨?_, fun p hp => ?_⟩
      · have e1 : nls (10 :: l) = nls l + 1 := by simp [nls]
        have e2 : softs (line :: qgo [] l) = softs (qgo [] l) := by simp [softs, h]
        rw [List.length_cons, e1, e2, i1]; omega
      · rcases List.mem_cons.1 hp with e | e
        · subst e; exact h2
        · exact i2 p e
    · have e1 : nls (c :: l) = nls l := by simp [nls, hc]
      by_cases h3 : 39 < line.length + (qb c (lastB l)).length
      · have hq := qb_last c (lastB l) []
        rw [List.nil_append] at hq
        obtain ⟨i1, i2⟩ := qgo_breaks l (qb c (lastB l)) hq.1 hq.2
        rw [qgo_full hc h3]
        refine ⟨?_, fun p hp => ?_⟩
        · have e2 : softs ((line ++ [61]) :: qgo (qb c (lastB l)) l) = softs (qgo (qb c (lastB l)) l) + 1 := by simp [softs]
          rw [List.length_cons, e1, e2, i1]; omega
        · rcases List.mem_cons.1 hp with e | e
          · subst e; simp
          · exact i2 p e
      · have hq := qb_last c (lastB l) line
        obtain ⟨i1, i2⟩ := qgo_breaks l (line ++ qb c (lastB l)) hq.1 hq.2
        rw [qgo_more hc h3, e1]
        exact ⟨i1, i2⟩
/-! Soft breaks are nothing; a line more is a newline. -/
theorem decG_soft (ls : List (List UInt8)) : decG true ([61] :: ls) = decG true ls := by
  rw [decG_some _ uq_end]; cases decG true ls <;> rfl
theorem decG_more : ∀ (ls : List (List UInt8)) (g : Bool) (b : List UInt8), decG g ls = some b → decG g (ls ++ [[]]) = some (b ++ [10]) ∨ (ls = [] ∧ g = false)
  | [], g, b, h => by
    cases g
    · exact .inr ⟨rfl, rfl⟩
    · cases h
  | l :: ls, g, b, h => by
    cases hu : uq l with
    | none => rw [decG_none _ hu] at h; cases h
    | some x =>
      rw [decG_some _ hu] at h
      obtain ⟨t, ht, rfl⟩ := Option.map_eq_some_iff.1 h
      left
      rw [List.cons_append, decG_some _ hu]
      rcases decG_more ls x.2 t ht with e | ⟨e1, e2⟩
      · rw [e]; simp
      · subst e1; rw [e2] at ht ⊢
        have : t = [] := by simp [decG] at ht; exact ht
        subst this
        simp [decG, uq]
theorem decG_last {ls : List (List UInt8)} {b : List UInt8} (h : decG true ls = some b) : decG true (ls ++ [[]]) = some (b ++ [10]) := by
  rcases decG_more ls true b h with e | ⟨_, e⟩
  · exact e
  · cases e
/-! Plain lines: one more than newlines. -/
theorem split_count : ∀ (l : List UInt8), (splitC 10 l).length = nls l + 1 ∧ (splitC 10 l).flatten.length + nls l = l.length
  | [] => by simp [splitC, nls]
  | y :: l => by
    obtain ⟨i1, i2⟩ := split_count l
    by_cases hy : y = 10
    · subst hy
      rw [splitC_hit]
      have e1 : nls (10 :: l) = nls l + 1 := by simp [nls]
      rw [e1]
      simp only [List.length_cons, List.flatten_cons, List.nil_append]
      omega
    · have e1 : nls (y :: l) = nls l := by simp [nls, hy]
      rw [splitC_skip l hy, e1]
      cases hs : splitC 10 l with
      | nil => exact absurd hs (splitC_ne 10 l)
      | cons q qs =>
        rw [hs] at i1 i2
        simp only [glue, List.length_cons, List.flatten_cons, List.singleton_append, List.length_append] at i1 i2 ⊢
        omega
end Go.Proofs.YtcdmjckkencgoaaGreatDoor
end

section
namespace Go.Proofs.YtcdmjckkencgoaaGreatDoor
open Go.RowKit

theorem str_app (a b : List UInt8) : str a ++ str b = str (a ++ b) := by apply bytes_ext; rw [Joins.data_append, str_list, str_list, str_list]
theorem ext_tkC (l : List UInt8) (a : Nat) : (str l).extract 0 a = str (l.take a) := by rw [ext_take, str_list]
theorem ext_drC (l : List UInt8) (a : Nat) : (str l).extract a (str l).size = str (l.drop a) := by rw [ext_drop, str_list]
/-- Lines, and whether there are any. -/
def EncRet (o : Option (List (List UInt8))) (w : World) (e : Ending) (w' : World) : Prop := ∃ v, e = .returned (.tuple #[v, .bool o.isSome]) ∧ OwnL w.heap.size v (o.getD []) w' ∧ Below w.heap.size w w'
theorem encRet_none {o : Option (List (List UInt8))} {w w' : World} {v : Value} (h : o = none) (ho : OwnL w.heap.size v [] w') (hb : Below w.heap.size w w') : EncRet o w (.returned (.tuple #[v, .bool false])) w' := by subst h; exact ⟨v, rfl, ho, hb⟩
theorem encRet_some {o : Option (List (List UInt8))} {xs : List (List UInt8)} {w w' : World} {v : Value} (h : o = some xs) (ho : OwnL w.heap.size v xs w') (hb : Below w.heap.size w w') : EncRet o w (.returned (.tuple #[v, .bool true])) w' := by subst h; exact ⟨v, rfl, ho, hb⟩
/-- Bytes, and whether there are any. -/
def DecRet (o : Option (List UInt8)) (w : World) (e : Ending) (w' : World) : Prop := e = .returned (.tuple #[.string (str (o.getD [])), .bool o.isSome]) ∧ Below w.heap.size w w'
theorem decRet_none {o : Option (List UInt8)} {w w' : World} {x : ByteArray} (h : o = none) (hx : x = str []) (hb : Below w.heap.size w w') : DecRet o w (.returned (.tuple #[.string x, .bool false])) w' := by subst h hx; exact ⟨rfl, hb⟩
theorem decRet_some {o : Option (List UInt8)} {b : List UInt8} {w w' : World} {x : ByteArray} (h : o = some b) (hx : x = str b) (hb : Below w.heap.size w w') : DecRet o w (.returned (.tuple #[.string x, .bool true])) w' := by subst h hx; exact ⟨rfl, hb⟩
theorem take3 (s : ByteArray) (k e : Nat) (h : e = k + 3 ∨ (s.size ≤ k + 3 ∧ e = s.size)) : (s.extract k e).data.toList = (s.data.toList.drop k).take 3 := by
  rw [Lib.extract_data]
  rcases h with rfl | ⟨h, rfl⟩
  · congr 1; omega
  · rw [List.take_of_length_le (by rw [List.length_drop, size_list]; omega), List.take_of_length_le (by rw [List.length_drop, size_list]; omega)]
theorem b64_step (s : ByteArray) (k : Nat) (acc : List UInt8) (h : b64 s.data.toList = acc ++ b64 (s.data.toList.drop k)) (hk : k < s.size) : b64 s.data.toList = (acc ++ four ((s.data.toList.drop k).take 3)) ++ b64 (s.data.toList.drop (k + 3)) := by
  rw [h, b64_drop (s.data.toList.drop k) (by intro e; have := congrArg List.length e; rw [List.length_drop, size_list] at this; simp at this; omega), List.drop_drop, List.append_assoc]
/-- The number of the first k bytes of three. -/
def acc3 (g : List UInt8) : Nat → Nat
  | 0 => 0
  | k + 1 => acc3 g k * 256 + (g.getD k 0).toNat
theorem acc3_lt (g : List UInt8) : ∀ k, acc3 g k < 256 ^ k
  | 0 => by simp [acc3]
  | k + 1 => by
    have := acc3_lt g k
    have := (g.getD k 0).toNat_lt
    rw [acc3, Nat.pow_succ]; omega
theorem acc3_num (g : List UInt8) : acc3 g 3 = num3 g := by simp only [acc3, num3]; omega
theorem alpha_at {n : Nat} (h : n < 64) (h' : n < (ByteArray.mk #[65, 66, 67, 68, 69, 70, 71, 72, 73, 74, 75, 76, 77, 78, 79, 80, 81, 82, 83, 84, 85, 86, 87, 88, 89, 90, 97, 98, 99, 100, 101, 102, 103, 104, 105, 106, 107, 108, 109, 110, 111, 112, 113, 114, 115, 116, 117, 118, 119, 120, 121, 122, 48, 49, 50, 51, 52, 53, 54, 55, 56, 57, 43, 47]).size) : (ByteArray.mk #[65, 66, 67, 68, 69, 70, 71, 72, 73, 74, 75, 76, 77, 78, 79, 80, 81, 82, 83, 84, 85, 86, 87, 88, 89, 90, 97, 98, 99, 100, 101, 102, 103, 104, 105, 106, 107, 108, 109, 110, 111, 112, 113, 114, 115, 116, 117, 118, 119, 120, 121, 122, 48, 49, 50, 51, 52, 53, 54, 55, 56, 57, 43, 47])[n] = l64 n := by
  have hl : alphaL.length = 64 := rfl
  unfold l64
  rw [List.getD_eq_getElem?_getD, List.getElem?_eq_getElem (by rw [hl]; exact h)]
  rfl
/-- Four letters in a row: those before k are written. -/
def Four (F : Nat → UInt8) (R k : Nat) (w : World) : Prop := (∀ j, j < 4 → w.cell? ⟨R, j, none⟩ = some (.int .u8 ((if j < k then F j else 61).toNat : Int))) ∧ (∀ j, w.frozen? ⟨R, j, none⟩ = false)
theorem four_start (F : Nat → UInt8) (w : World) (t : TypeId) : Four F w.heap.size 0 (w.alloc (.cells #[.int .u8 61, .int .u8 61, .int .u8 61, .int .u8 61] t)) :=
  ⟨fun j hj => by
    rw [World.cell?_alloc_at _ _ _ _ rfl]
    rcases (by omega : j = 0 ∨ j = 1 ∨ j = 2 ∨ j = 3) with rfl | rfl | rfl | rfl <;> rfl, fun j => World.frozen?_alloc_at _ _ _ _ rfl⟩
theorem four_set {F : Nat → UInt8} {R k : Nat} {w : World} (h : Four F R k w) (hk : k < 4) (x : Int) (hx : x = ((F k).toNat : Int)) : Four F R (k + 1) (w.setCell ⟨R, k, none⟩ (.int .u8 x)) := by
  refine ⟨fun j hj => ?_, fun j => by rw [World.frozen?_setCell]; exact h.2 j⟩
  by_cases e : j = k
  · subst e; rw [cell_same (h.1 j hk), if_pos (by omega), hx]
  · rw [cell_off (fun he => e he.symm), h.1 j hj]
    by_cases e2 : j < k
    · rw [if_pos e2, if_pos (by omega)]
    · rw [if_neg e2, if_neg (by omega)]
theorem four_back {F : Nat → UInt8} {R k : Nat} {w : World} {g : List UInt8} (h : Four F R k w) (hF : ∀ j, j < 4 → F j = l64 (num3 g / 2 ^ (18 - 6 * j) % 64)) (h1 : 1 ≤ g.length) (hk : k = g.length + 1) (src dst e : TypeId) (hs : Tryz.prog.underlying src = some (.slice e)) (he : Tryz.prog.underlying e = some (.int .u8)) (hd : Tryz.prog.underlying dst = some .string) :
    (convert src dst (.slice (some ⟨R, 0, none⟩) 4 4)).run Tryz.prog w = .ok (.string (str (four g))) w := by
  have := run_convert_bytes_back (P := Tryz.prog) w src dst e ⟨R, 0, none⟩ 4 (four g) hs he hd (fun j hj => by
    rw [four_len] at hj
    rw [add0, h.1 j hj, hF j hj, hk]
    rcases (by omega : j = 0 ∨ j = 1 ∨ j = 2 ∨ j = 3) with rfl | rfl | rfl | rfl
    · rw [if_pos (by omega)]; rfl
    · rw [if_pos (by omega)]; rfl
    · by_cases h2 : 2 ≤ g.length
      · rw [if_pos (by omega)]; simp only [four, if_pos h2]; rfl
      · rw [if_neg (by omega)]; simp only [four, if_neg h2]; rfl
    · by_cases h2 : 3 ≤ g.length
      · rw [if_pos (by omega)]; simp only [four, if_pos h2]; simp
      · rw [if_neg (by omega)]; simp only [four, if_neg h2]; rfl)
  exact this
set_option maxRecDepth 100000 in
set_option maxHeartbeats 2000000 in
theorem lettersOfGroup_any (g : ByteArray) (w : World) (h1 : 1 ≤ g.size) (h3 : g.size ≤ 3) :
    Calls Tryz.prog 147 #[.string g] w fun e w' => e = .returned (.string (str (four g.data.toList))) ∧ Below w.heap.size w w' := by
  go_enter Tryz.func147, Tryz.ntmps147
  go_wp2_with fail
  go_loopw [3, 7] (fun v i wr => ∃ k : Nat, k ≤ 3 ∧ i = .int .i64 k ∧ v = .int .i64 (acc3 g.data.toList k : Nat) ∧ Below w.heap.size w wr) (fun _ i _ => 3 - (intOf i).toNat)
  case atStart => exact ⟨0, by omega, rfl, rfl, Below.refl _ _⟩
  case round =>
    obtain ⟨k, hk, rfl, rfl, hb⟩ := hrel
    have hlt := acc3_lt g.data.toList k
    by_cases hk3 : k < 3
    · have hp : acc3 g.data.toList k < 65536 := Nat.lt_of_lt_of_le hlt (Nat.pow_le_pow_right (by omega) (show k ≤ 2 by omega))
      have HS : Hid (acc3 g.data.toList (k + 1) = acc3 g.data.toList k * 256 + (g.data.toList.getD k 0).toNat) := rfl
      clear hlt
      generalize acc3 g.data.toList k = A at *
      by_cases hg : k < g.size
      · have hgd : g.data.toList.getD k 0 = g[k] := by rw [List.getD_eq_getElem?_getD, List.getElem?_eq_getElem (by rw [size_list]; exact hg)]; rfl
        rw [hgd] at HS
        have hgz := g[k].toNat_lt
        clear hgd
        go_wp2
        go_roundw
        case rel => exact ⟨k + 1, by omega, by go_num, by rw [HS.out]; go_num, hb⟩
        case measure => simp [intOf]; omega
      · have hgd : g.data.toList.getD k 0 = 0 := by rw [List.getD_eq_getElem?_getD, List.getElem?_eq_none (by rw [size_list]; omega)]; rfl
        rw [hgd] at HS
        clear hgd
        go_wp2
        go_roundw
        case rel => exact ⟨k + 1, by omega, by go_num, by rw [HS.out]; go_num, hb⟩
        case measure => simp [intOf]; omega
    · have e3 : acc3 g.data.toList k = num3 g.data.toList := by rw [show k = 3 by omega, acc3_num]
      rw [e3] at hlt ⊢
      clear e3
      have hnl := num3_lt g.data.toList
      have HBK : Hid (∀ (R k : Nat) (u : World), k = g.size + 1 → Four (fun j => l64 (num3 g.data.toList / 2 ^ (18 - 6 * j) % 64)) R k u → (convert 81 9 (.slice (some ⟨R, 0, none⟩) 4 4)).run Tryz.prog u = .ok (.string (str (four g.data.toList))) u) :=
        fun R k u hk h => four_back h (fun _ _ => rfl) (by rw [size_list]; exact h1) (by rw [size_list]; exact hk) _ _ 5 Tryz.underlying81 Tryz.underlying5 Tryz.underlying9
      clear hlt
      generalize num3 g.data.toList = N at *
      have hbA := hb.alloc hb.size (.cells #[.int .u8 61, .int .u8 61, .int .u8 61, .int .u8 61] 159)
      have HST := Lib.hid (four_start (fun j => l64 (N / 2 ^ (18 - 6 * j) % 64)) wr 159)
      have HWR := Lib.hid hb.size
      go_wp2_with fail
      generalize hR : wr.heap.size = R at *
      go_loopw [27] (fun i wi => ∃ (k : Nat), k ≤ g.size + 1 ∧ i = .int .i64 k ∧ Below w.heap.size w wi ∧ Four (fun j => l64 (N / 2 ^ (18 - 6 * j) % 64)) R k wi) (fun i _ => g.size + 1 - (intOf i).toNat)
      case atStart => exact ⟨0, by omega, rfl, hbA, HST.out⟩
      case round =>
        obtain ⟨k, hk, rfl, hbi, hf⟩ := hrel
        have HF := Lib.hid hf
        by_cases hlt : k < g.size + 1
        · have c0 := hf.1 k (by omega)
          have f0 := hf.2 k
          clear hf
          rcases (by omega : k = 0 ∨ k = 1 ∨ k = 2 ∨ k = 3) with rfl | rfl | rfl | rfl
          all_goals
            go_wp2
            go_roundw
            case rel => exact ⟨_, hlt, by go_num, hbi.setCell HWR.out _, four_set HF.out (by omega) _ (by rw [alpha_at (by omega)]; try (first | rfl | simp))⟩
            case measure => simp [intOf]; try omega
        · have hback := HBK.out R k wr (by omega) hf
          clear hf
          go_wp2
          go_ret
          exact ⟨rfl, hbi⟩
set_option maxRecDepth 100000 in
set_option maxHeartbeats 2000000 in
theorem lettersOf_any (s : ByteArray) (w : World) (hs : s.size ≤ 1073741000) :
    Calls Tryz.prog 113 #[.string s] w fun e w' => e = .returned (.string (str (b64 s.data.toList))) ∧ Below w.heap.size w w' := by
  go_enter Tryz.func113, Tryz.ntmps113
  go_wp2_with fail
  go_loopw [4] (fun i wr => ∃ (k : Nat) (acc : List UInt8), k ≤ s.size + 2 ∧ i = .int .i64 k ∧ acc.length ≤ 4 * k ∧ b64 s.data.toList = acc ++ b64 (s.data.toList.drop k) ∧ Bld w.heap.size w.heap.size acc wr ∧ Below w.heap.size w wr) (fun i _ => s.size + 2 - (intOf i).toNat)
  case atStart => exact ⟨0, [], by omega, rfl, by simp, by simp, bld_fresh w, (Below.refl _ _).alloc (Nat.le_refl _) _⟩
  case round =>
    obtain ⟨k, acc, hk, rfl, hal, hg, hB, hb⟩ := hrel
    have HG := Lib.hid hg
    clear hg
    by_cases hlt : k < s.size
    · have HN := Lib.hid (b64_step s k acc HG.out hlt)
      have hmn : (min ((k : Int) + 3) (s.size : Int)).toNat = min (k + 3) s.size := by omega
      have hmin : 0 ≤ min ((k : Int) + 3) (s.size : Int) ∧ min ((k : Int) + 3) (s.size : Int) ≤ s.size := by omega
      have hgs : (s.extract k (min (k + 3) s.size)).size = min (k + 3) s.size - k := by rw [ByteArray.size_extract]; omega
      have HT := Lib.hid (take3 s k (min (k + 3) s.size) (by omega))
      have HA := Lib.hid hal
      go_wp2_with fail
      refine (lettersOfGroup_any (s.extract k (min (k + 3) s.size)) _ (by rw [hgs]; omega) (by rw [hgs]; omega)).mono ?_
      rintro e w1 ⟨rfl, hb1⟩
      rw [HT.out]
      go_wp2_with fail
      refine (writeString_any _ _ _ (str (four ((s.data.toList.drop k).take 3))) _ (hB.keep hb1) (by rw [str_size, four_len]; have := HA.out; omega)).mono ?_
      rintro e w2 ⟨rfl, hB2, hb2⟩
      rw [str_list] at hB2
      go_wp2
      go_roundw
      case rel => exact ⟨k + 3, _, by omega, by go_num, by rw [List.length_append, four_len]; have := HA.out; omega, HN.out, hB2, (nx hb hb1).trans hb2⟩
      case measure => simp [intOf]; omega
    · have HE : Hid (b64 s.data.toList = acc) := by show _ = _; rw [HG.out, drop_out s k (by omega)]; simp [b64]
      go_wp2_with fail
      refine (bString_any _ _ _ _ hB).mono ?_
      rintro e w5 ⟨rfl, hb5⟩
      go_wp2
      go_ret
      exact ⟨ret_str (by rw [HE.out]), hb.trans hb5⟩
theorem l5Letters_any (w : World) : Calls Tryz.prog 173 #[] w fun e w' => e = .returned (.string (str alphaL)) ∧ w = w' := by
  go_enter Tryz.func173, Tryz.ntmps173
  go_wp2
  go_ret
  exact ⟨rfl, rfl⟩
theorem alphaL_size : (str alphaL).size = 64 := rfl
theorem alpha_ext {n : Nat} (h : n < 64) : (str alphaL).extract n (n + 1) = str [l64 n] := by
  have hl : alphaL.length = 64 := rfl
  apply bytes_ext
  rw [Lib.extract_data, str_list, str_list, show n + 1 - n = 1 by omega, List.drop_eq_getElem_cons (by rw [hl]; exact h)]
  unfold l64
  rw [List.getD_eq_getElem?_getD, List.getElem?_eq_getElem (by rw [hl]; exact h)]
  rfl
theorem num_of (s : ByteArray) (k : Nat) (hk : k < s.size) : num3 ((s.data.toList.drop k).take 3) = s[k].toNat * 65536 + (if h : k + 1 < s.size then s[k + 1].toNat * 256 else 0) + (if h : k + 2 < s.size then s[k + 2].toNat else 0) := by
  have hg : ∀ j, j < 3 → (((s.data.toList.drop k).take 3).getD j 0).toNat = if h : k + j < s.size then s[k + j].toNat else 0 := fun j hj => by
    rw [List.getD_eq_getElem?_getD, List.getElem?_take, if_pos hj, List.getElem?_drop]
    split
    · rename_i h; rw [List.getElem?_eq_getElem (by rw [size_list]; exact h)]; rfl
    · rename_i h; rw [List.getElem?_eq_none (by rw [size_list]; omega)]; rfl
  unfold num3
  rw [hg 0 (by omega), hg 1 (by omega), hg 2 (by omega)]
  rw [dif_pos (by omega : k + 0 < s.size)]
  congr 1
  congr 1
  by_cases h : k + 1 < s.size
  · rw [dif_pos h, dif_pos h]
  · rw [dif_neg h, dif_neg h]
theorem four_grow (g : List UInt8) (j : Nat) (h : j < 4) : (four g).take (j + 1) = (four g).take j ++ [(four g)[j]'h] := List.take_succ_eq_append_getElem h
theorem wraps_i64C (n : Int) (h0 : 0 ≤ n) (h1 : n < 2 ^ 63) : IntKind.i64.wrap n = n := by rw [IntKind.wrap_i64]; omega
theorem and63C (x : Int) (h0 : 0 ≤ x) (h1 : x < 2 ^ 63) : bits .and .i64 x 63 = x % 64 := bits_mask .i64 63 (by decide) wraps_i64C 6 (by decide) x h0 h1
set_option maxRecDepth 100000 in
set_option maxHeartbeats 4000000 in
theorem l5Base_same (s : ByteArray) (w : World) (hs : s.size ≤ 1073741000) :
    Calls Tryz.prog 139 #[.string s] w fun e w' => e = .returned (.string (str (b64 s.data.toList))) ∧ w' = w := by
  go_enter Tryz.func139, Tryz.ntmps139
  go_wp2_with fail
  go_loop [3, 4] (fun o i => ∃ (k : Nat) (acc : List UInt8), k ≤ s.size + 2 ∧ i = .int .i64 k ∧ o = .string (str acc) ∧ acc.length ≤ 4 * k ∧ b64 s.data.toList = acc ++ b64 (s.data.toList.drop k)) (fun _ i => s.size + 2 - (intOf i).toNat)
  case atStart => exact ⟨0, [], by omega, rfl, rfl, by simp, by simp⟩
  case round =>
    obtain ⟨k, acc, hk, rfl, rfl, hal, hg⟩ := hrel
    have HG := Lib.hid hg
    clear hg
    by_cases hlt : k < s.size
    · have HN := Lib.hid (b64_step s k acc HG.out hlt)
      have HNUM := Lib.hid (num_of s k hlt)
      have hnl := num3_lt ((s.data.toList.drop k).take 3)
      have HGL : Hid (((s.data.toList.drop k).take 3).length = min 3 (s.size - k)) := by show _ = _; rw [List.length_take, List.length_drop, size_list]
      have hq0 := s[k].toNat_lt
      rcases (by omega : s.size ≤ k + 1 ∨ (k + 1 < s.size ∧ s.size ≤ k + 2) ∨ k + 2 < s.size) with hc | hc | hc
      · have HV : Hid (((num3 ((s.data.toList.drop k).take 3) : Nat) : Int) = (s[k].toNat : Int) * 65536) := by show _ = _; rw [HNUM.out, dif_neg (by omega), dif_neg (by omega)]; omega
        have HL : Hid (((s.data.toList.drop k).take 3).length = 1) := by show _ = _; rw [HGL.out]; omega
        clear HNUM HGL
        generalize (s.data.toList.drop k).take 3 = G at *
        go_wp2_with fail
        rw [← HV.out]
        generalize hNN : num3 G = N at *
        have HE0 : Hid ((four G).take 1 = (four G).take 0 ++ [l64 (N / 262144 % 64)]) := by show _ = _; rw [four_grow G 0 (by omega)]; subst hNN; rfl
        have HE1 : Hid ((four G).take 2 = (four G).take 1 ++ [l64 (N / 4096 % 64)]) := by show _ = _; rw [four_grow G 1 (by omega)]; subst hNN; rfl
        have HE2 : Hid ((four G).take 3 = (four G).take 2 ++ [61]) := by show _ = _; rw [four_grow G 2 (by omega)]; subst hNN; simp [four, HL.out]
        have HE3 : Hid ((four G).take 4 = (four G).take 3 ++ [61]) := by show _ = _; rw [four_grow G 3 (by omega)]; subst hNN; simp [four, HL.out]
        have HF4 : Hid ((four G).take 4 = four G) := rfl
        clear hNN
        go_loop [3, 6] (fun o i => ∃ j : Nat, j ≤ 4 ∧ i = .int .i64 j ∧ o = .string (str (acc ++ (four G).take j))) (fun _ i => 4 - (intOf i).toNat)
        case atStart => exact ⟨0, by omega, rfl, by simp⟩
        case round =>
          obtain ⟨j, hj, rfl, rfl⟩ := hrel
          have hlt' : (str (acc ++ (four G).take j)).size ≤ 4 * k + 4 := by rw [str_size, List.length_append]; have := List.length_take_le j (four G); omega
          have hls := alphaL_size
          have hA0 := and63C ((N : Int) / 262144) (by omega) (by omega)
          have hA1 := and63C ((N : Int) / 4096) (by omega) (by omega)
          have hA2 := and63C ((N : Int) / 64) (by omega) (by omega)
          have hA3 := and63C (N : Int) (by omega) (by omega)
          have hm0 : N / 262144 % 64 < 64 := Nat.mod_lt _ (by omega)
          have hm1 : N / 4096 % 64 < 64 := Nat.mod_lt _ (by omega)
          have hm2 : N / 64 % 64 < 64 := Nat.mod_lt _ (by omega)
          have hm3 : N % 64 < 64 := Nat.mod_lt _ (by omega)
          by_cases h4 : j < 4
          · rcases (by omega : j = 0 ∨ j = 1 ∨ j = 2 ∨ j = 3) with rfl | rfl | rfl | rfl
            · have HO : Hid (str (acc ++ (four G).take 1) = str (acc ++ (four G).take 0) ++ (str alphaL).extract (N / 262144 % 64) (N / 262144 % 64 + 1)) := by show _ = _; rw [HE0.out, alpha_ext (by omega), str_app]; simp
              clear hA1 hA2 hA3
              generalize str (acc ++ (four G).take 0) = o at *
              go_wp2_with fail
              refine (l5Letters_any _).mono ?_
              rintro e w' ⟨rfl, rfl⟩
              go_wp2
              go_round
              case rel => exact ⟨1, by omega, by go_num, by rw [HO.out]⟩
              case measure => simp [intOf]
            · have HO : Hid (str (acc ++ (four G).take 2) = str (acc ++ (four G).take 1) ++ (str alphaL).extract (N / 4096 % 64) (N / 4096 % 64 + 1)) := by show _ = _; rw [HE1.out, alpha_ext (by omega), str_app]; simp
              clear hA0 hA2 hA3
              generalize str (acc ++ (four G).take 1) = o at *
              go_wp2_with fail
              refine (l5Letters_any _).mono ?_
              rintro e w' ⟨rfl, rfl⟩
              go_wp2
              go_round
              case rel => exact ⟨2, by omega, by go_num, by rw [HO.out]⟩
              case measure => simp [intOf]
            · have HO : Hid (str (acc ++ (four G).take 3) = str (acc ++ (four G).take 2) ++ ⟨#[61]⟩) := by show _ = _; rw [HE2.out]; exact (by rw [show (ByteArray.mk #[61]) = str [61] from rfl, str_app]; simp)
              have hs61 : (ByteArray.mk #[61]).size = 1 := rfl
              clear hA0 hA1 hA2 hA3
              generalize str (acc ++ (four G).take 2) = o at *
              go_wp2
              go_round
              case rel => exact ⟨3, by omega, by go_num, by rw [HO.out]⟩
              case measure => simp [intOf]
            · have HO : Hid (str (acc ++ (four G).take 4) = str (acc ++ (four G).take 3) ++ ⟨#[61]⟩) := by show _ = _; rw [HE3.out]; exact (by rw [show (ByteArray.mk #[61]) = str [61] from rfl, str_app]; simp)
              have hs61 : (ByteArray.mk #[61]).size = 1 := rfl
              clear hA0 hA1 hA2 hA3
              generalize str (acc ++ (four G).take 3) = o at *
              go_wp2
              go_round
              case rel => exact ⟨4, by omega, by go_num, by rw [HO.out]⟩
              case measure => simp [intOf]
          · have HJ : Hid (acc ++ (four G).take j = acc ++ four G) := by show _ = _; rw [show j = 4 by omega, HF4.out]
            rw [HJ.out]
            go_wp2
            go_round
            case rel => exact ⟨k + 3, acc ++ four G, by omega, by go_num, rfl, by rw [List.length_append, four_len]; omega, HN.out⟩
            case measure => simp [intOf]; omega
      · have hq1 := s[k + 1].toNat_lt
        have HV : Hid (((num3 ((s.data.toList.drop k).take 3) : Nat) : Int) = (s[k].toNat : Int) * 65536 + (s[k + 1].toNat : Int) * 256) := by show _ = _; rw [HNUM.out, dif_pos (by omega), dif_neg (by omega)]; omega
        have HL : Hid (((s.data.toList.drop k).take 3).length = 2) := by show _ = _; rw [HGL.out]; omega
        clear HNUM HGL
        generalize (s.data.toList.drop k).take 3 = G at *
        go_wp2_with fail
        rw [← HV.out]
        generalize hNN : num3 G = N at *
        have HE0 : Hid ((four G).take 1 = (four G).take 0 ++ [l64 (N / 262144 % 64)]) := by show _ = _; rw [four_grow G 0 (by omega)]; subst hNN; rfl
        have HE1 : Hid ((four G).take 2 = (four G).take 1 ++ [l64 (N / 4096 % 64)]) := by show _ = _; rw [four_grow G 1 (by omega)]; subst hNN; rfl
        have HE2 : Hid ((four G).take 3 = (four G).take 2 ++ [l64 (N / 64 % 64)]) := by show _ = _; rw [four_grow G 2 (by omega)]; subst hNN; simp [four, HL.out]
        have HE3 : Hid ((four G).take 4 = (four G).take 3 ++ [61]) := by show _ = _; rw [four_grow G 3 (by omega)]; subst hNN; simp [four, HL.out]
        have HF4 : Hid ((four G).take 4 = four G) := rfl
        clear hNN
        go_loop [3, 6] (fun o i => ∃ j : Nat, j ≤ 4 ∧ i = .int .i64 j ∧ o = .string (str (acc ++ (four G).take j))) (fun _ i => 4 - (intOf i).toNat)
        case atStart => exact ⟨0, by omega, rfl, by simp⟩
        case round =>
          obtain ⟨j, hj, rfl, rfl⟩ := hrel
          have hlt' : (str (acc ++ (four G).take j)).size ≤ 4 * k + 4 := by rw [str_size, List.length_append]; have := List.length_take_le j (four G); omega
          have hls := alphaL_size
          have hA0 := and63C ((N : Int) / 262144) (by omega) (by omega)
          have hA1 := and63C ((N : Int) / 4096) (by omega) (by omega)
          have hA2 := and63C ((N : Int) / 64) (by omega) (by omega)
          have hA3 := and63C (N : Int) (by omega) (by omega)
          have hm0 : N / 262144 % 64 < 64 := Nat.mod_lt _ (by omega)
          have hm1 : N / 4096 % 64 < 64 := Nat.mod_lt _ (by omega)
          have hm2 : N / 64 % 64 < 64 := Nat.mod_lt _ (by omega)
          have hm3 : N % 64 < 64 := Nat.mod_lt _ (by omega)
          by_cases h4 : j < 4
          · rcases (by omega : j = 0 ∨ j = 1 ∨ j = 2 ∨ j = 3) with rfl | rfl | rfl | rfl
            · have HO : Hid (str (acc ++ (four G).take 1) = str (acc ++ (four G).take 0) ++ (str alphaL).extract (N / 262144 % 64) (N / 262144 % 64 + 1)) := by show _ = _; rw [HE0.out, alpha_ext (by omega), str_app]; simp
              clear hA1 hA2 hA3
              generalize str (acc ++ (four G).take 0) = o at *
              go_wp2_with fail
              refine (l5Letters_any _).mono ?_
              rintro e w' ⟨rfl, rfl⟩
              go_wp2
              go_round
              case rel => exact ⟨1, by omega, by go_num, by rw [HO.out]⟩
              case measure => simp [intOf]
            · have HO : Hid (str (acc ++ (four G).take 2) = str (acc ++ (four G).take 1) ++ (str alphaL).extract (N / 4096 % 64) (N / 4096 % 64 + 1)) := by show _ = _; rw [HE1.out, alpha_ext (by omega), str_app]; simp
              clear hA0 hA2 hA3
              generalize str (acc ++ (four G).take 1) = o at *
              go_wp2_with fail
              refine (l5Letters_any _).mono ?_
              rintro e w' ⟨rfl, rfl⟩
              go_wp2
              go_round
              case rel => exact ⟨2, by omega, by go_num, by rw [HO.out]⟩
              case measure => simp [intOf]
            · have HO : Hid (str (acc ++ (four G).take 3) = str (acc ++ (four G).take 2) ++ (str alphaL).extract (N / 64 % 64) (N / 64 % 64 + 1)) := by show _ = _; rw [HE2.out, alpha_ext (by omega), str_app]; simp
              clear hA0 hA1 hA3
              generalize str (acc ++ (four G).take 2) = o at *
              go_wp2_with fail
              refine (l5Letters_any _).mono ?_
              rintro e w' ⟨rfl, rfl⟩
              go_wp2
              go_round
              case rel => exact ⟨3, by omega, by go_num, by rw [HO.out]⟩
              case measure => simp [intOf]
            · have HO : Hid (str (acc ++ (four G).take 4) = str (acc ++ (four G).take 3) ++ ⟨#[61]⟩) := by show _ = _; rw [HE3.out]; exact (by rw [show (ByteArray.mk #[61]) = str [61] from rfl, str_app]; simp)
              have hs61 : (ByteArray.mk #[61]).size = 1 := rfl
              clear hA0 hA1 hA2 hA3
              generalize str (acc ++ (four G).take 3) = o at *
              go_wp2
              go_round
              case rel => exact ⟨4, by omega, by go_num, by rw [HO.out]⟩
              case measure => simp [intOf]
          · have HJ : Hid (acc ++ (four G).take j = acc ++ four G) := by show _ = _; rw [show j = 4 by omega, HF4.out]
            rw [HJ.out]
            go_wp2
            go_round
            case rel => exact ⟨k + 3, acc ++ four G, by omega, by go_num, rfl, by rw [List.length_append, four_len]; omega, HN.out⟩
            case measure => simp [intOf]; omega
      · have hq1 := s[k + 1].toNat_lt
        have hq2 := s[k + 2].toNat_lt
        have HV : Hid (((num3 ((s.data.toList.drop k).take 3) : Nat) : Int) = (s[k].toNat : Int) * 65536 + (s[k + 1].toNat : Int) * 256 + (s[k + 2].toNat : Int)) := by show _ = _; rw [HNUM.out, dif_pos (by omega), dif_pos (by omega)]; omega
        have HL : Hid (((s.data.toList.drop k).take 3).length = 3) := by show _ = _; rw [HGL.out]; omega
        clear HNUM HGL
        generalize (s.data.toList.drop k).take 3 = G at *
        go_wp2_with fail
        rw [← HV.out]
        generalize hNN : num3 G = N at *
        have HE0 : Hid ((four G).take 1 = (four G).take 0 ++ [l64 (N / 262144 % 64)]) := by show _ = _; rw [four_grow G 0 (by omega)]; subst hNN; rfl
        have HE1 : Hid ((four G).take 2 = (four G).take 1 ++ [l64 (N / 4096 % 64)]) := by show _ = _; rw [four_grow G 1 (by omega)]; subst hNN; rfl
        have HE2 : Hid ((four G).take 3 = (four G).take 2 ++ [l64 (N / 64 % 64)]) := by show _ = _; rw [four_grow G 2 (by omega)]; subst hNN; simp [four, HL.out]
        have HE3 : Hid ((four G).take 4 = (four G).take 3 ++ [l64 (N % 64)]) := by show _ = _; rw [four_grow G 3 (by omega)]; subst hNN; simp [four, HL.out]
        have HF4 : Hid ((four G).take 4 = four G) := rfl
        clear hNN
        go_loop [3, 6] (fun o i => ∃ j : Nat, j ≤ 4 ∧ i = .int .i64 j ∧ o = .string (str (acc ++ (four G).take j))) (fun _ i => 4 - (intOf i).toNat)
        case atStart => exact ⟨0, by omega, rfl, by simp⟩
        case round =>
          obtain ⟨j, hj, rfl, rfl⟩ := hrel
          have hlt' : (str (acc ++ (four G).take j)).size ≤ 4 * k + 4 := by rw [str_size, List.length_append]; have := List.length_take_le j (four G); omega
          have hls := alphaL_size
          have hA0 := and63C ((N : Int) / 262144) (by omega) (by omega)
          have hA1 := and63C ((N : Int) / 4096) (by omega) (by omega)
          have hA2 := and63C ((N : Int) / 64) (by omega) (by omega)
          have hA3 := and63C (N : Int) (by omega) (by omega)
          have hm0 : N / 262144 % 64 < 64 := Nat.mod_lt _ (by omega)
          have hm1 : N / 4096 % 64 < 64 := Nat.mod_lt _ (by omega)
          have hm2 : N / 64 % 64 < 64 := Nat.mod_lt _ (by omega)
          have hm3 : N % 64 < 64 := Nat.mod_lt _ (by omega)
          by_cases h4 : j < 4
          · rcases (by omega : j = 0 ∨ j = 1 ∨ j = 2 ∨ j = 3) with rfl | rfl | rfl | rfl
            · have HO : Hid (str (acc ++ (four G).take 1) = str (acc ++ (four G).take 0) ++ (str alphaL).extract (N / 262144 % 64) (N / 262144 % 64 + 1)) := by show _ = _; rw [HE0.out, alpha_ext (by omega), str_app]; simp
              clear hA1 hA2 hA3
              generalize str (acc ++ (four G).take 0) = o at *
              go_wp2_with fail
              refine (l5Letters_any _).mono ?_
              rintro e w' ⟨rfl, rfl⟩
              go_wp2
              go_round
              case rel => exact ⟨1, by omega, by go_num, by rw [HO.out]⟩
              case measure => simp [intOf]
            · have HO : Hid (str (acc ++ (four G).take 2) = str (acc ++ (four G).take 1) ++ (str alphaL).extract (N / 4096 % 64) (N / 4096 % 64 + 1)) := by show _ = _; rw [HE1.out, alpha_ext (by omega), str_app]; simp
              clear hA0 hA2 hA3
              generalize str (acc ++ (four G).take 1) = o at *
              go_wp2_with fail
              refine (l5Letters_any _).mono ?_
              rintro e w' ⟨rfl, rfl⟩
              go_wp2
              go_round
              case rel => exact ⟨2, by omega, by go_num, by rw [HO.out]⟩
              case measure => simp [intOf]
            · have HO : Hid (str (acc ++ (four G).take 3) = str (acc ++ (four G).take 2) ++ (str alphaL).extract (N / 64 % 64) (N / 64 % 64 + 1)) := by show _ = _; rw [HE2.out, alpha_ext (by omega), str_app]; simp
              clear hA0 hA1 hA3
              generalize str (acc ++ (four G).take 2) = o at *
              go_wp2_with fail
              refine (l5Letters_any _).mono ?_
              rintro e w' ⟨rfl, rfl⟩
              go_wp2
              go_round
              case rel => exact ⟨3, by omega, by go_num, by rw [HO.out]⟩
              case measure => simp [intOf]
            · have HO : Hid (str (acc ++ (four G).take 4) = str (acc ++ (four G).take 3) ++ (str alphaL).extract (N % 64) (N % 64 + 1)) := by show _ = _; rw [HE3.out, alpha_ext (by omega), str_app]; simp
              clear hA0 hA1 hA2
              generalize str (acc ++ (four G).take 3) = o at *
              go_wp2_with fail
              refine (l5Letters_any _).mono ?_
              rintro e w' ⟨rfl, rfl⟩
              go_wp2
              go_round
              case rel => exact ⟨4, by omega, by go_num, by rw [HO.out]⟩
              case measure => simp [intOf]
          · have HJ : Hid (acc ++ (four G).take j = acc ++ four G) := by show _ = _; rw [show j = 4 by omega, HF4.out]
            rw [HJ.out]
            go_wp2
            go_round
            case rel => exact ⟨k + 3, acc ++ four G, by omega, by go_num, rfl, by rw [List.length_append, four_len]; omega, HN.out⟩
            case measure => simp [intOf]; omega
    · have HE : Hid (b64 s.data.toList = acc) := by show _ = _; rw [HG.out, drop_out s k (by omega)]; simp [b64]
      go_wp2
      go_ret
      exact ⟨ret_str (by rw [HE.out]), rfl⟩
theorem l5Base_any (s : ByteArray) (w : World) (hs : s.size ≤ 1073741000) :
    Calls Tryz.prog 139 #[.string s] w fun e w' => e = .returned (.string (str (b64 s.data.toList))) ∧ Below w.heap.size w w' := by
  refine (l5Base_same s w hs).mono ?_
  rintro e w' ⟨rfl, rfl⟩
  exact ⟨rfl, Below.refl _ _⟩
end Go.Proofs.YtcdmjckkencgoaaGreatDoor
end

section
namespace Go.Proofs.YtcdmjckkencgoaaGreatDoor
open Go.RowKit

theorem encB_len (s : ByteArray) (h : s.size ≤ 300) : (b64 s.data.toList).length ≤ 400 := by rw [b64_len, size_list]; omega
end Go.Proofs.YtcdmjckkencgoaaGreatDoor
end
