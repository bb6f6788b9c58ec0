/-
  The law of chapter 10 on how many lines a mail is spoken in: its walk. For every input of the law: it returns true, and the input reads as it did. Conditions: none but the statement's own.
-/
import Derived.Test.YtdddmclhafbfoaaDoorDrMaw
import Derived.Test.YtdddmclhafbfoaaDoorLaw0
import Derived.Test.YtdddmclhafbfoaaDoorSpk
import Derived.Test.YtdddmclhafbfoaaDoorSpkS
namespace Go.Proofs.YtdddmclhafbfoaaDoor
open Go.ChangeShapes Go.WideShapes Go.ChangeAt Go.RowKit
open Go.ChangeMaps (open_string shut_string)

theorem speakM_facts {m : Ml} {xs : List (List UInt8)} (h : speakM m = some xs) : isMail m = true ∧ xs.length = 3 + m.to.length + m.lines.length ∧ (∀ hl : xs.length - 1 < xs.length, xs[xs.length - 1] = [46]) ∧ 0 < xs.length ∧ xs.length ≤ 50 := by
  unfold speakM at h
  split at h
  · rename_i h'
    rw [Bool.and_eq_true] at h'
    injection h with h
    obtain ⟨h1, _, h3⟩ := isMail_iff.1 h'.1
    obtain ⟨_, h4, _⟩ := isDraft_iff.1 h1
    have hl : xs.length = 3 + m.to.length + m.lines.length := by rw [← h]; unfold speakL; simp; omega
    refine ⟨h'.1, hl, fun hh => ?_, by omega, by omega⟩
    subst h
    simp
  · cases h
theorem rdL_at {w : World} {a : Option Addr} {n : Nat} {xs : List (List UInt8)} (h : RdL w a n xs) (k : Nat) (hk : k < xs.length) (x : List UInt8) (hx : ∀ h : k < xs.length, xs[k] = x) : ∃ b off, a = some ⟨b, off, none⟩ ∧ b < w.heap.size ∧ w.cell? ⟨b, off + k, none⟩ = some (.string (str x)) := by
  rcases h.2 with e | ⟨b, off, e, hl, hc⟩
  · have := h.1; omega
  · exact ⟨b, off, e, hl, by rw [hc k hk, hx hk]⟩
set_option maxRecDepth 100000 in
set_option maxHeartbeats 4000000 in
theorem fnSpeakSize_walk (a : Option Addr) (n c : Nat) (w : World) (en : Env w) (hc : Code w a n) (hnc : n ≤ c) (hm : c ≤ maxLen) :
    Calls Tryd.prog 6 #[.slice a n c] w fun e w' => e = .returned (.bool true) ∧ Below w.heap.size w w' := by
  have hm' := hm
  unfold maxLen at hm'
  by_cases hn : 1048576 < n
  · have hd : decide ((1048576 : Int) < n) = true := by simp; omega
    go_enter Tryd.func6, Tryd.ntmps6
    go_wp2
    go_ret
    exact ⟨rfl, Below.refl _ _⟩
  · have hd : decide ((1048576 : Int) < n) = false := by simp; omega
    go_enter Tryd.func6, Tryd.ntmps6
    go_wp2_with fail
    refine (drawSpeakMail_any a n c w hc hnc hm).mono ?_
    rintro e w1 ⟨s, a1, n1, c1, b1, k1, d1, m, rfl, hv, hb1⟩
    have hA1 : Below w1.heap.size w1 (w1.alloc (.cells #[.string s, .slice a1 n1 c1, .slice b1 k1 d1] 25)) := (Below.refl _ _).alloc (Nat.le_refl _) _
    have HK1 := Lib.hid (MK3.new w1 (.string s) (.slice a1 n1 c1) (.slice b1 k1 d1) 25)
    have HV1 := Lib.hid (hv.below hA1)
    have hbA := nx hb1 hA1
    have HEN := Lib.hid (en.below hbA)
    have HN : Hid (n1 = m.to.length ∧ k1 = m.lines.length) := ⟨hv.2.1, hv.2.2.1⟩
    have HSZ : Hid (SmallM 50 m) := hv.2.2.2.2.2
    clear hv hb1 hA1 hc en
    have HMV : Hid (∀ u, Below (w1.alloc (.cells #[.string s, .slice a1 n1 c1, .slice b1 k1 d1] 25)).heap.size (w1.alloc (.cells #[.string s, .slice a1 n1 c1, .slice b1 k1 d1] 25)) u → Calls Tryd.prog 8 #[.agg #[.string s, .slice a1 n1 c1, .slice b1 k1 d1]] u fun e w' => e = .returned (.bool (isMail m)) ∧ Below u.heap.size u w') := fun u hu => (HV1.out.below hu).calls [] (fun x hx hr => hx ▸ mailValid_any 50 x u (HEN.out.below hu) hr (by omega))
    have HSP : Hid (∀ u, Below (w1.alloc (.cells #[.string s, .slice a1 n1 c1, .slice b1 k1 d1] 25)).heap.size (w1.alloc (.cells #[.string s, .slice a1 n1 c1, .slice b1 k1 d1] 25)) u → Calls Tryd.prog 9 #[.agg #[.string s, .slice a1 n1 c1, .slice b1 k1 d1]] u (SpkRet (speakM m) u)) := fun u hu => (HV1.out.below hu).calls [] (fun x hx hr => hx ▸ speakMail_any 50 x u (HEN.out.below hu) hr (by omega))
    have HSPS : Hid (∀ u, Below (w1.alloc (.cells #[.string s, .slice a1 n1 c1, .slice b1 k1 d1] 25)).heap.size (w1.alloc (.cells #[.string s, .slice a1 n1 c1, .slice b1 k1 d1] 25)) u → Calls Tryd.prog 19 #[.agg #[.string s, .slice a1 n1 c1, .slice b1 k1 d1]] u (SpkRet (speakM m) u)) := fun u hu => (HV1.out.below hu).calls [] (fun x hx hr => hx ▸ speakMailS_any 50 x u hr (by omega))
    have HK := Lib.hid (fun u hu => HK1.out.below (w' := u) hu)
    go_wp2_with fail
    generalize w1.alloc (.cells #[.string s, .slice a1 n1 c1, .slice b1 k1 d1] 25) = W1 at *
    obtain ⟨y0, y1, y2⟩ := HK.out _ (Below.refl _ _)
    refine (HSP.out _ (Below.refl _ _)).mono ?_
    rintro e w2 ⟨v2, rfl, ho2, hb2⟩
    have HO2 := Lib.hid ho2
    clear ho2 y0 y1 y2
    obtain ⟨y0, y1, y2⟩ := HK.out _ hb2
    obtain ⟨a2, c2, rfl, _, _, _⟩ := HO2.out.readc
    have HR2 := Lib.hid HO2.out.rdc
    cases ho : speakM m with
    | none =>
      rw [ho] at HSPS HO2 HR2
      clear ho
      go_wp2_with fail
      refine (HSPS.out _ hb2).mono ?_
      rintro e w3 ⟨v3, rfl, ho3, hb3⟩
      obtain ⟨a3, c3, rfl, _, _, _⟩ := ho3.readc
      have HR3 := Lib.hid ho3.rdc
      have HMT : Hid (∀ u, Below w3.heap.size w3 u → Calls Tryd.prog 20 #[.slice a2 0 c2, .slice a3 0 c3] u fun e w' => e = .returned (.bool true) ∧ Below u.heap.size u w') := fun u hu => mwTexts_any a2 a3 0 c2 0 c3 [] [] u ((HR2.out.below hb3).below hu).1 (HR3.out.below hu).1 (by unfold maxLen; omega) (by unfold maxLen; omega)
      have hbx := nx hbA (nx hb2 hb3)
      clear ho3
      go_wp2_with fail
      refine (HMT.out _ (Below.refl _ _)).mono ?_
      rintro e w4 ⟨rfl, hb4⟩
      go_wp2_with fail
      refine (HMT.out _ hb4).mono ?_
      rintro e w5 ⟨rfl, hb5⟩
      go_wp2
      go_ret
      exact ⟨rfl, nx hbx (nx hb4 hb5)⟩
    | some xs =>
      obtain ⟨hmv, hlen, hlast, hpos, h50⟩ := speakM_facts ho
      rw [ho] at HSPS HO2 HR2
      rw [hmv] at HMV
      clear ho hmv
      have HR2' : Hid (RdC w2 a2 c2 xs) := HR2.out
      have HLAST := Lib.hid hlast
      have hlen2 : (xs.length : Int) = 3 + (n1 : Int) + (k1 : Int) := by have := HN.out; omega
      clear hlast HR2 HO2 hlen
      go_wp2_with fail
      refine (HSPS.out _ hb2).mono ?_
      rintro e w3 ⟨v3, rfl, ho3, hb3⟩
      obtain ⟨a3, c3, rfl, _, _, _⟩ := ho3.readc
      have HR3 : Hid (RdC w3 a3 c3 xs) := ho3.rdc
      have HMT : Hid (∀ u, Below w3.heap.size w3 u → Calls Tryd.prog 20 #[.slice a2 xs.length c2, .slice a3 xs.length c3] u fun e w' => e = .returned (.bool true) ∧ Below u.heap.size u w') := fun u hu => by
        have := mwTexts_any a2 a3 xs.length c2 xs.length c3 xs xs u ((HR2'.out.below hb3).below hu).1 (HR3.out.below hu).1 (by unfold maxLen; omega) (by unfold maxLen; omega)
        rw [decide_eq_true (rfl : xs = xs)] at this; exact this
      have hb13 := nx hb2 hb3
      have hbx := nx hbA hb13
      clear ho3
      have hvv : ∀ (zs : List (List UInt8)), zs = xs → (some zs).getD [] = xs := fun zs h => h
      go_wp2_with fail
      refine (HMT.out _ (Below.refl _ _)).mono ?_
      rintro e w4 ⟨rfl, hb4⟩
      have hb14 := nx hb13 hb4
      clear y0 y1 y2
      obtain ⟨y0, y1, y2⟩ := HK.out _ hb14
      obtain ⟨b9, o9, he9, hl9, hc9⟩ := rdL_at ((HR2'.out.below hb3).below hb4).1 (xs.length - 1) (by omega) [46] HLAST.out
      subst he9
      have hc9' : w4.cell? ⟨b9, o9 + (xs.length - 1), none⟩ = some (.string (ByteArray.mk #[46])) := hc9
      have heq : ((xs.length : Int) == 3 + (n1 : Int) + (k1 : Int)) = true := by rw [beq_iff_eq]; exact hlen2
      clear hc9 HLAST HR2' HR3 HMT HSPS HSP hvv hlen2
      have hzn : n1 ≤ 50 ∧ k1 ≤ 50 := ⟨HN.out.1 ▸ HSZ.out.2.1, HN.out.2 ▸ HSZ.out.2.2.2.1⟩
      obtain ⟨hzn, hzk⟩ := hzn
      generalize xs.length = MM at *
      have hi1 : (0 : Int) ≤ (MM : Int) - 1 := by omega
      have hi2 : (MM : Int) - 1 < (MM : Int) := by omega
      have hi3 : ((MM : Int) - 1).toNat = MM - 1 := by omega
      go_wp2_with fail
      refine (HMV.out _ hb14).mono ?_
      rintro e w5 ⟨rfl, hb5⟩
      go_wp2
      go_ret
      exact ⟨rfl, nx hbx (nx hb4 hb5)⟩
end Go.Proofs.YtdddmclhafbfoaaDoor
