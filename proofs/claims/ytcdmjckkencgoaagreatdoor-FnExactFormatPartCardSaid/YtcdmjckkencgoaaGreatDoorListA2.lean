/-
  Lists of addresses, read: what the program's functions return. No statement is proved here.
-/
import Derived.Test.YtcdmjckkencgoaaGreatDoorListA
import Derived.Test.YtcdmjckkencgoaaGreatDoorSplit
namespace Go.Proofs.YtcdmjckkencgoaaGreatDoor
open Go.RowKit

theorem partsU_small (c : UInt8) : ∀ (n : Nat) (l : List UInt8), l.length ≤ n → (partsU c l).length ≤ l.length + 1 ∧ ∀ p ∈ partsU c l, p.length ≤ l.length
  | n, l, hn => by
    cases h : cutU c l with
    | none => rw [partsU_none h]; simp
    | some y =>
      obtain ⟨p, r⟩ := y
      have hb := cutU_bound h
      match n, hn with
      | 0, hn => omega
      | n + 1, hn =>
        obtain ⟨h1, h2⟩ := partsU_small c n r (by omega)
        rw [partsU_some h]
        refine ⟨by simp; omega, fun q hq => ?_⟩
        rcases List.mem_cons.1 hq with e | hq
        · subst e; omega
        · have := h2 q hq; omega
/-- What is still to be cut: the rest, where there is more. -/
def restU (c : UInt8) (more : Bool) (p r : List UInt8) : List (List UInt8) := if more then p :: partsU c r else [p]
theorem restU_cut {c : UInt8} {l a d : List UInt8} (h : cutU c l = some (a, d)) : partsU c l = restU c true a d := by rw [partsU_some h]; rfl
theorem restU_last {c : UInt8} {l : List UInt8} (h : cutU c l = none) (d : List UInt8) : partsU c l = restU c false l d := by rw [partsU_none h]; rfl
def CutVal (s : ByteArray) (c : UInt8) (w : World) (e : Ending) (w' : World) : Prop := ∃ (p r : List UInt8) (more : Bool), e = .returned (.tuple #[.string (str p), .string (str r), .bool more]) ∧ partsU c s.data.toList = restU c more p r ∧ p.length ≤ s.size ∧ r.length ≤ s.size ∧ (more = true → r.length < s.size) ∧ Below w.heap.size w w'
theorem cutVal_of {s : ByteArray} {c : UInt8} {w : World} {e : Ending} {w' : World} (h : CutRet s c w e w') : CutVal s c w e w' := by
  obtain ⟨h1, h2, h3⟩ := h
  cases hc : cutU c s.data.toList with
  | none =>
    refine ⟨s.data.toList, [], false, ?_, restU_last hc [], by rw [size_list]; exact Nat.le_refl _, by simp, (fun h => by cases h), h3⟩
    rw [h2 hc, str_of]; rfl
  | some y =>
    obtain ⟨a, d⟩ := y
    have hb := cutU_bound hc
    rw [size_list] at hb
    exact ⟨a, d, true, h1 a d hc, restU_cut hc, by omega, by omega, fun _ => by omega, h3⟩
set_option maxRecDepth 100000 in
set_option maxHeartbeats 1000000 in
theorem splitUnquoted_any (s : ByteArray) (c : UInt8) (w : World) (hc34 : (34 : UInt8) ≠ c) (hs : s.size ≤ 1073741000) :
    Calls Tryz.prog 132 #[.string s, .int .u8 c.toNat] w fun e w' => ∃ v, e = .returned v ∧ OwnL w.heap.size v (partsU c s.data.toList) w' ∧ Below w.heap.size w w' := by
  obtain ⟨i0, hi, hz0, hz1, hz2⟩ := info_parts sInfo
  go_enter Tryz.func132, Tryz.ntmps132
  go_wp2_with fail
  refine (cutUnquoted_any s c _ hc34 (by omega)).mono ?_
  intro e w1 hret
  obtain ⟨p0, r0, m0, rfl, hp0, hpl0, hrl0, hml0, hb1⟩ := cutVal_of hret
  have HP0 := Lib.hid hp0
  clear hp0 hret
  have hsz1 := hb1.size
  go_wp2_with fail
  go_loopw [5, 6, 7, 8] (fun v p r m wr => ∃ (acc : List (List UInt8)) (pl rl : List UInt8) (mb : Bool), p = .string (str pl) ∧ r = .string (str rl) ∧ m = .bool mb ∧ partsU c s.data.toList = acc ++ restU c mb pl rl ∧ OwnL w.heap.size v acc wr ∧ acc.length + rl.length ≤ s.size + 1 ∧ acc.length ≤ s.size ∧ rl.length ≤ s.size ∧ pl.length ≤ s.size ∧ (mb = true → acc.length + rl.length + 1 ≤ s.size) ∧ Below w.heap.size w wr) (fun _ _ r m _ => match m with | .bool true => Lib.strSize r + 1 | _ => 0)
  case atStart => exact ⟨[], p0, r0, m0, rfl, rfl, rfl, by rw [HP0.out]; rfl, OwnL.nil _ _, by simp; omega, by simp, hrl0, hpl0, (fun h => by have := hml0 h; simp; omega), hb1⟩
  case round =>
    obtain ⟨acc, pl, rl, mb, rfl, rfl, rfl, hg, hown, hal, hal2, hrl, hpl, hml, hb⟩ := hrel
    have HG := Lib.hid hg
    clear hg
    have hown1 := hown
    unfold OwnL at hown1
    have hbs := hb.size
    have hpz := str_size pl
    cases mb
    · have HE : Hid (partsU c s.data.toList = acc ++ [(str pl).data.toList]) := by show _ = _; rw [HG.out, str_list]; rfl
      have hpz' : (str pl).size ≤ 1073741824 := by omega
      clear hpz hml
      generalize str pl = px at *
      go_wp2_with (at_builtin; refine wpList_append_own _ rfl _ _ 23 rfl w.heap.size 9 i0 (.string ⟨#[]⟩) 1 16 Tryz.underlying23 hi hz0 hz1 hz2 rfl (by decide) _ _ _ rfl (hown1.alloc _) ⟨wr.heap.size, 0, none⟩ 1 1 [.string px] rfl rfl ?q1 ?q2 ?q3 ?q4 ?q5 ?_)
      case q1 =>
        intro u v hj
        match u, hj with
        | 0, hj => simp at hj; subst hj; simp [Addr.add]
      case q2 => intro u hu; simp at hu; subst hu; rfl
      case q3 => unfold maxLen; omega
      case q4 => omega
      case q5 => simp; omega
      intro v' w3 hown' hgrow _
      have hO3 := own_snoc hown'
      have hb3 : Below w.heap.size wr w3 := ((Below.refl _ _).alloc (by omega) _).grown hgrow (by simp; omega) (fun k hk => (hown1.lt k hk).1)
      go_wp2
      go_ret
      exact ⟨v', rfl, by rw [HE.out]; exact hO3, hb.trans hb3⟩
    · have hml' := hml rfl
      have HPL := Lib.hid (str_list pl)
      have HG2 : Hid (partsU c s.data.toList = (acc ++ [(str pl).data.toList]) ++ partsU c (str rl).data.toList) := by show _ = _; rw [HG.out, str_list, str_list]; simp [restU]
      have hpz' : (str pl).size ≤ 1073741824 := by omega
      have hrz := str_size rl
      have hrz' : (str rl).size ≤ 1073741824 := by omega
      have hrz2 : acc.length + (str rl).size + 1 ≤ s.size := by omega
      have HMS : Hid (Lib.strSize (.string (str rl)) = (str rl).size) := rfl
      clear hpz hml hrz
      generalize str pl = px at *
      generalize str rl = rx at *
      go_wp2_with (at_builtin; refine wpList_append_own _ rfl _ _ 23 rfl w.heap.size 9 i0 (.string ⟨#[]⟩) 1 16 Tryz.underlying23 hi hz0 hz1 hz2 rfl (by decide) _ _ _ rfl (hown1.alloc _) ⟨wr.heap.size, 0, none⟩ 1 1 [.string px] rfl rfl ?c1 ?c2 ?c3 ?c4 ?c5 ?_)
      case c1 =>
        intro u v hj
        match u, hj with
        | 0, hj => simp at hj; subst hj; simp [Addr.add]
      case c2 => intro u hu; simp at hu; subst hu; rfl
      case c3 => unfold maxLen; omega
      case c4 => omega
      case c5 => simp; omega
      intro v' w3 hown' hgrow _
      have hO3 := own_snoc hown'
      have hb3 : Below w.heap.size wr w3 := ((Below.refl _ _).alloc (by omega) _).grown hgrow (by simp; omega) (fun k hk => (hown1.lt k hk).1)
      go_wp2_with fail
      refine (cutUnquoted_any rx c _ hc34 (by omega)).mono ?_
      intro e w4 hret
      obtain ⟨p1, r1, m1, rfl, hp1, hpl1, hrl1, hml1, hb4⟩ := cutVal_of hret
      have HN : Hid (partsU c s.data.toList = (acc ++ [px.data.toList]) ++ restU c m1 p1 r1) := by show _ = _; rw [HG2.out, hp1]
      clear hp1 hret
      have hO4 := hO3.keep hb4
      have hb34 := nx (hb.trans hb3) hb4
      go_wp2
      go_roundw
      case rel => exact ⟨_, p1, r1, m1, rfl, rfl, rfl, HN.out, hO4, by simp; omega, by simp; omega, by omega, by omega, (fun h => by have := hml1 h; simp; omega), hb34⟩
      case measure =>
        cases m1
        · simp
        · have := hml1 rfl
          show Lib.strSize (.string (str r1)) + 1 < Lib.strSize (.string rx) + 1
          rw [Lib.strSize_string, Lib.strSize_string, str_size]; omega
end Go.Proofs.YtcdmjckkencgoaaGreatDoor
