/-
  Several texts in one. No statement is proved here.
-/
import Derived.Test.YtcdmjckkencgoaaGreatDoorPart
import Derived.Test.YtcdmjckkencgoaaGreatDoorKindI
import Derived.Test.YtcdmjckkencgoaaGreatDoorKindV
import Derived.Test.YtcdmjckkencgoaaGreatDoorKindN
import Derived.Test.YtcdmjckkencgoaaGreatDoorFldV
import Derived.Test.YtcdmjckkencgoaaGreatDoorSplit
import Derived.Test.YtcdmjckkencgoaaGreatDoorOnly
import Derived.Test.YtcdmjckkencgoaaGreatDoorWords
import Derived.Deep.QuietTactic
import Derived.BigQuiet
import Derived.WalkSmall
import Derived.Deep.RegionWith
import Derived.IntWalk
import Derived.Test.YtcdmjckkencgoaaGreatDoorRead
import Derived.Test.YtcdmjckkencgoaaGreatDoorCards
import Derived.Test.YtcdmjckkencgoaaGreatDoorTie
import Derived.Test.YtcdmjckkencgoaaGreatDoorAtoms
import Derived.Deep.DeepHandedRow
import Derived.Lib.LaidTab
import Derived.Deep.DeepLaidRun
import Derived.ProofKit
import Derived.OpenShut
import Derived.ShutString
import Derived.ChangeOld
import Derived.Lib.SmallJoins
import Derived.Deep.RegionHeld3
import Derived.Deep.Slices
import Derived.Deep.Fields
import Derived.ChangeSame
import Derived.SliceStrings
import Derived.Test.YtcdmjckkencgoaaGreatDoorFld
import Derived.Test.YtcdmjckkencgoaaGreatDoorRowL
import Derived.Lib.Join
import Derived.Test.YtcdmjckkencgoaaGreatDoorKindM
import Derived.Test.YtcdmjckkencgoaaGreatDoorRows2
import Derived.Test.YtcdmjckkencgoaaGreatDoorAdrV
import Derived.Laws.AppendOwn
import Derived.Laws.OwnMore
import Derived.Laws.AppendOwnNone
import Derived.Test.YtcdmjckkencgoaaGreatDoorQuietB
section
namespace Go.Proofs.YtcdmjckkencgoaaGreatDoor
open Go.RowKit

set_option maxRecDepth 100000 in
set_option maxHeartbeats 2000000 in
theorem l7Boundary_any (s : ByteArray) (w : World) (hs : s.size ≤ 1073741824) :
    Calls Tryz.prog 86 #[.string s] w fun e w' => e = .returned (.bool (isBnd s.data.toList)) ∧ w = w' := by
  go_enter Tryz.func86, Tryz.ntmps86
  go_wp2_with fail
  go_loop [3] (fun i => ∃ k : Nat, k ≤ s.size ∧ i = .int .i64 k ∧ ∀ j, (h : j < k) → (h' : j < s.size) → alnumB s[j] = true) (fun i => s.size - (intOf i).toNat)
  case atStart => exact ⟨0, Nat.zero_le _, rfl, fun j h => by omega⟩
  case round =>
    obtain ⟨k, hk, rfl, hall⟩ := hrel
    have H := Lib.hid hall
    clear hall
    by_cases hlt : k < s.size
    · by_cases h20 : k ≤ 20
      · have d0 : decide ((k : Int) ≤ 20) = true := by simp; omega
        cases h1 : alnumB s[k]
        · have HN := Lib.hid (isBnd_bad s k hlt h1)
          have H1 := Lib.hid h1
          clear h1
          go_wp2_with fail
          refine (l1Letter_any _ _).mono ?_
          rintro e w1 ⟨rfl, rfl⟩
          rw [H1.out]
          go_wp2
          go_ret
          exact ⟨ret_bool HN.out.symm, rfl⟩
        · have H1 := Lib.hid h1
          clear h1
          go_wp2_with fail
          refine (l1Letter_any _ _).mono ?_
          rintro e w1 ⟨rfl, rfl⟩
          rw [H1.out]
          go_wp2
          go_round
          case rel => exact ⟨k + 1, by omega, by go_num, fun j h h' => by
            by_cases e : j = k
            · subst e; exact H1.out
            · exact H.out j (by omega) h'⟩
          case measure => simp [intOf]; omega
      · have d0 : decide ((k : Int) ≤ 20) = false := by simp; omega
        have HN := Lib.hid (isBnd_len s (.inr (by omega)))
        have d1 : decide ((1 : Int) ≤ (s.size : Int)) = true := by simp; omega
        have d2 : decide ((s.size : Int) ≤ 20) = false := by simp; omega
        go_wp2
        go_ret
        exact ⟨ret_bool HN.out.symm, rfl⟩
    · by_cases h0 : s.size = 0
      · have HN := Lib.hid (isBnd_len s (.inl (by omega)))
        have d1 : decide ((1 : Int) ≤ (s.size : Int)) = false := by simp; omega
        go_wp2
        go_ret
        exact ⟨ret_bool HN.out.symm, rfl⟩
      · have d1 : decide ((1 : Int) ≤ (s.size : Int)) = true := by simp; omega
        by_cases h20 : s.size ≤ 20
        · have HN := Lib.hid (isBnd_good s (by omega) h20 (fun j h' => H.out j (by omega) h'))
          have d2 : decide ((s.size : Int) ≤ 20) = true := by simp; omega
          go_wp2
          go_ret
          exact ⟨ret_bool HN.out.symm, rfl⟩
        · have HN := Lib.hid (isBnd_len s (.inr (by omega)))
          have d2 : decide ((s.size : Int) ≤ 20) = false := by simp; omega
          go_wp2
          go_ret
          exact ⟨ret_bool HN.out.symm, rfl⟩
set_option maxRecDepth 100000 in
set_option maxHeartbeats 400000 in
theorem l7Looks_any (x : List UInt8) (s : ByteArray) (w : World) (hs : s.size ≤ 1000000) :
    Calls Tryz.prog 82 #[.string (str x), .string s] w fun e w' => e = .returned (.bool (looksB s.data.toList x)) ∧ w = w' := by
  have HB := Lib.hid (beg_str s)
  have HB2 : Hid ((⟨#[45, 45]⟩ : ByteArray) ++ s ++ ⟨#[45, 45]⟩ = str (endL s.data.toList)) := by show _ = _; rw [HB.out]; exact end_str s
  have z2 : (⟨#[45, 45]⟩ : ByteArray).size = 2 := rfl
  by_cases h1 : x = begL s.data.toList
  · have e1 : ((str x).toList == ((⟨#[45, 45]⟩ : ByteArray) ++ s).toList) = true := by rw [beq_dec, decide_eq_true_iff, HB.out, h1]
    have HL : Hid (looksB s.data.toList x = true) := by show _ = _; unfold looksB; simp [h1]
    clear h1
    generalize str x = X at *
    go_enter Tryz.func82, Tryz.ntmps82
    go_wp2
    go_ret
    exact ⟨ret_bool HL.out.symm, rfl⟩
  · have e1 : ((str x).toList == ((⟨#[45, 45]⟩ : ByteArray) ++ s).toList) = false := by rw [HB.out]; exact sb_f rfl h1
    by_cases h2 : x = endL s.data.toList
    · have e2 : ((str x).toList == ((⟨#[45, 45]⟩ : ByteArray) ++ s ++ ⟨#[45, 45]⟩).toList) = true := by rw [beq_dec, decide_eq_true_iff, HB2.out, h2]
      have HL : Hid (looksB s.data.toList x = true) := by show _ = _; unfold looksB; simp [h2]
      clear h1 h2
      generalize str x = X at *
      go_enter Tryz.func82, Tryz.ntmps82
      go_wp2
      go_ret
      exact ⟨ret_bool HL.out.symm, rfl⟩
    · have e2 : ((str x).toList == ((⟨#[45, 45]⟩ : ByteArray) ++ s ++ ⟨#[45, 45]⟩).toList) = false := by rw [HB2.out]; exact sb_f rfl h2
      have HL : Hid (looksB s.data.toList x = false) := by show _ = _; unfold looksB; simp [h1, h2]
      clear h1 h2
      generalize str x = X at *
      go_enter Tryz.func82, Tryz.ntmps82
      go_wp2
      go_ret
      exact ⟨ret_bool HL.out.symm, rfl⟩
theorem partsRet_noneE {o : Option (List (List (List UInt8)))} {w w' : World} (h : o = none) (hb : Below w.heap.size w w') : PartsRet o w (.returned (.tuple #[.slice (some ⟨w'.heap.size, 0, none⟩) 0 0, .bool false])) (w'.alloc (.cells #[] 23)) := by
  subst h; exact ⟨_, [], rfl, (OwnSS.empty w').base hb.size, hb.alloc hb.size _⟩
def openP (op : Bool) (qs : List (List (List UInt8))) (cur : List (List UInt8)) : List (List (List UInt8)) := if op then qs ++ [cur] else []
set_option maxRecDepth 100000 in
set_option maxHeartbeats 8000000 in
theorem l7RawSplitParts_any (a : Option Addr) (n c : Nat) (xs : List (List UInt8)) (s : ByteArray) (w : World) (hr : RdL w a n xs) (hn : n ≤ 1048576) (hs : s.size ≤ 1073741824) :
    Calls Tryz.prog 126 #[.slice a n c, .string s] w (PartsRet (splitP xs s.data.toList) w) := by
  obtain ⟨hl, hr2⟩ := hr
  have HLEN := Lib.hid hl
  have HR := Lib.hid hr2
  clear hl hr2
  have hbA : Below w.heap.size w (w.alloc (.cells #[] 23)) := (Below.refl _ _).alloc (Nat.le_refl _) _
  have hbA2 : Below w.heap.size w ((w.alloc (.cells #[] 23)).alloc (.cells #[] 9)) := hbA.alloc hbA.size _
  cases hv : isBnd s.data.toList
  · have HP := Lib.hid (splitP_no (ls := xs) hv)
    have HL : Hid (∀ u, Calls Tryz.prog 86 #[.string s] u fun e w' => e = .returned (.bool false) ∧ u = w') := fun u => by have := l7Boundary_any s u hs; rw [hv] at this; exact this
    clear hv
    go_enter Tryz.func126, Tryz.ntmps126
    go_wp2_with fail
    go_loopw [6, 7, 8, 9] (fun _ _ _ i wr => i = .int .i64 0 ∧ Below w.heap.size w wr) (fun _ _ _ _ _ => 0)
    case atStart => exact ⟨rfl, hbA2⟩
    case round =>
      obtain ⟨rfl, hb⟩ := hrel
      by_cases h0 : n = 0
      · subst h0
        go_wp2
        go_ret2
        exact partsRet_noneE HP.out hb
      · have h1 : (0 : Int) < (n : Int) := by omega
        go_wp2_with fail
        refine (HL.out _).mono ?_
        rintro e w1 ⟨rfl, rfl⟩
        go_wp2
        go_ret2
        exact partsRet_noneE HP.out hb
  · have HP := Lib.hid (splitP_yes (ls := xs) hv)
    have hz := bnd_size hv
    have HL : Hid (∀ u, Calls Tryz.prog 86 #[.string s] u fun e w' => e = .returned (.bool true) ∧ u = w') := fun u => by have := l7Boundary_any s u hs; rw [hv] at this; exact this
    have HB := Lib.hid (beg_str s)
    have HB2 : Hid ((⟨#[45, 45]⟩ : ByteArray) ++ s ++ ⟨#[45, 45]⟩ = str (endL s.data.toList)) := by show _ = _; rw [HB.out]; exact end_str s
    have z2 : (⟨#[45, 45]⟩ : ByteArray).size = 2 := rfl
    have HST : Hid (SplitSt w.heap.size (.slice (some ⟨w.heap.size, 0, none⟩) 0 0) (.slice (some ⟨w.heap.size + 1, 0, none⟩) 0 0) [] [] [] ((w.alloc (.cells #[] 23)).alloc (.cells #[] 9))) := by
      show SplitSt _ _ _ _ _ _ _
      have := SplitSt.fresh (OwnSS.empty w) hbA.size
      simpa using this
    clear hv
    go_enter Tryz.func126, Tryz.ntmps126
    go_wp2_with fail
    go_loopw [6, 7, 8, 9] (fun v u o i wr => ∃ (k : Nat) (us : List Value) (qs : List (List (List UInt8))) (cur : List (List UInt8)) (op : Bool), k ≤ n ∧ i = .int .i64 k ∧ o = .bool op ∧ qs.length ≤ k ∧ cur.length ≤ k ∧ goesP s.data.toList xs k (openP op qs cur) ∧ (op = false → qs = [] ∧ us = []) ∧ SplitSt w.heap.size v u us qs cur wr ∧ Below w.heap.size w wr) (fun _ _ _ i _ => n - (intOf i).toNat)
    case atStart => exact ⟨0, [], [], [], false, Nat.zero_le _, rfl, rfl, Nat.le_refl _, Nat.le_refl _, goesP_start _ _, (fun _ => ⟨rfl, rfl⟩), HST.out, hbA2⟩
    case round =>
      obtain ⟨k, us, qs, cur, op, hk, rfl, rfl, hql, hcl, hg, hop, hst, hb⟩ := hrel
      have HG := Lib.hid hg
      have HOP := Lib.hid hop
      have HS := Lib.hid hst
      have hbs := hb.size
      clear hg hop hst
      obtain ⟨a3, c3, rfl, _, _, _, _⟩ := HS.out.out.read
      obtain ⟨a4, c4, rfl, _, _, _, _⟩ := HS.out.part.readc
      by_cases hlt : k < n
      · have hkx : k < xs.length := by rw [HLEN.out]; exact hlt
        obtain ⟨b, off, rfl, hbl, hcell⟩ := HR.out.resolve_left (by omega)
        have q0 : wr.cell? ⟨b, off + k, none⟩ = some (.string (str xs[k])) := by rw [below_at hb hbl]; exact hcell k hkx
        clear hcell
        by_cases h1 : xs[k] = begL s.data.toList
        · have HN := Lib.hid (goesP_beg HG.out hkx h1)
          have e1 : ((str xs[k]).toList == ((⟨#[45, 45]⟩ : ByteArray) ++ s).toList) = true := by rw [beq_dec, decide_eq_true_iff, HB.out, h1]
          clear h1
          generalize str xs[k] = X at *
          cases op
          · have HN2 : Hid (goesP s.data.toList xs (k + 1) (openP true [] [])) := HN.out
            obtain ⟨hq0, hu0⟩ := HOP.out rfl
            subst hq0 hu0
            have HF := Lib.hid (SplitSt.fresh HS.out.out hbs)
            go_wp2_with fail
            refine (HL.out _).mono ?_
            rintro e w1 ⟨rfl, rfl⟩
            go_wp2
            go_roundw
            case rel => exact ⟨k + 1, [], [], [], true, by omega, by go_num, rfl, Nat.zero_le _, Nat.zero_le _, HN2.out, (fun h => by cases h), HF.out, hb.alloc hbs _⟩
            case measure => simp [intOf]; omega
          · have HN2 : Hid (goesP s.data.toList xs (k + 1) (openP true (qs ++ [cur]) [])) := HN.out
            go_wp2_with fail
            refine (HL.out _).mono ?_
            rintro e w1 ⟨rfl, rfl⟩
            have HA : Hid (SplitSt w.heap.size (.slice a3 qs.length c3) (.slice a4 cur.length c4) us qs cur (wr.alloc (.cells #[.slice a4 cur.length c4] 23))) := HS.out.keep ((Below.refl _ _).alloc (Nat.le_refl _) _)
            go_wp2_with (at_builtin; refine wpList_append_SS rfl _ _ rfl w.heap.size _ (.slice a4 cur.length c4) us qs cur wr.heap.size rfl rfl ?c1 rfl HA.out.out HA.out.part HA.out.off HA.out.apart ?c2 ?c3 ?_)
            case c1 => rw [World.cell?_alloc_at _ _ _ _ rfl]; rfl
            case c2 => simp; omega
            case c3 => omega
            intro v' w3 hO3 hgr _
            have hb3 : Below w.heap.size w w3 := (hb.alloc hbs _).grown hgr (by simp; omega) (fun g hg => (HA.out.out.lt.1 g hg).1)
            have HF := Lib.hid (SplitSt.fresh hO3 hb3.size)
            go_wp2
            go_roundw
            case rel => exact ⟨k + 1, us ++ [.slice a4 cur.length c4], qs ++ [cur], [], true, by omega, by go_num, rfl, by simp; omega, Nat.zero_le _, HN2.out, (fun h => by cases h), HF.out, hb3.alloc hb3.size _⟩
            case measure => simp [intOf]; omega
        · have e1 : ((str xs[k]).toList == ((⟨#[45, 45]⟩ : ByteArray) ++ s).toList) = false := by rw [HB.out]; exact sb_f rfl h1
          cases op
          · have HN2 : Hid (goesP s.data.toList xs (k + 1) (openP false qs cur)) := goesP_skip HG.out hkx h1
            clear h1
            by_cases h2 : xs[k] = endL s.data.toList
            · have e2 : ((str xs[k]).toList == ((⟨#[45, 45]⟩ : ByteArray) ++ s ++ ⟨#[45, 45]⟩).toList) = true := by rw [beq_dec, decide_eq_true_iff, HB2.out, h2]
              clear h2
              generalize str xs[k] = X at *
              go_wp2_with fail
              refine (HL.out _).mono ?_
              rintro e w1 ⟨rfl, rfl⟩
              go_wp2
              go_roundw
              case rel => exact ⟨k + 1, us, qs, cur, false, by omega, by go_num, rfl, by omega, by omega, HN2.out, (fun _ => HOP.out (by simp)), HS.out, hb⟩
              case measure => simp [intOf]; omega
            · have e2 : ((str xs[k]).toList == ((⟨#[45, 45]⟩ : ByteArray) ++ s ++ ⟨#[45, 45]⟩).toList) = false := by rw [HB2.out]; exact sb_f rfl h2
              clear h2
              generalize str xs[k] = X at *
              go_wp2_with fail
              refine (HL.out _).mono ?_
              rintro e w1 ⟨rfl, rfl⟩
              go_wp2
              go_roundw
              case rel => exact ⟨k + 1, us, qs, cur, false, by omega, by go_num, rfl, by omega, by omega, HN2.out, (fun _ => HOP.out (by simp)), HS.out, hb⟩
              case measure => simp [intOf]; omega
          · by_cases h2 : xs[k] = endL s.data.toList
            · have HR2 : Hid (splitP xs s.data.toList = some (qs ++ [cur])) := HP.out.trans (goesP_end HG.out (by first | simp | (unfold openP; simp)) hkx h2)
              have e2 : ((str xs[k]).toList == ((⟨#[45, 45]⟩ : ByteArray) ++ s ++ ⟨#[45, 45]⟩).toList) = true := by rw [beq_dec, decide_eq_true_iff, HB2.out, h2]
              clear h1 h2
              generalize str xs[k] = X at *
              go_wp2_with fail
              refine (HL.out _).mono ?_
              rintro e w1 ⟨rfl, rfl⟩
              have HA : Hid (SplitSt w.heap.size (.slice a3 qs.length c3) (.slice a4 cur.length c4) us qs cur (wr.alloc (.cells #[.slice a4 cur.length c4] 23))) := HS.out.keep ((Below.refl _ _).alloc (Nat.le_refl _) _)
              go_wp2_with (at_builtin; refine wpList_append_SS rfl _ _ rfl w.heap.size _ (.slice a4 cur.length c4) us qs cur wr.heap.size rfl rfl ?c1 rfl HA.out.out HA.out.part HA.out.off HA.out.apart ?c2 ?c3 ?_)
              case c1 => rw [World.cell?_alloc_at _ _ _ _ rfl]; rfl
              case c2 => simp; omega
              case c3 => omega
              intro v' w3 hO3 hgr _
              have hb3 : Below w.heap.size w w3 := (hb.alloc hbs _).grown hgr (by simp; omega) (fun g hg => (HA.out.out.lt.1 g hg).1)
              go_wp2
              go_ret2
              exact partsRet_some HR2.out hO3 hb3
            · have HN2 : Hid (goesP s.data.toList xs (k + 1) (openP true qs (cur ++ [xs[k]]))) := goesP_line HG.out hkx h1 h2
              have e2 : ((str xs[k]).toList == ((⟨#[45, 45]⟩ : ByteArray) ++ s ++ ⟨#[45, 45]⟩).toList) = false := by rw [HB2.out]; exact sb_f rfl h2
              have HXE : Hid ((str xs[k]).data.toList = xs[k]) := str_list _
              clear h1 h2
              generalize str xs[k] = X at *
              go_wp2_with fail
              refine (HL.out _).mono ?_
              rintro e w1 ⟨rfl, rfl⟩
              have HA : Hid (SplitSt w.heap.size (.slice a3 qs.length c3) (.slice a4 cur.length c4) us qs cur (wr.alloc (.cells #[.string X] 9))) := HS.out.keep ((Below.refl _ _).alloc (Nat.le_refl _) _)
              go_wp2_with (at_builtin; refine wpList_append_1L rfl _ _ rfl w.heap.size _ cur X wr.heap.size rfl rfl ?c1 HA.out.part ?c2 ?c3 ?_)
              case c1 => rw [World.cell?_alloc_at _ _ _ _ rfl]; rfl
              case c2 => simp; omega
              case c3 => omega
              intro v' w3 hO3 hgr hat
              have hb3 : Below w.heap.size w w3 := (hb.alloc hbs _).grown hgr (by simp; omega) (fun g hg => (HA.out.part.lt g hg).1)
              have HM : Hid (SplitSt w.heap.size (.slice a3 qs.length c3) v' us qs (cur ++ [xs[k]]) w3) := by rw [← HXE.out]; exact HA.out.more hgr hO3 hat (by simp)
              clear hgr hat hO3
              go_wp2
              go_roundw
              case rel => exact ⟨k + 1, us, qs, cur ++ [xs[k]], true, by omega, by go_num, rfl, by omega, by simp; omega, HN2.out, (fun h => by cases h), HM.out, hb3⟩
              case measure => simp [intOf]; omega
      · have HR2 := Lib.hid (HP.out.trans (goesP_out HG.out (by rw [HLEN.out]; omega)))
        go_wp2
        go_ret2
        exact partsRet_noneE HR2.out hb
def ListsRet (ps : List (List (List UInt8))) (w : World) (e : Ending) (w' : World) : Prop := ∃ v us, e = .returned v ∧ OwnSS w.heap.size v us ps w' ∧ Below w.heap.size w w'
set_option maxRecDepth 100000 in
set_option maxHeartbeats 4000000 in
theorem ownLists_any (a : Option Addr) (n c : Nat) (ps : List (List (List UInt8))) (w : World) (hr : RdSS w a n ps) (hn : n ≤ 2000000) (hx : ∀ p ∈ ps, p.length ≤ 4000000) :
    Calls Tryz.prog 127 #[.slice a n c] w (ListsRet ps w) := by
  obtain ⟨hl, hr2⟩ := hr
  have HLEN := Lib.hid hl
  have HR := Lib.hid hr2
  have HX := Lib.hid hx
  clear hl hr2 hx
  have hbA : Below w.heap.size w (w.alloc (.cells #[] 23)) := (Below.refl _ _).alloc (Nat.le_refl _) _
  go_enter Tryz.func127, Tryz.ntmps127
  go_wp2_with fail
  go_loopw [3, 9] (fun v i wr => ∃ (k : Nat) (us : List Value), k ≤ n ∧ i = .int .i64 k ∧ OwnSS w.heap.size v us (ps.take k) wr ∧ Below w.heap.size w wr) (fun _ i _ => n - (intOf i).toNat)
  case atStart => exact ⟨0, [], Nat.zero_le _, rfl, OwnSS.empty w, hbA⟩
  case round =>
    obtain ⟨k, us, hk, rfl, ho, hb⟩ := hrel
    have HO := Lib.hid ho
    have hbs := hb.size
    clear ho
    by_cases hlt : k < n
    · have hkx : k < ps.length := by rw [HLEN.out]; exact hlt
      obtain ⟨b, off, rfl, hbl, hcell⟩ := HR.out.resolve_left (by omega)
      obtain ⟨a5, c5, q0, hd5, hac5, hnc5⟩ := hcell k hkx
      rw [← below_at hb hbl] at q0
      have HT := Lib.hid (List.take_succ_eq_append_getElem hkx)
      have hpk := HX.out _ (List.getElem_mem hkx)
      have hpl : (ps.take k).length ≤ 2000000 := by rw [List.length_take]; omega
      generalize ps.take k = qs at *
      generalize ps[k] = p at *
      have HD5 := Lib.hid hd5
      have HAC := Lib.hid hac5
      clear hd5 hac5 hcell
      obtain ⟨a3, c3, rfl, _, _, _, _⟩ := HO.out.read
      have HE : Hid (OwnL wr.heap.size (.slice (some ⟨wr.heap.size, 0, none⟩) 0 0) [] (wr.alloc (.cells #[] 9))) := OwnL.empty wr
      have hbE : Below w.heap.size w (wr.alloc (.cells #[] 9)) := hb.alloc hbs _
      go_wp2_with (at_builtin; refine wpList_append_RL rfl _ _ rfl wr.heap.size _ [] p a5 p.length c5 rfl rfl HE.out (HD5.out.below hbE) HAC.out ?d1 ?d2 ?_)
      case d1 => simp
      case d2 => simp; omega
      intro v5 w5 hO5 hgr5 hat5
      have hb5' : Below wr.heap.size wr w5 := ((Below.refl _ _).alloc (Nat.le_refl _) _).grown hgr5 (by simp) (fun g hg => (HE.out.lt g hg).1)
      have hb5 : Below w.heap.size w w5 := nx hb hb5'
      have hbs5 := hb5.size
      have HO5 := Lib.hid hO5
      obtain ⟨a6, c6, rfl, _, _, _, _⟩ := hO5.readc
      have hA5 : Below w5.heap.size w5 (w5.alloc (.cells #[.slice a6 p.length c6] 23)) := (Below.refl _ _).alloc (Nat.le_refl _) _
      have HOU : Hid (OwnL w.heap.size (.slice a6 p.length c6) p (w5.alloc (.cells #[.slice a6 p.length c6] 23))) := (HO5.out.keep hA5).base hbs
      have HOV : Hid (OwnSS w.heap.size (.slice a3 qs.length c3) us qs (w5.alloc (.cells #[.slice a6 p.length c6] 23))) := (HO.out.keep hb5').keep hA5
      clear hO5 hgr5 hat5
      go_wp2_with (at_builtin; refine wpList_append_SS rfl _ _ rfl w.heap.size _ (.slice a6 p.length c6) us qs p w5.heap.size rfl rfl ?c1 rfl HOV.out HOU.out ?c4 ?c5 ?c2 ?c3 ?_)
      case c1 => rw [World.cell?_alloc_at _ _ _ _ rfl]; rfl
      case c4 => exact fun g hg e => by have := (HO5.out.lt g hg).1; have := (HO.out.lt.1 g e).2; omega
      case c5 => exact fun i z g hz hg e => by have := (HO5.out.lt g hg).1; have := (HO.out.lt.2 i z g hz e).2; omega
      case c2 => simp; omega
      case c3 => omega
      intro v' w6 hO6 hgr6 _
      have hb6 : Below w.heap.size w w6 := (hb5.alloc hbs5 _).grown hgr6 (by simp; omega) (fun g hg => (HOV.out.lt.1 g hg).1)
      have HN : Hid (OwnSS w.heap.size v' (us ++ [.slice a6 p.length c6]) (ps.take (k + 1)) w6) := by show OwnSS _ _ _ _ _; rw [HT.out]; exact hO6
      clear hO6 hgr6
      go_wp2
      go_roundw
      case rel => exact ⟨k + 1, _, by omega, by go_num, HN.out, hb6⟩
      case measure => simp [intOf]; omega
    · have HT : Hid (ps.take k = ps) := by show _ = _; rw [List.take_of_length_le (by rw [HLEN.out]; omega)]
      go_wp2
      go_ret
      exact ⟨_, us, rfl, by have := HO.out; rw [HT.out] at this; exact this, hb⟩
theorem splitPartsS_any (a : Option Addr) (n c : Nat) (xs : List (List UInt8)) (s : ByteArray) (w : World) (hr : RdL w a n xs) (hn : n ≤ 1048576) (hs : s.size ≤ 1073741824) :
    Calls Tryz.prog 92 #[.slice a n c, .string s] w (PartsRet (splitP xs s.data.toList) w) := by
  have hps : sumP ((splitP xs s.data.toList).getD []) ≤ xs.length := by
    cases h : splitP xs s.data.toList with
    | none => exact Nat.zero_le _
    | some ps => have := splB_len _ _ _ (splitP_some h).2; show sumP ps ≤ _; omega
  have hxl := hr.1
  have HR := Lib.hid (fun u h => l7RawSplitParts_any a n c xs s u h hn hs)
  have HRD := Lib.hid hr
  generalize splitP xs s.data.toList = o at *
  have hlen := sumP_len (o.getD [])
  have HX : Hid (∀ p ∈ o.getD [], p.length ≤ 4000000) := fun p hp => by have := sumP_mem hp; omega
  clear hr
  go_enter Tryz.func92, Tryz.ntmps92
  go_wp2_with fail
  refine (HR.out _ HRD.out).mono ?_
  rintro e w1 ⟨v1, us1, rfl, ho1, hb1⟩
  obtain ⟨a1, c1, rfl, hd1, _, _, _⟩ := ho1.read
  have hl1 : (o.getD []).length ≤ 2000000 := by omega
  have HD1 := Lib.hid hd1
  clear hd1 ho1
  generalize hq : o.getD [] = qs at *
  have HQ := Lib.hid hq
  generalize hk : o.isSome = ok at *
  have HK := Lib.hid hk
  clear hq hk
  go_wp2_with fail
  refine (ownLists_any a1 _ c1 qs _ HD1.out hl1 HX.out).mono ?_
  rintro e w2 ⟨v2, us2, rfl, ho2, hb2⟩
  have HO2 := Lib.hid ho2
  obtain ⟨a2, c2, rfl, _, _, _, _⟩ := ho2.read
  clear ho2
  go_wp2
  go_ret2
  exact ⟨_, us2, by rw [HK.out]; rfl, by rw [HQ.out]; exact HO2.out.base hb1.size, nx hb1 hb2⟩
end Go.Proofs.YtcdmjckkencgoaaGreatDoor
end

section
namespace Go.Proofs.YtcdmjckkencgoaaGreatDoor
open Go.RowKit

def bndOf (k : Knd) : Option (List UInt8) := if isKnd k = true ∧ k.main = multiL ∧ isBnd (getR k.params bndL) = true then some (getR k.params bndL) else none
theorem bndOf_some {k : Knd} (h1 : isKnd k = true) (h2 : k.main = multiL) (h3 : isBnd (getR k.params bndL) = true) : bndOf k = some (getR k.params bndL) := if_pos ⟨h1, h2, h3⟩
theorem bndOf_no1 {k : Knd} (h1 : isKnd k = false) : bndOf k = none := if_neg fun c => by rw [h1] at c; cases c.1
theorem bndOf_no2 {k : Knd} (h : k.main ≠ multiL) : bndOf k = none := if_neg fun c => h c.2.1
theorem bndOf_no3 {k : Knd} (h : isBnd (getR k.params bndL) = false) : bndOf k = none := if_neg fun c => by rw [h] at c; cases c.2.2
theorem bndOf_no4 {k : Knd} (h : (getF k.params bndL).isSome = false) : bndOf k = none := bndOf_no3 (by
  have : getF k.params bndL = none := by simpa using h
  unfold getR; rw [this]; rfl)
theorem getR_len {xs : List Fld} {n : List UInt8} {M : Nat} (h : ∀ x ∈ xs, SmallF M x) : (getR xs n).length ≤ M := by
  rcases findN_cases xs n with ⟨hq, hall⟩ | ⟨i, hi, hq, h1, h2⟩
  · unfold getR; rw [getF_none hall]; exact Nat.zero_le _
  · unfold getR; rw [getF_at hi h1 h2]; exact (h _ (List.getElem_mem hi)).2
def BndRet (o : Option (List UInt8)) (w : World) (e : Ending) (w' : World) : Prop := e = .returned (.tuple #[.string (str (o.getD [])), .bool o.isSome]) ∧ Below w.heap.size w w'
theorem bndRet_none {o : Option (List UInt8)} {w w' : World} {x : ByteArray} (h : o = none) (hx : x = str []) (hb : Below w.heap.size w w') : BndRet o w (.returned (.tuple #[.string x, .bool false])) w' := by subst h hx; exact ⟨rfl, hb⟩
theorem bndRet_some {o : Option (List UInt8)} {b : List UInt8} {w w' : World} {x : ByteArray} (h : o = some b) (hx : x = str b) (hb : Below w.heap.size w w') : BndRet o w (.returned (.tuple #[.string x, .bool true])) w' := by subst h hx; exact ⟨rfl, hb⟩
theorem lst_ne {s : ByteArray} {l : List UInt8} (h : s.data.toList ≠ l) : (s.toList == l) = false ∧ (s.toList != l) = true := by
  have : (s.toList == l) = false := by rw [ByteArray.toList_eq, beq_eq_false_iff_ne]; exact h
  exact ⟨this, by unfold bne; rw [this]; rfl⟩
theorem lst_eq {s : ByteArray} {l : List UInt8} (h : s.data.toList = l) : (s.toList == l) = true ∧ (s.toList != l) = false := by
  have : (s.toList == l) = true := by rw [ByteArray.toList_eq, h]; simp
  exact ⟨this, by unfold bne; rw [this]; rfl⟩
set_option maxRecDepth 100000 in
set_option maxHeartbeats 1000000 in
theorem boundaryOf_any (m s : ByteArray) (a : Option Addr) (n c : Nat) (xs : List Fld) (w : World) (tab : Tab w) (hm : m.size ≤ 1073741824) (hs : s.size ≤ 1073741824) (hr : RdF w a n xs) (hn : n ≤ 1073741824) (hx : ∀ x ∈ xs, SmallF 1048576 x) :
    Calls Tryz.prog 97 #[.agg #[.string m, .string s, .slice a n c]] w (BndRet (bndOf ⟨m.data.toList, s.data.toList, xs⟩) w) := by
  have hb0 : Below w.heap.size w (w.alloc (.cells #[.string m, .string s, .slice a n c] 97)) := (Below.refl _ _).alloc (Nat.le_refl _) _
  have HK0 := Lib.hid (KK3.new w (.string m) (.string s) (.slice a n c) 97)
  have HV := Lib.hid (kindValid_any m s a n c xs _ (tab.below hb0) hm hs (hr.below hb0) hn hx)
  have HG : Hid (∀ u, Below w.heap.size w u → Calls Tryz.prog 75 #[.slice a n c, .string ⟨#[98, 111, 117, 110, 100, 97, 114, 121]⟩] u fun e w' => e = .returned (.tuple #[.string (str (getR xs bndL)), .bool (getF xs bndL).isSome]) ∧ Below u.heap.size u w') := fun u h => getField_any a n c xs ⟨#[98, 111, 117, 110, 100, 97, 114, 121]⟩ u (hr.below h) hn (fun x hx' => (hx x hx').up (by omega)) (by decide)
  have hgl : (str (getR xs bndL)).size ≤ 1048576 := by rw [str_size]; exact getR_len hx
  have HB : Hid (∀ u, Calls Tryz.prog 135 #[.string (str (getR xs bndL))] u fun e w' => e = .returned (.bool (isBnd (getR xs bndL))) ∧ u = w') := fun u => by
    have := boundaryValid_any (str (getR xs bndL)) u (by omega)
    rw [str_list] at this; exact this
  have HNO : Hid ((⟨#[]⟩ : ByteArray) = str []) := rfl
  clear hr tab
  cases hv : isKnd ⟨m.data.toList, s.data.toList, xs⟩
  · have HN := Lib.hid (bndOf_no1 hv)
    rw [hv] at HV
    clear hv
    go_enter Tryz.func97, Tryz.ntmps97
    go_wp2_with fail
    refine (HV.out).mono ?_
    rintro e w1 ⟨rfl, hb1⟩
    go_wp2
    go_ret2
    exact bndRet_none HN.out HNO.out (nx hb0 hb1)
  · rw [hv] at HV
    by_cases hmn : m.data.toList = multiL
    · obtain ⟨e1, e2⟩ := lst_eq hmn
      unfold multiL at e1 e2
      have HSM : Hid (isBnd (getR xs bndL) = true → bndOf ⟨m.data.toList, s.data.toList, xs⟩ = some (getR xs bndL)) := fun h => bndOf_some hv hmn h
      have HNN : Hid (isBnd (getR xs bndL) = false → bndOf ⟨m.data.toList, s.data.toList, xs⟩ = none) := fun h => bndOf_no3 h
      generalize hGR : getR xs bndL = gr at *
      clear hGR
      generalize (getF xs bndL).isSome = gs at *
      clear hv hmn
      cases hbn : isBnd gr
      · have HN := Lib.hid (HNN.out hbn)
        rw [hbn] at HB
        clear hbn HSM
        generalize str gr = GR at *
        go_enter Tryz.func97, Tryz.ntmps97
        go_wp2_with fail
        refine (HV.out).mono ?_
        rintro e w1 ⟨rfl, hb1⟩
        obtain ⟨k0, k1, k2⟩ := HK0.out.below hb1
        go_wp2_with fail
        refine (HG.out _ (nx hb0 hb1)).mono ?_
        rintro e w2 ⟨rfl, hb2⟩
        clear k0 k1 k2
        go_wp2_with fail
        refine (HB.out _).mono ?_
        rintro e w3 ⟨rfl, rfl⟩
        go_wp2
        go_ret2
        exact bndRet_none HN.out HNO.out (nx hb0 (nx hb1 hb2))
      · have HN := Lib.hid (HSM.out hbn)
        rw [hbn] at HB
        clear hbn HNN
        have HGE : Hid (str gr = str gr) := rfl
        generalize hGR : str gr = GR at HG HB hgl
        have HGR := Lib.hid hGR
        clear hGR
        go_enter Tryz.func97, Tryz.ntmps97
        go_wp2_with fail
        refine (HV.out).mono ?_
        rintro e w1 ⟨rfl, hb1⟩
        obtain ⟨k0, k1, k2⟩ := HK0.out.below hb1
        go_wp2_with fail
        refine (HG.out _ (nx hb0 hb1)).mono ?_
        rintro e w2 ⟨rfl, hb2⟩
        clear k0 k1 k2
        go_wp2_with fail
        refine (HB.out _).mono ?_
        rintro e w3 ⟨rfl, rfl⟩
        go_wp2
        go_ret2
        exact bndRet_some HN.out HGR.out.symm (nx hb0 (nx hb1 hb2))
    · have HN : Hid (bndOf ⟨m.data.toList, s.data.toList, xs⟩ = none) := bndOf_no2 hmn
      obtain ⟨e1, e2⟩ := lst_ne hmn
      unfold multiL at e1 e2
      clear hmn hv
      go_enter Tryz.func97, Tryz.ntmps97
      go_wp2_with fail
      refine (HV.out).mono ?_
      rintro e w1 ⟨rfl, hb1⟩
      obtain ⟨k0, k1, k2⟩ := HK0.out.below hb1
      go_wp2
      go_ret2
      exact bndRet_none HN.out HNO.out (nx hb0 hb1)
set_option maxRecDepth 100000 in
set_option maxHeartbeats 1000000 in
theorem boundaryOfS_any (m s : ByteArray) (a : Option Addr) (n c : Nat) (xs : List Fld) (w : World) (hm : m.size ≤ 1073741824) (hs : s.size ≤ 1073741824) (hr : RdF w a n xs) (hnc : n ≤ c) (hn : n ≤ 1073741824) (hx : ∀ x ∈ xs, SmallF 1048576 x) :
    Calls Tryz.prog 85 #[.agg #[.string m, .string s, .slice a n c]] w (BndRet (bndOf ⟨m.data.toList, s.data.toList, xs⟩) w) := by
  have hb0 : Below w.heap.size w (w.alloc (.cells #[.string m, .string s, .slice a n c] 97)) := (Below.refl _ _).alloc (Nat.le_refl _) _
  have HK0 := Lib.hid (KK3.new w (.string m) (.string s) (.slice a n c) 97)
  have HV : Hid (∀ u, Below w.heap.size w u → Calls Tryz.prog 119 #[.agg #[.string m, .string s, .slice a n c]] u fun e w' => e = .returned (.bool (isKnd ⟨m.data.toList, s.data.toList, xs⟩)) ∧ Below u.heap.size u w') := fun u h => kindValidS_any m s a n c xs u hm hs (hr.below h) hnc hn hx
  have HG : Hid (∀ u, Below w.heap.size w u → Calls Tryz.prog 73 #[.slice a n c, .string ⟨#[98, 111, 117, 110, 100, 97, 114, 121]⟩] u fun e w' => e = .returned (.tuple #[.string (str (getR xs bndL)), .bool (getF xs bndL).isSome]) ∧ Below u.heap.size u w') := fun u h => getFieldS_any a n c xs ⟨#[98, 111, 117, 110, 100, 97, 114, 121]⟩ u (hr.below h) hn (fun x hx' => (hx x hx').up (by omega)) (by decide)
  have hgl : (str (getR xs bndL)).size ≤ 1048576 := by rw [str_size]; exact getR_len hx
  have HB : Hid (∀ u, Calls Tryz.prog 86 #[.string (str (getR xs bndL))] u fun e w' => e = .returned (.bool (isBnd (getR xs bndL))) ∧ u = w') := fun u => by
    have := l7Boundary_any (str (getR xs bndL)) u (by omega)
    rw [str_list] at this; exact this
  have HNO : Hid ((⟨#[]⟩ : ByteArray) = str []) := rfl
  have HN4 : Hid ((getF xs bndL).isSome = false → bndOf ⟨m.data.toList, s.data.toList, xs⟩ = none) := fun h => bndOf_no4 h
  have HN1 : Hid (isKnd ⟨m.data.toList, s.data.toList, xs⟩ = false → bndOf ⟨m.data.toList, s.data.toList, xs⟩ = none) := fun h => bndOf_no1 h
  have HN2 : Hid (m.data.toList ≠ multiL → bndOf ⟨m.data.toList, s.data.toList, xs⟩ = none) := fun h => bndOf_no2 h
  have HN3 : Hid (isBnd (getR xs bndL) = false → bndOf ⟨m.data.toList, s.data.toList, xs⟩ = none) := fun h => bndOf_no3 h
  have HN0 : Hid (isKnd ⟨m.data.toList, s.data.toList, xs⟩ = true → m.data.toList = multiL → isBnd (getR xs bndL) = true → bndOf ⟨m.data.toList, s.data.toList, xs⟩ = some (getR xs bndL)) := fun h1 h2 h3 => bndOf_some h1 h2 h3
  clear hr
  generalize isKnd ⟨m.data.toList, s.data.toList, xs⟩ = q1 at *
  generalize (getF xs bndL).isSome = q4 at *
  generalize getR xs bndL = gr at *
  generalize isBnd gr = q3 at *
  generalize hGR : str gr = GR at HG HB hgl
  have HGR := Lib.hid hGR
  clear hGR
  generalize bndOf ⟨m.data.toList, s.data.toList, xs⟩ = R at *
  cases q1
  · have HN := Lib.hid (HN1.out rfl)
    go_enter Tryz.func85, Tryz.ntmps85
    go_wp2_with fail
    refine (HG.out _ hb0).mono ?_
    rintro e w1 ⟨rfl, hb1⟩
    obtain ⟨k0, k1, k2⟩ := HK0.out.below hb1
    go_wp2_with fail
    refine (HV.out _ (nx hb0 hb1)).mono ?_
    rintro e w2 ⟨rfl, hb2⟩
    go_wp2
    go_ret2
    exact bndRet_none HN.out HNO.out (nx hb0 (nx hb1 hb2))
  · by_cases hmn : m.data.toList = multiL
    · obtain ⟨e1, e2⟩ := lst_eq hmn
      unfold multiL at e1 e2
      cases q4
      · have HN := Lib.hid (HN4.out rfl)
        clear hmn
        go_enter Tryz.func85, Tryz.ntmps85
        go_wp2_with fail
        refine (HG.out _ hb0).mono ?_
        rintro e w1 ⟨rfl, hb1⟩
        have HK1 := Lib.hid (HK0.out.below hb1)
        obtain ⟨k0, k1, k2⟩ := HK1.out
        go_wp2_with fail
        refine (HV.out _ (nx hb0 hb1)).mono ?_
        rintro e w2 ⟨rfl, hb2⟩
        clear k0 k1 k2
        obtain ⟨k0, k1, k2⟩ := HK1.out.below hb2
        go_wp2
        go_ret2
        exact bndRet_none HN.out HNO.out (nx hb0 (nx hb1 hb2))
      · cases q3
        · have HN := Lib.hid (HN3.out rfl)
          clear hmn
          go_enter Tryz.func85, Tryz.ntmps85
          go_wp2_with fail
          refine (HG.out _ hb0).mono ?_
          rintro e w1 ⟨rfl, hb1⟩
          have HK1 := Lib.hid (HK0.out.below hb1)
          obtain ⟨k0, k1, k2⟩ := HK1.out
          go_wp2_with fail
          refine (HV.out _ (nx hb0 hb1)).mono ?_
          rintro e w2 ⟨rfl, hb2⟩
          clear k0 k1 k2
          obtain ⟨k0, k1, k2⟩ := HK1.out.below hb2
          go_wp2_with fail
          refine (HB.out _).mono ?_
          rintro e w3 ⟨rfl, rfl⟩
          go_wp2
          go_ret2
          exact bndRet_none HN.out HNO.out (nx hb0 (nx hb1 hb2))
        · have HN := Lib.hid (HN0.out rfl hmn rfl)
          clear hmn
          go_enter Tryz.func85, Tryz.ntmps85
          go_wp2_with fail
          refine (HG.out _ hb0).mono ?_
          rintro e w1 ⟨rfl, hb1⟩
          have HK1 := Lib.hid (HK0.out.below hb1)
          obtain ⟨k0, k1, k2⟩ := HK1.out
          go_wp2_with fail
          refine (HV.out _ (nx hb0 hb1)).mono ?_
          rintro e w2 ⟨rfl, hb2⟩
          clear k0 k1 k2
          obtain ⟨k0, k1, k2⟩ := HK1.out.below hb2
          go_wp2_with fail
          refine (HB.out _).mono ?_
          rintro e w3 ⟨rfl, rfl⟩
          go_wp2
          go_ret2
          exact bndRet_some HN.out HGR.out.symm (nx hb0 (nx hb1 hb2))
    · have HN := Lib.hid (HN2.out hmn)
      obtain ⟨e1, e2⟩ := lst_ne hmn
      unfold multiL at e1 e2
      clear hmn
      go_enter Tryz.func85, Tryz.ntmps85
      go_wp2_with fail
      refine (HG.out _ hb0).mono ?_
      rintro e w1 ⟨rfl, hb1⟩
      have HK1 := Lib.hid (HK0.out.below hb1)
      obtain ⟨k0, k1, k2⟩ := HK1.out
      go_wp2_with fail
      refine (HV.out _ (nx hb0 hb1)).mono ?_
      rintro e w2 ⟨rfl, hb2⟩
      clear k0 k1 k2
      obtain ⟨k0, k1, k2⟩ := HK1.out.below hb2
      go_wp2
      go_ret2
      exact bndRet_none HN.out HNO.out (nx hb0 (nx hb1 hb2))
end Go.Proofs.YtcdmjckkencgoaaGreatDoor
end

section
namespace Go.Proofs.YtcdmjckkencgoaaGreatDoor
open Go.RowKit

inductive Prt where
  | mk : List Fld → List (List UInt8) → List Prt → Prt
def Prt.fields : Prt → List Fld | .mk f _ _ => f
def Prt.body : Prt → List (List UInt8) | .mk _ b _ => b
def Prt.kids : Prt → List Prt | .mk _ _ k => k
theorem Prt.ext' {p q : Prt} (h1 : p.fields = q.fields) (h2 : p.body = q.body) (h3 : p.kids = q.kids) : p = q := by
  cases p; cases q; cases h1; cases h2; cases h3; rfl
def prt0 : Prt := .mk [] [] []
/-- What a partial function gives at all of a list. -/
def mapO {α β : Type} (f : α → Option β) : List α → Option (List β)
  | [] => some []
  | x :: xs => (f x).bind fun y => (mapO f xs).map (y :: ·)
theorem mapO_cons {α β : Type} (f : α → Option β) (x : α) (xs : List α) : mapO f (x :: xs) = (f x).bind fun y => (mapO f xs).map (y :: ·) := rfl
theorem mapO_some {α β : Type} {f : α → Option β} : ∀ {xs : List α} {ys : List β}, mapO f xs = some ys → ys.length = xs.length ∧ ∀ i, (h1 : i < xs.length) → (h2 : i < ys.length) → f xs[i] = some ys[i]
  | [], ys, h => by injection h with h; subst h; exact ⟨rfl, fun i h1 => by simp at h1⟩
  | x :: xs, ys, h => by
    rw [mapO_cons] at h
    obtain ⟨y, hy, h⟩ := Option.bind_eq_some_iff.1 h
    obtain ⟨zs, hz, rfl⟩ := Option.map_eq_some_iff.1 h
    obtain ⟨h1, h2⟩ := mapO_some hz
    refine ⟨by simp [h1], fun i g1 g2 => ?_⟩
    match i, g1, g2 with
    | 0, _, _ => exact hy
    | i + 1, g1, g2 => exact h2 i (by simpa using g1) (by simpa using g2)
theorem mapO_mk {α β : Type} {f : α → Option β} : ∀ {xs : List α} {ys : List β}, ys.length = xs.length → (∀ i, (h1 : i < xs.length) → (h2 : i < ys.length) → f xs[i] = some ys[i]) → mapO f xs = some ys
  | [], [], _, _ => rfl
  | x :: xs, y :: ys, hl, h => by
    have h0 : f x = some y := h 0 (by simp) (by simp)
    rw [mapO_cons, h0, Option.bind_some, mapO_mk (xs := xs) (ys := ys) (by simpa using hl) (fun i h1 h2 => h (i + 1) (by simpa using h1) (by simpa using h2))]; rfl
theorem mapO_none {α β : Type} {f : α → Option β} : ∀ {xs : List α} {i : Nat} (h : i < xs.length), f xs[i] = none → mapO f xs = none
  | x :: xs, 0, _, h => by rw [mapO_cons]; have h : f x = none := h; rw [h]; rfl
  | x :: xs, i + 1, hi, h => by
    rw [mapO_cons, mapO_none (xs := xs) (i := i) (by simpa using hi) h]; cases f x <;> rfl
theorem mapO_snoc {α β : Type} (f : α → Option β) : ∀ (xs : List α) (x : α), mapO f (xs ++ [x]) = (mapO f xs).bind fun ys => (f x).map fun y => ys ++ [y]
  | [], x => by show mapO f [x] = _; rw [mapO_cons]; cases f x <;> rfl
  | z :: xs, x => by
    rw [List.cons_append, mapO_cons, mapO_snoc f xs x, mapO_cons]
    cases f z with
    | none => rfl
    | some y => cases mapO f xs with
      | none => rfl
      | some ys => cases f x <;> rfl
/-- What fields call their kind. -/
def typeL : List UInt8 := [67, 111, 110, 116, 101, 110, 116, 45, 84, 121, 112, 101]
/-- The boundary that fields have. -/
def bndF (fs : List Fld) : Option (List UInt8) := bndOf (parseKR (getR fs typeL))
def okBody (b : List (List UInt8)) : Bool := b.all isText && decide (b.length ≤ 30)
/-- The lines of a part of at most d parts within each other, where it is valid. -/
def linesT : Nat → Prt → Option (List (List UInt8))
  | 0, _ => none
  | d + 1, p => if fldsOk p.fields then (match bndF p.fields with
      | none => if okBody p.body = true ∧ p.kids = [] then some p.body else none
      | some b => if p.body = [] ∧ p.kids.length ≤ 4 then (mapO (linesT d) p.kids).bind fun ps => joinP ps b else none).map fun r => foldFs p.fields ++ [] :: r
    else none
def isPrt (p : Prt) : Bool := (linesT 3 p).isSome
/-- Where the first empty line is. -/
def idxE : List (List UInt8) → Option Nat
  | [] => none
  | l :: ls => if l = [] then some 0 else (idxE ls).map (· + 1)
theorem idxE_app : ∀ (ls r : List (List UInt8)), (∀ l ∈ ls, l ≠ []) → idxE (ls ++ [] :: r) = some ls.length
  | [], r, _ => rfl
  | l :: ls, r, h => by
    show (if l = [] then some 0 else (idxE (ls ++ [] :: r)).map (· + 1)) = _
    rw [if_neg (h l (by simp)), idxE_app ls r (fun m hm => h m (by simp [hm]))]; rfl
def readT : Nat → List (List UInt8) → Option Prt
  | 0, _ => none
  | d + 1, ls => (idxE ls).bind fun k => (readFs (ls.take k)).bind fun fs => match bndF fs with
      | none => some (.mk fs (ls.drop (k + 1)) [])
      | some b => (splitP (ls.drop (k + 1)) b).bind fun ps => (mapO (readT d) ps).map fun ks => .mk fs [] ks
def parseT (ls : List (List UInt8)) : Option Prt := (readT 3 ls).bind fun p => if isPrt p then some p else none
theorem foldL_ne_all (l : List UInt8) (first : Nat) (hf : 2 ≤ first) (hl : l ≠ []) : ∀ p ∈ foldL l first, p ≠ [] := by
  obtain ⟨_, p, ps, hp, h1, _, h3⟩ := foldL_spec l first hf
  intro q hq
  rw [hp] at hq
  rcases List.mem_cons.1 hq with rfl | hq
  · exact h1 hl
  · have := h3 q hq
    intro e; subst e; simp [isCont] at this
theorem foldFs_ne {fs : List Fld} (h : fldsOk fs = true) : ∀ l ∈ foldFs fs, l ≠ [] := by
  intro l hl
  unfold foldFs at hl
  rw [if_pos h] at hl
  unfold foldAll at hl
  obtain ⟨f, hf, hl⟩ := List.mem_flatMap.1 hl
  exact foldL_ne_all _ _ (by omega) (line_head ((fldsOk_iff.1 h).1 f hf)).1 l hl
theorem foldFs_read {fs : List Fld} (h : fldsOk fs = true) : readFs (foldFs fs) = some fs := by unfold foldFs; rw [if_pos h]; exact read_fold h
/-- What the lines of a valid part are. -/
theorem linesT_some {d : Nat} {p : Prt} {ls : List (List UInt8)} (h : linesT (d + 1) p = some ls) : fldsOk p.fields = true ∧ ∃ r, ls = foldFs p.fields ++ [] :: r ∧
    ((bndF p.fields = none ∧ okBody p.body = true ∧ p.kids = [] ∧ r = p.body) ∨ ∃ b ps, bndF p.fields = some b ∧ p.body = [] ∧ p.kids.length ≤ 4 ∧ mapO (linesT d) p.kids = some ps ∧ joinP ps b = some r) := by
  unfold linesT at h
  split at h
  · rename_i hf
    obtain ⟨r, hr, rfl⟩ := Option.map_eq_some_iff.1 h
    refine ⟨hf, r, rfl, ?_⟩
    split at hr
    · rename_i hb
      split at hr
      · rename_i hk
        injection hr with hr
        exact .inl ⟨hb, hk.1, hk.2, hr.symm⟩
      · cases hr
    · rename_i b hb
      split at hr
      · rename_i hk
        obtain ⟨ps, h1, h2⟩ := Option.bind_eq_some_iff.1 hr
        exact .inr ⟨b, ps, hb, hk.1, hk.2, h1, h2⟩
      · cases hr
  · cases h
theorem linesT_leaf {d : Nat} {p : Prt} (h1 : fldsOk p.fields = true) (h2 : bndF p.fields = none) : linesT (d + 1) p = if okBody p.body = true ∧ p.kids = [] then some (foldFs p.fields ++ [] :: p.body) else none := by
  unfold linesT
  rw [if_pos h1, h2]
  show (if okBody p.body = true ∧ p.kids = [] then some p.body else none).map _ = _
  split <;> rfl
theorem linesT_many {d : Nat} {p : Prt} {b : List UInt8} (h1 : fldsOk p.fields = true) (h2 : bndF p.fields = some b) : linesT (d + 1) p = if p.body = [] ∧ p.kids.length ≤ 4 then ((mapO (linesT d) p.kids).bind fun ps => joinP ps b).map fun r => foldFs p.fields ++ [] :: r else none := by
  unfold linesT
  rw [if_pos h1, h2]
  show (if p.body = [] ∧ p.kids.length ≤ 4 then (mapO (linesT d) p.kids).bind fun ps => joinP ps b else none).map _ = _
  split <;> rfl
theorem linesT_no {d : Nat} {p : Prt} (h1 : fldsOk p.fields = false) : linesT d p = none := by
  cases d
  · rfl
  · unfold linesT; rw [if_neg (by simp [h1])]
/-- What is written is read back. -/
theorem read_linesT : ∀ (d : Nat) (p : Prt) (ls : List (List UInt8)), linesT d p = some ls → readT d ls = some p
  | 0, p, ls, h => by cases h
  | d + 1, p, ls, h => by
    obtain ⟨hf, r, rfl, hr⟩ := linesT_some h
    have hi : idxE (foldFs p.fields ++ [] :: r) = some (foldFs p.fields).length := idxE_app _ _ (foldFs_ne hf)
    have ht : (foldFs p.fields ++ [] :: r).take (foldFs p.fields).length = foldFs p.fields := by simp
    have hd : (foldFs p.fields ++ [] :: r).drop ((foldFs p.fields).length + 1) = r := by
      rw [← List.drop_drop]; simp
    unfold readT
    rw [hi, Option.bind_some, ht, foldFs_read hf, Option.bind_some, hd]
    rcases hr with ⟨h1, h2, h3, h4⟩ | ⟨b, ps, h1, h2, h3, h4, h5⟩
    · rw [h1]; subst h4
      show some (Prt.mk p.fields p.body []) = some p
      exact congrArg some (Prt.ext' rfl rfl h3.symm)
    · rw [h1]
      show ((splitP r b).bind fun ps => (mapO (readT d) ps).map fun ks => Prt.mk p.fields [] ks) = some p
      rw [split_joinP h5, Option.bind_some]
      obtain ⟨g1, g2⟩ := mapO_some h4
      have : mapO (readT d) ps = some p.kids := mapO_mk g1.symm fun i i1 i2 => read_linesT d _ _ (g2 i i2 i1)
      rw [this]
      exact congrArg some (Prt.ext' rfl h2.symm rfl)
theorem parse_lines {p : Prt} {ls : List (List UInt8)} (h : linesT 3 p = some ls) : parseT ls = some p := by
  unfold parseT
  rw [read_linesT 3 p ls h, Option.bind_some]
  rw [if_pos (by unfold isPrt; rw [h]; rfl)]
theorem parseT_valid {ls : List (List UInt8)} {p : Prt} (h : parseT ls = some p) : isPrt p = true ∧ readT 3 ls = some p := by
  unfold parseT at h
  obtain ⟨q, hq, h⟩ := Option.bind_eq_some_iff.1 h
  split at h
  · rename_i hv; injection h with h; subst h; exact ⟨hv, hq⟩
  · cases h
theorem isPrt_lines {p : Prt} (h : isPrt p = true) : ∃ ls, linesT 3 p = some ls := by
  unfold isPrt at h; exact Option.isSome_iff_exists.1 h
/-! Reading with no more than four kids: it comes to the same, where the part is valid. -/
def readT4 : Nat → List (List UInt8) → Option Prt
  | 0, _ => none
  | d + 1, ls => (idxE ls).bind fun k => (readFs (ls.take k)).bind fun fs => match bndF fs with
      | none => some (.mk fs (ls.drop (k + 1)) [])
      | some b => (splitP (ls.drop (k + 1)) b).bind fun ps => if ps.length ≤ 4 then (mapO (readT4 d) ps).map fun ks => .mk fs [] ks else none
theorem readT_of4 : ∀ (d : Nat) (ls : List (List UInt8)) (p : Prt), readT4 d ls = some p → readT d ls = some p
  | 0, ls, p, h => by cases h
  | d + 1, ls, p, h => by
    unfold readT4 at h
    obtain ⟨k, hk, h⟩ := Option.bind_eq_some_iff.1 h
    obtain ⟨fs, hf, h⟩ := Option.bind_eq_some_iff.1 h
    unfold readT
    rw [hk, Option.bind_some, hf, Option.bind_some]
    split at h
    · exact h
    · rename_i b hb
      obtain ⟨ps, hp, h⟩ := Option.bind_eq_some_iff.1 h
      show ((splitP (ls.drop (k + 1)) b).bind fun ps => (mapO (readT d) ps).map fun ks => Prt.mk fs [] ks) = some p
      rw [hp, Option.bind_some]
      split at h
      · obtain ⟨ks, hks, rfl⟩ := Option.map_eq_some_iff.1 h
        obtain ⟨g1, g2⟩ := mapO_some hks
        have : mapO (readT d) ps = some ks := mapO_mk g1 fun i i1 i2 => readT_of4 d _ _ (g2 i i1 i2)
        rw [this]; rfl
      · cases h
theorem readT4_of : ∀ (d : Nat) (ls : List (List UInt8)) (p : Prt), readT d ls = some p → (linesT d p).isSome = true → readT4 d ls = some p
  | 0, ls, p, h, _ => by cases h
  | d + 1, ls, p, h, hv => by
    unfold readT at h
    obtain ⟨k, hk, h⟩ := Option.bind_eq_some_iff.1 h
    obtain ⟨fs, hf, h⟩ := Option.bind_eq_some_iff.1 h
    unfold readT4
    rw [hk, Option.bind_some, hf, Option.bind_some]
    split at h
    · exact h
    · rename_i b hb
      obtain ⟨ps, hp, h⟩ := Option.bind_eq_some_iff.1 h
      show ((splitP (ls.drop (k + 1)) b).bind fun ps => if ps.length ≤ 4 then (mapO (readT4 d) ps).map fun ks => Prt.mk fs [] ks else none) = some p
      rw [hp, Option.bind_some]
      obtain ⟨ks, hks, rfl⟩ := Option.map_eq_some_iff.1 h
      obtain ⟨g1, g2⟩ := mapO_some hks
      obtain ⟨ms, hm⟩ := Option.isSome_iff_exists.1 hv
      obtain ⟨_, r, _, hr⟩ := linesT_some hm
      rcases hr with ⟨e1, _⟩ | ⟨b2, ps2, e1, e2, e3, e4, e5⟩
      · have e1 : bndF fs = none := e1
        rw [hb] at e1; cases e1
      · have e3 : ks.length ≤ 4 := e3
        have e4 : mapO (linesT d) ks = some ps2 := e4
        rw [if_pos (by omega)]
        obtain ⟨f1, f2⟩ := mapO_some e4
        have : mapO (readT4 d) ps = some ks := mapO_mk g1 fun i i1 i2 => readT4_of d _ _ (g2 i i1 i2) (by rw [f2 i i2 (by omega)]; rfl)
        rw [this]; rfl
theorem parseT_four (ls : List (List UInt8)) : (readT4 3 ls).bind (fun p => if isPrt p then some p else none) = parseT ls := by
  unfold parseT
  cases h4 : readT4 3 ls with
  | some p => rw [readT_of4 3 ls p h4]
  | none =>
    cases h : readT 3 ls with
    | none => rfl
    | some p =>
      show none = if isPrt p then some p else none
      split
      · rename_i hv
        rw [readT4_of 3 ls p h hv] at h4; cases h4
      · rfl
/-! Counting. -/
def countT : Nat → Prt → Nat
  | 0, _ => 0
  | d + 1, p => if p.kids = [] then 1 else (p.kids.map (countT d)).sum
/-! Paths. -/
def atT : Prt → List Int → Option Prt
  | p, [] => some p
  | p, i :: is => if 0 ≤ i ∧ i.toNat < p.kids.length then (p.kids[i.toNat]?).bind fun q => atT q is else none
end Go.Proofs.YtcdmjckkencgoaaGreatDoor
end

section
namespace Go.Proofs.YtcdmjckkencgoaaGreatDoor
open Go.RowKit

def PF (p : Prt) : Prop := p.fields.length ≤ 1048576 ∧ (∀ x ∈ p.fields, SmallF 1048576 x) ∧ p.body.length ≤ 1048576 ∧ (∀ x ∈ p.body, x.length ≤ 1048576) ∧ p.kids.length ≤ 1048576
/-- A part's value reads as a tree of at most f parts within each other. -/
def RdT (w : World) : Nat → Value → Prt → Prop
  | 0, _, _ => False
  | f + 1, v, p => ∃ (a1 : Option Addr) (c1 : Nat) (a2 : Option Addr) (c2 : Nat) (a3 : Option Addr) (c3 : Nat),
      v = .agg #[.slice a1 p.fields.length c1, .slice a2 p.body.length c2, .slice a3 p.kids.length c3] ∧
      (RdF w a1 p.fields.length p.fields ∧ p.fields.length ≤ c1) ∧
      (RdL w a2 p.body.length p.body ∧ p.body.length ≤ c2 ∧ (a2 = none → c2 = 0)) ∧ p.kids.length ≤ c3 ∧ PF p ∧
      (p.kids.length = 0 ∨ ∃ b off, a3 = some ⟨b, off, none⟩ ∧ b < w.heap.size ∧ ∀ i, (h : i < p.kids.length) →
        ∃ v0 v1 v2, w.cell? ⟨b, off + i * 3, none⟩ = some v0 ∧ w.cell? ⟨b, off + i * 3 + 1, none⟩ = some v1 ∧ w.cell? ⟨b, off + i * 3 + 2, none⟩ = some v2 ∧ RdT w f (.agg #[v0, v1, v2]) p.kids[i])
theorem RdT.below {w w' : World} (hb : Below w.heap.size w w') : ∀ (f : Nat) {v : Value} {p : Prt}, RdT w f v p → RdT w' f v p
  | 0, _, _, h => h
  | f + 1, v, p, h => by
    obtain ⟨a1, c1, a2, c2, a3, c3, hv, ⟨h1, h2⟩, ⟨h3, h4, h5⟩, h6, h7, h8⟩ := h
    refine ⟨a1, c1, a2, c2, a3, c3, hv, ⟨h1.below hb, h2⟩, ⟨h3.below hb, h4, h5⟩, h6, h7, ?_⟩
    rcases h8 with e | ⟨b, off, e, hl, hk⟩
    · exact .inl e
    · refine .inr ⟨b, off, e, Nat.lt_of_lt_of_le hl hb.size, fun i hi => ?_⟩
      obtain ⟨v0, v1, v2, g0, g1, g2, g3⟩ := hk i hi
      exact ⟨v0, v1, v2, by rw [below_at hb hl, g0], by rw [below_at hb hl, g1], by rw [below_at hb hl, g2], RdT.below hb f g3⟩
theorem RdT.up {w : World} : ∀ (f : Nat) {v : Value} {p : Prt}, RdT w f v p → RdT w (f + 1) v p
  | 0, _, _, h => h.elim
  | f + 1, v, p, h => by
    obtain ⟨a1, c1, a2, c2, a3, c3, hv, h1, h3, h6, h7, h8⟩ := h
    refine ⟨a1, c1, a2, c2, a3, c3, hv, h1, h3, h6, h7, ?_⟩
    rcases h8 with e | ⟨b, off, e, hl, hk⟩
    · exact .inl e
    · refine .inr ⟨b, off, e, hl, fun i hi => ?_⟩
      obtain ⟨v0, v1, v2, g0, g1, g2, g3⟩ := hk i hi
      exact ⟨v0, v1, v2, g0, g1, g2, RdT.up f g3⟩
/-- A row of parts. -/
def RdKs (w : World) (f : Nat) (a : Option Addr) (ks : List Prt) : Prop :=
  ks.length = 0 ∨ ∃ b off, a = some ⟨b, off, none⟩ ∧ b < w.heap.size ∧ ∀ i, (h : i < ks.length) →
    ∃ v0 v1 v2, w.cell? ⟨b, off + i * 3, none⟩ = some v0 ∧ w.cell? ⟨b, off + i * 3 + 1, none⟩ = some v1 ∧ w.cell? ⟨b, off + i * 3 + 2, none⟩ = some v2 ∧ RdT w f (.agg #[v0, v1, v2]) ks[i]
theorem RdKs.below {w w' : World} {f : Nat} {a : Option Addr} {ks : List Prt} (h : RdKs w f a ks) (hb : Below w.heap.size w w') : RdKs w' f a ks := by
  rcases h with e | ⟨b, off, e, hl, hk⟩
  · exact .inl e
  · refine .inr ⟨b, off, e, Nat.lt_of_lt_of_le hl hb.size, fun i hi => ?_⟩
    obtain ⟨v0, v1, v2, g0, g1, g2, g3⟩ := hk i hi
    exact ⟨v0, v1, v2, by rw [below_at hb hl, g0], by rw [below_at hb hl, g1], by rw [below_at hb hl, g2], RdT.below hb f g3⟩
/-- A part's three slices. -/
theorem RdT.open {w : World} {f : Nat} {v : Value} {p : Prt} (h : RdT w f v p) : ∃ (f' : Nat) (a1 : Option Addr) (c1 : Nat) (a2 : Option Addr) (c2 : Nat) (a3 : Option Addr) (c3 : Nat), f = f' + 1 ∧
    v = .agg #[.slice a1 p.fields.length c1, .slice a2 p.body.length c2, .slice a3 p.kids.length c3] ∧ (RdF w a1 p.fields.length p.fields ∧ p.fields.length ≤ c1) ∧
    (RdL w a2 p.body.length p.body ∧ p.body.length ≤ c2 ∧ (a2 = none → c2 = 0)) ∧ p.kids.length ≤ c3 ∧ PF p ∧ RdKs w f' a3 p.kids := by
  match f, h with
  | f + 1, h =>
    obtain ⟨a1, c1, a2, c2, a3, c3, hv, h1, h3, h6, h7, h8⟩ := h
    exact ⟨f, a1, c1, a2, c2, a3, c3, rfl, hv, h1, h3, h6, h7, h8⟩
theorem RdT.mk {w : World} {f : Nat} {p : Prt} {a1 a2 a3 : Option Addr} {c1 c2 c3 : Nat} (h1 : RdF w a1 p.fields.length p.fields ∧ p.fields.length ≤ c1)
    (h2 : RdL w a2 p.body.length p.body ∧ p.body.length ≤ c2 ∧ (a2 = none → c2 = 0)) (h3 : p.kids.length ≤ c3) (h4 : PF p) (h5 : RdKs w f a3 p.kids) :
    RdT w (f + 1) (.agg #[.slice a1 p.fields.length c1, .slice a2 p.body.length c2, .slice a3 p.kids.length c3]) p := ⟨a1, c1, a2, c2, a3, c3, rfl, h1, h2, h3, h4, h5⟩
/-- A kid's three cells. -/
theorem RdKs.at {w : World} {f : Nat} {a : Option Addr} {ks : List Prt} (h : RdKs w f a ks) {i : Nat} (hi : i < ks.length) : ∃ b off, a = some ⟨b, off, none⟩ ∧ b < w.heap.size ∧ ∃ (a1 : Option Addr) (c1 : Nat) (a2 : Option Addr) (c2 : Nat) (a3 : Option Addr) (c3 : Nat),
    w.cell? ⟨b, off + i * 3, none⟩ = some (.slice a1 ks[i].fields.length c1) ∧ w.cell? ⟨b, off + i * 3 + 1, none⟩ = some (.slice a2 ks[i].body.length c2) ∧ w.cell? ⟨b, off + i * 3 + 2, none⟩ = some (.slice a3 ks[i].kids.length c3) ∧
    RdT w f (.agg #[.slice a1 ks[i].fields.length c1, .slice a2 ks[i].body.length c2, .slice a3 ks[i].kids.length c3]) ks[i] := by
  rcases h with e | ⟨b, off, e, hl, hk⟩
  · omega
  · obtain ⟨v0, v1, v2, g0, g1, g2, g3⟩ := hk i hi
    refine ⟨b, off, e, hl, ?_⟩
    have g4 := g3
    obtain ⟨f', a1, c1, a2, c2, a3, c3, rfl, hv, _⟩ := g3.open
    injection hv with hv
    have e0 : v0 = .slice a1 ks[i].fields.length c1 := by injection hv with hv; injection hv
    have e1 : v1 = .slice a2 ks[i].body.length c2 := by injection hv with hv; injection hv with _ hv; injection hv
    have e2 : v2 = .slice a3 ks[i].kids.length c3 := by injection hv with hv; injection hv with _ hv; injection hv with _ hv; injection hv
    subst e0 e1 e2
    exact ⟨a1, c1, a2, c2, a3, c3, g0, g1, g2, g4⟩
end Go.Proofs.YtcdmjckkencgoaaGreatDoor
end

section
namespace Go.Proofs.YtcdmjckkencgoaaGreatDoor
open Go.RowKit

def PFM (M : Nat) (p : Prt) : Prop := p.fields.length ≤ M ∧ (∀ x ∈ p.fields, SmallF M x) ∧ p.body.length ≤ M ∧ (∀ x ∈ p.body, x.length ≤ M) ∧ p.kids.length ≤ M
def lo (B : Nat) (a : Option Addr) : Prop := ∀ x, a = some x → B ≤ x.block
theorem lo.mono {B C : Nat} {a : Option Addr} (h : lo B a) (hc : C ≤ B) : lo C a := fun x e => Nat.le_trans hc (h x e)
theorem lo_zero (a : Option Addr) : lo 0 a := fun _ _ => Nat.zero_le _
/-- A part's value reads as a tree of at most f parts within each other, in blocks from B on. -/
def RdG (M B : Nat) (w : World) : Nat → Value → Prt → Prop
  | 0, _, _ => False
  | f + 1, v, p => ∃ (a1 : Option Addr) (c1 : Nat) (a2 : Option Addr) (c2 : Nat) (a3 : Option Addr) (c3 : Nat),
      v = .agg #[.slice a1 p.fields.length c1, .slice a2 p.body.length c2, .slice a3 p.kids.length c3] ∧
      (RdF w a1 p.fields.length p.fields ∧ p.fields.length ≤ c1 ∧ lo B a1) ∧
      (RdL w a2 p.body.length p.body ∧ p.body.length ≤ c2 ∧ (a2 = none → c2 = 0) ∧ lo B a2) ∧ p.kids.length ≤ c3 ∧ PFM M p ∧
      (p.kids.length = 0 ∨ ∃ b off, a3 = some ⟨b, off, none⟩ ∧ B ≤ b ∧ b < w.heap.size ∧ ∀ i, (h : i < p.kids.length) →
        ∃ v0 v1 v2, w.cell? ⟨b, off + i * 3, none⟩ = some v0 ∧ w.cell? ⟨b, off + i * 3 + 1, none⟩ = some v1 ∧ w.cell? ⟨b, off + i * 3 + 2, none⟩ = some v2 ∧ RdG M B w f (.agg #[v0, v1, v2]) p.kids[i])
def RdGs (M B : Nat) (w : World) (f : Nat) (a : Option Addr) (ks : List Prt) : Prop :=
  ks.length = 0 ∨ ∃ b off, a = some ⟨b, off, none⟩ ∧ B ≤ b ∧ b < w.heap.size ∧ ∀ i, (h : i < ks.length) →
        ∃ v0 v1 v2, w.cell? ⟨b, off + i * 3, none⟩ = some v0 ∧ w.cell? ⟨b, off + i * 3 + 1, none⟩ = some v1 ∧ w.cell? ⟨b, off + i * 3 + 2, none⟩ = some v2 ∧ RdG M B w f (.agg #[v0, v1, v2]) ks[i]
theorem RdG.open {M B : Nat} {w : World} {f : Nat} {v : Value} {p : Prt} (h : RdG M B w f v p) : ∃ (f' : Nat) (a1 : Option Addr) (c1 : Nat) (a2 : Option Addr) (c2 : Nat) (a3 : Option Addr) (c3 : Nat), f = f' + 1 ∧
    v = .agg #[.slice a1 p.fields.length c1, .slice a2 p.body.length c2, .slice a3 p.kids.length c3] ∧ (RdF w a1 p.fields.length p.fields ∧ p.fields.length ≤ c1 ∧ lo B a1) ∧
    (RdL w a2 p.body.length p.body ∧ p.body.length ≤ c2 ∧ (a2 = none → c2 = 0) ∧ lo B a2) ∧ p.kids.length ≤ c3 ∧ PFM M p ∧ RdGs M B w f' a3 p.kids := by
  match f, h with
  | f + 1, h =>
    obtain ⟨a1, c1, a2, c2, a3, c3, hv, h1, h3, h6, h7, h8⟩ := h
    exact ⟨f, a1, c1, a2, c2, a3, c3, rfl, hv, h1, h3, h6, h7, h8⟩
theorem RdG.mk {M B : Nat} {w : World} {f : Nat} {p : Prt} {a1 a2 a3 : Option Addr} {c1 c2 c3 : Nat} (h1 : RdF w a1 p.fields.length p.fields ∧ p.fields.length ≤ c1 ∧ lo B a1)
    (h2 : RdL w a2 p.body.length p.body ∧ p.body.length ≤ c2 ∧ (a2 = none → c2 = 0) ∧ lo B a2) (h3 : p.kids.length ≤ c3) (h4 : PFM M p) (h5 : RdGs M B w f a3 p.kids) :
    RdG M B w (f + 1) (.agg #[.slice a1 p.fields.length c1, .slice a2 p.body.length c2, .slice a3 p.kids.length c3]) p := ⟨a1, c1, a2, c2, a3, c3, rfl, h1, h2, h3, h4, h5⟩
theorem RdG.below {M B : Nat} {w w' : World} (hb : Below w.heap.size w w') : ∀ (f : Nat) {v : Value} {p : Prt}, RdG M B w f v p → RdG M B w' f v p
  | 0, _, _, h => h
  | f + 1, v, p, h => by
    obtain ⟨a1, c1, a2, c2, a3, c3, hv, ⟨h1, h2⟩, ⟨h3, h4⟩, h6, h7, h8⟩ := h
    refine ⟨a1, c1, a2, c2, a3, c3, hv, ⟨h1.below hb, h2⟩, ⟨h3.below hb, h4⟩, h6, h7, ?_⟩
    rcases h8 with e | ⟨b, off, e, hB, hl, hk⟩
    · exact .inl e
    · refine .inr ⟨b, off, e, hB, Nat.lt_of_lt_of_le hl hb.size, fun i hi => ?_⟩
      obtain ⟨v0, v1, v2, g0, g1, g2, g3⟩ := hk i hi
      exact ⟨v0, v1, v2, by rw [below_at hb hl, g0], by rw [below_at hb hl, g1], by rw [below_at hb hl, g2], RdG.below hb f g3⟩
theorem RdGs.below {M B : Nat} {w w' : World} {f : Nat} {a : Option Addr} {ks : List Prt} (h : RdGs M B w f a ks) (hb : Below w.heap.size w w') : RdGs M B w' f a ks := by
  rcases h with e | ⟨b, off, e, hB, hl, hk⟩
  · exact .inl e
  · refine .inr ⟨b, off, e, hB, Nat.lt_of_lt_of_le hl hb.size, fun i hi => ?_⟩
    obtain ⟨v0, v1, v2, g0, g1, g2, g3⟩ := hk i hi
    exact ⟨v0, v1, v2, by rw [below_at hb hl, g0], by rw [below_at hb hl, g1], by rw [below_at hb hl, g2], RdG.below hb f g3⟩
theorem only_at {g : Nat} {w w' : World} (h : Only (some g) w w') {b o : Nat} (hb : b < w.heap.size) (hne : b ≠ g) : w'.cell? ⟨b, o, none⟩ = w.cell? ⟨b, o, none⟩ := by
  unfold World.cell?
  rw [h.block b hb (fun e => hne (by injection e))]
theorem rdL_only {g : Nat} {w w' : World} {a : Option Addr} {n : Nat} {xs : List (List UInt8)} (h : RdL w a n xs) (t : Only (some g) w w') (hl : lo (g + 1) a) : RdL w' a n xs := by
  refine ⟨h.1, ?_⟩
  rcases h.2 with e | ⟨b, off, ha, hb, hx⟩
  · exact .inl e
  · exact .inr ⟨b, off, ha, Nat.lt_of_lt_of_le hb t.size, fun i hi => by rw [only_at t hb (by have := hl _ ha; simp at this; omega), hx i hi]⟩
theorem rdF_only {g : Nat} {w w' : World} {a : Option Addr} {n : Nat} {xs : List Fld} (h : RdF w a n xs) (t : Only (some g) w w') (hl : lo (g + 1) a) : RdF w' a n xs := by
  refine ⟨h.1, ?_⟩
  rcases h.2 with e | ⟨b, off, ha, hb, hx⟩
  · exact .inl e
  · exact .inr ⟨b, off, ha, Nat.lt_of_lt_of_le hb t.size, fun i hi d v hv => by rw [only_at t hb (by have := hl _ ha; simp at this; omega), hx i hi d v hv]⟩
/-- A block below turns. -/
theorem RdG.only {M B g : Nat} {w w' : World} (t : Only (some g) w w') (hg : g < B) : ∀ (f : Nat) {v : Value} {p : Prt}, RdG M B w f v p → RdG M B w' f v p
  | 0, _, _, h => h
  | f + 1, v, p, h => by
    obtain ⟨a1, c1, a2, c2, a3, c3, hv, ⟨h1, h2, h2'⟩, ⟨h3, h4, h5, h5'⟩, h6, h7, h8⟩ := h
    refine ⟨a1, c1, a2, c2, a3, c3, hv, ⟨rdF_only h1 t (h2'.mono hg), h2, h2'⟩, ⟨rdL_only h3 t (h5'.mono hg), h4, h5, h5'⟩, h6, h7, ?_⟩
    rcases h8 with e | ⟨b, off, e, hB, hl, hk⟩
    · exact .inl e
    · refine .inr ⟨b, off, e, hB, Nat.lt_of_lt_of_le hl t.size, fun i hi => ?_⟩
      obtain ⟨v0, v1, v2, g0, g1, g2, g3⟩ := hk i hi
      exact ⟨v0, v1, v2, by rw [only_at t hl (by omega), g0], by rw [only_at t hl (by omega), g1], by rw [only_at t hl (by omega), g2], RdG.only t hg f g3⟩
theorem RdG.base {M B C : Nat} {w : World} (hc : C ≤ B) : ∀ (f : Nat) {v : Value} {p : Prt}, RdG M B w f v p → RdG M C w f v p
  | 0, _, _, h => h
  | f + 1, v, p, h => by
    obtain ⟨a1, c1, a2, c2, a3, c3, hv, ⟨h1, h2, h2'⟩, ⟨h3, h4, h5, h5'⟩, h6, h7, h8⟩ := h
    refine ⟨a1, c1, a2, c2, a3, c3, hv, ⟨h1, h2, h2'.mono hc⟩, ⟨h3, h4, h5, h5'.mono hc⟩, h6, h7, ?_⟩
    rcases h8 with e | ⟨b, off, e, hB, hl, hk⟩
    · exact .inl e
    · refine .inr ⟨b, off, e, Nat.le_trans hc hB, hl, fun i hi => ?_⟩
      obtain ⟨v0, v1, v2, g0, g1, g2, g3⟩ := hk i hi
      exact ⟨v0, v1, v2, g0, g1, g2, RdG.base hc f g3⟩
/-- All parts of a tree are small. -/
def okT : Nat → Prt → Prop
  | 0, _ => True
  | f + 1, p => PF p ∧ ∀ i, (h : i < p.kids.length) → okT f p.kids[i]
theorem RdG.small {M B : Nat} {w : World} : ∀ (f : Nat) {v : Value} {p : Prt}, RdG M B w f v p → okT f p → RdG 1048576 B w f v p
  | 0, _, _, h, _ => h
  | f + 1, v, p, h, ho => by
    obtain ⟨a1, c1, a2, c2, a3, c3, hv, h1, h3, h6, _, h8⟩ := h
    refine ⟨a1, c1, a2, c2, a3, c3, hv, h1, h3, h6, ho.1, ?_⟩
    rcases h8 with e | ⟨b, off, e, hB, hl, hk⟩
    · exact .inl e
    · refine .inr ⟨b, off, e, hB, hl, fun i hi => ?_⟩
      obtain ⟨v0, v1, v2, g0, g1, g2, g3⟩ := hk i hi
      exact ⟨v0, v1, v2, g0, g1, g2, RdG.small f g3 (ho.2 i hi)⟩
theorem RdG.plain {B : Nat} {w : World} : ∀ (f : Nat) {v : Value} {p : Prt}, RdG 1048576 B w f v p → RdT w f v p
  | 0, _, _, h => h
  | f + 1, v, p, h => by
    obtain ⟨a1, c1, a2, c2, a3, c3, hv, ⟨h1, h2, _⟩, ⟨h3, h4, h5, _⟩, h6, h7, h8⟩ := h
    refine ⟨a1, c1, a2, c2, a3, c3, hv, ⟨h1, h2⟩, ⟨h3, h4, h5⟩, h6, h7, ?_⟩
    rcases h8 with e | ⟨b, off, e, hB, hl, hk⟩
    · exact .inl e
    · refine .inr ⟨b, off, e, hl, fun i hi => ?_⟩
      obtain ⟨v0, v1, v2, g0, g1, g2, g3⟩ := hk i hi
      exact ⟨v0, v1, v2, g0, g1, g2, RdG.plain f g3⟩
theorem RdGs.at {M B : Nat} {w : World} {f : Nat} {a : Option Addr} {ks : List Prt} (h : RdGs M B w f a ks) {i : Nat} (hi : i < ks.length) : ∃ b off, a = some ⟨b, off, none⟩ ∧ b < w.heap.size ∧ ∃ (a1 : Option Addr) (c1 : Nat) (a2 : Option Addr) (c2 : Nat) (a3 : Option Addr) (c3 : Nat),
    w.cell? ⟨b, off + i * 3, none⟩ = some (.slice a1 ks[i].fields.length c1) ∧ w.cell? ⟨b, off + i * 3 + 1, none⟩ = some (.slice a2 ks[i].body.length c2) ∧ w.cell? ⟨b, off + i * 3 + 2, none⟩ = some (.slice a3 ks[i].kids.length c3) ∧
    RdG M B w f (.agg #[.slice a1 ks[i].fields.length c1, .slice a2 ks[i].body.length c2, .slice a3 ks[i].kids.length c3]) ks[i] := by
  rcases h with e | ⟨b, off, e, _, hl, hk⟩
  · omega
  · obtain ⟨v0, v1, v2, g0, g1, g2, g3⟩ := hk i hi
    refine ⟨b, off, e, hl, ?_⟩
    have g4 := g3
    obtain ⟨f', a1, c1, a2, c2, a3, c3, rfl, hv, _⟩ := g3.open
    injection hv with hv
    have e0 : v0 = .slice a1 ks[i].fields.length c1 := by injection hv with hv; injection hv
    have e1 : v1 = .slice a2 ks[i].body.length c2 := by injection hv with hv; injection hv with _ hv; injection hv
    have e2 : v2 = .slice a3 ks[i].kids.length c3 := by injection hv with hv; injection hv with _ hv; injection hv with _ hv; injection hv
    subst e0 e1 e2
    exact ⟨a1, c1, a2, c2, a3, c3, g0, g1, g2, g4⟩
end Go.Proofs.YtcdmjckkencgoaaGreatDoor
end

section
namespace Go.Proofs.YtcdmjckkencgoaaGreatDoor
open Go.RowKit

/-- A reader at block R: its bytes lie elsewhere; p picks have been made. -/
def Rd (w : World) (R p : Nat) : Prop := ∃ (a : Option Addr) (n c : Nat), w.cell? ⟨R, 0, none⟩ = some (.slice a n c) ∧ w.cell? ⟨R, 1, none⟩ = some (.int .i64 p) ∧ w.frozen? ⟨R, 1, none⟩ = false ∧ n ≤ 2000 ∧
  (n = 0 ∨ ∃ b off, a = some ⟨b, off, none⟩ ∧ b < R ∧ ∀ i, i < n → ∃ x : Nat, x < 256 ∧ w.cell? ⟨b, off + i, none⟩ = some (.int .u8 x))
theorem Rd.lt {w : World} {R p : Nat} (h : Rd w R p) : R < w.heap.size := by
  obtain ⟨a, n, c, h0, _⟩ := h; exact lt_of_cell h0
theorem Rd.touch {w w' : World} {R p p' : Nat} (h : Rd w R p) (t : Touch R w w') (h0 : w'.cell? ⟨R, 0, none⟩ = w.cell? ⟨R, 0, none⟩) (h1 : w'.cell? ⟨R, 1, none⟩ = some (.int .i64 p')) (hf : w'.frozen? ⟨R, 1, none⟩ = w.frozen? ⟨R, 1, none⟩) : Rd w' R p' := by
  obtain ⟨a, n, c, g0, g1, gf, gn, gc⟩ := h
  refine ⟨a, n, c, by rw [h0, g0], h1, by rw [hf, gf], gn, ?_⟩
  rcases gc with e | ⟨b, off, ha, hb, hx⟩
  · exact .inl e
  · refine .inr ⟨b, off, ha, hb, fun i hi => ?_⟩
    obtain ⟨x, hx1, hx2⟩ := hx i hi
    exact ⟨x, hx1, by rw [t.cell (lt_of_cell hx2) (Nat.ne_of_lt hb), hx2]⟩
theorem Rd.below {w w' : World} {R p : Nat} (h : Rd w R p) (t : Below w.heap.size w w') : Rd w' R p := by
  have hl := h.lt
  have h' := h
  obtain ⟨a, n, c, g0, g1, gf, gn, gc⟩ := h'
  exact h.touch (Touch.of_below t) (below_at t hl) (by rw [below_at t hl, g1]) (below_fz t hl)
theorem Rd.belowB {w w' : World} {R p B : Nat} (h : Rd w R p) (t : Below B w w') (hR : R < B) : Rd w' R p := by
  obtain ⟨a, n, c, g0, g1, gf, gn, gc⟩ := h
  refine ⟨a, n, c, by rw [below_at t hR, g0], by rw [below_at t hR, g1], by rw [below_fz t hR, gf], gn, ?_⟩
  rcases gc with e | ⟨b, off, ha, hb, hx⟩
  · exact .inl e
  · refine .inr ⟨b, off, ha, hb, fun i hi => ?_⟩
    obtain ⟨x, hx1, hx2⟩ := hx i hi
    exact ⟨x, hx1, by rw [below_at t (by omega), hx2]⟩
/-- What a pick leaves: a number from 0 to n-1 (0 where n is less than 1), and the reader one pick on. -/
def Picked (R p : Nat) (n : Int) (w : World) (e : Ending) (w' : World) : Prop := ∃ k : Nat, e = .returned (.int .i64 k) ∧ ((k : Int) < n ∨ n < 1 ∧ k = 0) ∧ Rd w' R (p + 1) ∧ Touch R w w'
theorem picked_mk {R p : Nat} {n : Int} {w w' : World} {e : Ending} {v : Int} (he : e = .returned (.int .i64 v)) (h0 : 0 ≤ v) (hn : v < n ∨ n < 1 ∧ v = 0) (hr : Rd w' R (p + 1)) (ht : Touch R w w') : Picked R p n w e w' := by
  obtain ⟨k, rfl⟩ := Int.eq_ofNat_of_zero_le h0
  exact ⟨k, he, by omega, hr, ht⟩
theorem rd_next {w : World} {R p : Nat} (h : Rd w R p) (q : Int) (hq : q = ((p + 1 : Nat) : Int)) : Rd (w.setCell ⟨R, 1, none⟩ (.int .i64 q)) R (p + 1) := by
  subst hq
  have h' := h
  obtain ⟨a, n, c, g0, g1, gf, gn, gc⟩ := h'
  exact h.touch (Touch.setCell _ _ _ _) (cell_off (by omega) _) (cell_same g1 _) (World.frozen?_setCell _ _ _ _)

theorem xor_nonneg {X : Int} (h0 : 0 ≤ X) (h1 : X < 9223372036854775807) : 0 ≤ bits BinOp.xor IntKind.i64 X (X / 64) := by
  obtain ⟨a, rfl⟩ := Int.eq_ofNat_of_zero_le h0
  have e : ((a : Int) / 64) = ((a / 64 : Nat) : Int) := by omega
  rw [e]
  have hx : a ^^^ (a / 64) < 2 ^ 63 := Nat.xor_lt_two_pow (by omega) (by omega)
  have g1 : (BitVec.ofInt 64 (a : Int)).toNat = a := by
    rw [BitVec.ofInt_natCast, BitVec.toNat_ofNat]; exact Nat.mod_eq_of_lt (by omega)
  have g2 : (BitVec.ofInt 64 ((a / 64 : Nat) : Int)).toNat = a / 64 := by
    rw [BitVec.ofInt_natCast, BitVec.toNat_ofNat]; exact Nat.mod_eq_of_lt (by omega)
  show 0 ≤ IntKind.i64.wrap ((BitVec.ofInt 64 (a : Int) ^^^ BitVec.ofInt 64 ((a / 64 : Nat) : Int)).toNat : Int)
  rw [BitVec.toNat_xor, g1, g2]
  have : IntKind.i64.wrap ((a ^^^ a / 64 : Nat) : Int) = ((a ^^^ a / 64 : Nat) : Int) := by
    simp only [IntKind.wrap, IntKind.bits, IntKind.signed]
    have h63 : (2 : Nat) ^ 63 = 9223372036854775808 := by decide
    simp; omega
  rw [this]; omega

end Go.Proofs.YtcdmjckkencgoaaGreatDoor
end

section
namespace Go.Proofs.YtcdmjckkencgoaaGreatDoor
open Go.RowKit

end Go.Proofs.YtcdmjckkencgoaaGreatDoor
end

section
namespace Go.Proofs.YtcdmjckkencgoaaGreatDoor
open Go.RowKit

/-- A string of at most M bytes is drawn; nothing that was there turns. -/
def DrawnStr (M : Nat) (w : World) (e : Ending) (w' : World) : Prop := ∃ s : ByteArray, e = .returned (.string s) ∧ s.size ≤ M ∧ Below w.heap.size w w'
def DrawnTwo (M : Nat) (w : World) (e : Ending) (w' : World) : Prop := ∃ s t : ByteArray, e = .returned (.tuple #[.string s, .string t]) ∧ s.size ≤ M ∧ t.size ≤ M ∧ Below w.heap.size w w'
theorem after_open {w w1 w2 : World} {R : Nat} (hb : Below w.heap.size w w1) (hR : w.heap.size ≤ R) (ht : Touch R w1 w2) : Below w.heap.size w w2 := hb.trans (ht.below hR hb.size)
end Go.Proofs.YtcdmjckkencgoaaGreatDoor
end

section
namespace Go.Proofs.YtcdmjckkencgoaaGreatDoor
open Go.ChangeShapes Go.WideShapes Go.ChangeAt Go.RowKit
open Go.ChangeMaps (open_string shut_string)

theorem own : ownKnob Tryz.prog.godebug = none := by kernel_rfl
theorem laidOut : laidOutB Tryz.prog = true := by kernel_rfl
/-! The table of atoms' other bytes, as a package-level variable that the rows list. -/
theorem tG : Tryz.prog.globalNamed "loop.example/mailwire/impl.atomMarks" = some 4 := by kernel_rfl
theorem tGType : (Tryz.prog.globals[4]?).map (·.type) = some 179 := by kernel_rfl
theorem tCellsE : Tryz.prog.cellsOf 178 = 2 := by kernel_rfl
theorem tCellsT : Tryz.prog.cellsOf 179 = 18 := by kernel_rfl
theorem tCellsB : Tryz.prog.cellsOf 5 = 1 := by kernel_rfl
def tabAt (cs : List Value) (i : Nat) : Int := intOf (cs.getD i undef)
def tabDatum {H : Type} (cs : List Value) : DataW H := .agg ((List.range 9).map fun i => .agg [.lit (.int .u8 (tabAt cs (2 * i))), .lit (.int .u8 (tabAt cs (2 * i + 1)))])
theorem tab_inv {H : Type} {enc : TypeId × Value → H} {w : World} {base fuel : Nat} {sp : Nat → Bool} {held : Bool} {cs : List Value} {x : DataW H × List MemPlace}
    (h : DataW.trod enc Tryz.prog w base sp held fuel 179 cs = some x) :
    cs.length = 18 ∧ (∀ i, i < 18 → cs[i]? = some (.int .u8 (tabAt cs i))) ∧ x = (tabDatum cs, []) := by
  obtain ⟨xs, m, _, rfl, hl, hn, hf⟩ := DataW.trod_array Tryz.underlying179 h
  rw [tCellsT] at hl
  have key : ∀ i, i < 9 → cs[2 * i]? = some (.int .u8 (tabAt cs (2 * i))) ∧ cs[2 * i + 1]? = some (.int .u8 (tabAt cs (2 * i + 1))) ∧ xs[i]? = some (.agg [.lit (.int .u8 (tabAt cs (2 * i))), .lit (.int .u8 (tabAt cs (2 * i + 1)))], []) := by
    intro i hi
    have h1 := hf i hi
    rw [List.getElem?_eq_getElem (by omega)] at h1
    obtain ⟨y0, y1, k, hx, _, g0, g1⟩ := trod_struct2 Tryz.underlying178 h1
    obtain ⟨z0, c0, e0, _⟩ := DataW.trod_int Tryz.underlying5 g0
    obtain ⟨z1, c1, e1, _⟩ := DataW.trod_int Tryz.underlying5 g1
    have q0 : cs[2 * i]? = some (.int .u8 z0) := by
      have := congrArg (·[0]?) c0
      simp only [tCellsE, tCellsB] at this
      simpa [List.getElem?_take, List.getElem?_drop, Nat.mul_comm] using this
    have q1 : cs[2 * i + 1]? = some (.int .u8 z1) := by
      have := congrArg (·[0]?) c1
      simp only [tCellsE, tCellsB] at this
      simpa [List.getElem?_take, List.getElem?_drop, Nat.mul_comm] using this
    have f0 : tabAt cs (2 * i) = z0 := by unfold tabAt; rw [List.getD_eq_getElem?_getD, q0]; rfl
    have f1 : tabAt cs (2 * i + 1) = z1 := by unfold tabAt; rw [List.getD_eq_getElem?_getD, q1]; rfl
    rw [f0, f1]
    refine ⟨q0, q1, ?_⟩
    rw [List.getElem?_eq_getElem (by omega), hx, e0, e1]; rfl
  refine ⟨hl, fun i hi => ?_, ?_⟩
  · rcases Nat.mod_two_eq_zero_or_one i with h2 | h2
    · have := (key (i / 2) (by omega)).1
      rwa [show 2 * (i / 2) = i by omega] at this
    · have := (key (i / 2) (by omega)).2.1
      rwa [show 2 * (i / 2) + 1 = i by omega] at this
  · have hxs : xs = (List.range 9).map fun i => ((.agg [.lit (.int .u8 (tabAt cs (2 * i))), .lit (.int .u8 (tabAt cs (2 * i + 1)))], []) : DataW H × List MemPlace) := by
      apply List.ext_getElem?
      intro i
      by_cases hi : i < 9
      · rw [(key i hi).2.2]; simp [hi]
      · rw [List.getElem?_eq_none (by omega), List.getElem?_eq_none (by simp; omega)]
    rw [hxs]
    unfold tabDatum
    simp [List.map_map, Function.comp_def]
theorem tab_list {cs : List Value} (hl : cs.length = 18) (h : ∀ i, i < 18 → cs[i]? = some (.int .u8 (tabAt cs i))) (hd : (tabDatum cs : DataW Unit) = Rows.laid_loop_example_mailwire_impl_atomMarks) : cs = tabL := by
  unfold tabDatum Rows.laid_loop_example_mailwire_impl_atomMarks at hd
  simp only [List.range, List.range.loop, List.map_cons, List.map_nil, DataW.agg.injEq, List.cons.injEq, DataW.lit.injEq, Lit.int.injEq, true_and, and_true] at hd
  apply List.ext_getElem?
  intro i
  by_cases hi : i < 18
  · rw [h i hi]
    rcases (by omega : i = 0 ∨ i = 1 ∨ i = 2 ∨ i = 3 ∨ i = 4 ∨ i = 5 ∨ i = 6 ∨ i = 7 ∨ i = 8 ∨ i = 9 ∨ i = 10 ∨ i = 11 ∨ i = 12 ∨ i = 13 ∨ i = 14 ∨ i = 15 ∨ i = 16 ∨ i = 17) with rfl | rfl | rfl | rfl | rfl | rfl | rfl | rfl | rfl | rfl | rfl | rfl | rfl | rfl | rfl | rfl | rfl | rfl <;> simp_all [tabL]
  · rw [List.getElem?_eq_none (by omega), List.getElem?_eq_none (by simp [tabL]; omega)]
theorem tab_reads {H : Type} (enc : TypeId × Value → H) (w : World) (base : Nat) (sp : Nat → Bool) (held : Bool) : DataW.trod enc Tryz.prog w base sp held 8 179 tabL = some (tabDatum tabL, []) := by kernel_rfl
/-- From the rows' condition: the table's cells. -/
theorem tab_of_laid {W : World} (h : laidMet Tryz.prog [("loop.example/mailwire/impl.atomMarks", Rows.laid_loop_example_mailwire_impl_atomMarks)] W) : W.var? Tryz.prog "loop.example/mailwire/impl.atomMarks" = some tabL.toArray ∧ Tab W := by
  obtain ⟨ps, ⟨g', t', cs, fuel, p, q, hg', ht', hvar, hd, _, _⟩, _⟩ := h
  obtain rfl := Option.some.inj (tG.symm.trans hg')
  obtain rfl := Option.some.inj (tGType.symm.trans ht')
  obtain ⟨hl, hc, hx⟩ := tab_inv hd
  have hcs := tab_list hl hc (congrArg Prod.fst hx).symm
  have hv : W.var? Tryz.prog "loop.example/mailwire/impl.atomMarks" = some tabL.toArray := by rw [hvar, ← hcs]
  refine ⟨hv, fun j v hj => ?_⟩
  have := World.var?_cell tG hv j
  rw [Nat.zero_add, this]; simpa using hj
/-- The variable read again behind the call. -/
theorem tab_again {H : Type} {enc : TypeId × Value → H} {W W' : World} {gs : List (DataW H)} {ps : List MemPlace} (h : DataW.TrodVars enc Tryz.prog W (fun _ => true) ["loop.example/mailwire/impl.atomMarks"] gs ps) (hv : W.var? Tryz.prog "loop.example/mailwire/impl.atomMarks" = some tabL.toArray) (hb : Below W.heap.size W W') (ht : Tab W) :
    ∃ d : DataW H, gs = [d] ∧ ∀ sp, DataW.TrodVars enc Tryz.prog W' sp ["loop.example/mailwire/impl.atomMarks"] [d] (MemPlace.row ⟨4, 0, none⟩ tabL.toArray.size ++ []) := by
  obtain ⟨g, t, cs, fuel, d, p, rfl, hg, hty, hvar, hd, rfl⟩ := trodVars_one h
  obtain rfl := Option.some.inj (tG.symm.trans hg)
  obtain rfl := Option.some.inj (tGType.symm.trans hty)
  obtain rfl := Option.some.inj (hv.symm.trans hvar)
  obtain ⟨_, _, hx⟩ := tab_inv hd
  have hdd : d = tabDatum tabL := congrArg Prod.fst hx
  subst hdd
  exact ⟨_, rfl, fun sp => trodVars_mk1 tG tGType (var?_below hb tG ht.lt hv) (tab_reads enc W' 0 sp true)⟩
/-- A world for the witness: the settled one, the table holding what its initialiser lays. -/
noncomputable def laidWorld (os : Os) : World :=
  { World.holding Tryz.prog os ⟨#[], #[], []⟩ with heap := (World.holding Tryz.prog os ⟨#[], #[], []⟩).heap.modify 4 fun
      | .cells _ t frozen => .cells tabL.toArray t frozen
      | o => o }
/-! Rows that list two tables of the library's beside the program's. -/
theorem tab_of_laid3 {W : World} (h : laidMet Tryz.prog [("unicode/utf8.acceptRanges", Rows.laid_unicode_utf8_acceptRanges), ("loop.example/mailwire/impl.atomMarks", Rows.laid_loop_example_mailwire_impl_atomMarks), ("unicode/utf8.first", Rows.laid_unicode_utf8_first)] W) : W.var? Tryz.prog "loop.example/mailwire/impl.atomMarks" = some tabL.toArray ∧ Tab W := by
  obtain ⟨ps, ⟨_, _, _, _, _, _, _, _, _, _, ⟨g', t', cs, fuel, p, q, hg', ht', hvar, hd, _, _⟩, _⟩, _⟩ := h
  obtain rfl := Option.some.inj (tG.symm.trans hg')
  obtain rfl := Option.some.inj (tGType.symm.trans ht')
  obtain ⟨hl, hc, hx⟩ := tab_inv hd
  have hcs := tab_list hl hc (congrArg Prod.fst hx).symm
  have hv : W.var? Tryz.prog "loop.example/mailwire/impl.atomMarks" = some tabL.toArray := by rw [hvar, ← hcs]
  refine ⟨hv, fun j v hj => ?_⟩
  have := World.var?_cell tG hv j
  rw [Nat.zero_add, this]; simpa using hj
def accL : List Nat := [128, 191, 160, 191, 128, 159, 144, 191, 128, 143, 0, 0, 0, 0, 0, 0, 0, 0, 0, 0, 0, 0, 0, 0, 0, 0, 0, 0, 0, 0, 0, 0]
def layAt (h : Array Obj) (g : Nat) (C : Array Value) : Array Obj := h.modify g fun
  | .cells _ t frozen => .cells C t frozen
  | o => o
/-- A world for the witness: the settled one, the three tables holding what their initialisers lay. -/
noncomputable def laidWorld3 (os : Os) : World :=
  { World.holding Tryz.prog os ⟨#[], #[], []⟩ with heap := layAt (layAt (layAt (World.holding Tryz.prog os ⟨#[], #[], []⟩).heap 4 tabL.toArray) 2 (Go.Pinned.utf8FirstZ.map fun (n : Nat) => Value.int .u8 n).toArray) 3 (accL.map fun (n : Nat) => Value.int .u8 n).toArray }
set_option maxRecDepth 100000 in
theorem met3 (os : Os) (args : Array Value) : laidMet Tryz.prog [("unicode/utf8.acceptRanges", Rows.laid_unicode_utf8_acceptRanges), ("loop.example/mailwire/impl.atomMarks", Rows.laid_loop_example_mailwire_impl_atomMarks), ("unicode/utf8.first", Rows.laid_unicode_utf8_first)] ((laidWorld3 os).forCall (fun _ _ => 0) ⟨#[], args, []⟩).memory :=
  laidMet_of_run3 8 (by kernel_rfl) (by kernel_rfl) (by kernel_rfl)
theorem mx_of_shaped {W : World} (h : W.ShapedOpen Tryz.prog) : ∃ m, W.cell? ⟨1, 0, none⟩ = some (.int .i64 m) :=
  cell_of_shapedOpen_int (zero := #[.int .i64 0]) (t := 3) h (of_decide_eq_true (by kernel_rfl)) (by kernel_rfl) rfl (by kernel_rfl) (by kernel_rfl) Tryz.underlying3
end Go.Proofs.YtcdmjckkencgoaaGreatDoor
end

section
namespace Go.Proofs.YtcdmjckkencgoaaGreatDoor
open Go.ChangeShapes Go.WideShapes Go.ChangeAt Go.RowKit
open Go.ChangeMaps (open_string shut_string)

set_option maxRecDepth 100000 in
theorem open_fld {H : Type} {enc : TypeId × Value → H} {W : World} {r : Reach} {b0 : Nat} {v : Value} {d : DataW H} {p : List MemPlace} (hv : Value.okWide Tryz.prog W r b0 72 v)
    (h : DataW.Trod enc Tryz.prog W 0 (fun _ => true) true 72 v d p) : ∃ n l : ByteArray, v = .agg #[.string n, .string l] ∧ n.size ≤ maxLen ∧ l.size ≤ maxLen := by
  obtain ⟨v0, v1, y0, y1, m, rfl, rfl, rfl, t0, t1⟩ := Joins.open_agg2 Tryz.underlying72 (by kernel_rfl) (by kernel_rfl) hv h
  obtain ⟨s0, e0, _, z0⟩ := DataW.trod_string Tryz.underlying9 t0
  obtain ⟨s1, e1, _, z1⟩ := DataW.trod_string Tryz.underlying9 t1
  injection e0 with e0 _
  injection e1 with e1 _
  subst e0 e1
  exact ⟨s0, s1, rfl, z0, z1⟩
/-- A size is what is left, or below 0 where it does not fit. -/
def SizedF (m : Int) (n l : ByteArray) (w : World) (e : Ending) (w' : World) : Prop := ∃ r : Int, e = .returned (.int .i64 r) ∧ -1 ≤ r ∧ r ≤ m ∧ (0 ≤ r → (n.size : Int) ≤ m ∧ (l.size : Int) ≤ m) ∧ Below w.heap.size w w'
set_option maxRecDepth 100000 in
set_option maxHeartbeats 1000000 in
theorem szField_any (n l : ByteArray) (m : Int) (w : World) (hn : n.size ≤ maxLen) (hl : l.size ≤ maxLen) (hm0 : 0 ≤ m) (hm : m ≤ 1073741824) :
    Calls Tryz.prog 52 #[.agg #[.string n, .string l], .int .i64 m] w (SizedF m n l w) := by
  unfold maxLen at hn hl
  have hb0 : Below w.heap.size w (w.alloc (.cells #[.string n, .string l] 72)) := (Below.refl _ _).alloc (Nat.le_refl _) _
  by_cases h1 : m - n.size < 0
  · go_enter Tryz.func52, Tryz.ntmps52
    go_wp2
    go_ret
    exact ⟨-1, rfl, by omega, by omega, fun h => by omega, hb0⟩
  · by_cases h2 : m - n.size - l.size < 0
    · go_enter Tryz.func52, Tryz.ntmps52
      go_wp2
      go_ret
      exact ⟨-1, rfl, by omega, by omega, fun h => by omega, hb0⟩
    · go_enter Tryz.func52, Tryz.ntmps52
      go_wp2
      go_ret
      exact ⟨m - n.size - l.size, rfl, by omega, by omega, fun _ => ⟨by omega, by omega⟩, hb0⟩
set_option maxRecDepth 100000 in
set_option maxHeartbeats 1000000 in
theorem toField_any (n l : ByteArray) (w : World) :
    Calls Tryz.prog 57 #[.agg #[.string n, .string l]] w fun e w' => e = .returned (.agg #[.string n, .string l]) ∧ Below w.heap.size w w' := by
  go_enter Tryz.func57, Tryz.ntmps57
  go_wp2
  refine bodyPost_ret (v := .agg #[.string n, .string l]) (by simp [results, Tryz.results57, go_sem]) rfl ⟨rfl, ?_⟩
  exact (((Below.refl _ _).alloc (Nat.le_refl _) _).alloc (by simp) _).alloc (by simp; omega) _
set_option maxRecDepth 100000 in
set_option maxHeartbeats 1000000 in
theorem eqField_any (n l n2 l2 : ByteArray) (w : World) :
    Calls Tryz.prog 60 #[.agg #[.string n, .string l], .agg #[.string n2, .string l2]] w fun e w' => e = .returned (.bool (decide (fld n l = fld n2 l2))) ∧ Below w.heap.size w w' := by
  have hb0 : Below w.heap.size w ((w.alloc (.cells #[.string n, .string l] 78)).alloc (.cells #[.string n2, .string l2] 78)) := ((Below.refl _ _).alloc (Nat.le_refl _) _).alloc (by simp) _
  have HI : Hid (fld n l = fld n2 l2 ↔ n = n2 ∧ l = l2) := by
    show _ ↔ _
    unfold fld
    constructor
    · intro h; injection h with h1 h2; exact ⟨bytes_ext h1, bytes_ext h2⟩
    · rintro ⟨rfl, rfl⟩; rfl
  by_cases h1 : n = n2
  · have e1 : (n.toList == n2.toList) = true := by rw [h1]; simp
    by_cases h2 : l = l2
    · have e2 : (l.toList == l2.toList) = true := by rw [h2]; simp
      have HV : Hid (decide (fld n l = fld n2 l2) = true) := by show _ = _; rw [decide_eq_true_iff, HI.out]; exact ⟨h1, h2⟩
      clear h1 h2
      go_enter Tryz.func60, Tryz.ntmps60
      go_wp2
      go_ret
      exact ⟨ret_bool HV.out.symm, hb0⟩
    · have e2 : (l.toList == l2.toList) = false := by rw [beq_dec, decide_eq_false h2]
      have HV : Hid (decide (fld n l = fld n2 l2) = false) := by show _ = _; rw [decide_eq_false_iff_not, HI.out]; exact fun h => h2 h.2
      clear h1 h2
      go_enter Tryz.func60, Tryz.ntmps60
      go_wp2
      go_ret
      exact ⟨ret_bool HV.out.symm, hb0⟩
  · have e1 : (n.toList == n2.toList) = false := by rw [beq_dec, decide_eq_false h1]
    have HV : Hid (decide (fld n l = fld n2 l2) = false) := by show _ = _; rw [decide_eq_false_iff_not, HI.out]; exact fun h => h1 h.1
    clear h1
    go_enter Tryz.func60, Tryz.ntmps60
    go_wp2
    go_ret
    exact ⟨ret_bool HV.out.symm, hb0⟩
end Go.Proofs.YtcdmjckkencgoaaGreatDoor
end

section
namespace Go.Proofs.YtcdmjckkencgoaaGreatDoor
open Go.RowKit

theorem joinAll_succ (xs : List (List UInt8)) (k : Nat) (h : k < xs.length) : joinAll (xs.take (k + 1)) = if k = 0 then quoteW xs[k] else joinAll (xs.take k) ++ 32 :: quoteW xs[k] := by
  rw [List.take_succ_eq_append_getElem h, joinAll_snoc]
  by_cases hk : k = 0
  · subst hk; simp
  · rw [if_neg hk, if_neg (by intro e; have h2 : (xs.take k).length = 0 := (by rw [e]; rfl); rw [List.length_take] at h2; omega)]
theorem joinW_bad {xs : List (List UInt8)} {k : Nat} (h : k < xs.length) (hx : isText xs[k] = false) : joinW xs = [] := by
  unfold joinW
  rw [if_neg]
  rw [Bool.and_eq_true, List.all_eq_true]
  intro hc
  have := hc.1 _ (List.getElem_mem h)
  rw [hx] at this; cases this
theorem joinW_long {xs : List (List UInt8)} {k : Nat} (h : 200 < (joinAll (xs.take k)).length) : joinW xs = [] := by
  unfold joinW
  rw [if_neg]
  rw [Bool.and_eq_true, decide_eq_true_eq]
  intro hc
  have := joinAll_take xs k
  omega
theorem joinW_all {xs : List (List UInt8)} (h : ∀ j, (hj : j < xs.length) → isText xs[j] = true) (hl : (joinAll xs).length ≤ 200) : joinW xs = joinAll xs := by
  unfold joinW
  rw [if_pos]
  rw [Bool.and_eq_true, decide_eq_true_eq, List.all_eq_true]
  refine ⟨fun x hx => ?_, hl⟩
  obtain ⟨j, hj, rfl⟩ := List.getElem_of_mem hx
  exact h j hj
theorem take_full {α : Type} (xs : List α) : xs.take xs.length = xs := List.take_length
end Go.Proofs.YtcdmjckkencgoaaGreatDoor
end

section
namespace Go.Proofs.YtcdmjckkencgoaaGreatDoor
open Go.RowKit

theorem OwnL.touch {B R : Nat} {v : Value} {xs : List (List UInt8)} {w w' : World} (h : OwnL B v xs w) (t : Touch R w w') (hR : R < B) : OwnL B v xs w' := by
  refine ⟨h.1, ?_⟩
  rcases h.2 with hn | ⟨g, cap, cur, hv, hg1, hg2, rest⟩
  · exact .inl hn
  · refine .inr ⟨g, cap, cur, hv, hg1, ?_, rest⟩
    have hglt : g < w.heap.size := by
      rcases Nat.lt_or_ge g w.heap.size with h' | h'
      · exact h'
      · simp [Array.getElem?_eq_none h'] at hg2
    rw [t.block g hglt (by omega), hg2]
end Go.Proofs.YtcdmjckkencgoaaGreatDoor
end

section
namespace Go.Proofs.YtcdmjckkencgoaaGreatDoor
open Go.RowKit

def dg : Nat → Nat → List UInt8 → List UInt8
  | 0, _, acc => acc
  | f + 1, k, acc => if k = 0 then acc else dg f (k / 10) (UInt8.ofNat (48 + k % 10) :: acc)
theorem dg_zero (f : Nat) (acc : List UInt8) : dg f 0 acc = acc := by cases f <;> simp [dg]
theorem dg_step {f k : Nat} (hk : 0 < k) (hf : k < f) (acc : List UInt8) : dg f k acc = dg (f - 1) (k / 10) (UInt8.ofNat (48 + k % 10) :: acc) := by
  match f, hf with
  | f + 1, _ => rw [dg, if_neg (by omega)]; rfl
/-- The mark of a number. -/
def markT (k : Nat) : ByteArray := str (109 :: dg (k + 1) k [])
def mT (k : Nat) : List UInt8 := 109 :: dg (k + 1) k []
theorem mT_eq (k : Nat) : markT k = str (mT k) := rfl
set_option maxRecDepth 100000 in
set_option maxHeartbeats 2000000 in
theorem markText_any (k : Nat) (w : World) (hk0 : 0 < k) (hk : k ≤ 1073741824) :
    Calls Tryz.prog 39 #[.int .i64 k] w fun e w' => e = .returned (.string (markT k)) ∧ Below w.heap.size w w' := by
  go_enter Tryz.func39, Tryz.ntmps39
  go_wp2_with fail
  go_loopw [0, 3] (fun i v wr => ∃ (m f : Nat) (o : ByteArray), i = .int .i64 m ∧ v = .string o ∧ m < f ∧ o.size + m ≤ k ∧ dg f m o.data.toList = dg (k + 1) k [] ∧ Below w.heap.size w wr) (fun i _ _ => (intOf i).toNat)
  case atStart => exact ⟨k, k + 1, _, rfl, rfl, by omega, (by show 0 + k ≤ k; omega), rfl, Below.refl _ _⟩
  case round =>
    obtain ⟨m, f, o, rfl, rfl, hmf, hos, hdg, hb⟩ := hrel
    have HD := Lib.hid hdg
    clear hdg
    by_cases hm : 0 < m
    · have HN : Hid (dg (f - 1) (m / 10) (UInt8.ofNat (48 + m % 10) :: o.data.toList) = dg (k + 1) k []) := by show _ = _; rw [← HD.out, dg_step hm hmf]
      have hcv := conv_one wr (UInt8.ofNat (48 + m % 10)) (n := (48 : Int) + (m : Int) % 10) (by rw [UInt8.toNat_ofNat_of_lt' (by show _ < 256; omega)]; omega)
      have q1 : 0 ≤ (m : Int) % 10 := Int.emod_nonneg _ (by omega)
      have q2 : (m : Int) % 10 < 10 := Int.emod_lt_of_pos _ (by omega)
      generalize UInt8.ofNat (48 + m % 10) = ch at *
      have hz1 : (ByteArray.mk #[ch]).size = 1 := rfl
      go_wp2
      go_roundw
      case rel => exact ⟨m / 10, f - 1, _, by go_num, rfl, by omega, by rw [ByteArray.size_append, hz1]; omega, by rw [Joins.data_append]; exact HN.out, hb.alloc hb.size _⟩
      case measure => simp [intOf]; omega
    · have hm0 : m = 0 := by omega
      subst hm0
      have HE : Hid (o.data.toList = dg (k + 1) k []) := by show _ = _; rw [← HD.out, dg_zero]
      have hz1 : (ByteArray.mk #[109]).size = 1 := rfl
      clear hm
      go_wp2
      go_ret
      exact ⟨ret_str (bytes_ext (by rw [Joins.data_append, HE.out]; unfold markT; rw [str_list]; rfl)), hb⟩
/-- A list of the call's own is returned; nothing that was there turns. -/
def ListRet (xs : List (List UInt8)) (w : World) (e : Ending) (w' : World) : Prop := ∃ a c, e = .returned (.slice a xs.length c) ∧ OwnL w.heap.size (.slice a xs.length c) xs w' ∧ RdL w' a xs.length xs ∧ Below w.heap.size w w'
theorem list_of_row {B g n : Nat} {xs : List (List UInt8)} {L : List Value} {w : World} (h : w.ownsRow B 9 1 (.slice (some ⟨g, 0, none⟩) n n) n L) (hl : xs.length = n) (hx : ∀ j, (hj : j < xs.length) → L[j]? = some (strV xs[j])) : OwnL B (.slice (some ⟨g, 0, none⟩) n n) xs w := by
  have hL : L = xs.map strV := by
    apply List.ext_getElem?
    intro j
    by_cases hj : j < xs.length
    · rw [hx j hj]; simp [List.getElem?_map, List.getElem?_eq_getElem hj]
    · rw [List.getElem?_eq_none (by have := h.1; omega), List.getElem?_eq_none (by simp; omega)]
  unfold OwnL
  rw [← hL, hl]; exact h
theorem listRet_mk {xs : List (List UInt8)} {w w' : World} {a : Option Addr} {n c : Nat} (hn : n = xs.length) (ho : OwnL w.heap.size (.slice a n c) xs w') (hb : Below w.heap.size w w') : ListRet xs w (.returned (.slice a n c)) w' := by
  subst hn
  obtain ⟨a', c', hv, hr, _⟩ := ho.read
  injection hv with h1 h2 h3
  subst h1 h3
  exact ⟨a, c, rfl, ho, hr, hb⟩
set_option maxRecDepth 100000 in
set_option maxHeartbeats 2000000 in
theorem toStringS_any (a : Option Addr) (n c : Nat) (xs : List (List UInt8)) (w : World) (hr : RdL w a n xs) (hn : n ≤ 1073741824) :
    Calls Tryz.prog 18 #[.slice a n c] w (ListRet xs w) := by
  obtain ⟨i0, hi, hz0, hz1, hz2⟩ := info_parts sInfo
  obtain ⟨hl, hr2⟩ := hr
  have HLEN := Lib.hid hl
  have HR2 := Lib.hid hr2
  clear hl hr2
  go_enter Tryz.func18, Tryz.ntmps18
  go_wp2_with (at_make; refine wpList_make_full _ rfl _ _ 23 rfl w.heap.size 9 i0 (.string ⟨#[]⟩) 1 Tryz.underlying23 hi hz0 hz1 _ _ (n : Int) (n : Int) n rfl rfl rfl rfl ?c1 ?c2 ?c3 ?_)
  case c1 => rw [hz2]; omega
  case c2 => unfold maxLen; omega
  case c3 => exact Nat.le_refl _
  intro w1 hown hgrow
  have hb1 : Below w.heap.size w w1 := (Below.refl _ _).grown hgrow (Nat.le_refl _) (fun k hk => by cases hk)
  go_wp2_with fail
  go_loopw [4] (fun i wr => ∃ (k : Nat) (L : List Value), k ≤ n ∧ i = .int .i64 k ∧ Below w.heap.size w wr ∧ wr.ownsRow w.heap.size 9 1 (.slice (some ⟨w.heap.size, 0, none⟩) n n) n L ∧ ∀ j, j < k → (hj : j < xs.length) → L[j]? = some (strV xs[j])) (fun i _ => n - (intOf i).toNat)
  case atStart => exact ⟨0, _, Nat.zero_le _, rfl, hb1, hown, fun j h => by omega⟩
  case round =>
    obtain ⟨k, L, hk, rfl, hb, hO, hL⟩ := hrel
    have HL := Lib.hid hL
    clear hL
    by_cases hlt : k < n
    · have hkx : k < xs.length := by rw [HLEN.out]; exact hlt
      obtain ⟨b, off, rfl, hbl, hcell⟩ := HR2.out.resolve_left (by omega)
      have hc1 : wr.cell? ⟨b, off + k, none⟩ = some (.string (str xs[k])) := by rw [below_at hb hbl]; exact hcell k hkx
      have hlL : L.length = n := by have := hO.1; omega
      obtain ⟨v0, hv0⟩ : ∃ v0, L[k]? = some v0 := ⟨L[k]'(by omega), List.getElem?_eq_getElem (by omega)⟩
      have hc2 : wr.cell? ⟨w.heap.size, k, none⟩ = some v0 := by
        have := hO.cells (g := w.heap.size) rfl k v0 hv0
        rw [add0] at this; exact this
      have hf2 : wr.frozen? ⟨w.heap.size, k, none⟩ = false := hO.frozenAt k
      have hst := hO.stored k (.string (str xs[k]))
      have HST := Lib.hid hst
      have HLL := Lib.hid hlL
      clear hst hlL hcell hv0
      go_wp2
      go_roundw
      case rel => exact ⟨k + 1, _, by omega, by go_num, hb.setCell (by simp) _, HST.out.1, fun j hj hjx => by
        by_cases e : j = k
        · subst e; rw [List.getElem?_set_self (by rw [HLL.out]; omega)]; rfl
        · rw [List.getElem?_set_ne (fun h => e h.symm)]; exact HL.out j (by omega) hjx⟩
      case measure => simp [intOf]; omega
    · go_wp2
      go_ret
      exact listRet_mk HLEN.out.symm (list_of_row hO HLEN.out (fun j hj => HL.out j (by have := HLEN.out; omega) hj)) hb
set_option maxRecDepth 100000 in
set_option maxHeartbeats 2000000 in
/-- A size is what is left, or below 0 where it does not fit. -/
def Sized (m : Int) (xs : List (List UInt8)) (w : World) (e : Ending) (w' : World) : Prop := ∃ r : Int, e = .returned (.int .i64 r) ∧ -1 ≤ r ∧ r ≤ m ∧ (0 ≤ r → (xs.length : Int) ≤ m ∧ ∀ x ∈ xs, (x.length : Int) ≤ m) ∧ w = w'
theorem szStringS_any (a : Option Addr) (n c : Nat) (xs : List (List UInt8)) (m : Int) (w : World) (hr : RdL w a n xs) (hn : n ≤ maxLen) (hm0 : 0 ≤ m) (hm : m ≤ 1073741824) (hx : ∀ j, (h : j < xs.length) → xs[j].length ≤ maxLen) :
    Calls Tryz.prog 16 #[.slice a n c, .int .i64 m] w (Sized m xs w) := by
  unfold maxLen at hn hx
  obtain ⟨hl, hr2⟩ := hr
  have HLEN := Lib.hid hl
  have HR2 := Lib.hid hr2
  have HXX := Lib.hid hx
  clear hl hr2 hx
  by_cases hbig : m < n
  · have d1 : (m - n : Int) < 0 := by omega
    go_enter Tryz.func16, Tryz.ntmps16
    go_wp2
    go_ret
    exact ⟨-1, rfl, by omega, by omega, fun h => by omega, rfl⟩
  · go_enter Tryz.func16, Tryz.ntmps16
    go_wp2_with fail
    go_loop [1, 5] (fun l i => ∃ (k : Nat) (r : Int), k ≤ n ∧ i = .int .i64 k ∧ l = .int .i64 r ∧ 0 ≤ r ∧ r ≤ m ∧ ∀ j, j < k → (hj : j < xs.length) → (xs[j].length : Int) ≤ m) (fun _ i => n - (intOf i).toNat)
    case atStart => exact ⟨0, m - n, Nat.zero_le _, rfl, rfl, by omega, by omega, fun j h => by omega⟩
    case round =>
      obtain ⟨k, r, hk, rfl, rfl, hr0, hrm, hall⟩ := hrel
      have HA := Lib.hid hall
      clear hall
      by_cases hlt : k < n
      · have hkx : k < xs.length := by rw [HLEN.out]; exact hlt
        obtain ⟨b, off, rfl, hbl, hcell⟩ := HR2.out.resolve_left (by omega)
        have hc1 : w.cell? ⟨b, off + k, none⟩ = some (.string (str xs[k])) := hcell k hkx
        have hxl := HXX.out k hkx
        have HSZ := Lib.hid (str_size xs[k])
        have hsz : (str xs[k]).size ≤ 9223372036854775807 := by rw [HSZ.out]; omega
        clear hcell
        by_cases hs : r < (str xs[k]).size
        · go_wp2
          go_ret
          exact ⟨-1, rfl, by omega, by omega, fun h => by omega, rfl⟩
        · have HN : Hid ((xs[k].length : Int) ≤ m) := by show _ ≤ _; rw [← HSZ.out]; omega
          go_wp2
          go_round
          case rel => exact ⟨k + 1, r - (str xs[k]).size, by omega, by go_num, rfl, by omega, by omega, fun j hj hjx => by
            by_cases e : j = k
            · subst e; exact HN.out
            · exact HA.out j (by omega) hjx⟩
          case measure => simp [intOf]; omega
      · go_wp2
        go_ret
        exact ⟨r, rfl, by omega, hrm, fun _ => ⟨by rw [HLEN.out]; omega, fun x hx => by
          obtain ⟨j, hj, rfl⟩ := List.getElem_of_mem hx
          exact HA.out j (by have := HLEN.out; omega) hj⟩, rfl⟩
set_option maxRecDepth 100000 in
set_option maxHeartbeats 2000000 in
theorem eqStringS_any (a1 a2 : Option Addr) (n1 c1 n2 c2 : Nat) (xs ys : List (List UInt8)) (w : World) (h1 : RdL w a1 n1 xs) (h2 : RdL w a2 n2 ys) (hn1 : n1 ≤ maxLen) (hn2 : n2 ≤ maxLen) :
    Calls Tryz.prog 11 #[.slice a1 n1 c1, .slice a2 n2 c2] w fun e w' => e = .returned (.bool (decide (xs = ys))) ∧ Below w.heap.size w w' := by
  unfold maxLen at hn1 hn2
  obtain ⟨l1, r1⟩ := h1
  obtain ⟨l2, r2⟩ := h2
  have L1 := Lib.hid l1
  have L2 := Lib.hid l2
  by_cases hn : n1 = n2
  · subst hn
    have e1 : ((n1 : Int) != (n1 : Int)) = false := by simp
    by_cases h0 : n1 = 0
    · have hxy : Hid (xs = ys) := by show xs = ys; rw [List.length_eq_zero_iff.1 (l1.trans h0), List.length_eq_zero_iff.1 (l2.trans h0)]
      subst h0
      clear l1 l2 r1 r2
      go_enter Tryz.func11, Tryz.ntmps11
      go_wp2_with fail
      go_loop [5] (fun i => i = .int .i64 0) (fun _ => 0)
      case atStart => rfl
      case round =>
        subst hrel
        go_wp2
        go_ret
        exact ⟨ret_bool (decide_eq_true hxy.out).symm, Below.refl _ _⟩
    · obtain ⟨b1, o1, rfl, hb1, x1⟩ := r1.resolve_left h0
      obtain ⟨b2, o2, rfl, hb2, x2⟩ := r2.resolve_left h0
      have X1 := Lib.hid x1
      have X2 := Lib.hid x2
      clear l1 l2 r1 r2 x1 x2 h0
      go_enter Tryz.func11, Tryz.ntmps11
      go_wp2_with fail
      go_loopw [5] (fun i wr => ∃ k : Nat, k ≤ n1 ∧ i = .int .i64 k ∧ Below w.heap.size w wr ∧ xs.take k = ys.take k) (fun i _ => n1 - (intOf i).toNat)
      case atStart => exact ⟨0, Nat.zero_le _, rfl, Below.refl _ _, rfl⟩
      case round =>
        obtain ⟨k, hk, rfl, hb, htk⟩ := hrel
        have HTK := Lib.hid htk
        clear htk
        by_cases hlt : k < n1
        · have k1 : k < xs.length := by rw [L1.out]; exact hlt
          have k2 : k < ys.length := by rw [L2.out]; exact hlt
          have g1 : wr.cell? ⟨b1, o1 + k, none⟩ = some (.string (str xs[k])) := by rw [below_at hb hb1]; exact X1.out k k1
          have g2 : wr.cell? ⟨b2, o2 + k, none⟩ = some (.string (str ys[k])) := by rw [below_at hb hb2]; exact X2.out k k2
          by_cases hxy : xs[k] = ys[k]
          · have e3 : ((str xs[k]).toList == (str ys[k]).toList) = true := by rw [hxy]; simp
            have e4 : ((str xs[k]).toList != (str ys[k]).toList) = false := by rw [hxy]; simp
            have HN : Hid (xs.take (k + 1) = ys.take (k + 1)) := by show _ = _; rw [List.take_succ_eq_append_getElem k1, List.take_succ_eq_append_getElem k2, HTK.out, hxy]
            clear hxy
            go_wp2
            go_quiet (fail)
            go_wp2
            go_roundw
            case rel => exact ⟨k + 1, by omega, by go_num, below_drewN hb _, HN.out⟩
            case measure => simp [intOf]; omega
          · have hne : str xs[k] ≠ str ys[k] := fun e => hxy (by rw [← str_list xs[k], e, str_list])
            have e3 : ((str xs[k]).toList == (str ys[k]).toList) = false := by rw [beq_dec]; simpa using hne
            have e4 : ((str xs[k]).toList != (str ys[k]).toList) = true := by rw [bne, e3]; rfl
            have HN : Hid (xs ≠ ys) := by show _ ≠ _; intro e; subst e; exact hxy rfl
            clear hxy hne
            go_wp2
            go_quiet (fail)
            go_wp2
            go_ret
            exact ⟨ret_bool (decide_eq_false HN.out).symm, below_drewN hb _⟩
        · have HN : Hid (xs = ys) := by
            show xs = ys
            have h := HTK.out
            rw [List.take_of_length_le (by rw [L1.out]; omega), List.take_of_length_le (by rw [L2.out]; omega)] at h
            exact h
          go_wp2
          go_ret
          exact ⟨ret_bool (decide_eq_true HN.out).symm, hb⟩
  · have e1 : ((n1 : Int) != (n2 : Int)) = true := by rw [bne_iff_ne]; omega
    have HN : Hid (xs ≠ ys) := by show _ ≠ _; intro e; exact hn (by rw [← l1, ← l2, e])
    clear l1 l2 r1 r2
    go_enter Tryz.func11, Tryz.ntmps11
    go_wp2
    go_ret
    exact ⟨ret_bool (decide_eq_false HN.out).symm, Below.refl _ _⟩
/-- The marks from k on. -/
def marksFrom (k n : Nat) : List (List UInt8) := (List.range n).map fun i => mT (k + i)
theorem marksFrom_len (k n : Nat) : (marksFrom k n).length = n := by simp [marksFrom]
theorem marksFrom_at (k n j : Nat) (h : j < (marksFrom k n).length) : (marksFrom k n)[j] = mT (k + j) := by simp [marksFrom]
/-- A row in which the marks from k on stand. -/
def Marked (B k : Nat) (a : Option Addr) (n c : Nat) (w : World) (e : Ending) (w' : World) : Prop := e = .returned (.int .i64 ((k + n : Nat) : Int)) ∧ OwnL B (.slice a n c) (marksFrom k n) w' ∧ Below B w w'
theorem marked_mk {B k : Nat} {a : Option Addr} {n c : Nat} {w w' : World} {q : Int} (hq : q = ((k + n : Nat) : Int)) (ho : OwnL B (.slice a n c) (marksFrom k n) w') (hb : Below B w w') : Marked B k a n c w (.returned (.int .i64 q)) w' := ⟨by rw [hq], ho, hb⟩
set_option maxRecDepth 100000 in
set_option maxHeartbeats 2000000 in
theorem markStringS_any (B : Nat) (a : Option Addr) (n c : Nat) (xs : List (List UInt8)) (k : Nat) (w : World) (ho : OwnL B (.slice a n c) xs w) (hn : xs.length = n) (hB : B ≤ w.heap.size) (hk0 : 0 < k) (hk : k + n ≤ 1073741824) :
    Calls Tryz.prog 14 #[.slice a n c, .int .i64 k] w (Marked B k a n c w) := by
  unfold OwnL at ho
  rw [hn] at ho
  rcases ho.2 with ⟨hv, h0⟩ | ⟨g, cap, cur, hv, hBg, _⟩
  · subst h0
    have HO : Hid (OwnL B (.slice a 0 c) (marksFrom k 0) w) := by show OwnL _ _ _ _; rw [hv]; exact OwnL.nil B w
    clear hv ho
    go_enter Tryz.func14, Tryz.ntmps14
    go_wp2_with fail
    go_loop [1, 5] (fun q i => q = .int .i64 k ∧ i = .int .i64 0) (fun _ _ => 0)
    case atStart => exact ⟨rfl, rfl⟩
    case round =>
      obtain ⟨rfl, rfl⟩ := hrel
      go_wp2
      go_ret
      exact marked_mk (by omega) HO.out (Below.refl _ _)
  · injection hv with h1 h2 h3
    subst h1 h3
    go_enter Tryz.func14, Tryz.ntmps14
    go_wp2_with fail
    go_loopw [1, 5] (fun q i wr => ∃ (j : Nat) (L : List Value), j ≤ n ∧ i = .int .i64 j ∧ q = .int .i64 ((k + j : Nat) : Int) ∧ Below B w wr ∧ wr.ownsRow B 9 1 (.slice (some ⟨g, 0, none⟩) n c) n L ∧ g < wr.heap.size ∧ ∀ u, u < j → L[u]? = some (strV (mT (k + u)))) (fun _ i _ => n - (intOf i).toNat)
    case atStart => exact ⟨0, _, Nat.zero_le _, rfl, rfl, Below.refl _ _, ho, (ho.lt g rfl).2, fun j h => by omega⟩
    case round =>
      obtain ⟨j, L, hj, rfl, rfl, hb, hO, hg, hL⟩ := hrel
      have HL := Lib.hid hL
      clear hL
      by_cases hlt : j < n
      · go_wp2_with fail
        refine (markText_any (k + j) _ (by omega) (by omega)).mono ?_
        rintro e w1 ⟨rfl, hb1⟩
        rw [mT_eq]
        have hO1 : w1.ownsRow B 9 1 (.slice (some ⟨g, 0, none⟩) n c) n L := by
          refine ⟨hO.1, ?_⟩
          rcases hO.2 with hn | ⟨g', cap', cur', hv', hg1, hg2, rest⟩
          · exact .inl hn
          · refine .inr ⟨g', cap', cur', hv', hg1, ?_, rest⟩
            injection hv' with e1 _ _
            injection e1 with e1
            injection e1 with e1 _ _
            rw [← e1] at hg2 ⊢
            rw [hb1.block g hg, hg2]
        have hlL : L.length = n := by have := hO.1; omega
        obtain ⟨v0, hv0⟩ : ∃ v0, L[j]? = some v0 := ⟨L[j]'(by omega), List.getElem?_eq_getElem (by omega)⟩
        have hc2 : w1.cell? ⟨g, j, none⟩ = some v0 := by
          have := hO1.cells (g := g) rfl j v0 hv0
          rw [add0] at this; exact this
        have hf2 : w1.frozen? ⟨g, j, none⟩ = false := hO1.frozenAt j
        have HST := Lib.hid (hO1.stored j (.string (str (mT (k + j)))))
        have HLL := Lib.hid hlL
        have hbs := hb.size
        have hb2 : Below B w w1 := hb.trans (hb1.mono (by omega))
        have hg1' : g < w1.heap.size := Nat.lt_of_lt_of_le hg hb1.size
        clear hlL hv0 hO1 hO
        go_wp2
        go_roundw
        case rel => exact ⟨j + 1, _, by omega, by go_num, by go_num, hb2.setCell hBg _, HST.out.1, by simpa using hg1', fun u hu => by
          by_cases e : u = j
          · subst e; rw [List.getElem?_set_self (by rw [HLL.out]; omega)]; rfl
          · rw [List.getElem?_set_ne (fun h => e h.symm)]; exact HL.out u (by omega)⟩
        case measure => simp [intOf]; omega
      · have hjn : j = n := by omega
        have hlL : L.length = n := by have := hO.1; omega
        have hLe : L = (marksFrom k n).map strV := by
          apply List.ext_getElem?
          intro u
          by_cases hu : u < n
          · rw [HL.out u (by omega)]
            rw [List.getElem?_map, List.getElem?_eq_getElem (by rw [marksFrom_len]; exact hu), marksFrom_at]; rfl
          · rw [List.getElem?_eq_none (by omega), List.getElem?_eq_none (by rw [List.length_map, marksFrom_len]; omega)]
        have HO : Hid (OwnL B (.slice (some ⟨g, 0, none⟩) n c) (marksFrom k n) wr) := by show OwnL _ _ _ _; unfold OwnL; rw [marksFrom_len, ← hLe]; exact hO
        clear hlL hLe hO
        subst hjn
        go_wp2
        go_ret
        exact marked_mk (by omega) HO.out hb
set_option maxRecDepth 100000 in
set_option maxHeartbeats 2000000 in
theorem heldStringS_any (a : Option Addr) (n c : Nat) (k : Nat) (w : World) (hr : RdL w a n (marksFrom k n)) (hk0 : 0 < k) (hk : k + n ≤ 1073741824) :
    Calls Tryz.prog 15 #[.slice a n c, .int .i64 k] w fun e w' => e = .returned (.int .i64 ((k + n : Nat) : Int)) ∧ Below w.heap.size w w' := by
  have HR := Lib.hid hr.2
  clear hr
  go_enter Tryz.func15, Tryz.ntmps15
  go_wp2_with fail
  go_loopw [1, 5] (fun q i wr => ∃ j : Nat, j ≤ n ∧ i = .int .i64 j ∧ q = .int .i64 ((k + j : Nat) : Int) ∧ Below w.heap.size w wr) (fun _ i _ => n - (intOf i).toNat)
  case atStart => exact ⟨0, Nat.zero_le _, rfl, rfl, Below.refl _ _⟩
  case round =>
    obtain ⟨j, hj, rfl, rfl, hb⟩ := hrel
    by_cases hlt : j < n
    · obtain ⟨b, off, rfl, hbl, hcell⟩ := HR.out.resolve_left (by omega)
      have hc1 : wr.cell? ⟨b, off + j, none⟩ = some (.string (str (mT (k + j)))) := by
        rw [below_at hb hbl, hcell j (by rw [marksFrom_len]; exact hlt), marksFrom_at]
      have hbs := Nat.lt_of_lt_of_le hbl hb.size
      have e1 : ((str (mT (k + j))).toList != (str (mT (k + j))).toList) = false := by simp
      generalize hM : str (mT (k + j)) = M at *
      have HM := Lib.hid hM
      clear hcell hM
      go_wp2
      go_region_with (go_at_call 39; refine (markText_any (k + j) _ ?_ ?_).mono ?_; omega; omega; rintro e w4 ⟨rfl, hb4⟩; rw [mT_eq, HM.out]; have hc4 := (below_at (o := off + j) hb4 hbs).trans hc1)
      all_goals
        go_wp2
        go_roundw
        case rel => exact ⟨j + 1, by omega, by go_num, by go_num, nx hb.drew hb4⟩
        case measure => simp [intOf]; omega
    · have hjn : j = n := by omega
      subst hjn
      go_wp2
      go_ret
      exact ⟨rfl, hb⟩
end Go.Proofs.YtcdmjckkencgoaaGreatDoor
end

section
namespace Go.Proofs.YtcdmjckkencgoaaGreatDoor
open Go.ChangeShapes Go.WideShapes Go.RowKit Go.Deep

theorem set2 {L : List Value} {k : Nat} (hk : k * 2 + 1 < L.length) (a b : Value) :
    ((L.set (k * 2) a).set (k * 2 + 1) b)[k * 2]? = some a ∧ ((L.set (k * 2) a).set (k * 2 + 1) b)[k * 2 + 1]? = some b ∧ ∀ i, i < k * 2 → ((L.set (k * 2) a).set (k * 2 + 1) b)[i]? = L[i]? := by
  refine ⟨?_, ?_, fun i hi => ?_⟩
  · rw [List.getElem?_set_ne (by omega), List.getElem?_set_self (by omega)]
  · rw [List.getElem?_set_self (by simp; omega)]
  · rw [List.getElem?_set_ne (by omega), List.getElem?_set_ne (by omega)]
theorem set2_row {L : List Value} {k : Nat} {xs : List Fld} (x : Fld) (hk : k * 2 + 1 < L.length) (hx : ∀ (hj : k < xs.length), xs[k] = x)
    (h : ∀ j, j < k → (hj : j < xs.length) → ∀ d, d < 2 → L[j * 2 + d]? = (fldC xs[j])[d]?) :
    ∀ j, j < k + 1 → (hj : j < xs.length) → ∀ d, d < 2 → ((L.set (k * 2) (.string (str x.name))).set (k * 2 + 1) (.string (str x.val)))[j * 2 + d]? = (fldC xs[j])[d]? := by
  intro j hj hjx d hd
  obtain ⟨g0, g1, g3⟩ := set2 hk (.string (str x.name)) (.string (str x.val))
  by_cases e : j = k
  · subst e
    rw [hx hjx]
    rcases (by omega : d = 0 ∨ d = 1) with rfl | rfl
    · exact g0
    · exact g1
  · rw [g3 _ (by omega)]; exact h j (by omega) hjx d hd
/-- A list of fields of the call's own is returned; nothing that was there turns. -/
def FldsRet (xs : List Fld) (w : World) (e : Ending) (w' : World) : Prop := ∃ a c, e = .returned (.slice a xs.length c) ∧ OwnF w.heap.size (.slice a xs.length c) xs w' ∧ RdF w' a xs.length xs ∧ xs.length ≤ c ∧ Below w.heap.size w w'
theorem fldsRet_mk {xs : List Fld} {w w' : World} {a : Option Addr} {n c : Nat} (hn : n = xs.length) (ho : OwnF w.heap.size (.slice a n c) xs w') (hb : Below w.heap.size w w') : FldsRet xs w (.returned (.slice a n c)) w' := by
  subst hn
  obtain ⟨a', c', hv, hr, _, hc⟩ := ho.read fldC_len
  injection hv with h1 h2 h3
  subst h1 h3
  exact ⟨a, c, rfl, ho, hr, hc, hb⟩
set_option maxRecDepth 100000 in
set_option maxHeartbeats 1000000 in
theorem toFieldS_any (a : Option Addr) (n c : Nat) (xs : List Fld) (w : World) (hr : RdF w a n xs) (hn : n ≤ 1073741824) :
    Calls Tryz.prog 32 #[.slice a n c] w (FldsRet xs w) := by
  obtain ⟨i0, hi, hz0, hz1, hz2⟩ := info_parts fInfo
  obtain ⟨hl, hr2⟩ := hr
  have HLEN := Lib.hid hl
  have HR2 := Lib.hid hr2
  clear hl hr2
  go_enter Tryz.func32, Tryz.ntmps32
  go_wp2_with (at_make; refine wpList_make_full _ rfl _ _ 30 rfl w.heap.size 78 i0 (.agg #[.string ⟨#[]⟩, .string ⟨#[]⟩]) 2 Tryz.underlying30 hi hz0 hz1 _ _ (n : Int) (n : Int) n rfl rfl rfl rfl ?c1 ?c2 ?c3 ?_)
  case c1 => rw [hz2]; omega
  case c2 => unfold maxLen; omega
  case c3 => exact Nat.le_refl _
  intro w1 hown hgrow
  have hb1 : Below w.heap.size w w1 := (Below.refl _ _).grown hgrow (Nat.le_refl _) (fun k hk => by cases hk)
  have hsz1 := (hown.lt w.heap.size rfl).2
  go_wp2_with fail
  go_loopw [4] (fun i wr => ∃ (k : Nat) (L : List Value), k ≤ n ∧ i = .int .i64 k ∧ Below w.heap.size w wr ∧ wr.ownsRow w.heap.size 78 2 (.slice (some ⟨w.heap.size, 0, none⟩) n n) n L ∧ w.heap.size < wr.heap.size ∧ ∀ j, j < k → (hj : j < xs.length) → ∀ d, d < 2 → L[j * 2 + d]? = (fldC xs[j])[d]?) (fun i _ => n - (intOf i).toNat)
  case atStart => exact ⟨0, _, Nat.zero_le _, rfl, hb1, hown, hsz1, fun j h => by omega⟩
  case round =>
    obtain ⟨k, L, hk, rfl, hb, hO, hzr, hL⟩ := hrel
    have HL := Lib.hid hL
    clear hL
    by_cases hlt : k < n
    · have hkx : k < xs.length := by rw [HLEN.out]; exact hlt
      obtain ⟨b, off, rfl, hbl, hcell⟩ := HR2.out.resolve_left (by omega)
      obtain ⟨q0, q1⟩ := RdR.fld hcell hkx
      rw [← below_at hb hbl] at q0 q1
      have hlL : L.length = n * 2 := hO.1
      have h3 : k * 2 + 1 < L.length := by rw [hlL]; omega
      have HNX := Lib.hid (set2_row (xs := xs) xs[k] h3 (fun _ => rfl) HL.out)
      clear hcell
      generalize str xs[k].name = s0 at *
      generalize str xs[k].val = s1 at *
      go_wp2_with fail
      refine (toField_any s0 s1 _).mono ?_
      rintro e w2 ⟨rfl, hb2⟩
      have hO2 := row_keep hO hb2
      have hb02 := nx hb hb2
      have hz2' : w.heap.size < w2.heap.size := Nat.lt_of_lt_of_le hzr hb2.size
      obtain ⟨v0, hv0⟩ := row_cell hO2 (k * 2) (by omega)
      obtain ⟨v1, hv1⟩ := row_cell hO2 (k * 2 + 1) (by omega)
      have f0 : w2.frozen? ⟨w.heap.size, k * 2, none⟩ = false := hO2.frozenAt _
      have f1 : w2.frozen? ⟨w.heap.size, k * 2 + 1, none⟩ = false := hO2.frozenAt _
      have HST := Lib.hid ((hO2.stored (k * 2) (.string s0)).1.stored (k * 2 + 1) (.string s1)).1
      clear hlL h3 hO hO2
      go_wp2
      go_roundw
      case rel => exact ⟨k + 1, _, by omega, by go_num, ((hb02.setCell (by simp) _).setCell (by simp) _), HST.out, by simpa using hz2', HNX.out⟩
      case measure => simp [intOf]; omega
    · go_wp2
      go_ret
      refine fldsRet_mk HLEN.out.symm ?_ hb
      have hlx := HLEN.out
      unfold OwnF OwnR
      rw [← flat_ext fldC 2 (by omega) fldC_len xs L (by rw [hO.1, hlx]) (fun j hj => HL.out j (by omega) hj), hlx]
      exact hO
/-- A size is what is left, or below 0 where it does not fit. -/
def SizedG (m : Int) (xs : List Fld) (w : World) (e : Ending) (w' : World) : Prop := ∃ r : Int, e = .returned (.int .i64 r) ∧ -1 ≤ r ∧ r ≤ m ∧ (0 ≤ r → (xs.length : Int) ≤ m ∧ ∀ x ∈ xs, SmallF m.toNat x) ∧ Below w.heap.size w w'
set_option maxRecDepth 100000 in
set_option maxHeartbeats 1000000 in
theorem szFieldS_any (a : Option Addr) (n c : Nat) (xs : List Fld) (m : Int) (w : World) (hr : RdF w a n xs) (hn : n ≤ maxLen) (hm0 : 0 ≤ m) (hm : m ≤ 1073741824) (hx : ∀ x ∈ xs, SmallF maxLen x) :
    Calls Tryz.prog 28 #[.slice a n c, .int .i64 m] w (SizedG m xs w) := by
  unfold maxLen at hn
  obtain ⟨hl, hr2⟩ := hr
  have HLEN := Lib.hid hl
  have HR2 := Lib.hid hr2
  have HXX := Lib.hid hx
  clear hl hr2 hx
  by_cases hbig : m < n
  · have d1 : (m - n : Int) < 0 := by omega
    go_enter Tryz.func28, Tryz.ntmps28
    go_wp2
    go_ret
    exact ⟨-1, rfl, by omega, by omega, fun h => by omega, Below.refl _ _⟩
  · go_enter Tryz.func28, Tryz.ntmps28
    go_wp2_with fail
    go_loopw [1, 5] (fun l i wr => ∃ (k : Nat) (r : Int), k ≤ n ∧ i = .int .i64 k ∧ l = .int .i64 r ∧ 0 ≤ r ∧ r ≤ m ∧ Below w.heap.size w wr ∧ ∀ j, j < k → (hj : j < xs.length) → SmallF m.toNat xs[j]) (fun _ i _ => n - (intOf i).toNat)
    case atStart => exact ⟨0, m - n, Nat.zero_le _, rfl, rfl, by omega, by omega, Below.refl _ _, fun j h => by omega⟩
    case round =>
      obtain ⟨k, r, hk, rfl, rfl, hr0, hrm, hb, hall⟩ := hrel
      have HA := Lib.hid hall
      clear hall
      by_cases hlt : k < n
      · have hkx : k < xs.length := by rw [HLEN.out]; exact hlt
        obtain ⟨b, off, rfl, hbl, hcell⟩ := HR2.out.resolve_left (by omega)
        obtain ⟨q0, q1⟩ := RdR.fld hcell hkx
        rw [← below_at hb hbl] at q0 q1
        obtain ⟨z0, z1⟩ := HXX.out _ (List.getElem_mem hkx)
        have HZ : Hid ((str xs[k].name).size = xs[k].name.length ∧ (str xs[k].val).size = xs[k].val.length) := ⟨str_size _, str_size _⟩
        rw [← str_size] at z0 z1
        clear hcell
        generalize str xs[k].name = s0 at *
        generalize str xs[k].val = s1 at *
        go_wp2_with fail
        refine (szField_any s0 s1 r _ z0 z1 hr0 (by omega)).mono ?_
        rintro e w2 ⟨r2, rfl, hg1, hg2, hsm, hb2⟩
        have HSM := Lib.hid hsm
        clear hsm
        by_cases hneg : r2 < 0
        · go_wp2
          go_ret
          exact ⟨-1, rfl, by omega, by omega, fun h => by omega, nx hb hb2⟩
        · go_wp2
          go_roundw
          case rel => exact ⟨k + 1, r2, by omega, by go_num, rfl, by omega, by omega, nx hb hb2, fun j hj hjx => by
            by_cases e : j = k
            · subst e
              obtain ⟨u0, u1⟩ := HSM.out (by omega)
              obtain ⟨y0, y1⟩ := HZ.out
              exact ⟨by omega, by omega⟩
            · exact HA.out j (by omega) hjx⟩
          case measure => simp [intOf]; omega
      · go_wp2
        go_ret
        exact ⟨r, rfl, by omega, hrm, fun _ => ⟨by rw [HLEN.out]; omega, fun x hx => by
          obtain ⟨j, hj, rfl⟩ := List.getElem_of_mem hx
          exact HA.out j (by have := HLEN.out; omega) hj⟩, hb⟩
set_option maxRecDepth 100000 in
set_option maxHeartbeats 1000000 in
theorem eqFieldS_any (a1 a2 : Option Addr) (n1 c1 n2 c2 : Nat) (xs ys : List Fld) (w : World) (h1 : RdF w a1 n1 xs) (h2 : RdF w a2 n2 ys) (hn1 : n1 ≤ maxLen) (hn2 : n2 ≤ maxLen) :
    Calls Tryz.prog 35 #[.slice a1 n1 c1, .slice a2 n2 c2] w fun e w' => e = .returned (.bool (decide (xs = ys))) ∧ Below w.heap.size w w' := by
  unfold maxLen at hn1 hn2
  obtain ⟨l1, r1⟩ := h1
  obtain ⟨l2, r2⟩ := h2
  have L1 := Lib.hid l1
  have L2 := Lib.hid l2
  by_cases hn : n1 = n2
  · subst hn
    have e1 : ((n1 : Int) != (n1 : Int)) = false := by simp
    by_cases h0 : n1 = 0
    · have hxy : Hid (xs = ys) := by show xs = ys; rw [List.length_eq_zero_iff.1 (l1.trans h0), List.length_eq_zero_iff.1 (l2.trans h0)]
      subst h0
      clear l1 l2 r1 r2
      go_enter Tryz.func35, Tryz.ntmps35
      go_wp2_with fail
      go_loop [5] (fun i => i = .int .i64 0) (fun _ => 0)
      case atStart => rfl
      case round =>
        subst hrel
        go_wp2
        go_ret
        exact ⟨ret_bool (decide_eq_true hxy.out).symm, Below.refl _ _⟩
    · obtain ⟨b1, o1, rfl, hb1, x1⟩ := r1.resolve_left h0
      obtain ⟨b2, o2, rfl, hb2, x2⟩ := r2.resolve_left h0
      have X1 := Lib.hid x1
      have X2 := Lib.hid x2
      clear l1 l2 r1 r2 x1 x2 h0
      go_enter Tryz.func35, Tryz.ntmps35
      go_wp2_with fail
      go_loopw [5] (fun i wr => ∃ k : Nat, k ≤ n1 ∧ i = .int .i64 k ∧ Below w.heap.size w wr ∧ xs.take k = ys.take k) (fun i _ => n1 - (intOf i).toNat)
      case atStart => exact ⟨0, Nat.zero_le _, rfl, Below.refl _ _, rfl⟩
      case round =>
        obtain ⟨k, hk, rfl, hb, htk⟩ := hrel
        have HTK := Lib.hid htk
        clear htk
        by_cases hlt : k < n1
        · have k1 : k < xs.length := by rw [L1.out]; exact hlt
          have k2 : k < ys.length := by rw [L2.out]; exact hlt
          obtain ⟨q0, q1⟩ := RdR.fld X1.out k1
          obtain ⟨p0, p1⟩ := RdR.fld X2.out k2
          rw [← below_at hb hb1] at q0 q1
          rw [← below_at hb hb2] at p0 p1
          have HDE : Hid (decide (fld (str xs[k].name) (str xs[k].val) = fld (str ys[k].name) (str ys[k].val)) = decide (xs[k] = ys[k])) := by show _ = _; rw [fld_str, fld_str]
          have HT1 := Lib.hid (List.take_succ_eq_append_getElem k1)
          have HT2 := Lib.hid (List.take_succ_eq_append_getElem k2)
          have HXY : Hid (xs[k] ≠ ys[k] → xs ≠ ys) := fun h e => h (by subst e; rfl)
          have hkz : (0 : Int) ≤ (k : Int) := by omega
          have hkn : (k : Int) < (n1 : Int) := by omega
          generalize xs[k] = x at *
          generalize ys[k] = y at *
          generalize str x.name = s0 at *
          generalize str x.val = s1 at *
          generalize str y.name = t0 at *
          generalize str y.val = t1 at *
          by_cases hxy : x = y
          · have HD : Hid (decide (fld s0 s1 = fld t0 t1) = true) := by show _ = _; rw [HDE.out]; exact decide_eq_true hxy
            have HN : Hid (xs.take (k + 1) = ys.take (k + 1)) := by show _ = _; rw [HT1.out, HT2.out, HTK.out, hxy]
            clear hxy
            go_wp2
            go_region_with (go_at_call 60; refine (eqField_any _ _ _ _ _).mono ?_; rintro e w4 ⟨rfl, hb4⟩; rw [HD.out])
            all_goals
              go_wp2
              go_roundw
              case rel => first | exact ⟨k + 1, by omega, by go_num, nx hb.drew hb4, HN.out⟩ | exact ⟨k + 1, by omega, by go_num, nx hb hb4, HN.out⟩
              case measure => simp [intOf]; omega
          · have HD : Hid (decide (fld s0 s1 = fld t0 t1) = false) := by show _ = _; rw [HDE.out]; exact decide_eq_false hxy
            have HN : Hid (xs ≠ ys) := HXY.out hxy
            clear hxy
            go_wp2
            go_region_with (go_at_call 60; refine (eqField_any _ _ _ _ _).mono ?_; rintro e w4 ⟨rfl, hb4⟩; rw [HD.out])
            all_goals
              go_wp2
              go_ret
              first | exact ⟨ret_bool (decide_eq_false HN.out).symm, nx hb.drew hb4⟩ | exact ⟨ret_bool (decide_eq_false HN.out).symm, nx hb hb4⟩
        · have HN : Hid (xs = ys) := by
            show xs = ys
            have h := HTK.out
            rw [List.take_of_length_le (by rw [L1.out]; omega), List.take_of_length_le (by rw [L2.out]; omega)] at h
            exact h
          go_wp2
          go_ret
          exact ⟨ret_bool (decide_eq_true HN.out).symm, hb⟩
  · have e1 : ((n1 : Int) != (n2 : Int)) = true := by rw [bne_iff_ne]; omega
    have HN : Hid (xs ≠ ys) := by show _ ≠ _; intro e; exact hn (by rw [← l1, ← l2, e])
    clear l1 l2 r1 r2
    go_enter Tryz.func35, Tryz.ntmps35
    go_wp2
    go_ret
    exact ⟨ret_bool (decide_eq_false HN.out).symm, Below.refl _ _⟩
end Go.Proofs.YtcdmjckkencgoaaGreatDoor
end

section
namespace Go.Proofs.YtcdmjckkencgoaaGreatDoor
open Go.ChangeShapes Go.WideShapes Go.RowKit Go.Deep

theorem cells2 {H : Type} {enc : TypeId × Value → H} {P : Program} {W : World} {base : Nat} {spare : Nat → Bool} {held : Bool} {T : TypeId} {f0 f1 : Field} {f : Nat} {cs : List Value} {x : DataW H × List MemPlace} (hs : P.underlying T = some (.struct #[f0, f1])) (hone : oneCellFields P #[f0, f1] = true)
    (h : DataW.trod enc P W base spare held f T cs = some x) (hl : cs.length = 2) :
    ∃ c0 c1 y0 y1 n, cs = [c0, c1] ∧ DataW.trod enc P W base spare held n f0.type [c0] = some y0 ∧ DataW.trod enc P W base spare held n f1.type [c1] = some y1 := by
  obtain ⟨ys, n', hn', hy, hlen, hyl, hf⟩ := DataW.trod_struct hs h
  match cs, hl with
  | [c0, c1], _ =>
    have g0 := hf 0 f0 rfl
    have g1 := hf 1 f1 rfl
    obtain ⟨o0, k0⟩ := hone_of hone 0 f0 rfl
    obtain ⟨o1, k1⟩ := hone_of hone 1 f1 rfl
    rw [o0, k0] at g0
    rw [o1, k1] at g1
    match ys, hyl with
    | [y0, y1], _ => exact ⟨c0, c1, y0, y1, n', rfl, g0, g1⟩
theorem addr_noneF (b o j : Nat) : (⟨b, o, none⟩ : Addr).add j = ⟨b, o + j, none⟩ := by unfold Addr.add; split <;> simp_all
set_option maxRecDepth 100000 in
theorem fld_cells {H : Type} {enc : TypeId × Value → H} {W : World} {f : Nat} {cs : List Value} {x : DataW H × List MemPlace} (h : DataW.trod enc Tryz.prog W 0 (fun _ => true) true f 72 cs = some x) (hl : cs.length = 2) :
    ∃ s0 s1 : ByteArray, cs = [.string s0, .string s1] ∧ s0.size ≤ maxLen ∧ s1.size ≤ maxLen := by
  obtain ⟨c0, c1, y0, y1, n, rfl, g0, g1⟩ := cells2 Tryz.underlying72 (by kernel_rfl) h hl
  obtain ⟨s0, e0, _, z0⟩ := DataW.trod_string Tryz.underlying9 g0
  obtain ⟨s1, e1, _, z1⟩ := DataW.trod_string Tryz.underlying9 g1
  injection e0 with e0 _
  injection e1 with e1 _
  subst e0 e1
  exact ⟨s0, s1, rfl, z0, z1⟩
set_option maxRecDepth 100000 in
theorem flds_of_trod {H : Type} {enc : TypeId × Value → H} {W : World} {a : Option Addr} {n c : Nat} {d : DataW H} {p : List MemPlace}
    (h : DataW.Trod enc Tryz.prog W 0 (fun _ => true) true 22 (Value.slice a n c) d p) : ∃ xs, RdF W a n xs ∧ n ≤ maxLen ∧ ∀ x ∈ xs, SmallF maxLen x := by
  obtain ⟨fuel, hf⟩ := h
  have hC : Tryz.prog.cellsOf 72 = 2 := by kernel_rfl
  rcases open_slice Tryz.underlying22 hf with ⟨hcs, _⟩ | ⟨x, l, k, m, f, D, Pl, hcs, _, hl, hm, hmm, _, hi⟩
  · simp [Value.cells] at hcs
    obtain ⟨rfl, rfl, rfl⟩ := hcs
    exact ⟨[], ⟨rfl, .inl rfl⟩, Nat.zero_le _, fun j hj => by simp at hj⟩
  · simp [Value.cells] at hcs
    obtain ⟨rfl, rfl, rfl⟩ := hcs
    have hmm' : m = c := by simpa using hmm
    subst hmm'
    have hq : ∀ i, i < m → ∃ y : Fld, SmallF maxLen y ∧ ∀ d v, (fldC y)[d]? = some v → W.cell? (x.add (i * 2 + d)) = some v := by
      intro i him
      obtain ⟨cs', hc, ht'⟩ := hi i him
      rw [hC] at hc
      obtain ⟨_, hcl, hat⟩ := World.cells?_some hc
      obtain ⟨s0, s1, rfl, z0, z1⟩ := fld_cells ht' hcl
      refine ⟨fld s0 s1, ⟨?_, ?_⟩, fun d v hv => ?_⟩
      · unfold fld; simpa [size_list] using z0
      · unfold fld; simpa [size_list] using z1
      · have hv' : (fldC (fld s0 s1)) = [.string s0, .string s1] := by unfold fldC fld; simp only [str_of]
        rw [hv'] at hv
        have hd : d < 2 := by rcases Nat.lt_or_ge d 2 with h | h; exact h; rw [List.getElem?_eq_none (by simpa using h)] at hv; cases hv
        have := hat d hd
        rw [Go.Deep.add_add] at this
        rw [this]; exact hv
    obtain ⟨b, off, spot⟩ := x
    refine ⟨(List.range n).map (fun i => if h : i < m then Classical.choose (hq i h) else fld0), ⟨by simp, ?_⟩, by omega, fun y hy => ?_⟩
    · by_cases h0 : n = 0
      · exact .inl h0
      · have hc0 := (Classical.choose_spec (hq 0 (by omega))).2 0 _ rfl
        have hspot : spot = none := by simpa [Addr.add] using World.cell?_spot hc0
        subst hspot
        rw [addr_noneF] at hc0
        refine .inr ⟨b, off, rfl, lt_of_cell hc0, fun i hi' d v hv => ?_⟩
        have hin : i < n := by simpa using hi'
        have him : i < m := by omega
        rw [List.getElem_map, List.getElem_range, dif_pos him] at hv
        have := (Classical.choose_spec (hq i him)).2 d v hv
        rw [addr_noneF, ← Nat.add_assoc] at this
        exact this
    · obtain ⟨i, hi', rfl⟩ := List.mem_map.1 hy
      have hin : i < n := by simpa using hi'
      rw [dif_pos (by omega : i < m)]
      exact (Classical.choose_spec (hq i (by omega))).1
theorem markTextF_any (q : Int) (k : Nat) (w : World) (hq : q = (k : Int)) (hk0 : 0 < k) (hk : k ≤ 1073741824) :
    Calls Tryz.prog 39 #[.int .i64 q] w fun e w' => e = .returned (.string (str (mT k))) ∧ Below w.heap.size w w' := by
  subst hq
  exact markText_any k w hk0 hk
/-- The marks from k on, two for each field. -/
def markF (k j : Nat) : Fld := ⟨mT (k + 2 * j), mT (k + 2 * j + 1)⟩
def marksF (k n : Nat) : List Fld := (List.range n).map (markF k)
theorem marksF_len (k n : Nat) : (marksF k n).length = n := by simp [marksF]
theorem marksF_at (k n j : Nat) (h : j < (marksF k n).length) : (marksF k n)[j] = markF k j := by simp [marksF]
def MarkedF (B k : Nat) (a : Option Addr) (n c : Nat) (w : World) (e : Ending) (w' : World) : Prop := e = .returned (.int .i64 ((k + 2 * n : Nat) : Int)) ∧ OwnF B (.slice a n c) (marksF k n) w' ∧ Only (Value.slice a n c).ownBlock w w'
theorem markedF_mk {B k : Nat} {a : Option Addr} {n c : Nat} {w w' : World} {q : Int} (hq : q = ((k + 2 * n : Nat) : Int)) (ho : OwnF B (.slice a n c) (marksF k n) w') (hb : Only (Value.slice a n c).ownBlock w w') : MarkedF B k a n c w (.returned (.int .i64 q)) w' := ⟨by rw [hq], ho, hb⟩
theorem set2_rowS {L : List Value} {k : Nat} {xs : List Fld} (x : Fld) (s0 s1 : ByteArray) (e0 : str x.name = s0) (e1 : str x.val = s1) (hk : k * 2 + 1 < L.length) (hx : ∀ (hj : k < xs.length), xs[k] = x)
    (h : ∀ j, j < k → (hj : j < xs.length) → ∀ d, d < 2 → L[j * 2 + d]? = (fldC xs[j])[d]?) :
    ∀ j, j < k + 1 → (hj : j < xs.length) → ∀ d, d < 2 → ((L.set (k * 2) (.string s0)).set (k * 2 + 1) (.string s1))[j * 2 + d]? = (fldC xs[j])[d]? := by
  subst e0 e1
  exact set2_row x hk hx h
set_option maxRecDepth 100000 in
set_option maxHeartbeats 1000000 in
theorem markFieldS_any (B : Nat) (a : Option Addr) (n c : Nat) (xs : List Fld) (k : Nat) (w : World) (ho : OwnF B (.slice a n c) xs w) (hn : xs.length = n) (hk0 : 0 < k) (hk : k + 2 * n ≤ 1073741824) :
    Calls Tryz.prog 37 #[.slice a n c, .int .i64 k] w (MarkedF B k a n c w) := by
  unfold OwnF OwnR at ho
  rw [hn] at ho
  rcases ho.2 with ⟨hv, h0⟩ | ⟨g, cap, cur, hv, hBg, _⟩
  · subst h0
    have HO : Hid (OwnF B (.slice a 0 c) (marksF k 0) w) := by show OwnF _ _ _ _; rw [hv]; exact OwnR.nil _ _ _ B w
    clear hv ho
    go_enter Tryz.func37, Tryz.ntmps37
    go_wp2_with fail
    go_loop [1, 5] (fun q i => q = .int .i64 k ∧ i = .int .i64 0) (fun _ _ => 0)
    case atStart => exact ⟨rfl, rfl⟩
    case round =>
      obtain ⟨rfl, rfl⟩ := hrel
      go_wp2
      go_ret
      exact markedF_mk (by omega) HO.out (Only.refl _ _)
  · injection hv with h1 h2 h3
    subst h1 h3
    have HOB : Hid ((Value.slice (some ⟨g, 0, none⟩) n c).ownBlock = some g) := rfl
    go_enter Tryz.func37, Tryz.ntmps37
    go_wp2_with fail
    go_loopw [1, 5] (fun q i wr => ∃ (j : Nat) (L : List Value) (m : Nat), j ≤ n ∧ m = k + 2 * j ∧ i = .int .i64 j ∧ q = .int .i64 (m : Int) ∧ Only (some g) w wr ∧ wr.ownsRow B 78 2 (.slice (some ⟨g, 0, none⟩) n c) n L ∧ g < wr.heap.size ∧ ∀ u, u < j → (hu : u < (marksF k n).length) → ∀ d, d < 2 → L[u * 2 + d]? = (fldC (marksF k n)[u])[d]?) (fun _ i _ => n - (intOf i).toNat)
    case atStart => exact ⟨0, _, k, Nat.zero_le _, rfl, rfl, rfl, Only.refl _ _, ho, (ho.lt g rfl).2, fun j h => by omega⟩
    case round =>
      obtain ⟨j, L, m, hj, hmj, rfl, rfl, hb, hO, hg, hL⟩ := hrel
      have HL := Lib.hid hL
      clear hL
      by_cases hlt : j < n
      · have hlL : L.length = n * 2 := hO.1
        have h3 : j * 2 + 1 < L.length := by rw [hlL]; omega
        have hm30 : m + 2 ≤ 1073741824 := by omega
        have hm0 : 0 < m := by omega
        have HMJ := Lib.hid hmj
        have HM : Hid (markF k j = ⟨mT m, mT (m + 1)⟩) := by show _ = _; rw [hmj]; rfl
        generalize hM0 : str (mT m) = M0 at *
        generalize hM1 : str (mT (m + 1)) = M1 at *
        have H0 := Lib.hid hM0
        have H1 := Lib.hid hM1
        have HNX := Lib.hid (set2_rowS (xs := marksF k n) (markF k j) M0 M1 (by rw [HM.out]; exact hM0) (by rw [HM.out]; exact hM1) h3 (fun hq => marksF_at k n j hq) HL.out)
        have HO := Lib.hid hO
        have HB := Lib.hid hb
        have HG := Lib.hid hg
        clear hlL hM0 hM1 hO hb hg h3 hmj
        go_wp2_with fail
        refine (markTextF_any _ m _ rfl hm0 (by omega)).mono ?_
        rintro e w1 ⟨rfl, hb1⟩
        rw [H0.out]
        have HO1 := Lib.hid (row_keep HO.out hb1)
        have HG1 : Hid (g < w1.heap.size) := Nat.lt_of_lt_of_le HG.out hb1.size
        obtain ⟨v0, hv0⟩ := row_cell HO1.out (j * 2) (by have := HO1.out.1; omega)
        have f0 : w1.frozen? ⟨g, j * 2, none⟩ = false := HO1.out.frozenAt _
        have HO1s := Lib.hid (HO1.out.stored (j * 2) (.string M0)).1
        have HB1s : Hid (Only (some g) w (w1.setCell ⟨g, j * 2, none⟩ (.string M0))) := (HB.out.ext hb1).setCell _
        have HG1s : Hid (g < (w1.setCell ⟨g, j * 2, none⟩ (.string M0)).heap.size) := by show _ < _; simpa using HG1.out
        clear hb1
        go_wp2_with fail
        refine (markTextF_any _ (m + 1) _ (by omega) (by omega) (by omega)).mono ?_
        rintro e w2 ⟨rfl, hb2⟩
        rw [H1.out]
        have HO2 := Lib.hid (row_keep HO1s.out hb2)
        have HG2 : Hid (g < w2.heap.size) := Nat.lt_of_lt_of_le HG1s.out hb2.size
        obtain ⟨v1, hv1⟩ := row_cell HO2.out (j * 2 + 1) (by have := HO2.out.1; omega)
        have f1 : w2.frozen? ⟨g, j * 2 + 1, none⟩ = false := HO2.out.frozenAt _
        have HST := Lib.hid (HO2.out.stored (j * 2 + 1) (.string M1)).1
        have HB2s : Hid (Only (some g) w (w2.setCell ⟨g, j * 2 + 1, none⟩ (.string M1))) := (HB1s.out.ext hb2).setCell _
        clear hv0 f0 hb2
        go_wp2
        go_roundw
        case rel => exact ⟨j + 1, _, m + 2, by omega, by have := HMJ.out; omega, by go_num, by go_num, HB2s.out, HST.out, by simpa using HG2.out, HNX.out⟩
        case measure => simp [intOf]; omega
      · have hjn : j = n := by omega
        subst hjn
        have HO : Hid (OwnF B (.slice (some ⟨g, 0, none⟩) j c) (marksF k j) wr) := by
          show OwnF _ _ _ _
          unfold OwnF OwnR
          rw [← flat_ext fldC 2 (by omega) fldC_len (marksF k j) L (by rw [hO.1, marksF_len]) (fun u hu => HL.out u (by rw [marksF_len] at hu; exact hu) hu), marksF_len]
          exact hO
        clear hO
        go_wp2
        go_ret
        exact markedF_mk (by omega) HO.out hb
set_option maxRecDepth 100000 in
set_option maxHeartbeats 1000000 in
theorem heldFieldS_any (a : Option Addr) (n c : Nat) (k : Nat) (w : World) (hr : RdF w a n (marksF k n)) (hk0 : 0 < k) (hk : k + 2 * n ≤ 1073741824) :
    Calls Tryz.prog 44 #[.slice a n c, .int .i64 k] w fun e w' => e = .returned (.int .i64 ((k + 2 * n : Nat) : Int)) ∧ Below w.heap.size w w' := by
  have HR := Lib.hid hr.2
  clear hr
  go_enter Tryz.func44, Tryz.ntmps44
  go_wp2_with fail
  go_loopw [1, 5] (fun q i wr => ∃ (j m : Nat), j ≤ n ∧ m = k + 2 * j ∧ i = .int .i64 j ∧ q = .int .i64 (m : Int) ∧ Below w.heap.size w wr) (fun _ i _ => n - (intOf i).toNat)
  case atStart => exact ⟨0, k, Nat.zero_le _, rfl, rfl, rfl, Below.refl _ _⟩
  case round =>
    obtain ⟨j, m, hj, hmj, rfl, rfl, hb⟩ := hrel
    by_cases hlt : j < n
    · obtain ⟨b, off, rfl, hbl, hcell⟩ := HR.out.resolve_left (by omega)
      have hjx : j < (marksF k n).length := by rw [marksF_len]; exact hlt
      obtain ⟨q0, q1⟩ := RdR.fld hcell hjx
      have HM : Hid (markF k j = ⟨mT m, mT (m + 1)⟩) := by show _ = _; rw [hmj]; rfl
      rw [marksF_at, HM.out] at q0 q1
      have hm30 : m + 2 ≤ 1073741824 := by omega
      have hm0 : 0 < m := by omega
      have HMJ := Lib.hid hmj
      have HK : Hid (∀ w', Below wr.heap.size wr w' → w'.cell? ⟨b, off + j * 2, none⟩ = some (.string (str (mT m))) ∧ w'.cell? ⟨b, off + j * 2 + 1, none⟩ = some (.string (str (mT (m + 1)))) ∧ Below wr.heap.size wr w') := by
        intro w' h
        have h2 := nx hb h
        exact ⟨(below_at h2 hbl).trans q0, (below_at h2 hbl).trans q1, h⟩
      have E0 : Hid (str (mT m) = markT m) := rfl
      generalize hM0 : str (mT m) = M0 at *
      generalize hM1 : str (mT (m + 1)) = M1 at *
      have H0 := Lib.hid hM0
      have H1 := Lib.hid hM1
      have e0 : (M0.toList != M0.toList) = false := by simp
      have e1 : (M1.toList != M1.toList) = false := by simp
      clear hcell q0 q1 hM0 hM1 E0 hmj
      go_wp2
      go_region_held3 (fun w' => w'.cell? ⟨b, off + j * 2, none⟩ = some (.string M0) ∧ w'.cell? ⟨b, off + j * 2 + 1, none⟩ = some (.string M1) ∧ Below wr.heap.size wr w')
        (first
          | exact HK.out _ (Below.refl _ _).drew
          | exact HK.out _ hb7)
        (first
          | (go_at_call 39
             refine (markTextF_any _ m _ rfl hm0 (by omega)).mono ?_
             rintro e w6 ⟨rfl, hb6⟩
             rw [H0.out]
             have hb7 : Below wr.heap.size wr w6 := nx (by go_split_ands; assumption) hb6))
      go_split_ands
      go_wp2
      go_region_held3 (fun w' => w'.cell? ⟨b, off + j * 2, none⟩ = some (.string M0) ∧ w'.cell? ⟨b, off + j * 2 + 1, none⟩ = some (.string M1) ∧ Below wr.heap.size wr w')
        (first
          | exact HK.out _ hb7.drew
          | exact HK.out _ hb9)
        (first
          | (go_at_call 39
             refine (markTextF_any _ (m + 1) _ (by omega) (by omega) (by omega)).mono ?_
             rintro e w8 ⟨rfl, hb8⟩
             rw [H1.out]
             have hb9 : Below wr.heap.size wr w8 := nx (by go_split_ands; assumption) hb8))
      go_wp2
      go_roundw
      case rel => exact ⟨j + 1, m + 2, by omega, by have := HMJ.out; omega, by go_num, by go_num, nx hb hb9⟩
      case measure => simp [intOf]; omega
    · have hjn : j = n := by omega
      subst hjn
      go_wp2
      go_ret
      exact ⟨by first | rfl | (rw [hmj]; rfl) | (simp [hmj]; done), hb⟩
end Go.Proofs.YtcdmjckkencgoaaGreatDoor
end

section
namespace Go.Proofs.YtcdmjckkencgoaaGreatDoor
open Go.ChangeShapes Go.WideShapes Go.ChangeAt Go.RowKit
open Go.ChangeMaps (open_string shut_string)

theorem strs_of_trod {H : Type} {enc : TypeId × Value → H} {W : World} {T E : TypeId} {a : Option Addr} {n c : Nat} {d : DataW H} {p : List MemPlace} (hT : Tryz.prog.underlying T = some (.slice E)) (hE : Tryz.prog.underlying E = some .string) (hcE : Tryz.prog.cellsOf E = 1)
    (h : DataW.Trod enc Tryz.prog W 0 (fun _ => true) true T (Value.slice a n c) d p) : ∃ xs, RdL W a n xs ∧ n ≤ maxLen ∧ ∀ j, (hj : j < xs.length) → xs[j].length ≤ maxLen := by
  obtain ⟨fuel, hf⟩ := h
  rcases open_strings hT hE hcE hf with ⟨hcs, _⟩ | ⟨x, l, k, ss, hcs, _, hl, hm, hz, _, hcell, hws⟩
  · simp [Value.cells] at hcs
    obtain ⟨rfl, rfl, rfl⟩ := hcs
    exact ⟨[], ⟨rfl, .inl rfl⟩, Nat.zero_le _, fun j hj => by simp at hj⟩
  · simp [Value.cells] at hcs
    obtain ⟨rfl, rfl, rfl⟩ := hcs
    have hz' : ss.length = c := by simpa using hz
    have hxs : ((ss.take n).map fun s => s.data.toList).length = n := by simp; omega
    refine ⟨(ss.take n).map fun s => s.data.toList, ⟨hxs, ?_⟩, by omega, fun j hj => ?_⟩
    · by_cases h0 : n = 0
      · exact .inl h0
      · obtain ⟨b, off, spot⟩ := x
        have hc0 := hcell 0 (by omega)
        have hspot : spot = none := by simpa [Addr.add] using World.cell?_spot hc0
        subst hspot
        have hsh : ∀ i, i < c → W.cell? ⟨b, off + i, none⟩ = some (.string (ss.getD i ByteArray.empty)) := fun i hi => by
          have := hcell i (by omega)
          rw [show (⟨b, off, none⟩ : Addr).add i = ⟨b, off + i, none⟩ by unfold Addr.add; split <;> simp_all] at this
          exact this
        refine .inr ⟨b, off, rfl, lt_of_cell (hsh 0 (by omega)), fun i hi => ?_⟩
        have hi' : i < n := by omega
        rw [hsh i (by omega)]
        have : ss.getD i ByteArray.empty = ss[i]'(by omega) := by rw [List.getD_eq_getElem?_getD, List.getElem?_eq_getElem (by omega)]; rfl
        rw [this, List.getElem_map, List.getElem_take, str_of]
    · have hj' : j < n := by omega
      rw [List.getElem_map, List.getElem_take, size_list]
      exact hws _ (List.getElem_mem _)
end Go.Proofs.YtcdmjckkencgoaaGreatDoor
end

section
namespace Go.Proofs.YtcdmjckkencgoaaGreatDoor
open Go.ChangeShapes Go.WideShapes Go.ChangeAt Go.RowKit
open Go.ChangeMaps (open_string shut_string)

/-- A size is what is left, or below 0 where it does not fit. -/
def SizedT (t : Int) (ok : Prop) (w : World) (e : Ending) (w' : World) : Prop := ∃ r : Int, e = .returned (.int .i64 r) ∧ -1 ≤ r ∧ r ≤ t ∧ (0 ≤ r → ok) ∧ Below w.heap.size w w'
def SzAt (f : Nat) : Prop := ∀ (v : Value) (p : Prt) (t : Int) (w : World), RdG maxLen 0 w f v p → 0 ≤ t → t ≤ 1048576 → Calls Tryz.prog 7 #[v, .int .i64 t] w (SizedT t (okT f p) w)
theorem sz_zero : SzAt 0 := fun _ _ _ _ h => h.elim
set_option maxRecDepth 100000 in
set_option maxHeartbeats 2000000 in
theorem szPartS_of (f : Nat) (IH : SzAt f) (a : Option Addr) (n c : Nat) (ks : List Prt) (t : Int) (w : World) (hr : RdGs maxLen 0 w f a ks) (hl : ks.length = n) (hn : n ≤ maxLen) (ht0 : 0 ≤ t) (ht : t ≤ 1048576) :
    Calls Tryz.prog 29 #[.slice a n c, .int .i64 t] w (SizedT t ((ks.length : Int) ≤ t ∧ ∀ i, (h : i < ks.length) → okT f ks[i]) w) := by
  unfold maxLen at hn
  have HR := Lib.hid hr
  have HLEN := Lib.hid hl
  clear hr hl
  by_cases h1 : t - n < 0
  · go_enter Tryz.func29, Tryz.ntmps29
    go_wp2
    go_ret
    exact ⟨-1, rfl, by omega, by omega, fun h => by omega, Below.refl _ _⟩
  · go_enter Tryz.func29, Tryz.ntmps29
    go_wp2_with fail
    go_loopw [1, 5] (fun r i wr => ∃ (k : Nat) (q : Int), k ≤ n ∧ i = .int .i64 k ∧ r = .int .i64 q ∧ 0 ≤ q ∧ q ≤ t ∧ (∀ j, j < k → (h : j < ks.length) → okT f ks[j]) ∧ Below w.heap.size w wr) (fun _ i _ => n - (intOf i).toNat)
    case atStart => exact ⟨0, t - n, Nat.zero_le _, rfl, rfl, by omega, by omega, (fun j h => by omega), Below.refl _ _⟩
    case round =>
      obtain ⟨k, q, hk, rfl, rfl, hq0, hq, hall, hb⟩ := hrel
      have HA := Lib.hid hall
      clear hall
      by_cases hlt : k < n
      · have d1 : decide ((k : Int) < n) = true := decide_eq_true (by omega)
        have hkx : k < ks.length := by rw [HLEN.out]; exact hlt
        obtain ⟨b, off, rfl, hbl, a1, c1, a2, c2, a3, c3, g0, g1, g2, g3⟩ := (HR.out.below hb).at hkx
        have HC := Lib.hid (IH _ ks[k] q wr g3 hq0 (by omega))
        have HNX : Hid (okT f ks[k] → ∀ j, j < k + 1 → (h : j < ks.length) → okT f ks[j]) := fun h j hj hjx => by
          by_cases e : j = k
          · subst e; exact h
          · exact HA.out j (by omega) hjx
        clear g3
        generalize okT f ks[k] = OK at *
        generalize ks[k].fields.length = n1 at *
        generalize ks[k].body.length = n2 at *
        generalize ks[k].kids.length = n3 at *
        go_wp2_with fail
        refine HC.out.mono ?_
        rintro e w1 ⟨r, rfl, hr1, hr2, hok, hb1⟩
        have HK := Lib.hid hok
        clear hok
        by_cases hneg : r < 0
        · go_wp2
          go_ret
          exact ⟨-1, rfl, by omega, by omega, fun h => by omega, nx hb hb1⟩
        · have HN := Lib.hid (HNX.out (HK.out (by omega)))
          go_wp2
          go_roundw
          case rel => exact ⟨k + 1, r, by omega, by go_num, rfl, by omega, by omega, HN.out, nx hb hb1⟩
          case measure => simp [intOf]; omega
      · have d1 : decide ((k : Int) < n) = false := decide_eq_false (by omega)
        go_wp2
        go_ret
        exact ⟨q, rfl, by omega, by omega, fun h => ⟨by have := HLEN.out; omega, fun i hi => HA.out i (by have := HLEN.out; omega) hi⟩, hb⟩
set_option maxRecDepth 100000 in
set_option maxHeartbeats 2000000 in
theorem sz_step (f : Nat) (IH : SzAt f) : SzAt (f + 1) := by
  intro v p t w hr ht0 ht
  obtain ⟨f', a1, c1, a2, c2, a3, c3, hff, rfl, ⟨hf, hfc, _⟩, ⟨hbd, hbc, hbn, _⟩, hkc, hpf, hks⟩ := hr.open
  obtain rfl : f = f' := by omega
  have hA : Below w.heap.size w (w.alloc (.cells #[.slice a1 p.fields.length c1, .slice a2 p.body.length c2, .slice a3 p.kids.length c3] 26)) := (Below.refl _ _).alloc (Nat.le_refl _) _
  have HX := Lib.hid (KK3.new w (.slice a1 p.fields.length c1) (.slice a2 p.body.length c2) (.slice a3 p.kids.length c3) 26)
  have HF : Hid (∀ u, Below w.heap.size w u → Calls Tryz.prog 28 #[.slice a1 p.fields.length c1, .int .i64 t] u (SizedG t p.fields u)) := fun u h => szFieldS_any a1 p.fields.length c1 p.fields t u (hf.below h) hpf.1 ht0 (by omega) hpf.2.1
  have HB : Hid (∀ (q : Int) u, 0 ≤ q → q ≤ 1048576 → Below w.heap.size w u → Calls Tryz.prog 16 #[.slice a2 p.body.length c2, .int .i64 q] u (Sized q p.body u)) := fun q u h0 h1 h => szStringS_any a2 p.body.length c2 p.body q u (hbd.below h) hpf.2.2.1 h0 (by omega) (fun j hj => hpf.2.2.2.1 _ (List.getElem_mem hj))
  have HK : Hid (∀ (q : Int) u, 0 ≤ q → q ≤ 1048576 → Below w.heap.size w u → Calls Tryz.prog 29 #[.slice a3 p.kids.length c3, .int .i64 q] u (SizedT q ((p.kids.length : Int) ≤ q ∧ ∀ i, (h : i < p.kids.length) → okT f p.kids[i]) u)) := fun q u h0 h1 h => szPartS_of f IH a3 p.kids.length c3 p.kids q u (hks.below h) rfl hpf.2.2.2.2 h0 h1
  have HOK : Hid ((p.fields.length : Int) ≤ 1048576 → (∀ x ∈ p.fields, SmallF 1048576 x) → (p.body.length : Int) ≤ 1048576 → (∀ x ∈ p.body, (x.length : Int) ≤ 1048576) → ((p.kids.length : Int) ≤ 1048576 ∧ ∀ i, (h : i < p.kids.length) → okT f p.kids[i]) → okT (f + 1) p) := fun h1 h2 h3 h4 h5 =>
    ⟨⟨by omega, h2, by omega, fun x hx => by have := h4 x hx; omega, by have := h5.1; omega⟩, h5.2⟩
  clear hf hfc hbd hbc hbn hkc hpf hks hff
  unfold SizedG at HF
  unfold Sized at HB
  unfold SizedT at HK
  generalize okT (f + 1) p = OK at *
  generalize (∀ i, (h : i < p.kids.length) → okT f p.kids[i]) = OKS at *
  generalize p.kids.length = n3 at *
  generalize p.body.length = n2 at *
  generalize p.fields.length = n1 at *
  go_enter Tryz.func7, Tryz.ntmps7
  go_wp2_with fail
  refine (HF.out _ hA).mono ?_
  rintro e w1 ⟨r, rfl, hr1, hr2, hok, hb1⟩
  have HO1 := Lib.hid hok
  have hb01 := nx hA hb1
  clear hok
  obtain ⟨y0, y1, y2⟩ := HX.out.below hb1
  by_cases hneg : r < 0
  · go_wp2
    go_ret
    exact ⟨-1, rfl, by omega, by omega, fun h => by omega, hb01⟩
  · go_wp2_with fail
    refine (HB.out r _ (by omega) (by omega) hb01).mono ?_
    rintro e w2 ⟨r2, rfl, hr3, hr4, hok, rfl⟩
    have HO2 := Lib.hid hok
    clear hok
    by_cases hneg2 : r2 < 0
    · go_wp2
      go_ret
      exact ⟨-1, rfl, by omega, by omega, fun h => by omega, hb01⟩
    · go_wp2_with fail
      refine (HK.out r2 _ (by omega) (by omega) hb01).mono ?_
      rintro e w3 ⟨r3, rfl, hr5, hr6, hok, hb3⟩
      have HO3 := Lib.hid hok
      clear hok
      by_cases hneg3 : r3 < 0
      · go_wp2
        go_ret
        exact ⟨-1, rfl, by omega, by omega, fun h => by omega, nx hb01 hb3⟩
      · go_wp2
        go_ret
        exact ⟨r3, rfl, by omega, by omega, fun h => HOK.out (by have := (HO1.out (by omega)).1; omega) (fun x hx => ((HO1.out (by omega)).2 x hx).up (by omega)) (by have := (HO2.out (by omega)).1; omega) (fun x hx => by have := (HO2.out (by omega)).2 x hx; omega) ⟨by have := (HO3.out h).1; omega, (HO3.out h).2⟩, nx hb01 hb3⟩
theorem sz_all : ∀ f, SzAt f
  | 0 => sz_zero
  | f + 1 => sz_step f (sz_all f)
def EqAt (f : Nat) : Prop := ∀ (v u : Value) (p : Prt) (w : World), RdT w f v p → RdT w f u p → Calls Tryz.prog 12 #[v, u] w fun e w' => e = .returned (.bool true) ∧ Below w.heap.size w w'
theorem eq_zero : EqAt 0 := fun _ _ _ _ h => h.elim
set_option maxRecDepth 100000 in
set_option maxHeartbeats 2000000 in
theorem eqPartS_of (f : Nat) (IH : EqAt f) (a b : Option Addr) (n c d : Nat) (ks : List Prt) (w : World) (hr : RdKs w f a ks) (hs : RdKs w f b ks) (hl : ks.length = n) (hn : n ≤ 1048576) :
    Calls Tryz.prog 36 #[.slice a n c, .slice b n d] w fun e w' => e = .returned (.bool true) ∧ Below w.heap.size w w' := by
  have HR := Lib.hid hr
  have HS := Lib.hid hs
  have HLEN := Lib.hid hl
  clear hr hs hl
  go_enter Tryz.func36, Tryz.ntmps36
  go_wp2_with fail
  go_loopw [5] (fun i wr => ∃ (k : Nat), k ≤ n ∧ i = .int .i64 k ∧ Below w.heap.size w wr) (fun i _ => n - (intOf i).toNat)
  case atStart => exact ⟨0, Nat.zero_le _, rfl, Below.refl _ _⟩
  case round =>
    obtain ⟨k, hk, rfl, hb⟩ := hrel
    by_cases hlt : k < n
    · have d1 : decide ((k : Int) < n) = true := decide_eq_true (by omega)
      have hk0 : (0 : Int) ≤ (k : Int) := by omega
      have hkn : (k : Int) < (n : Int) := by omega
      have hkx : k < ks.length := by rw [HLEN.out]; exact hlt
      obtain ⟨b1, o1, rfl, hl1, a1, c1, a2, c2, a3, c3, g0, g1, g2, g3⟩ := (HR.out.below hb).at hkx
      obtain ⟨b2, o2, rfl, hl2, e1, f1, e2, f2, e3, f3, k0, k1, k2, k3⟩ := (HS.out.below hb).at hkx
      have HC : Hid (∀ (y : BelowT wr), Calls Tryz.prog 12 #[.agg #[.slice a1 ks[k].fields.length c1, .slice a2 ks[k].body.length c2, .slice a3 ks[k].kids.length c3], .agg #[.slice e1 ks[k].fields.length f1, .slice e2 ks[k].body.length f2, .slice e3 ks[k].kids.length f3]] y.val fun e w' => e = .returned (.bool true) ∧ Below y.val.heap.size y.val w') := fun y => IH _ _ ks[k] y.val (g3.below y.below f) (k3.below y.below f)
      have z0 : ∀ y : BelowT wr, y.val.cell? ⟨b1, o1 + k * 3, none⟩ = _ := fun y => by rw [below_at y.below hl1, g0]
      have z1 : ∀ y : BelowT wr, y.val.cell? ⟨b1, o1 + k * 3 + 1, none⟩ = _ := fun y => by rw [below_at y.below hl1, g1]
      have z2 : ∀ y : BelowT wr, y.val.cell? ⟨b1, o1 + k * 3 + 2, none⟩ = _ := fun y => by rw [below_at y.below hl1, g2]
      have z3 : ∀ y : BelowT wr, y.val.cell? ⟨b2, o2 + k * 3, none⟩ = _ := fun y => by rw [below_at y.below hl2, k0]
      have z4 : ∀ y : BelowT wr, y.val.cell? ⟨b2, o2 + k * 3 + 1, none⟩ = _ := fun y => by rw [below_at y.below hl2, k1]
      have z5 : ∀ y : BelowT wr, y.val.cell? ⟨b2, o2 + k * 3 + 2, none⟩ = _ := fun y => by rw [below_at y.below hl2, k2]
      have HBB := Lib.hid hb
      clear g3 k3 hb g0 g1 g2 k0 k1 k2
      generalize ks[k].fields.length = n1 at *
      generalize ks[k].body.length = n2 at *
      generalize ks[k].kids.length = n3 at *
      go_wp2_with fail
      refine wp_region_quietB (W := wr) (by kernel_rfl) (by kernel_rfl) (Below.refl _ _) ?_
      repeat (go_big_quiet_step (first
        | (go_at_call 12; exact calls_belowT (HC.out _))))
      refine wpQuiet_nil ?_
      intro wz hwz
      obtain ⟨x9, rfl⟩ := hwz
      have hbx := nx HBB.out x9.below
      clear z0 z1 z2 z3 z4 z5
      generalize x9.val = w9 at *
      go_wp2
      go_roundw
      case rel => exact ⟨k + 1, by omega, by go_num, hbx⟩
      case measure => simp [intOf]; omega
    · have d1 : decide ((k : Int) < n) = false := decide_eq_false (by omega)
      go_wp2
      go_ret
      exact ⟨rfl, hb⟩
set_option maxRecDepth 100000 in
set_option maxHeartbeats 2000000 in
theorem eq_step (f : Nat) (IH : EqAt f) : EqAt (f + 1) := by
  intro v u p w hr hs
  obtain ⟨f', a1, c1, a2, c2, a3, c3, hff, rfl, ⟨hf, _⟩, ⟨hbd, _⟩, _, hpf, hks⟩ := hr.open
  obtain rfl : f = f' := by omega
  obtain ⟨f', e1, f1, e2, f2, e3, f3, hff, rfl, ⟨kf, _⟩, ⟨kbd, _⟩, _, _, kks⟩ := hs.open
  obtain rfl : f = f' := by omega
  have hA1 : Below w.heap.size w (w.alloc (.cells #[.slice a1 p.fields.length c1, .slice a2 p.body.length c2, .slice a3 p.kids.length c3] 33)) := (Below.refl _ _).alloc (Nat.le_refl _) _
  have hA2 : Below (w.alloc (.cells #[.slice a1 p.fields.length c1, .slice a2 p.body.length c2, .slice a3 p.kids.length c3] 33)).heap.size (w.alloc (.cells #[.slice a1 p.fields.length c1, .slice a2 p.body.length c2, .slice a3 p.kids.length c3] 33)) ((w.alloc (.cells #[.slice a1 p.fields.length c1, .slice a2 p.body.length c2, .slice a3 p.kids.length c3] 33)).alloc (.cells #[.slice e1 p.fields.length f1, .slice e2 p.body.length f2, .slice e3 p.kids.length f3] 33)) := (Below.refl _ _).alloc (Nat.le_refl _) _
  have HX : Hid (KK3 ((w.alloc (.cells #[.slice a1 p.fields.length c1, .slice a2 p.body.length c2, .slice a3 p.kids.length c3] 33)).alloc (.cells #[.slice e1 p.fields.length f1, .slice e2 p.body.length f2, .slice e3 p.kids.length f3] 33)) w.heap.size (.slice a1 p.fields.length c1) (.slice a2 p.body.length c2) (.slice a3 p.kids.length c3)) := (KK3.new w _ _ _ _).below hA2
  have HY : Hid (KK3 ((w.alloc (.cells #[.slice a1 p.fields.length c1, .slice a2 p.body.length c2, .slice a3 p.kids.length c3] 33)).alloc (.cells #[.slice e1 p.fields.length f1, .slice e2 p.body.length f2, .slice e3 p.kids.length f3] 33)) (w.heap.size + 1) (.slice e1 p.fields.length f1) (.slice e2 p.body.length f2) (.slice e3 p.kids.length f3)) := by
    have := KK3.new (w.alloc (.cells #[.slice a1 p.fields.length c1, .slice a2 p.body.length c2, .slice a3 p.kids.length c3] 33)) (.slice e1 p.fields.length f1) (.slice e2 p.body.length f2) (.slice e3 p.kids.length f3) 33
    have e : (w.alloc (.cells #[.slice a1 p.fields.length c1, .slice a2 p.body.length c2, .slice a3 p.kids.length c3] 33)).heap.size = w.heap.size + 1 := by simp
    rw [e] at this; exact this
  have hA := nx hA1 hA2
  have HF : Hid (∀ u, Below w.heap.size w u → Calls Tryz.prog 35 #[.slice a1 p.fields.length c1, .slice e1 p.fields.length f1] u fun e w' => e = .returned (.bool true) ∧ Below u.heap.size u w') := fun u h => by
    have := eqFieldS_any a1 e1 p.fields.length c1 p.fields.length f1 p.fields p.fields u (hf.below h) (kf.below h) (by have := hpf.1; unfold maxLen; omega) (by have := hpf.1; unfold maxLen; omega)
    rw [decide_eq_true (rfl : p.fields = p.fields)] at this; exact this
  have HB : Hid (∀ u, Below w.heap.size w u → Calls Tryz.prog 11 #[.slice a2 p.body.length c2, .slice e2 p.body.length f2] u fun e w' => e = .returned (.bool true) ∧ Below u.heap.size u w') := fun u h => by
    have := eqStringS_any a2 e2 p.body.length c2 p.body.length f2 p.body p.body u (hbd.below h) (kbd.below h) (by have := hpf.2.2.1; unfold maxLen; omega) (by have := hpf.2.2.1; unfold maxLen; omega)
    rw [decide_eq_true (rfl : p.body = p.body)] at this; exact this
  have HK : Hid (∀ u, Below w.heap.size w u → Calls Tryz.prog 36 #[.slice a3 p.kids.length c3, .slice e3 p.kids.length f3] u fun e w' => e = .returned (.bool true) ∧ Below u.heap.size u w') := fun u h => eqPartS_of f IH a3 e3 p.kids.length c3 f3 p.kids u (hks.below h) (kks.below h) rfl hpf.2.2.2.2
  clear hf hbd hpf hks kf kbd kks hff hA1 hA2 hr hs
  generalize p.kids.length = n3 at *
  generalize p.body.length = n2 at *
  generalize p.fields.length = n1 at *
  go_enter Tryz.func12, Tryz.ntmps12
  go_wp2_with fail
  refine (HF.out _ hA).mono ?_
  rintro e w1 ⟨rfl, hb1⟩
  have hb01 := nx hA hb1
  obtain ⟨y0, y1, y2⟩ := HX.out.below hb1
  obtain ⟨x0, x1, x2⟩ := HY.out.below hb1
  go_wp2_with fail
  refine (HB.out _ hb01).mono ?_
  rintro e w2 ⟨rfl, hb2⟩
  have hb02 := nx hb01 hb2
  clear y0 y1 y2 x0 x1 x2
  obtain ⟨y0, y1, y2⟩ := HX.out.below (nx hb1 hb2)
  obtain ⟨x0, x1, x2⟩ := HY.out.below (nx hb1 hb2)
  go_wp2_with fail
  refine (HK.out _ hb02).mono ?_
  rintro e w3 ⟨rfl, hb3⟩
  go_wp2
  go_ret
  exact ⟨rfl, nx hb02 hb3⟩
theorem eq_all : ∀ f, EqAt f
  | 0 => eq_zero
  | f + 1 => eq_step f (eq_all f)
end Go.Proofs.YtcdmjckkencgoaaGreatDoor
end

section
namespace Go.Proofs.YtcdmjckkencgoaaGreatDoor
open Go.RowKit

/-- From block G on, strings stay strings and all else stays. -/
structure Soft (G : Nat) (w w' : World) : Prop where
  size : w.heap.size ≤ w'.heap.size
  cell : ∀ b o v, G ≤ b → b < w.heap.size → w.cell? ⟨b, o, none⟩ = some v → w'.cell? ⟨b, o, none⟩ = some v ∨ ((∃ s, v = .string s) ∧ ∃ s', w'.cell? ⟨b, o, none⟩ = some (.string s'))
  fz : ∀ b o, G ≤ b → b < w.heap.size → w'.frozen? ⟨b, o, none⟩ = w.frozen? ⟨b, o, none⟩
theorem Soft.refl (G : Nat) (w : World) : Soft G w w := ⟨Nat.le_refl _, fun _ _ _ _ _ h => .inl h, fun _ _ _ _ => rfl⟩
theorem Soft.trans {G : Nat} {a b c : World} (h : Soft G a b) (k : Soft G b c) : Soft G a c := by
  refine ⟨Nat.le_trans h.size k.size, fun x o v hg hx hv => ?_, fun x o hg hx => (k.fz x o hg (Nat.lt_of_lt_of_le hx h.size)).trans (h.fz x o hg hx)⟩
  rcases h.cell x o v hg hx hv with h1 | ⟨h1, s1, h2⟩
  · exact k.cell x o v hg (Nat.lt_of_lt_of_le hx h.size) h1
  · rcases k.cell x o _ hg (Nat.lt_of_lt_of_le hx h.size) h2 with h3 | ⟨_, s3, h4⟩
    · exact .inr ⟨h1, s1, h3⟩
    · exact .inr ⟨h1, s3, h4⟩
theorem Soft.below {G : Nat} {w w' : World} (h : Below w.heap.size w w') : Soft G w w' := ⟨h.size, fun _ _ _ _ hb hv => .inl (by rw [below_at h hb, hv]), fun _ _ _ hb => below_fz h hb⟩
theorem Soft.mono {G H : Nat} {w w' : World} (h : Soft G w w') (hg : G ≤ H) : Soft H w w' := ⟨h.size, fun b o v hb => h.cell b o v (Nat.le_trans hg hb), fun b o hb => h.fz b o (Nat.le_trans hg hb)⟩
theorem Soft.low {G b i : Nat} {w : World} (hb : b < G) (u : Value) : Soft G w (w.setCell ⟨b, i, none⟩ u) :=
  ⟨by simp [World.setCell], fun x _ _ hg _ hv => .inl (by rw [cell_blk (by omega), hv]), fun _ _ _ _ => World.frozen?_setCell _ _ _ _⟩
theorem Soft.str {G b i : Nat} {w : World} {s : ByteArray} (h : w.cell? ⟨b, i, none⟩ = some (.string s)) (s' : ByteArray) : Soft G w (w.setCell ⟨b, i, none⟩ (.string s')) := by
  refine ⟨by simp [World.setCell], fun x o v _ _ hv => ?_, fun _ _ _ _ => World.frozen?_setCell _ _ _ _⟩
  by_cases hx : b = x
  · subst hx
    by_cases ho : i = o
    · subst ho
      rw [h] at hv; injection hv with hv
      exact .inr ⟨⟨s, hv.symm⟩, s', cell_same h _⟩
    · exact .inl (by rw [cell_off ho, hv])
  · exact .inl (by rw [cell_blk hx, hv])
theorem Soft.slice {G b o n c : Nat} {a : Option Addr} {w w' : World} (h : Soft G w w') (hg : G ≤ b) (hv : w.cell? ⟨b, o, none⟩ = some (.slice a n c)) : w'.cell? ⟨b, o, none⟩ = some (.slice a n c) := by
  rcases h.cell b o _ hg (lt_of_cell hv) hv with h1 | ⟨⟨s, h1⟩, _⟩
  · exact h1
  · cases h1
/-- A row of n strings, in a block from G on and ahead of E. -/
def StrRow (G E : Nat) (w : World) (a : Option Addr) (n : Nat) : Prop := n = 0 ∨ ∃ b, a = some ⟨b, 0, none⟩ ∧ G ≤ b ∧ b < E ∧ b < w.heap.size ∧ ∀ i, i < n → (∃ s : ByteArray, w.cell? ⟨b, i, none⟩ = some (.string s)) ∧ w.frozen? ⟨b, i, none⟩ = false
theorem StrRow.soft {G E n : Nat} {w w' : World} {a : Option Addr} (h : StrRow G E w a n) (t : Soft G w w') : StrRow G E w' a n := by
  rcases h with h | ⟨b, ha, hg, he, hb, hx⟩
  · exact .inl h
  · refine .inr ⟨b, ha, hg, he, Nat.lt_of_lt_of_le hb t.size, fun i hi => ?_⟩
    obtain ⟨⟨s, hs⟩, hf⟩ := hx i hi
    refine ⟨?_, by rw [t.fz b i hg hb, hf]⟩
    rcases t.cell b i _ hg hb hs with h1 | ⟨_, s', h1⟩
    · exact ⟨s, h1⟩
    · exact ⟨s', h1⟩
theorem StrRow.wide {G G' E E' n : Nat} {w : World} {a : Option Addr} (h : StrRow G E w a n) (hg : G' ≤ G) (he : E ≤ E') : StrRow G' E' w a n := by
  rcases h with h | ⟨b, ha, h1, h2, h3⟩
  · exact .inl h
  · exact .inr ⟨b, ha, Nat.le_trans hg h1, Nat.lt_of_lt_of_le h2 he, h3⟩
/-- A part whose rows are rows of strings. -/
def ShT (G E : Nat) (w : World) : Nat → Value → Prt → Prop
  | 0, _, _ => False
  | f + 1, v, p => ∃ (a1 : Option Addr) (c1 : Nat) (a2 : Option Addr) (c2 : Nat) (a3 : Option Addr) (c3 : Nat),
      v = .agg #[.slice a1 p.fields.length c1, .slice a2 p.body.length c2, .slice a3 p.kids.length c3] ∧ StrRow G E w a1 (2 * p.fields.length) ∧ StrRow G E w a2 p.body.length ∧
      (p.kids.length = 0 ∨ ∃ b, a3 = some ⟨b, 0, none⟩ ∧ G ≤ b ∧ b < w.heap.size ∧ p.kids.length ≤ 1073741824 ∧ ∀ i, (h : i < p.kids.length) →
        ∃ v0 v1 v2, w.cell? ⟨b, i * 3, none⟩ = some v0 ∧ w.cell? ⟨b, i * 3 + 1, none⟩ = some v1 ∧ w.cell? ⟨b, i * 3 + 2, none⟩ = some v2 ∧ ShT G E w f (.agg #[v0, v1, v2]) p.kids[i])
def ShK (G E : Nat) (w : World) (f : Nat) (a : Option Addr) (ks : List Prt) : Prop :=
  ks.length = 0 ∨ ∃ b, a = some ⟨b, 0, none⟩ ∧ G ≤ b ∧ b < w.heap.size ∧ ks.length ≤ 1073741824 ∧ ∀ i, (h : i < ks.length) →
        ∃ v0 v1 v2, w.cell? ⟨b, i * 3, none⟩ = some v0 ∧ w.cell? ⟨b, i * 3 + 1, none⟩ = some v1 ∧ w.cell? ⟨b, i * 3 + 2, none⟩ = some v2 ∧ ShT G E w f (.agg #[v0, v1, v2]) ks[i]
theorem ShT.mk {G E f c1 c2 c3 : Nat} {w : World} {p : Prt} {a1 a2 a3 : Option Addr} (h1 : StrRow G E w a1 (2 * p.fields.length)) (h2 : StrRow G E w a2 p.body.length) (h3 : ShK G E w f a3 p.kids) :
    ShT G E w (f + 1) (.agg #[.slice a1 p.fields.length c1, .slice a2 p.body.length c2, .slice a3 p.kids.length c3]) p := ⟨a1, c1, a2, c2, a3, c3, rfl, h1, h2, h3⟩
theorem ShT.open {G E f : Nat} {w : World} {v : Value} {p : Prt} (h : ShT G E w f v p) : ∃ (f' : Nat) (a1 : Option Addr) (c1 : Nat) (a2 : Option Addr) (c2 : Nat) (a3 : Option Addr) (c3 : Nat), f = f' + 1 ∧ v = .agg #[.slice a1 p.fields.length c1, .slice a2 p.body.length c2, .slice a3 p.kids.length c3] ∧ StrRow G E w a1 (2 * p.fields.length) ∧ StrRow G E w a2 p.body.length ∧ ShK G E w f' a3 p.kids := by
  match f, h with
  | f + 1, h =>
    obtain ⟨a1, c1, a2, c2, a3, c3, hv, h1, h2, h3⟩ := h
    exact ⟨f, a1, c1, a2, c2, a3, c3, rfl, hv, h1, h2, h3⟩
theorem ShT.soft {G E : Nat} {w w' : World} (t : Soft G w w') : ∀ (f : Nat) {v : Value} {p : Prt}, ShT G E w f v p → ShT G E w' f v p
  | 0, _, _, h => h
  | f + 1, v, p, h => by
    obtain ⟨a1, c1, a2, c2, a3, c3, hv, h1, h2, h3⟩ := h
    refine ⟨a1, c1, a2, c2, a3, c3, hv, h1.soft t, h2.soft t, ?_⟩
    rcases h3 with e | ⟨b, e, hg, hl, hn, hk⟩
    · exact .inl e
    · refine .inr ⟨b, e, hg, Nat.lt_of_lt_of_le hl t.size, hn, fun i hi => ?_⟩
      obtain ⟨v0, v1, v2, g0, g1, g2, g3⟩ := hk i hi
      obtain ⟨f', a1, c1, a2, c2, a3, c3, rfl, hv, _⟩ := g3.open
      injection hv with hv
      have e0 : v0 = .slice a1 p.kids[i].fields.length c1 := by injection hv with hv; injection hv
      have e1 : v1 = .slice a2 p.kids[i].body.length c2 := by injection hv with hv; injection hv with _ hv; injection hv
      have e2 : v2 = .slice a3 p.kids[i].kids.length c3 := by injection hv with hv; injection hv with _ hv; injection hv with _ hv; injection hv
      subst e0 e1 e2
      exact ⟨_, _, _, t.slice hg g0, t.slice hg g1, t.slice hg g2, ShT.soft t (f' + 1) g3⟩
theorem ShK.soft {G E f : Nat} {w w' : World} {a : Option Addr} {ks : List Prt} (h : ShK G E w f a ks) (t : Soft G w w') : ShK G E w' f a ks :=
  (ShT.soft t (f + 1) (ShT.mk (p := ⟨[], [], ks⟩) (c1 := 0) (c2 := 0) (c3 := 0) (a1 := none) (a2 := none) (a3 := a) (.inl rfl) (.inl rfl) h)).open |> fun ⟨_, _, _, _, _, _, _, hf, hv, _, _, h3⟩ => by
    injection hv with hv
    have e2 := (by injection hv with hv; injection hv with _ hv; injection hv with _ hv; injection hv : Value.slice a ks.length 0 = _)
    injection e2 with e2 _ _
    injection hf with hf
    subst hf
    rw [e2]; exact h3
theorem ShT.wide {G G' E E' : Nat} {w : World} (hg : G' ≤ G) (he : E ≤ E') : ∀ (f : Nat) {v : Value} {p : Prt}, ShT G E w f v p → ShT G' E' w f v p
  | 0, _, _, h => h
  | f + 1, v, p, h => by
    obtain ⟨a1, c1, a2, c2, a3, c3, hv, h1, h2, h3⟩ := h
    refine ⟨a1, c1, a2, c2, a3, c3, hv, h1.wide hg he, h2.wide hg he, ?_⟩
    rcases h3 with e | ⟨b, e, hb, hl, hn, hk⟩
    · exact .inl e
    · refine .inr ⟨b, e, Nat.le_trans hg hb, hl, hn, fun i hi => ?_⟩
      obtain ⟨v0, v1, v2, g0, g1, g2, g3⟩ := hk i hi
      exact ⟨v0, v1, v2, g0, g1, g2, ShT.wide hg he f g3⟩
theorem ShT.wideK {G G' E E' f : Nat} {w : World} {a : Option Addr} {ks : List Prt} (hg : G' ≤ G) (he : E ≤ E') (h : ShK G E w f a ks) : ShK G' E' w f a ks := by
  rcases h with e | ⟨b, e, hb, hl, hn, hk⟩
  · exact .inl e
  · refine .inr ⟨b, e, Nat.le_trans hg hb, hl, hn, fun i hi => ?_⟩
    obtain ⟨v0, v1, v2, g0, g1, g2, g3⟩ := hk i hi
    exact ⟨v0, v1, v2, g0, g1, g2, ShT.wide hg he f g3⟩
theorem ShK.len {G E f : Nat} {w : World} {a : Option Addr} {ks : List Prt} (h : ShK G E w f a ks) : ks.length ≤ 1073741824 := by
  rcases h with e | ⟨_, _, _, _, hn, _⟩
  · omega
  · exact hn
theorem ShK.at {G E f : Nat} {w : World} {a : Option Addr} {ks : List Prt} (h : ShK G E w f a ks) {i : Nat} (hi : i < ks.length) : ∃ b, a = some ⟨b, 0, none⟩ ∧ G ≤ b ∧ b < w.heap.size ∧ ∃ (f' : Nat) (a1 : Option Addr) (c1 : Nat) (a2 : Option Addr) (c2 : Nat) (a3 : Option Addr) (c3 : Nat), f = f' + 1 ∧
    w.cell? ⟨b, i * 3, none⟩ = some (.slice a1 ks[i].fields.length c1) ∧ w.cell? ⟨b, i * 3 + 1, none⟩ = some (.slice a2 ks[i].body.length c2) ∧ w.cell? ⟨b, i * 3 + 2, none⟩ = some (.slice a3 ks[i].kids.length c3) ∧
    StrRow G E w a1 (2 * ks[i].fields.length) ∧ StrRow G E w a2 ks[i].body.length ∧ ShK G E w f' a3 ks[i].kids := by
  rcases h with e | ⟨b, e, hg, hl, _, hk⟩
  · omega
  · obtain ⟨v0, v1, v2, g0, g1, g2, g3⟩ := hk i hi
    refine ⟨b, e, hg, hl, ?_⟩
    obtain ⟨f', a1, c1, a2, c2, a3, c3, rfl, hv, h1, h2, h3⟩ := g3.open
    injection hv with hv
    have e0 : v0 = .slice a1 ks[i].fields.length c1 := by injection hv with hv; injection hv
    have e1 : v1 = .slice a2 ks[i].body.length c2 := by injection hv with hv; injection hv with _ hv; injection hv
    have e2 : v2 = .slice a3 ks[i].kids.length c3 := by injection hv with hv; injection hv with _ hv; injection hv with _ hv; injection hv
    subst e0 e1 e2
    exact ⟨f', a1, c1, a2, c2, a3, c3, rfl, g0, g1, g2, h1, h2, h3⟩
/-- Only strings in blocks from G to E turn. -/
structure MkR (G E : Nat) (w w' : World) : Prop where
  low : Below G w w'
  high : ∀ k, E ≤ k → k < w.heap.size → w'.heap[k]? = w.heap[k]?
  soft : Soft G w w'
theorem MkR.refl (G E : Nat) (w : World) : MkR G E w w := ⟨Below.refl _ _, fun _ _ _ => rfl, Soft.refl _ _⟩
theorem MkR.trans {G E : Nat} {a b c : World} (h : MkR G E a b) (k : MkR G E b c) : MkR G E a c :=
  ⟨h.low.trans k.low, fun i he hi => (k.high i he (Nat.lt_of_lt_of_le hi h.low.size)).trans (h.high i he hi), h.soft.trans k.soft⟩
theorem MkR.below {G E : Nat} {w w' : World} (h : Below w.heap.size w w') (hG : G ≤ w.heap.size) : MkR G E w w' := ⟨h.mono hG, fun k _ hk => h.block k hk, Soft.below h⟩
theorem MkR.ext {G E : Nat} {a w w' : World} (k : MkR G E a w) (h : Below w.heap.size w w') (hG : G ≤ a.heap.size) : MkR G E a w' := k.trans (MkR.below h (Nat.le_trans hG k.low.size))
theorem MkR.set {G E b i : Nat} {a w : World} (k : MkR G E a w) {s : ByteArray} (h : w.cell? ⟨b, i, none⟩ = some (.string s)) (hG : G ≤ b) (hE : b < E) (s' : ByteArray) : MkR G E a (w.setCell ⟨b, i, none⟩ (.string s')) := by
  refine k.trans ⟨(Below.refl _ _).setCell hG _, fun x hx _ => ?_, Soft.str h s'⟩
  exact Below.heap_setCell _ _ _ _ (by show x ≠ b; omega)
theorem MkR.own {G E : Nat} {w w' : World} (k : MkR G E w w') {v : Value} {xs : List (List UInt8)} (h : OwnL E v xs w) : OwnL E v xs w' := by
  refine ⟨h.1, ?_⟩
  rcases h.2 with hn | ⟨g, cap, cur, hv, hg1, hg2, rest⟩
  · exact .inl hn
  · have hl : g < w.heap.size := by
      rcases Nat.lt_or_ge g w.heap.size with h' | h'
      · exact h'
      · simp [Array.getElem?_eq_none h'] at hg2
    exact .inr ⟨g, cap, cur, hv, hg1, by rw [k.high g hg1 hl, hg2], rest⟩
/-- How many marks a tree gets. -/
def cntT : Nat → Prt → Nat
  | 0, _ => 0
  | f + 1, p => 2 * p.fields.length + p.body.length + (p.kids.map (cntT f)).sum
def sumT (f : Nat) (ks : List Prt) : Nat := (ks.map (cntT f)).sum
theorem cntT_succ (f : Nat) (p : Prt) : cntT (f + 1) p = 2 * p.fields.length + p.body.length + sumT f p.kids := rfl
theorem sumT_step {f : Nat} {ks : List Prt} {j : Nat} (h : j < ks.length) : sumT f (ks.take (j + 1)) = sumT f (ks.take j) + cntT f ks[j] := by
  unfold sumT; rw [List.take_succ_eq_append_getElem h, List.map_append, List.sum_append, List.map_cons, List.map_nil, List.sum_cons, List.sum_nil, Nat.add_zero]
theorem sumT_le {f : Nat} (ks : List Prt) (j : Nat) : sumT f (ks.take j) ≤ sumT f ks := by
  have : sumT f ks = sumT f (ks.take j) + sumT f (ks.drop j) := by
    unfold sumT; rw [← List.sum_append, ← List.map_append, List.take_append_drop]
  omega
set_option maxRecDepth 100000 in
set_option maxHeartbeats 1000000 in
theorem markStringS_sh (G E : Nat) (a : Option Addr) (n c k : Nat) (w : World) (hr : StrRow G E w a n) (hG : G ≤ w.heap.size) (hk0 : 0 < k) (hk : k + n ≤ 1073741824) :
    Calls Tryz.prog 14 #[.slice a n c, .int .i64 k] w fun e w' => e = .returned (.int .i64 ((k + n : Nat) : Int)) ∧ MkR G E w w' := by
  have HR := Lib.hid hr
  clear hr
  go_enter Tryz.func14, Tryz.ntmps14
  go_wp2_with fail
  go_loopw [1, 5] (fun q i wr => ∃ (j m : Nat), j ≤ n ∧ m = k + j ∧ i = .int .i64 j ∧ q = .int .i64 (m : Int) ∧ MkR G E w wr) (fun _ i _ => n - (intOf i).toNat)
  case atStart => exact ⟨0, k, Nat.zero_le _, rfl, rfl, rfl, MkR.refl _ _ _⟩
  case round =>
    obtain ⟨j, m, hj, hmj, rfl, rfl, ht⟩ := hrel
    by_cases hlt : j < n
    · have hm0 : 0 < m := by omega
      have hm1 : m + 1 ≤ 1073741824 := by omega
      have HMJ := Lib.hid hmj
      have HT := Lib.hid ht
      clear hmj ht
      go_wp2_with fail
      refine (markTextF_any _ m _ rfl hm0 (by omega)).mono ?_
      rintro e w1 ⟨rfl, hb1⟩
      have ht1 := HT.out.ext hb1 hG
      obtain ⟨b, rfl, hg, he, hbl, hx⟩ := (HR.out.soft ht1.soft).resolve_left (by omega)
      obtain ⟨⟨s, hs⟩, hf⟩ := hx j hlt
      have HN := Lib.hid (ht1.set hs hg he (str (mT m)))
      clear hx ht1
      generalize str (mT m) = M at *
      go_wp2
      go_roundw
      case rel => exact ⟨j + 1, m + 1, by omega, by have := HMJ.out; omega, by go_num, by go_num, HN.out⟩
      case measure => simp [intOf]; omega
    · go_wp2
      go_ret
      exact ⟨ret_int (by omega), ht⟩
set_option maxRecDepth 100000 in
set_option maxHeartbeats 1000000 in
theorem markFieldS_sh (G E : Nat) (a : Option Addr) (n c k : Nat) (w : World) (hr : StrRow G E w a (2 * n)) (hG : G ≤ w.heap.size) (hk0 : 0 < k) (hk : k + 2 * n ≤ 1073741824) :
    Calls Tryz.prog 37 #[.slice a n c, .int .i64 k] w fun e w' => e = .returned (.int .i64 ((k + 2 * n : Nat) : Int)) ∧ MkR G E w w' := by
  have HR := Lib.hid hr
  clear hr
  go_enter Tryz.func37, Tryz.ntmps37
  go_wp2_with fail
  go_loopw [1, 5] (fun q i wr => ∃ (j m : Nat), j ≤ n ∧ m = k + 2 * j ∧ i = .int .i64 j ∧ q = .int .i64 (m : Int) ∧ MkR G E w wr) (fun _ i _ => n - (intOf i).toNat)
  case atStart => exact ⟨0, k, Nat.zero_le _, rfl, rfl, rfl, MkR.refl _ _ _⟩
  case round =>
    obtain ⟨j, m, hj, hmj, rfl, rfl, ht⟩ := hrel
    by_cases hlt : j < n
    · have hm0 : 0 < m := by omega
      have hm1 : m + 2 ≤ 1073741824 := by omega
      have HMJ := Lib.hid hmj
      have HT := Lib.hid ht
      clear hmj ht
      go_wp2_with fail
      refine (markTextF_any _ m _ rfl hm0 (by omega)).mono ?_
      rintro e w1 ⟨rfl, hb1⟩
      have ht1 := HT.out.ext hb1 hG
      obtain ⟨b, rfl, hg, he, hbl, hx⟩ := (HR.out.soft ht1.soft).resolve_left (by omega)
      obtain ⟨⟨s, hs⟩, hf⟩ := hx (j * 2) (by omega)
      have HN := Lib.hid (ht1.set hs hg he (str (mT m)))
      clear hx ht1
      generalize str (mT m) = M at *
      go_wp2_with fail
      refine (markTextF_any _ (m + 1) _ (by omega) (by omega) (by omega)).mono ?_
      rintro e w2 ⟨rfl, hb2⟩
      have ht2 := HN.out.ext hb2 hG
      obtain ⟨b', hbb, hg', he', hbl', hx'⟩ := (HR.out.soft ht2.soft).resolve_left (by omega)
      injection hbb with hbb
      injection hbb with hbb _ _
      subst hbb
      obtain ⟨⟨s1, hs1⟩, hf1⟩ := hx' (j * 2 + 1) (by omega)
      have HN2 := Lib.hid (ht2.set hs1 hg he (str (mT (m + 1))))
      clear hx' ht2 hs hf
      generalize str (mT (m + 1)) = M1 at *
      go_wp2
      go_roundw
      case rel => exact ⟨j + 1, m + 2, by omega, by have := HMJ.out; omega, by go_num, by go_num, HN2.out⟩
      case measure => simp [intOf]; omega
    · go_wp2
      go_ret
      exact ⟨ret_int (by omega), ht⟩
def MkAt (G E f : Nat) : Prop := ∀ (a : Option Addr) (n c : Nat) (ks : List Prt) (k : Nat) (w : World), ShK G E w f a ks → ks.length = n → G ≤ w.heap.size → 0 < k → k + sumT f ks ≤ 1073741824 →
    Calls Tryz.prog 38 #[.slice a n c, .int .i64 k] w fun e w' => e = .returned (.int .i64 ((k + sumT f ks : Nat) : Int)) ∧ MkR G E w w'
set_option maxRecDepth 100000 in
set_option maxHeartbeats 2000000 in
theorem markPartS_of (G E f : Nat) (IH : ∀ f', f = f' + 1 → MkAt G E f') : MkAt G E f := by
  intro a n c ks k w hr hl hG hk0 hk
  have HR := Lib.hid hr
  have HLEN := Lib.hid hl
  have HLE := Lib.hid (fun j => sumT_le (f := f) ks j)
  have HS := Lib.hid (fun j (h : j < ks.length) => sumT_step (f := f) h)
  have HALL : Hid (sumT f (ks.take n) = sumT f ks) := by show _ = _; rw [List.take_of_length_le (by omega)]
  have hn : n ≤ 1073741824 := by rw [← hl]; exact hr.len
  clear hr hl
  go_enter Tryz.func38, Tryz.ntmps38
  go_wp2_with fail
  go_loopw [1, 5] (fun q i wr => ∃ (j m : Nat), j ≤ n ∧ m = k + sumT f (ks.take j) ∧ i = .int .i64 j ∧ q = .int .i64 (m : Int) ∧ MkR G E w wr) (fun _ i _ => n - (intOf i).toNat)
  case atStart => exact ⟨0, k, Nat.zero_le _, by simp [sumT], rfl, rfl, MkR.refl _ _ _⟩
  case round =>
    obtain ⟨j, m, hj, hmj, rfl, rfl, ht⟩ := hrel
    by_cases hlt : j < n
    · have hjx : j < ks.length := by rw [HLEN.out]; exact hlt
      have hs1 := HS.out j hjx
      have hle := HLE.out (j + 1)
      obtain ⟨b, rfl, hg, hbl, f', a1, c1, a2, c2, a3, c3, hff, y0, y1, y2, s1, s2, s3⟩ := (HR.out.soft ht.soft).at hjx
      subst hff
      rw [cntT_succ] at hs1
      have HIH := Lib.hid (IH f' rfl)
      have HM : Hid (m + (2 * ks[j].fields.length + ks[j].body.length + sumT f' ks[j].kids) = k + sumT (f' + 1) (ks.take (j + 1))) := by show _ = _; omega
      have hb1 : m + (2 * ks[j].fields.length + ks[j].body.length + sumT f' ks[j].kids) ≤ 1073741824 := by omega
      have hm0 : 0 < m := by omega
      have HK3 : Hid (∀ u q, MkR G E wr u → q + sumT f' ks[j].kids ≤ 1073741824 → 0 < q → Calls Tryz.prog 38 #[.slice a3 ks[j].kids.length c3, .int .i64 (q : Nat)] u fun e w' => e = .returned (.int .i64 ((q + sumT f' ks[j].kids : Nat) : Int)) ∧ MkR G E u w') := fun u q hu hq h0 => HIH.out a3 _ c3 ks[j].kids q u (s3.soft hu.soft) rfl (Nat.le_trans hG (Nat.le_trans ht.low.size hu.low.size)) h0 hq
      have HK2 : Hid (∀ u q, MkR G E wr u → q + ks[j].body.length ≤ 1073741824 → 0 < q → Calls Tryz.prog 14 #[.slice a2 ks[j].body.length c2, .int .i64 (q : Nat)] u fun e w' => e = .returned (.int .i64 ((q + ks[j].body.length : Nat) : Int)) ∧ MkR G E u w') := fun u q hu hq h0 => markStringS_sh G E a2 _ c2 q u (s2.soft hu.soft) (Nat.le_trans hG (Nat.le_trans ht.low.size hu.low.size)) h0 hq
      have HK1 : Hid (∀ q, q + 2 * ks[j].fields.length ≤ 1073741824 → 0 < q → Calls Tryz.prog 37 #[.slice a1 ks[j].fields.length c1, .int .i64 (q : Nat)] wr fun e w' => e = .returned (.int .i64 ((q + 2 * ks[j].fields.length : Nat) : Int)) ∧ MkR G E wr w') := fun q hq h0 => markFieldS_sh G E a1 _ c1 q wr s1 (Nat.le_trans hG ht.low.size) h0 hq
      have HT := Lib.hid ht
      clear s1 s2 s3 hs1 hle hmj ht
      generalize ks[j].fields.length = n1 at *
      generalize ks[j].body.length = n2 at *
      generalize hn3 : ks[j].kids.length = n3 at *
      clear hn3
      generalize sumT f' ks[j].kids = n4 at *
      obtain ⟨m1, hm1⟩ : ∃ m1, m1 = m + 2 * n1 := ⟨_, rfl⟩
      obtain ⟨m2, hm2⟩ : ∃ m2, m2 = m1 + n2 := ⟨_, rfl⟩
      obtain ⟨m3, hm3⟩ : ∃ m3, m3 = m2 + n4 := ⟨_, rfl⟩
      have HM' : Hid (m3 = k + sumT (f' + 1) (ks.take (j + 1))) := by show _ = _; have := HM.out; omega
      have K1 := Lib.hid (HK1.out m (by omega) hm0)
      rw [← hm1] at K1
      have K2 : Hid (∀ u, MkR G E wr u → Calls Tryz.prog 14 #[.slice a2 n2 c2, .int .i64 (m1 : Nat)] u fun e w' => e = .returned (.int .i64 (m2 : Int)) ∧ MkR G E u w') := fun u hu => by rw [hm2]; exact HK2.out u m1 hu (by omega) (by omega)
      have K3 : Hid (∀ u, MkR G E wr u → Calls Tryz.prog 38 #[.slice a3 n3 c3, .int .i64 (m2 : Nat)] u fun e w' => e = .returned (.int .i64 (m3 : Int)) ∧ MkR G E u w') := fun u hu => by rw [hm3]; exact HK3.out u m2 hu (by omega) (by omega)
      have hm3b : m3 ≤ 1073741824 := by omega
      have hm2b : m2 ≤ 1073741824 := by omega
      have hm1b : m1 ≤ 1073741824 := by omega
      clear HK1 HK2 HK3 HM hm1 hm2 hm3 hb1 HIH
      go_wp2_with fail
      refine K1.out.mono ?_
      rintro e w1 ⟨rfl, ht1⟩
      have z1 := ht1.soft.slice hg y1
      have z2 := ht1.soft.slice hg y2
      clear y0 y1 y2
      go_wp2_with fail
      refine (K2.out _ ht1).mono ?_
      rintro e w2 ⟨rfl, ht2⟩
      have ht12 := ht1.trans ht2
      have x2 := ht2.soft.slice hg z2
      clear z1 z2
      go_wp2_with fail
      refine (K3.out _ ht12).mono ?_
      rintro e w3 ⟨rfl, ht3⟩
      have HT3 := Lib.hid (HT.out.trans (ht12.trans ht3))
      go_wp2
      go_roundw
      case rel => exact ⟨j + 1, m3, by omega, HM'.out, by go_num, rfl, HT3.out⟩
      case measure => simp [intOf]; omega
    · have hjn : j = n := by omega
      have := HALL.out
      go_wp2
      go_ret
      exact ⟨ret_int (by rw [hmj, hjn, this]), ht⟩
theorem mk_all (G E : Nat) : ∀ f, MkAt G E f
  | 0 => markPartS_of G E 0 (fun _ h => by cases h)
  | f + 1 => markPartS_of G E (f + 1) (fun f' h => by injection h with h; subst h; exact mk_all G E f)
set_option maxRecDepth 100000 in
set_option maxHeartbeats 1000000 in
theorem markPart_sh (G E f : Nat) (v : Value) (p : Prt) (k : Nat) (w : World) (hr : ShT G E w f v p) (hG : G ≤ w.heap.size) (hk0 : 0 < k) (hk : k + cntT f p ≤ 1073741824) :
    Calls Tryz.prog 13 #[v, .int .i64 k] w fun e w' => e = .returned (.int .i64 ((k + cntT f p : Nat) : Int)) ∧ MkR G E w w' := by
  obtain ⟨f', a1, c1, a2, c2, a3, c3, rfl, rfl, s1, s2, s3⟩ := hr.open
  rw [cntT_succ] at hk ⊢
  have hA : Below w.heap.size w (w.alloc (.cells #[.slice a1 p.fields.length c1, .slice a2 p.body.length c2, .slice a3 p.kids.length c3] 33)) := (Below.refl _ _).alloc (Nat.le_refl _) _
  have HX := Lib.hid (KK3.new w (.slice a1 p.fields.length c1) (.slice a2 p.body.length c2) (.slice a3 p.kids.length c3) 33)
  have hT0 : MkR G E w (w.alloc (.cells #[.slice a1 p.fields.length c1, .slice a2 p.body.length c2, .slice a3 p.kids.length c3] 33)) := MkR.below hA hG
  have HK3 : Hid (∀ u q, MkR G E w u → q + sumT f' p.kids ≤ 1073741824 → 0 < q → Calls Tryz.prog 38 #[.slice a3 p.kids.length c3, .int .i64 (q : Nat)] u fun e w' => e = .returned (.int .i64 ((q + sumT f' p.kids : Nat) : Int)) ∧ MkR G E u w') := fun u q hu hq h0 => mk_all G E f' a3 _ c3 p.kids q u (s3.soft hu.soft) rfl (Nat.le_trans hG hu.low.size) h0 hq
  have HK2 : Hid (∀ u q, MkR G E w u → q + p.body.length ≤ 1073741824 → 0 < q → Calls Tryz.prog 14 #[.slice a2 p.body.length c2, .int .i64 (q : Nat)] u fun e w' => e = .returned (.int .i64 ((q + p.body.length : Nat) : Int)) ∧ MkR G E u w') := fun u q hu hq h0 => markStringS_sh G E a2 _ c2 q u (s2.soft hu.soft) (Nat.le_trans hG hu.low.size) h0 hq
  have HK1 : Hid (∀ u q, MkR G E w u → q + 2 * p.fields.length ≤ 1073741824 → 0 < q → Calls Tryz.prog 37 #[.slice a1 p.fields.length c1, .int .i64 (q : Nat)] u fun e w' => e = .returned (.int .i64 ((q + 2 * p.fields.length : Nat) : Int)) ∧ MkR G E u w') := fun u q hu hq h0 => markFieldS_sh G E a1 _ c1 q u (s1.soft hu.soft) (Nat.le_trans hG hu.low.size) h0 hq
  clear s1 s2 s3 hr
  generalize p.fields.length = n1 at *
  generalize p.body.length = n2 at *
  generalize hn3 : p.kids.length = n3 at *
  clear hn3
  generalize sumT f' p.kids = n4 at *
  obtain ⟨m1, hm1⟩ : ∃ m1, m1 = k + 2 * n1 := ⟨_, rfl⟩
  obtain ⟨m2, hm2⟩ : ∃ m2, m2 = m1 + n2 := ⟨_, rfl⟩
  obtain ⟨m3, hm3⟩ : ∃ m3, m3 = m2 + n4 := ⟨_, rfl⟩
  have hme : k + (2 * n1 + n2 + n4) = m3 := by omega
  rw [hme]
  have K1 : Hid (∀ u, MkR G E w u → Calls Tryz.prog 37 #[.slice a1 n1 c1, .int .i64 (k : Nat)] u fun e w' => e = .returned (.int .i64 (m1 : Int)) ∧ MkR G E u w') := fun u hu => by rw [hm1]; exact HK1.out u k hu (by omega) (by omega)
  have K2 : Hid (∀ u, MkR G E w u → Calls Tryz.prog 14 #[.slice a2 n2 c2, .int .i64 (m1 : Nat)] u fun e w' => e = .returned (.int .i64 (m2 : Int)) ∧ MkR G E u w') := fun u hu => by rw [hm2]; exact HK2.out u m1 hu (by omega) (by omega)
  have K3 : Hid (∀ u, MkR G E w u → Calls Tryz.prog 38 #[.slice a3 n3 c3, .int .i64 (m2 : Nat)] u fun e w' => e = .returned (.int .i64 (m3 : Int)) ∧ MkR G E u w') := fun u hu => by rw [hm3]; exact HK3.out u m2 hu (by omega) (by omega)
  have hm3b : m3 ≤ 1073741824 := by omega
  have hm2b : m2 ≤ 1073741824 := by omega
  have hm1b : m1 ≤ 1073741824 := by omega
  clear HK1 HK2 HK3 hm1 hm2 hm3 hme
  obtain ⟨x0, x1, x2⟩ := HX.out
  go_enter Tryz.func13, Tryz.ntmps13
  go_wp2_with fail
  refine (K1.out _ hT0).mono ?_
  rintro e w1 ⟨rfl, ht1⟩
  have hT1 := hT0.trans ht1
  have z1 := ht1.soft.slice hG x1
  have z2 := ht1.soft.slice hG x2
  clear x0 x1 x2
  go_wp2_with fail
  refine (K2.out _ hT1).mono ?_
  rintro e w2 ⟨rfl, ht2⟩
  have hT2 := hT1.trans ht2
  have y2 := ht2.soft.slice hG z2
  clear z1 z2
  go_wp2_with fail
  refine (K3.out _ hT2).mono ?_
  rintro e w3 ⟨rfl, ht3⟩
  go_wp2
  go_ret
  exact ⟨rfl, hT2.trans ht3⟩
end Go.Proofs.YtcdmjckkencgoaaGreatDoor
end

section
namespace Go.Proofs.YtcdmjckkencgoaaGreatDoor
open Go.RowKit

/-! Where a list's first part with a property ends. -/
theorem tw_of {α : Type} {p : α → Bool} : ∀ {l : List α} {m : Nat}, m ≤ l.length → (∀ j, j < m → (hj : j < l.length) → p l[j] = true) → (∀ h : m < l.length, p l[m] = false) → l.takeWhile p = l.take m ∧ l.dropWhile p = l.drop m
  | [], m, hm, _, _ => by simp
  | x :: l, 0, _, _, h => by
    have := h (by simp)
    have this : p x = false := this
    rw [List.takeWhile_cons_of_neg (by simp [this]), List.dropWhile_cons_of_neg (by simp [this])]; simp
  | x :: l, m + 1, hm, h1, h2 => by
    have hx : p x = true := h1 0 (by omega) (by simp)
    rw [List.takeWhile_cons_of_pos hx, List.dropWhile_cons_of_pos hx]
    have := tw_of (l := l) (m := m) (by simpa using hm) (fun j hj hl => h1 (j + 1) (by omega) (by simpa using hl)) (fun h => h2 (by simpa using h))
    rw [this.1, this.2]; simp
theorem join_none : ∀ xs : List (List UInt8), Lib.join xs [] = xs.flatten
  | [] => rfl
  | x :: xs => by
    rw [Lib.join_cons]
    unfold Lib.joinTail
    simp
/-- What is read so far. -/
def readsTo (xs : List (List UInt8)) (k : Nat) (acc : List Fld) : Prop := mapF (groupsL xs) = (mapF (groupsL (xs.drop k))).map (acc ++ ·)
theorem readsTo_start (xs : List (List UInt8)) : readsTo xs 0 [] := by unfold readsTo; rw [List.drop_zero]; cases mapF (groupsL xs) <;> simp
theorem readsTo_end {xs : List (List UInt8)} {k : Nat} {acc : List Fld} (h : readsTo xs k acc) (hk : xs.length ≤ k) : mapF (groupsL xs) = some acc := by
  unfold readsTo at h; rw [h, List.drop_eq_nil_of_le hk]; simp [groupsL, mapF]
/-- The next line, with those that go on with it. -/
def lineAt (xs : List (List UInt8)) (k e : Nat) : List UInt8 := ((xs.drop k).take (e - k)).flatten
theorem group_at {xs : List (List UInt8)} {k e : Nat} (hk : k < xs.length) (hke : k + 1 ≤ e) (he : e ≤ xs.length) (h1 : ∀ j, k + 1 ≤ j → j < e → (hj : j < xs.length) → isCont xs[j] = true) (h2 : ∀ h : e < xs.length, isCont xs[e] = false) :
    groupsL (xs.drop k) = lineAt xs k e :: groupsL (xs.drop e) := by
  have hd : xs.drop k = xs[k] :: xs.drop (k + 1) := List.drop_eq_getElem_cons hk
  have ht := tw_of (p := isCont) (l := xs.drop (k + 1)) (m := e - (k + 1)) (by rw [List.length_drop]; omega)
    (fun j hj hl => by rw [List.getElem_drop]; exact h1 _ (by omega) (by omega) _)
    (fun h => by rw [List.getElem_drop]; rw [List.length_drop] at h; have := h2 (by omega); simpa [show k + 1 + (e - (k + 1)) = e by omega] using this)
  rw [hd, groupsL_cons, ht.1, ht.2, List.drop_drop]
  congr 1
  · unfold lineAt
    rw [hd, show e - k = (e - (k + 1)) + 1 by omega, List.take_succ_cons]; rfl
  · congr 2; omega
theorem mapF_len {l : List UInt8} {ls : List (List UInt8)} {f : Fld} (h : oneF l = some f) : mapF (l :: ls) = (mapF ls).map (f :: ·) := by
  show (match oneF l with | none => none | some f => (mapF ls).map (f :: ·)) = _
  rw [h]
theorem mapF_bad {l : List UInt8} {ls : List (List UInt8)} (h : oneF l = none) : mapF (l :: ls) = none := by
  show (match oneF l with | none => none | some f => (mapF ls).map (f :: ·)) = _
  rw [h]
theorem readsTo_bad {xs : List (List UInt8)} {k e : Nat} {acc : List Fld} (h : readsTo xs k acc) (hg : groupsL (xs.drop k) = lineAt xs k e :: groupsL (xs.drop e)) (ho : oneF (lineAt xs k e) = none) : readFs xs = none := by
  unfold readsTo at h
  unfold readFs
  rw [h, hg, mapF_bad ho]; rfl
theorem readsTo_long {xs : List (List UInt8)} {k e : Nat} {acc : List Fld} {f : Fld} (h : readsTo xs k acc) (hg : groupsL (xs.drop k) = lineAt xs k e :: groupsL (xs.drop e)) (ho : oneF (lineAt xs k e) = some f) (hl : acc.length = 20) : readFs xs = none := by
  unfold readsTo at h
  unfold readFs
  rw [h, hg, mapF_len ho]
  cases mapF (groupsL (xs.drop e)) with
  | none => rfl
  | some fs =>
    show (if (acc ++ f :: fs).length ≤ 20 then some (acc ++ f :: fs) else none) = none
    rw [if_neg]; rw [List.length_append, List.length_cons]; omega
theorem readsTo_next {xs : List (List UInt8)} {k e : Nat} {acc : List Fld} {f : Fld} (h : readsTo xs k acc) (hg : groupsL (xs.drop k) = lineAt xs k e :: groupsL (xs.drop e)) (ho : oneF (lineAt xs k e) = some f) : readsTo xs e (acc ++ [f]) := by
  unfold readsTo at h ⊢
  rw [h, hg, mapF_len ho]
  cases mapF (groupsL (xs.drop e)) <;> simp
theorem readFs_all {xs : List (List UInt8)} {acc : List Fld} (h : mapF (groupsL xs) = some acc) (hl : acc.length ≤ 20) : readFs xs = some acc := by
  unfold readFs; rw [h]; exact if_pos hl
theorem lineAt_len (xs : List (List UInt8)) (k e : Nat) : (lineAt xs k e).length ≤ xs.flatten.length := by
  unfold lineAt
  have e : xs.flatten = (xs.take k).flatten ++ (((xs.drop k).take (e - k)).flatten ++ ((xs.drop k).drop (e - k)).flatten) := by
    rw [← List.flatten_append, List.take_append_drop, ← List.flatten_append, List.take_append_drop]
  rw [e, List.length_append, List.length_append]; omega
theorem idx_cut (c : UInt8) : ∀ l : List UInt8, (Lib.indexByte l c = -1 ∧ cutAt c l = none) ∨ ∃ k : Nat, Lib.indexByte l c = (k : Int) ∧ k < l.length ∧ cutAt c l = some (l.take k, l.drop (k + 1))
  | [] => .inl ⟨rfl, rfl⟩
  | x :: l => by
    unfold Lib.indexByte cutAt
    by_cases h : x = c
    · subst h
      exact .inr ⟨0, by simp, by simp, by simp⟩
    · have hb : (x == c) = false := by simpa using h
      rw [hb, if_neg h]
      rcases idx_cut c l with ⟨h1, h2⟩ | ⟨k, h1, h2, h3⟩
      · exact .inl ⟨by rw [h1]; rfl, by rw [h2]; rfl⟩
      · refine .inr ⟨k + 1, ?_, by simp; omega, by rw [h3]; rfl⟩
        rw [h1]
        have : ((k : Int) == -1) = false := by rw [beq_eq_false_iff_ne]; omega
        rw [this]; simp
/-- What cutting at a byte returns. -/
def CutOne (l : List UInt8) (c : UInt8) (w : World) (e : Ending) (w' : World) : Prop := (∃ (a b : List UInt8) (o : Bool), e = .returned (.tuple #[.string (str a), .string (str b), .bool o]) ∧ a.length ≤ l.length ∧ b.length ≤ l.length ∧ (cutAt c l = if o then some (a, b) else none)) ∧ ∃ m, w' = w.drewN m
theorem cutOne_none {l : List UInt8} {c : UInt8} {w : World} {s : ByteArray} (h : cutAt c l = none) (hs : s = str l) (m : Nat) : CutOne l c w (.returned (.tuple #[.string s, .string ⟨#[]⟩, .bool false])) (w.drewN m) := by
  subst hs; exact ⟨⟨l, [], false, rfl, Nat.le_refl _, by simp, h⟩, m, rfl⟩
theorem cutOne_some {l : List UInt8} {c : UInt8} {k : Nat} {w : World} {s t : ByteArray} (h : cutAt c l = some (l.take k, l.drop (k + 1))) (hs : s = str (l.take k)) (ht : t = str (l.drop (k + 1))) (m : Nat) : CutOne l c w (.returned (.tuple #[.string s, .string t, .bool true])) (w.drewN m) := by
  subst hs ht; exact ⟨⟨_, _, true, rfl, by simp; omega, by simp, h⟩, m, rfl⟩
set_option maxRecDepth 100000 in
set_option maxHeartbeats 400000 in
theorem liteCut_any (s : ByteArray) (c : UInt8) (w : World) (hs : s.size ≤ 4611686018427387904) :
    Calls Tryz.prog 157 #[.string s, .string ⟨#[c]⟩] w (CutOne s.data.toList c w) := by
  have hz1 : (ByteArray.mk #[c]).size = 1 := rfl
  rcases idx_cut c s.data.toList with ⟨h1, h2⟩ | ⟨k, h1, h2, h3⟩
  · have H1 := Lib.hid h1
    have H2 := Lib.hid h2
    clear h1 h2
    go_enter Tryz.func157, Tryz.ntmps157
    go_wp2_with fail
    refine (Tryz.stringslite_Index_one s c _).mono ?_
    rintro e w1 ⟨rfl, rfl⟩
    rw [H1.out]
    go_wp2
    go_ret3
    exact ⟨⟨s.data.toList, [], false, by rw [str_of]; rfl, Nat.le_refl _, by simp, H2.out⟩, 0, rfl⟩
  · have hk : k < s.size := by rw [size_list] at h2; exact h2
    have hk1 : k + 1 ≤ s.size := hk
    have H1 := Lib.hid h1
    have H3 := Lib.hid h3
    have HT : Hid (s.extract 0 k = str (s.data.toList.take k)) := ext_take s k
    have HU : Hid (s.extract (k + 1) s.size = str (s.data.toList.drop (k + 1))) := ext_drop s (k + 1)
    clear h1 h2 h3
    go_enter Tryz.func157, Tryz.ntmps157
    go_wp2_with fail
    refine (Tryz.stringslite_Index_one s c _).mono ?_
    rintro e w1 ⟨rfl, rfl⟩
    rw [H1.out]
    go_wp2
    go_quiet (fail)
    go_wp2
    go_ret3
    exact cutOne_some H3.out HT.out HU.out _
theorem cut_any (s : ByteArray) (c : UInt8) (w : World) (hs : s.size ≤ 4611686018427387904) :
    Calls Tryz.prog 129 #[.string s, .string ⟨#[c]⟩] w (CutOne s.data.toList c w) := by
  go_enter Tryz.func129, Tryz.ntmps129
  go_wp2_with fail
  refine (liteCut_any s c _ hs).mono ?_
  rintro e w1 ⟨⟨a, b, o, rfl, h1, h2, h3⟩, m, rfl⟩
  go_wp2
  go_ret3
  exact ⟨⟨a, b, o, rfl, h1, h2, h3⟩, m, rfl⟩
def OneRet (l : List UInt8) (w : World) (e : Ending) (w' : World) : Prop := ∃ g : Fld, e = .returned (.tuple #[fldV g, .bool (oneF l).isSome]) ∧ (∀ f, oneF l = some f → g = f) ∧ Below w.heap.size w w'
theorem oneRet_some {l : List UInt8} {w w' : World} {f : Fld} (h : oneF l = some f) (hb : Below w.heap.size w w') : OneRet l w (.returned (.tuple #[.agg #[.string (str f.name), .string (str f.val)], .bool true])) w' :=
  ⟨f, by rw [h]; rfl, fun g hg => by rw [h] at hg; injection hg, hb⟩
theorem oneRet_none {l : List UInt8} {w w' : World} {n v : ByteArray} (h : oneF l = none) (hb : Below w.heap.size w w') : OneRet l w (.returned (.tuple #[.agg #[.string n, .string v], .bool false])) w' :=
  ⟨fld n v, by rw [h, fldV_fld]; rfl, fun g hg => (by rw [h] at hg; cases hg), hb⟩
theorem oneF_cut {l a b : List UInt8} (h : cutAt 58 l = some (a, b)) : oneF l = if isFld ⟨a, trimS b⟩ then some ⟨a, trimS b⟩ else none := by unfold oneF; rw [h]
theorem oneF_uncut {l : List UInt8} (h : cutAt 58 l = none) : oneF l = none := by unfold oneF; rw [h]
set_option maxRecDepth 100000 in
set_option maxHeartbeats 2000000 in
theorem readField_any (s : ByteArray) (w : World) (hs : s.size ≤ 1073741000) :
    Calls Tryz.prog 94 #[.string s] w (OneRet s.data.toList w) := by
  have hb0 : Below w.heap.size w (w.alloc (.cells #[.string ⟨#[]⟩, .string ⟨#[]⟩] 78)) := (Below.refl _ _).alloc (Nat.le_refl _) _
  go_enter Tryz.func94, Tryz.ntmps94
  go_wp2_with fail
  refine (cut_any s 58 _ (by omega)).mono ?_
  rintro e w1 ⟨⟨a, b, o, rfl, ha, hbl, hcut⟩, m, rfl⟩
  rw [size_list] at ha hbl
  have hb1 := below_drewN hb0 m
  have HC := Lib.hid hcut
  have hza : (str a).size ≤ 1073741000 := by rw [str_size]; omega
  have hzb : (str b).size ≤ 1073741000 := by rw [str_size]; omega
  have hzt : (str (trimS b)).size ≤ 1073741000 := by rw [str_size]; have := trimS_len b; omega
  have HLB := Lib.hid (str_list b)
  have HFV : Hid (∀ u : World, Calls Tryz.prog 121 #[.agg #[.string (str a), .string (str (trimS b))]] u fun e w' => e = .returned (.bool (isFld ⟨a, trimS b⟩)) ∧ Below u.heap.size u w') := fun u =>
    fieldValid_fld ⟨a, trimS b⟩ u ⟨by show a.length ≤ _; omega, by show (trimS b).length ≤ _; have := trimS_len b; omega⟩
  clear hcut
  go_wp2_with fail
  refine (trimQ_any (str b) _ (by omega)).mono ?_
  rintro e w2 ⟨rfl, m2, rfl⟩
  rw [HLB.out]
  have hb2 := below_drewN hb1 m2
  generalize hw2 : ((w.alloc (.cells #[.string ⟨#[]⟩, .string ⟨#[]⟩] 78)).drewN m).drewN m2 = w2 at *
  have hz2 : w2.heap.size = w.heap.size + 1 := by rw [← hw2]; simp
  have cN : ∀ i, w2.cell? ⟨w.heap.size, i, none⟩ = #[Value.string ⟨#[]⟩, .string ⟨#[]⟩][i]? := fun i => by
    rw [← hw2]; show (w.alloc _).cell? _ = _; rw [World.cell?_alloc_at _ _ _ _ rfl]
  have fN : ∀ i, w2.frozen? ⟨w.heap.size, i, none⟩ = false := fun i => by
    rw [← hw2]; show (w.alloc _).frozen? _ = _; rw [World.frozen?_alloc_at _ _ _ _ rfl]
  have hbB := hb2.alloc hb2.size (.cells #[.string (str a), .string (str (trimS b))] 78)
  have hlt : w.heap.size < w2.heap.size := by omega
  have hne : w.heap.size ≠ w2.heap.size := by omega
  clear hw2 hb1 hz2
  cases o
  · have HN : Hid (oneF s.data.toList = none) := oneF_uncut HC.out
    generalize str a = n0 at *
    generalize str (trimS b) = v0 at *
    go_wp2
    refine bodyPost_ret (v := .tuple #[.agg #[.string ⟨#[]⟩, .string ⟨#[]⟩], .bool false]) (by simp [results, Tryz.results94, go_sem, cN, hlt, World.cell?_alloc_lt]) rfl (oneRet_none HN.out ?_)
    first
      | exact (((hb2.setCell (by simp) _).setCell (by simp) _).alloc (by simp; omega) _)
      | exact ((hbB.setCell (by simp) _).setCell (by simp) _)
  · have HO : Hid (oneF s.data.toList = if isFld ⟨a, trimS b⟩ then some ⟨a, trimS b⟩ else none) := oneF_cut HC.out
    generalize hq : isFld ⟨a, trimS b⟩ = q at *
    have HF : Hid (str a = str (Fld.mk a (trimS b)).name ∧ str (trimS b) = str (Fld.mk a (trimS b)).val) := ⟨rfl, rfl⟩
    clear hq
    generalize Fld.mk a (trimS b) = f0 at *
    have HFA := Lib.hid HF.out.1
    have HFB := Lib.hid HF.out.2
    clear HF
    generalize str a = n0 at *
    generalize str (trimS b) = v0 at *
    go_wp2_with fail
    refine (HFV.out _).mono ?_
    rintro e w3 ⟨rfl, hb3⟩
    obtain ⟨cM, fM, zM⟩ := fresh1 hb3
    have hBelow3 : Below w2.heap.size w2 w3 := nx ((Below.refl _ _).alloc (Nat.le_refl _) _) hb3
    have cN3 : ∀ i, w3.cell? ⟨w.heap.size, i, none⟩ = #[Value.string ⟨#[]⟩, .string ⟨#[]⟩][i]? := fun i => (below_at hBelow3 hlt).trans (cN i)
    have fN3 : ∀ i, w3.frozen? ⟨w.heap.size, i, none⟩ = false := fun i => (below_fz hBelow3 hlt).trans (fN i)
    have hlt3 : w.heap.size < w3.heap.size := by omega
    have hB3 := nx hbB hb3
    clear hb3 hBelow3 cN fN
    cases q
    · have HN : Hid (oneF s.data.toList = none) := by show _ = _; rw [HO.out]; rfl
      go_wp2
      refine bodyPost_ret (v := .tuple #[.agg #[.string ⟨#[]⟩, .string ⟨#[]⟩], .bool false]) (by simp [results, Tryz.results94, go_sem, cN3]) rfl (oneRet_none HN.out ?_)
      exact ((hB3.setCell (by simp) _).setCell (by simp) _)
    · have HN : Hid (oneF s.data.toList = some f0) := by show _ = _; rw [HO.out]; rfl
      go_wp2
      refine bodyPost_ret (v := .tuple #[.agg #[.string n0, .string v0], .bool true]) (by simp [results, Tryz.results94, go_sem, cN3]) rfl ?_
      rw [HFA.out, HFB.out]
      exact oneRet_some HN.out ((hB3.setCell (by simp) _).setCell (by simp) _)
end Go.Proofs.YtcdmjckkencgoaaGreatDoor
end

section
namespace Go.Proofs.YtcdmjckkencgoaaGreatDoor
open Go.RowKit

def Cut2R (l : List UInt8) (c : UInt8) (w : World) (e : Ending) (w' : World) : Prop := e = .returned (.tuple #[.string (str (cut2 c l).1), .string (str (cut2 c l).2), .bool (cutAt c l).isSome]) ∧ ∃ m, w' = w.drewN m
theorem cut2R_none {l : List UInt8} {c : UInt8} {w : World} {s : ByteArray} (h : cutAt c l = none) (hs : s = str l) (m : Nat) : Cut2R l c w (.returned (.tuple #[.string s, .string ⟨#[]⟩, .bool false])) (w.drewN m) := by
  subst hs; unfold Cut2R cut2; rw [h]; exact ⟨rfl, m, rfl⟩
theorem cut2R_some {l : List UInt8} {c : UInt8} {k : Nat} {w : World} {s t : ByteArray} (h : cutAt c l = some (l.take k, l.drop (k + 1))) (hs : s = str (l.take k)) (ht : t = str (l.drop (k + 1))) (m : Nat) : Cut2R l c w (.returned (.tuple #[.string s, .string t, .bool true])) (w.drewN m) := by
  subst hs ht; unfold Cut2R cut2; rw [h]; exact ⟨rfl, m, rfl⟩
set_option maxRecDepth 100000 in
set_option maxHeartbeats 400000 in
theorem liteCut2_any (s : ByteArray) (c : UInt8) (w : World) (hs : s.size ≤ 4611686018427387904) :
    Calls Tryz.prog 157 #[.string s, .string ⟨#[c]⟩] w (Cut2R s.data.toList c w) := by
  have hz1 : (ByteArray.mk #[c]).size = 1 := rfl
  rcases idx_cut c s.data.toList with ⟨h1, h2⟩ | ⟨k, h1, h2, h3⟩
  · have H1 := Lib.hid h1
    have H2 := Lib.hid h2
    clear h1 h2
    go_enter Tryz.func157, Tryz.ntmps157
    go_wp2_with fail
    refine (Tryz.stringslite_Index_one s c _).mono ?_
    rintro e w1 ⟨rfl, rfl⟩
    rw [H1.out]
    go_wp2
    go_ret3
    exact cut2R_none (w := w1) H2.out (str_of s).symm 0
  · have hk : k < s.size := by rw [size_list] at h2; exact h2
    have hk1 : k + 1 ≤ s.size := hk
    have H1 := Lib.hid h1
    have H3 := Lib.hid h3
    have HT : Hid (s.extract 0 k = str (s.data.toList.take k)) := ext_take s k
    have HU : Hid (s.extract (k + 1) s.size = str (s.data.toList.drop (k + 1))) := ext_drop s (k + 1)
    clear h1 h2 h3
    go_enter Tryz.func157, Tryz.ntmps157
    go_wp2_with fail
    refine (Tryz.stringslite_Index_one s c _).mono ?_
    rintro e w1 ⟨rfl, rfl⟩
    rw [H1.out]
    go_wp2
    go_quiet (fail)
    go_wp2
    go_ret3
    exact cut2R_some H3.out HT.out HU.out _
theorem cut2_any (s : ByteArray) (c : UInt8) (w : World) (hs : s.size ≤ 4611686018427387904) :
    Calls Tryz.prog 129 #[.string s, .string ⟨#[c]⟩] w (Cut2R s.data.toList c w) := by
  go_enter Tryz.func129, Tryz.ntmps129
  go_wp2_with fail
  refine (liteCut2_any s c _ hs).mono ?_
  rintro e w1 ⟨rfl, m, rfl⟩
  go_wp2
  go_ret3
  exact ⟨rfl, m, rfl⟩
end Go.Proofs.YtcdmjckkencgoaaGreatDoor
end

section
namespace Go.Proofs.YtcdmjckkencgoaaGreatDoor
open Go.RowKit

theorem Touch.setNew {R b i : Nat} {w w' : World} (h : Touch R w w') (hb : w.heap.size ≤ b) (v : Value) : Touch R w (w'.setCell ⟨b, i, none⟩ v) :=
  ⟨h.os, h.tape, h.output, by have := h.size; simpa [World.setCell] using this, fun k hk hr => by rw [Below.heap_setCell _ _ _ _ (by show k ≠ b; omega)]; exact h.block k hk hr⟩
theorem tcell {R : Nat} {w w' : World} (t : Touch R w w') : (∀ b o, b < w.heap.size → b ≠ R → w'.cell? ⟨b, o, none⟩ = w.cell? ⟨b, o, none⟩) ∧ (∀ b o, b < w.heap.size → b ≠ R → w'.frozen? ⟨b, o, none⟩ = w.frozen? ⟨b, o, none⟩) :=
  ⟨fun _ _ h hr => t.cell h hr, fun _ _ h hr => t.fz h hr⟩
/-- Two new blocks, behind whatever the reader has done. -/
theorem fresh2 {R : Nat} {w w' : World} {C D : Array Value} {T : TypeId} (hR : R < w.heap.size) (t : Touch R ((w.alloc (.cells C T)).alloc (.cells D T)) w') :
    (∀ i, w'.cell? ⟨w.heap.size, i, none⟩ = C[i]?) ∧ (∀ i, w'.cell? ⟨w.heap.size + 1, i, none⟩ = D[i]?) ∧ (∀ i, w'.frozen? ⟨w.heap.size, i, none⟩ = false) ∧ (∀ i, w'.frozen? ⟨w.heap.size + 1, i, none⟩ = false) := by
  refine ⟨fun i => ?_, fun i => ?_, fun i => ?_, fun i => ?_⟩
  · rw [t.cell (by simp; omega) (by omega), World.cell?_alloc_lt _ _ _ (by simp), World.cell?_alloc_at _ _ _ _ rfl]
  · rw [t.cell (by simp) (by omega), World.cell?_alloc_at _ _ _ _ (by simp)]
  · rw [t.fz (by simp; omega) (by omega), below_fz ((Below.refl _ _).alloc (Nat.le_refl _) _) (by simp), World.frozen?_alloc_at _ _ _ _ rfl]
  · rw [t.fz (by simp) (by omega), World.frozen?_alloc_at _ _ _ _ (by simp)]
end Go.Proofs.YtcdmjckkencgoaaGreatDoor
end

section
namespace Go.Proofs.YtcdmjckkencgoaaGreatDoor
open Go.RowKit

end Go.Proofs.YtcdmjckkencgoaaGreatDoor
end

section
namespace Go.Proofs.YtcdmjckkencgoaaGreatDoor
open Go.RowKit

theorem set2_flat {xs : List Fld} {k : Nat} (y : Fld) (hk : k < xs.length) :
    ((xs.flatMap fldC).set (k * 2) (.string (str y.name))).set (k * 2 + 1) (.string (str y.val)) = (xs.set k y).flatMap fldC := by
  have hl : (xs.flatMap fldC).length = xs.length * 2 := flat_len fldC 2 fldC_len xs
  apply List.ext_getElem?
  intro i
  by_cases hi : i < xs.length * 2
  · have h1 : i / 2 < (xs.set k y).length := by rw [List.length_set]; omega
    have h2 : i % 2 < 2 := Nat.mod_lt _ (by omega)
    have e : i / 2 * 2 + i % 2 = i := Nat.div_add_mod' i 2
    have g2 := flat_at fldC 2 fldC_len (xs.set k y) (i / 2) (i % 2) h2 h1
    rw [e] at g2
    rw [g2]
    by_cases hc : i / 2 = k
    · have hy : (xs.set k y)[i / 2] = y := by subst hc; exact List.getElem_set_self _
      rw [hy]
      rcases (by omega : i % 2 = 0 ∨ i % 2 = 1) with h | h
      · have : i = k * 2 := by omega
        subst this
        rw [List.getElem?_set_ne (by omega), List.getElem?_set_self (by rw [hl]; omega), h]; rfl
      · have : i = k * 2 + 1 := by omega
        subst this
        rw [List.getElem?_set_self (by simp only [List.length_set]; rw [hl]; omega), h]; rfl
    · have h1' : i / 2 < xs.length := by omega
      have hy : (xs.set k y)[i / 2] = xs[i / 2] := List.getElem_set_ne (fun h => hc h.symm) _
      rw [hy, List.getElem?_set_ne (by omega), List.getElem?_set_ne (by omega)]
      have g1 := flat_at fldC 2 fldC_len xs (i / 2) (i % 2) h2 h1'
      rw [e] at g1
      exact g1
  · rw [List.getElem?_eq_none (by simp only [List.length_set]; rw [hl]; omega), List.getElem?_eq_none (by rw [flat_len fldC 2 fldC_len, List.length_set]; omega)]
end Go.Proofs.YtcdmjckkencgoaaGreatDoor
end

section
namespace Go.Proofs.YtcdmjckkencgoaaGreatDoor
open Go.RowKit

def parR (l : List UInt8) : Fld := (readP l).getD fld0
/-- What reading a parameter leaves. -/
def ParRet (l : List UInt8) (w : World) (e : Ending) (w' : World) : Prop := e = .returned (.tuple #[fldV (parR l), .bool (readP l).isSome]) ∧ Below w.heap.size w w'
theorem parRet_none {l : List UInt8} {w w' : World} (h : readP l = none) (hb : Below w.heap.size w w') : ParRet l w (.returned (.tuple #[.agg #[.string ⟨#[]⟩, .string ⟨#[]⟩], .bool false])) w' :=
  ⟨by unfold parR; rw [h]; rfl, hb⟩
theorem parRet_some {l : List UInt8} {w w' : World} {n v : ByteArray} (h : readP l = some (fld n v)) (hb : Below w.heap.size w w') : ParRet l w (.returned (.tuple #[.agg #[.string n, .string v], .bool true])) w' :=
  ⟨by unfold parR; rw [h]; show _ = Ending.returned (.tuple #[fldV (fld n v), .bool true]); rw [fldV_fld], hb⟩
theorem readP_no {l : List UInt8} (h : ∀ t, splitW (cut2 61 l).2 ≠ some [t]) : readP l = none := by
  unfold readP
  split
  · rename_i t ht; exact absurd ht (h t)
  · rfl
theorem readP_yes {l t : List UInt8} (h : splitW (cut2 61 l).2 = some [t]) : readP l = some ⟨low (trimS (cut2 61 l).1), t⟩ := by
  unfold readP; rw [h]
set_option maxRecDepth 100000 in
set_option maxHeartbeats 2000000 in
theorem readParam_any (s : ByteArray) (w : World) (tab : Tab w) (ht : isText s.data.toList = true) :
    Calls Tryz.prog 133 #[.string s] w (ParRet s.data.toList w) := by
  have hs200 := text_len ht
  rw [size_list] at hs200
  have hb0 : Below w.heap.size w (w.alloc (.cells #[.string ⟨#[]⟩, .string ⟨#[]⟩] 78)) := (Below.refl _ _).alloc (Nat.le_refl _) _
  obtain ⟨⟨_, hn1⟩, _, hn2⟩ := cut2_sub 61 s.data.toList
  have hvt := cut2_text (c := 61) ht
  have hz1 : (str (cut2 61 s.data.toList).1).size ≤ 200 := by rw [str_size]; rw [size_list] at hn1; omega
  have hz2 : (str (cut2 61 s.data.toList).2).size ≤ 200 := by rw [str_size]; rw [size_list] at hn2; omega
  have HSP : Hid (∀ u, Below w.heap.size w u → Calls Tryz.prog 167 #[.string (str (cut2 61 s.data.toList).2)] u fun e w' => ∃ v, e = .returned (.tuple #[v, .bool (splitW (cut2 61 s.data.toList).2).isSome]) ∧ OwnL u.heap.size v ((splitW (cut2 61 s.data.toList).2).getD []) w' ∧ Below u.heap.size u w') := fun u h => by
    have := splitWords_any (str (cut2 61 s.data.toList).2) u (tab.below h) (by omega)
    unfold SplitRet spO spL at this
    rw [str_list, fullW_text hvt] at this
    exact this
  have HTR : Hid (∀ u : World, Calls Tryz.prog 130 #[.string (str (cut2 61 s.data.toList).1), .string ⟨#[32]⟩] u fun e w' => e = .returned (.string (str (trimS (cut2 61 s.data.toList).1))) ∧ Below u.heap.size u w') := fun u => by
    have := trim_any (str (cut2 61 s.data.toList).1) u (by omega)
    rw [str_list] at this; exact this
  have HLO : Hid (∀ u : World, Calls Tryz.prog 104 #[.string (str (trimS (cut2 61 s.data.toList).1))] u fun e w' => e = .returned (.string (str (low (trimS (cut2 61 s.data.toList).1)))) ∧ Below u.heap.size u w') := fun u => by
    have := lowerText_any (str (trimS (cut2 61 s.data.toList).1)) u (by rw [str_size] at hz1 ⊢; have := trimS_len (cut2 61 s.data.toList).1; omega)
    rw [lowS_str] at this; exact this
  have HNO := Lib.hid (readP_no (l := s.data.toList))
  have HYE : Hid (∀ t, splitW (cut2 61 s.data.toList).2 = some [t] → readP s.data.toList = some (fld (str (low (trimS (cut2 61 s.data.toList).1))) (str t))) := fun t h => by
    rw [readP_yes h]; unfold fld; rw [str_list, str_list]
  clear ht hvt tab
  generalize str (low (trimS (cut2 61 s.data.toList).1)) = LN at *
  generalize str (trimS (cut2 61 s.data.toList).1) = TN at *
  generalize hN0 : str (cut2 61 s.data.toList).1 = N0 at *
  generalize hV0 : str (cut2 61 s.data.toList).2 = V0 at *
  have HN0 := Lib.hid hN0
  have HV0 := Lib.hid hV0
  clear hN0 hV0
  generalize splitW (cut2 61 s.data.toList).2 = O at *
  go_enter Tryz.func133, Tryz.ntmps133
  go_wp2_with fail
  refine (cut2_any s 61 _ (by omega)).mono ?_
  rintro e w1 ⟨rfl, m, rfl⟩
  rw [HN0.out, HV0.out]
  have hb1 := below_drewN hb0 m
  generalize hw1 : (w.alloc (.cells #[.string ⟨#[]⟩, .string ⟨#[]⟩] 78)).drewN m = w1 at *
  have c1 : ∀ i, w1.cell? ⟨w.heap.size, i, none⟩ = #[Value.string ⟨#[]⟩, .string ⟨#[]⟩][i]? := fun i => by
    rw [← hw1]; show (w.alloc _).cell? _ = _; rw [World.cell?_alloc_at _ _ _ _ rfl]
  have f1 : ∀ i, w1.frozen? ⟨w.heap.size, i, none⟩ = false := fun i => by
    rw [← hw1]; show (w.alloc _).frozen? _ = _; rw [World.frozen?_alloc_at _ _ _ _ rfl]
  have hl1 : w.heap.size < w1.heap.size := by rw [← hw1]; simp
  have HC1 := Lib.hid c1
  have HF1 := Lib.hid f1
  clear hw1 c1 f1
  go_wp2_with fail
  refine (HSP.out _ hb1).mono ?_
  rintro e w2 ⟨v2, rfl, ho2, hb2⟩
  have hb12 := nx hb1 hb2
  have c2 : ∀ i, w2.cell? ⟨w.heap.size, i, none⟩ = #[Value.string ⟨#[]⟩, .string ⟨#[]⟩][i]? := fun i => (below_at hb2 hl1).trans (HC1.out i)
  have f2 : ∀ i, w2.frozen? ⟨w.heap.size, i, none⟩ = false := fun i => (below_fz hb2 hl1).trans (HF1.out i)
  have hl2 : w.heap.size < w2.heap.size := Nat.lt_of_lt_of_le hl1 hb2.size
  cases O with
  | none =>
    have HN := Lib.hid (HNO.out (fun t h => by cases h))
    clear HNO HYE HTR HLO
    obtain ⟨a2, d2, rfl, _, _⟩ := ho2.read
    clear ho2
    go_wp2
    refine bodyPost_ret (v := .tuple #[.agg #[.string ⟨#[]⟩, .string ⟨#[]⟩], .bool false]) (by simp [results, Tryz.results133, go_sem, c2]) rfl (parRet_none HN.out ?_)
    exact ((hb12.setCell (by simp) _).setCell (by simp) _)
  | some xs =>
    obtain ⟨a2, d2, rfl, hr2, hm2⟩ := ho2.read
    have HR2 := Lib.hid hr2
    clear ho2 hr2
    by_cases h1 : xs.length = 1
    · match xs, h1 with
      | [t], _ =>
      have HY := Lib.hid (HYE.out t rfl)
      obtain ⟨b, off, rfl, hbl, hcell⟩ := HR2.out.2.resolve_left (by simp)
      have hq := hcell 0 (by simp)
      rw [Nat.add_zero] at hq
      replace hq : w2.cell? ⟨b, off, none⟩ = some (.string (str t)) := hq
      obtain ⟨T, hT⟩ : ∃ T, T = str t := ⟨_, rfl⟩
      rw [← hT] at hq HY
      clear hT
      clear HNO HYE hcell
      have HK : Hid (∀ w', Below w2.heap.size w2 w' → (w'.cell? ⟨b, off, none⟩ = some (.string T) ∧ w'.cell? ⟨w.heap.size, 0, none⟩ = some (.string ⟨#[]⟩) ∧ w'.cell? ⟨w.heap.size, 1, none⟩ = some (.string ⟨#[]⟩) ∧ w'.frozen? ⟨w.heap.size, 0, none⟩ = false ∧ w'.frozen? ⟨w.heap.size, 1, none⟩ = false ∧ Below w2.heap.size w2 w')) := fun u h => ⟨(below_at h hbl).trans hq, (below_at h hl2).trans (c2 0), (below_at h hl2).trans (c2 1), (below_fz h hl2).trans (f2 0), (below_fz h hl2).trans (f2 1), h⟩
      go_wp2_with fail
      go_region_with (first
        | (go_at_call 130; refine (HTR.out _).mono ?_; rintro e w6 ⟨rfl, hb6⟩; have hb7 : Below w2.heap.size w2 w6 := nx ((Below.refl _ _).drew) hb6; obtain ⟨q6, c60, c61, f60, f61, _⟩ := HK.out _ hb7; have hl6 : w.heap.size < w6.heap.size := Nat.lt_of_lt_of_le hl2 hb7.size)
        | (go_at_call 104; refine (HLO.out _).mono ?_; rintro e w7 ⟨rfl, hb8⟩; have hb9 : Below w2.heap.size w2 w7 := nx (by first | exact hb7 | assumption) hb8; obtain ⟨q7, c70, c71, f70, f71, _⟩ := HK.out _ hb9; have hl7 : w.heap.size < w7.heap.size := Nat.lt_of_lt_of_le hl2 hb9.size))
      all_goals go_wp2
      all_goals refine bodyPost_ret (v := .tuple #[.agg #[.string LN, .string T], .bool true]) (by simp [results, Tryz.results133, go_sem, c70, c71]) rfl (parRet_some HY.out ?_)
      all_goals exact (((nx hb12 hb9).setCell (by simp) _).setCell (by simp) _)
    · have hne : ((xs.length : Int) != 1) = true := by rw [bne_iff_ne]; omega
      have HN := Lib.hid (HNO.out (fun t h => by injection h with h; subst h; exact h1 rfl))
      clear HNO HYE HTR HLO
      go_wp2
      refine bodyPost_ret (v := .tuple #[.agg #[.string ⟨#[]⟩, .string ⟨#[]⟩], .bool false]) (by simp [results, Tryz.results133, go_sem, c2]) rfl (parRet_none HN.out ?_)
      exact ((hb12.setCell (by simp) _).setCell (by simp) _)
end Go.Proofs.YtcdmjckkencgoaaGreatDoor
end

section
namespace Go.Proofs.YtcdmjckkencgoaaGreatDoor
open Go.RowKit

def PKRet (o : Option Knd) (w : World) (e : Ending) (w' : World) : Prop := ∃ a c, e = .returned (.tuple #[kndV (o.getD knd0) a c, .bool o.isSome]) ∧ OwnF w.heap.size (.slice a (o.getD knd0).params.length c) (o.getD knd0).params w' ∧ Below w.heap.size w w'
theorem pkRet_none {o : Option Knd} {w w' : World} (h : o = none) (hb : Below w.heap.size w w') : PKRet o w (.returned (.tuple #[.agg #[.string ⟨#[]⟩, .string ⟨#[]⟩, .slice none 0 0], .bool false])) w' := by
  subst h; exact ⟨none, 0, rfl, OwnR.nil _ _ _ _ _, hb⟩
theorem pkRet_some {o : Option Knd} {k : Knd} {w w' : World} {m s : ByteArray} {a : Option Addr} {c : Nat} (h : o = some k) (hm : m = str k.main) (hs : s = str k.sub) (ho : OwnF w.heap.size (.slice a k.params.length c) k.params w') (hb : Below w.heap.size w w') : PKRet o w (.returned (.tuple #[.agg #[.string m, .string s, .slice a k.params.length c], .bool true])) w' := by
  subst h hm hs; exact ⟨a, c, rfl, ho, hb⟩
/-- A row with a slot of its own: what the slot's store does to it. -/
theorem ownF_off {K : Nat} {v : Value} {xs : List Fld} {u : World} (h : OwnF (K + 1) v xs u) (i : Nat) (x : Value) : OwnF (K + 1) v xs (u.setCell ⟨K, i, none⟩ x) :=
  OwnR.only h ((Only.refl (some K) u).setCell x) (fun q hq e => by injection e with e; have := (OwnR.lt h q hq).1; omega)
theorem ownF_offG {B g : Nat} {v : Value} {xs : List Fld} {u : World} (h : OwnF B v xs u) (hg : g < B) (i : Nat) (x : Value) : OwnF B v xs (u.setCell ⟨g, i, none⟩ x) :=
  OwnR.only h ((Only.refl (some g) u).setCell x) (fun q hq e => by injection e with e; have := (OwnR.lt h q hq).1; omega)
theorem ownL_slice2 {B : Nat} {v : Value} {xs : List (List UInt8)} {w : World} (h : OwnL B v xs w) : ∃ a c, v = .slice a xs.length c ∧ RdL w a xs.length xs ∧ xs.length ≤ c ∧ c ≤ maxLen := by
  obtain ⟨a, c, rfl, hr, _⟩ := h.read
  refine ⟨a, c, rfl, hr, ?_⟩
  rcases h.2 with ⟨hv, h0⟩ | ⟨g, cap, cur, hv, _, _, hq1, hq2, _⟩
  · injection hv with _ _ h3; unfold maxLen; omega
  · injection hv with _ _ h3; exact ⟨by omega, by omega⟩
set_option maxRecDepth 100000 in
set_option maxHeartbeats 4000000 in
theorem parseKind_any (s : ByteArray) (w : World) (tab : Tab w) (hs : s.size ≤ 1073741824) :
    Calls Tryz.prog 96 #[.string s] w (PKRet (parseK s.data.toList) w) := by
  obtain ⟨i0, hi, hz0, hz1, hz2⟩ := info_parts fInfo
  have hb0 : Below w.heap.size w (w.alloc (.cells #[.string ⟨#[]⟩, .string ⟨#[]⟩, .slice none 0 0] 97)) := (Below.refl _ _).alloc (Nat.le_refl _) _
  cases htx : isText s.data.toList
  · have HX := Lib.hid htx
    have HN := Lib.hid (parseK_no htx)
    clear htx
    go_enter Tryz.func96, Tryz.ntmps96
    go_wp2_with fail
    refine (textValid_any s _ (by unfold maxLen; omega)).mono ?_
    rintro e w1 ⟨rfl, rfl⟩
    rw [HX.out]
    go_wp2
    exact bodyPost_ret (v := .tuple #[.agg #[.string ⟨#[]⟩, .string ⟨#[]⟩, .slice none 0 0], .bool false]) (by simp [results, Tryz.results96, go_sem]) rfl (pkRet_none HN.out hb0)
  · have HX := Lib.hid htx
    have hs2 : s.size ≤ 200 := by have := text_len htx; rw [size_list] at this; exact this
    have HPX : Hid (∀ p ∈ partsU 59 s.data.toList, isText p = true) := fun p hp => partsU_text htx hp
    have HPN : Hid ((partsU 59 s.data.toList).length ≤ 201) := by
      show _ ≤ _
      have := (partsU_small 59 _ s.data.toList (Nat.le_refl _)).1; rw [size_list] at this; omega
    have HPK := Lib.hid (parseK_text htx)
    clear htx
    have hne := partsU_ne 59 s.data.toList
    cases hPS : partsU 59 s.data.toList with
    | nil => exact absurd hPS hne
    | cons h ps =>
    have HRK := Lib.hid ((parseK_text (l := s.data.toList) (by exact HX.out)).trans (readK_parts hPS))
    have HPS := Lib.hid hPS
    rw [hPS] at HPX HPN
    clear hPS hne HPK
    have hhl : (str h).size ≤ 200 := by rw [str_size]; exact text_len (HPX.out h (by simp))
    have hpn : ps.length ≤ 200 := by have := HPN.out; simp only [List.length_cons] at this; omega
    have HHX := Lib.hid (HPX.out h (by simp))
    have HPY : Hid (∀ p ∈ ps, isText p = true) := fun p hp => HPX.out p (by simp [hp])
    have htl := trimS_len h
    have HTR : Hid (∀ u : World, Calls Tryz.prog 130 #[.string (str h), .string ⟨#[32]⟩] u fun e w' => e = .returned (.string (str (trimS h))) ∧ Below u.heap.size u w') := fun u => by
      have := trim_any (str h) u (by omega)
      rw [str_list] at this; exact this
    have HLO : Hid (∀ u : World, Calls Tryz.prog 104 #[.string (str (trimS h))] u fun e w' => e = .returned (.string (str (low (trimS h)))) ∧ Below u.heap.size u w') := fun u => by
      have := lowerText_any (str (trimS h)) u (by rw [str_size] at hhl ⊢; omega)
      rw [lowS_str] at this; exact this
    have HCU : Hid (∀ u : World, Calls Tryz.prog 129 #[.string (str (low (trimS h))), .string ⟨#[47]⟩] u fun e w' => ∃ o, e = .returned (.tuple #[.string (str (mainK h).1), .string (str (mainK h).2), .bool o]) ∧ Below u.heap.size u w') := fun u => by
      have := cut2_any (str (low (trimS h))) 47 u (by rw [str_size] at hhl ⊢; rw [low_len]; omega)
      unfold Cut2R at this
      rw [str_list] at this
      exact this.mono fun e w' ⟨h1, m, h2⟩ => ⟨_, h1, by subst h2; exact below_drewN (Below.refl _ _) m⟩
    have hmk := cut2_sub 47 (low (trimS h))
    have hm1 : (str (mainK h).1).size ≤ 200 := by rw [str_size] at hhl ⊢; have := hmk.1.2; rw [low_len] at this; unfold mainK; omega
    have hm2 : (str (mainK h).2).size ≤ 200 := by rw [str_size] at hhl ⊢; have := hmk.2.2; rw [low_len] at this; unfold mainK; omega
    have HM1 : Hid ((str (mainK h).1).data.toList = (mainK h).1 ∧ (str (mainK h).2).data.toList = (mainK h).2) := ⟨str_list _, str_list _⟩
    have HKM : Hid (∀ fs : List Fld, mapP ps = some fs → parseK s.data.toList = okK ⟨(mainK h).1, (mainK h).2, fs⟩) := fun fs hf => by rw [HRK.out, hf]; rfl
    have HKN : Hid (mapP ps = none → parseK s.data.toList = none) := fun hf => by rw [HRK.out, hf]; rfl
    clear htl hmk HRK HPX
    generalize hLT : str (low (trimS h)) = LT at *
    generalize hTT : str (trimS h) = TT at *
    generalize hMM : str (mainK h).1 = MM at *
    generalize hSS : str (mainK h).2 = SS at *
    have HMM := Lib.hid hMM
    have HSS := Lib.hid hSS
    clear hLT hTT hMM hSS
    generalize hHS : str h = HS at *
    have HHS := Lib.hid hHS
    clear hHS
    go_enter Tryz.func96, Tryz.ntmps96
    go_wp2_with fail
    refine (textValid_any s _ (by unfold maxLen; omega)).mono ?_
    rintro e w1 ⟨rfl, rfl⟩
    rw [HX.out]
    go_wp2_with fail
    refine (splitUnquoted_any s 59 _ (by decide) (by omega)).mono ?_
    rintro e w1 ⟨v1, rfl, ho1, hb1⟩
    rw [HPS.out] at ho1
    obtain ⟨a1, d1, rfl, hr1, hc1, hc2⟩ := ownL_slice2 ho1
    rw [List.length_cons] at hr1 hc1
    obtain ⟨b, off, rfl, hbl, hcell⟩ := hr1.2.resolve_left (by omega)
    have hq0 := hcell 0 (by simp)
    rw [Nat.add_zero] at hq0
    replace hq0 : w1.cell? ⟨b, off, none⟩ = some (.string HS) := by rw [← HHS.out]; exact hq0
    have HC1 : Hid (∀ i, (hi : i < ps.length) → w1.cell? ⟨b, off + 1 + i, none⟩ = some (.string (str ps[i]))) := fun i hi => by
      have := hcell (i + 1) (by simp; omega)
      rw [show off + 1 + i = off + (i + 1) by omega]; exact this
    have hb01 := nx hb0 hb1
    have hl1 : w.heap.size < w1.heap.size := by have := hb1.size; simp at this; omega
    have HZ1 : Hid ((∀ i, w1.cell? ⟨w.heap.size, i, none⟩ = #[Value.string ⟨#[]⟩, .string ⟨#[]⟩, .slice none 0 0][i]?) ∧ ∀ i, w1.frozen? ⟨w.heap.size, i, none⟩ = false) := by
      obtain ⟨q1, q2, _⟩ := fresh1 hb1
      exact ⟨q1, q2⟩
    clear ho1 hr1 hcell
    rw [List.length_cons]
    go_wp2_with fail
    refine (HTR.out _).mono ?_
    rintro e w2 ⟨rfl, hb2⟩
    go_wp2_with fail
    refine (HLO.out _).mono ?_
    rintro e w3 ⟨rfl, hb3⟩
    go_wp2_with fail
    refine (HCU.out _).mono ?_
    rintro e w4 ⟨o4, rfl, hb4⟩
    have hb14 := nx (nx hb2 hb3) hb4
    have hl4 : w.heap.size < w4.heap.size := Nat.lt_of_lt_of_le hl1 hb14.size
    have hA4 : Below w4.heap.size w4 (w4.alloc (.cells #[.string MM, .string SS, .slice none 0 0] 97)) := (Below.refl _ _).alloc (Nat.le_refl _) _
    by_cases hd1 : d1 = 1
    · have hp0 : ps.length = 0 := by omega
      subst hd1
      clear hq0
      go_wp2_with fail
      have hbA0 := nx hb01 (nx hb14 hA4)
      generalize hWK : w4.alloc (.cells #[.string MM, .string SS, .slice none 0 0] 97) = WK at *
      have cK : ∀ i, WK.cell? ⟨w4.heap.size, i, none⟩ = #[Value.string MM, .string SS, .slice none 0 0][i]? := fun i => by
        rw [← hWK, World.cell?_alloc_at _ _ _ _ rfl]
      have fK : ∀ i, WK.frozen? ⟨w4.heap.size, i, none⟩ = false := fun i => by
        rw [← hWK, World.frozen?_alloc_at _ _ _ _ rfl]
      have hlK : w4.heap.size < WK.heap.size := by rw [← hWK]; simp
      obtain ⟨K, hK⟩ : ∃ K, K = w4.heap.size := ⟨_, rfl⟩
      rw [← hK] at cK fK hlK hl4 hA4
      have HbK : Hid (Below w1.heap.size w1 w4) := hb14
      have hblK : b < K := by rw [hK]; exact Nat.lt_of_lt_of_le hbl hb14.size
      have HCW : Hid (∀ u, Below K WK u → (∀ i, (hi : i < ps.length) → u.cell? ⟨b, off + 1 + i, none⟩ = some (.string (str ps[i]))) ∧ (∀ i, u.cell? ⟨w.heap.size, i, none⟩ = #[Value.string ⟨#[]⟩, .string ⟨#[]⟩, .slice none 0 0][i]?) ∧ (∀ i, u.frozen? ⟨w.heap.size, i, none⟩ = false) ∧ Below w.heap.size w u) := fun u hu => by
        have h4K : Below w1.heap.size w1 WK := nx hb14 (by rw [hK] at hA4; exact hA4)
        refine ⟨fun i hi => ?_, fun i => ?_, fun i => ?_, ?_⟩
        · rw [below_at hu hblK, below_at h4K hbl]; exact HC1.out i hi
        · rw [below_at hu hl4, below_at h4K hl1]; exact HZ1.out.1 i
        · rw [below_fz hu hl4, below_fz h4K hl1]; exact HZ1.out.2 i
        · exact hbA0.trans (hu.mono (Nat.le_of_lt hl4))
      rw [← hK]
      have hKw := hl4
      have HT0 : Hid (∀ u, Below K WK u → Tab u) := fun u hu => tab.below ((HCW.out u hu).2.2.2)
      clear hWK hK hb2 hb3 hb4 hb14 hA4 HC1 HZ1 hbA0 HbK hb01 hb1 hbl tab hb0 hl4
      go_loopw [35] (fun i wr => ∃ (k : Nat) (acc : List Fld) (a : Option Addr) (d : Nat), k ≤ ps.length ∧ i = .int .i64 k ∧ acc.length ≤ k ∧ readsK ps k acc ∧ (∀ x ∈ acc, SmallF 200 x) ∧ OwnF (K + 1) (.slice a acc.length d) acc wr ∧ wr.cell? ⟨K, 0, none⟩ = some (.string MM) ∧ wr.cell? ⟨K, 1, none⟩ = some (.string SS) ∧ wr.cell? ⟨K, 2, none⟩ = some (.slice a acc.length d) ∧ wr.frozen? ⟨K, 2, none⟩ = false ∧ Below K WK wr ∧ K < wr.heap.size) (fun i _ => ps.length - (intOf i).toNat)
      case atStart => exact ⟨0, [], none, 0, Nat.zero_le _, rfl, Nat.le_refl _, readsK_start ps, (fun x hx => by cases hx), OwnR.nil _ _ _ _ _, cK 0, cK 1, cK 2, fK 2, Below.refl _ _, hlK⟩
      case round =>
        obtain ⟨k, acc, a, d, hk, rfl, hal, hg, hsm, hown, k0, k1, k2, kf, hb, hKr⟩ := hrel
        have HG := Lib.hid hg
        have HSM := Lib.hid hsm
        clear hg hsm cK fK
        by_cases hlt : k < ps.length
        · omega
        · have hkn : k = ps.length := by omega
          have HMP := Lib.hid (readsK_end HG.out (by omega))
          have HKK := Lib.hid (HKM.out acc HMP.out)
          have hKV : Hid (∀ u, Below K WK u → RdF u a acc.length acc → Calls Tryz.prog 134 #[.agg #[.string MM, .string SS, .slice a acc.length d]] u fun e w' => e = .returned (.bool (isKnd ⟨(mainK h).1, (mainK h).2, acc⟩)) ∧ Below u.heap.size u w') := fun u hu hr => by
            have := kindValid_any MM SS a acc.length d acc u (HT0.out u hu) (by omega) (by omega) hr (by omega) (fun x hx => (HSM.out x hx).up (by omega))
            rw [HM1.out.1, HM1.out.2] at this; exact this
          have HOWN := Lib.hid hown
          obtain ⟨a0, d0, hv0, hrd, _, _⟩ := hown.read fldC_len
          injection hv0 with e1 _ e3
          subst e1 e3
          have HRD := Lib.hid hrd
          obtain ⟨_, cZ, fZ, hBZ⟩ := HCW.out _ hb
          have hlz : w.heap.size < wr.heap.size := Nat.lt_trans hKw hKr
          have hmk : MM = str (Knd.mk (mainK h).1 (mainK h).2 acc).main ∧ SS = str (Knd.mk (mainK h).1 (mainK h).2 acc).sub := ⟨HMM.out.symm, HSS.out.symm⟩
          have HMK := Lib.hid hmk
          clear hown hrd hmk hkn
          cases hkn : isKnd ⟨(mainK h).1, (mainK h).2, acc⟩
          · have HN : Hid (parseK s.data.toList = none) := by show _ = _; rw [HKK.out]; exact okK_no hkn
            rw [hkn] at hKV
            clear hkn
            go_wp2_with fail
            refine (hKV.out _ hb HRD.out).mono ?_
            rintro e w8 ⟨rfl, hb8⟩
            have cZ8 : ∀ i, w8.cell? ⟨w.heap.size, i, none⟩ = #[Value.string ⟨#[]⟩, .string ⟨#[]⟩, .slice none 0 0][i]? := fun i => (below_at hb8 hlz).trans (cZ i)
            have fZ8 : ∀ i, w8.frozen? ⟨w.heap.size, i, none⟩ = false := fun i => (below_fz hb8 hlz).trans (fZ i)
            clear cZ fZ
            go_wp2
            refine bodyPost_ret (v := .tuple #[.agg #[.string ⟨#[]⟩, .string ⟨#[]⟩, .slice none 0 0], .bool false]) (by simp [results, Tryz.results96, go_sem, cZ8]) rfl (pkRet_none HN.out ?_)
            exact ((((hBZ.trans (hb8.mono (Nat.le_of_lt hlz))).setCell (by simp) _).setCell (by simp) _).setCell (by simp) _)
          · have HN : Hid (parseK s.data.toList = some ⟨(mainK h).1, (mainK h).2, acc⟩) := by show _ = _; rw [HKK.out]; exact okK_yes hkn
            rw [hkn] at hKV
            clear hkn
            go_wp2_with fail
            refine (hKV.out _ hb HRD.out).mono ?_
            rintro e w8 ⟨rfl, hb8⟩
            have cZ8 : ∀ i, w8.cell? ⟨w.heap.size, i, none⟩ = #[Value.string ⟨#[]⟩, .string ⟨#[]⟩, .slice none 0 0][i]? := fun i => (below_at hb8 hlz).trans (cZ i)
            have fZ8 : ∀ i, w8.frozen? ⟨w.heap.size, i, none⟩ = false := fun i => (below_fz hb8 hlz).trans (fZ i)
            have k08 := (below_at hb8 hKr).trans k0
            have k18 := (below_at hb8 hKr).trans k1
            have k28 := (below_at hb8 hKr).trans k2
            have HO8 := Lib.hid (HOWN.out.keep hb8)
            have hlz8 : w.heap.size < w8.heap.size := Nat.lt_of_lt_of_le hlz hb8.size
            clear cZ fZ k0 k1 k2
            go_wp2
            refine bodyPost_ret (v := .tuple #[.agg #[.string MM, .string SS, .slice a acc.length d], .bool true]) (by simp [results, Tryz.results96, go_sem, cZ8]) rfl (pkRet_some HN.out HMK.out.1 HMK.out.2 ?_ ?_)
            · exact OwnR.base (ownF_offG (ownF_offG (ownF_offG HO8.out (by omega) 0 _) (by omega) 1 _) (by omega) 2 _) (by omega)
            · exact ((((hBZ.trans (hb8.mono (Nat.le_of_lt hlz))).setCell (by simp) _).setCell (by simp) _).setCell (by simp) _)
    · have hd2 : (0 : Int) < (d1 : Int) - 1 := by omega
      clear hq0
      go_wp2_with fail
      have hbA0 := nx hb01 (nx hb14 hA4)
      generalize hWK : w4.alloc (.cells #[.string MM, .string SS, .slice none 0 0] 97) = WK at *
      have cK : ∀ i, WK.cell? ⟨w4.heap.size, i, none⟩ = #[Value.string MM, .string SS, .slice none 0 0][i]? := fun i => by
        rw [← hWK, World.cell?_alloc_at _ _ _ _ rfl]
      have fK : ∀ i, WK.frozen? ⟨w4.heap.size, i, none⟩ = false := fun i => by
        rw [← hWK, World.frozen?_alloc_at _ _ _ _ rfl]
      have hlK : w4.heap.size < WK.heap.size := by rw [← hWK]; simp
      obtain ⟨K, hK⟩ : ∃ K, K = w4.heap.size := ⟨_, rfl⟩
      rw [← hK] at cK fK hlK hl4 hA4
      have HbK : Hid (Below w1.heap.size w1 w4) := hb14
      have hblK : b < K := by rw [hK]; exact Nat.lt_of_lt_of_le hbl hb14.size
      have HCW : Hid (∀ u, Below K WK u → (∀ i, (hi : i < ps.length) → u.cell? ⟨b, off + 1 + i, none⟩ = some (.string (str ps[i]))) ∧ (∀ i, u.cell? ⟨w.heap.size, i, none⟩ = #[Value.string ⟨#[]⟩, .string ⟨#[]⟩, .slice none 0 0][i]?) ∧ (∀ i, u.frozen? ⟨w.heap.size, i, none⟩ = false) ∧ Below w.heap.size w u) := fun u hu => by
        have h4K : Below w1.heap.size w1 WK := nx hb14 (by rw [hK] at hA4; exact hA4)
        refine ⟨fun i hi => ?_, fun i => ?_, fun i => ?_, ?_⟩
        · rw [below_at hu hblK, below_at h4K hbl]; exact HC1.out i hi
        · rw [below_at hu hl4, below_at h4K hl1]; exact HZ1.out.1 i
        · rw [below_fz hu hl4, below_fz h4K hl1]; exact HZ1.out.2 i
        · exact hbA0.trans (hu.mono (Nat.le_of_lt hl4))
      rw [← hK]
      have hKw := hl4
      have HT0 : Hid (∀ u, Below K WK u → Tab u) := fun u hu => tab.below ((HCW.out u hu).2.2.2)
      clear hWK hK hb2 hb3 hb4 hb14 hA4 HC1 HZ1 hbA0 HbK hb01 hb1 hbl tab hb0 hl4
      go_loopw [35] (fun i wr => ∃ (k : Nat) (acc : List Fld) (a : Option Addr) (d : Nat), k ≤ ps.length ∧ i = .int .i64 k ∧ acc.length ≤ k ∧ readsK ps k acc ∧ (∀ x ∈ acc, SmallF 200 x) ∧ OwnF (K + 1) (.slice a acc.length d) acc wr ∧ wr.cell? ⟨K, 0, none⟩ = some (.string MM) ∧ wr.cell? ⟨K, 1, none⟩ = some (.string SS) ∧ wr.cell? ⟨K, 2, none⟩ = some (.slice a acc.length d) ∧ wr.frozen? ⟨K, 2, none⟩ = false ∧ Below K WK wr ∧ K < wr.heap.size) (fun i _ => ps.length - (intOf i).toNat)
      case atStart => exact ⟨0, [], none, 0, Nat.zero_le _, rfl, Nat.le_refl _, readsK_start ps, (fun x hx => by cases hx), OwnR.nil _ _ _ _ _, cK 0, cK 1, cK 2, fK 2, Below.refl _ _, hlK⟩
      case round =>
        obtain ⟨k, acc, a, d, hk, rfl, hal, hg, hsm, hown, k0, k1, k2, kf, hb, hKr⟩ := hrel
        have HG := Lib.hid hg
        have HSM := Lib.hid hsm
        clear hg hsm cK fK
        by_cases hlt : k < ps.length
        · have hq := (HCW.out wr hb).1 k hlt
          have htp := HPY.out _ (List.getElem_mem hlt)
          have HTP := Lib.hid htp
          have hzp : (str ps[k]).size ≤ 200 := by rw [str_size]; exact text_len htp
          have HRP : Hid (∀ u, Below K WK u → Calls Tryz.prog 133 #[.string (str ps[k])] u (ParRet ps[k] u)) := fun u hu => by
            have := readParam_any (str ps[k]) u (HT0.out u hu) (by rw [str_list]; exact HTP.out)
            rw [str_list] at this; exact this
          have HBAD := Lib.hid (readsK_bad HG.out hlt)
          have HNXT : Hid (∀ f, readP ps[k] = some f → readsK ps (k + 1) (acc ++ [f]) ∧ SmallF 200 f) := fun f hf => ⟨readsK_next HG.out hlt hf, (readP_small hf).up (text_len HTP.out)⟩
          clear htp
          generalize hPK : ps[k] = pk at *
          clear hPK
          generalize str pk = PK at *
          go_wp2_with fail
          refine (HRP.out _ hb).mono ?_
          rintro e w5 ⟨rfl, hb5⟩
          have hl5 := hb5.size
          have hB5 : Below K WK w5 := hb.trans (hb5.mono (Nat.le_of_lt hKr))
          have k05 := (below_at hb5 hKr).trans k0
          have k15 := (below_at hb5 hKr).trans k1
          have k25 := (below_at hb5 hKr).trans k2
          have kf5 := (below_fz hb5 hKr).trans kf
          have hO5 := hown.keep hb5
          have hK5 : K < w5.heap.size := Nat.lt_of_lt_of_le hKr hl5
          have HO5 := Lib.hid hO5
          clear k0 k1 k2 kf hown hO5
          cases hrp : readP pk with
          | none =>
            have HN := Lib.hid (HKN.out (HBAD.out hrp))
            have HFV : Hid (fldV (parR pk) = .agg #[.string ⟨#[]⟩, .string ⟨#[]⟩]) := by show _ = _; unfold parR; rw [hrp]; rfl
            obtain ⟨_, cZ, fZ, hBZ⟩ := HCW.out _ hB5
            have hlz : w.heap.size < w5.heap.size := Nat.lt_trans hKw hK5
            rw [HFV.out]
            show _
            clear hrp HNXT HBAD
            go_wp2
            refine bodyPost_ret (v := .tuple #[.agg #[.string ⟨#[]⟩, .string ⟨#[]⟩, .slice none 0 0], .bool false]) (by simp [results, Tryz.results96, go_sem, cZ, World.cell?_alloc_lt, hlz]) rfl (pkRet_none HN.out ?_)
            first
              | exact ((((hBZ.alloc (by simp; omega) _).setCell (by simp) _).setCell (by simp) _).setCell (by simp) _)
              | exact ((((hBZ.setCell (by simp) _).setCell (by simp) _).setCell (by simp) _).alloc (by simp; omega) _)
          | some f =>
            obtain ⟨hgn, hsf⟩ := HNXT.out f hrp
            have HGN := Lib.hid hgn
            have HSF := Lib.hid hsf
            have HFV : Hid (fldV (parR pk) = .agg #[.string (str f.name), .string (str f.val)]) := by show _ = _; unfold parR; rw [hrp]; rfl
            have hown1 := HO5.out
            unfold OwnF OwnR at hown1
            rw [HFV.out]
            clear hrp HNXT HBAD hgn hsf
            go_wp2_with (at_builtin; refine wpList_append_own _ rfl _ _ 30 rfl (K + 1) 78 i0 (.agg #[.string ⟨#[]⟩, .string ⟨#[]⟩]) 2 32 Tryz.underlying30 hi hz0 hz1 hz2 rfl (by decide) _ _ _ rfl (World.ownsRow.alloc (World.ownsRow.alloc hown1 _) _) ⟨w5.heap.size + 1, 0, none⟩ 1 1 (fldC f) rfl rfl ?c1 ?c2 ?c3 ?c4 ?c5 ?_)
            case c1 => intro u v hu; rw [add0, World.cell?_alloc_at _ _ _ _ (by simp)]; simpa [fldC] using hu
            case c2 => intro u hu; simp [fldC] at hu; rcases hu with rfl | rfl <;> rfl
            case c3 => unfold maxLen; omega
            case c4 => omega
            case c5 => simp; omega
            intro v' w7 hown' hgrow _
            have hO7 := OwnR.snoc hown'
            have hb7 : Below (K + 1) w5 w7 := (((Below.refl _ _).alloc (by omega) _).alloc (by simp; omega) _).grown hgrow (by simp; omega) (fun k hk => (World.ownsRow.lt hown1 k hk).1)
            have hB7 : Below K WK w7 := hB5.trans (hb7.mono (by omega))
            have k07 := (below_at hb7 (by omega)).trans k05
            have k17 := (below_at hb7 (by omega)).trans k15
            have k27 := (below_at hb7 (by omega)).trans k25
            have kf7 := (below_fz hb7 (by omega)).trans kf5
            have hK7 : K < w7.heap.size := Nat.lt_of_lt_of_le hK5 hb7.size
            clear hown1 hown' hgrow hb7 k05 k15 k25 kf5
            obtain ⟨ys, hys⟩ : ∃ ys, ys = acc ++ [f] := ⟨_, rfl⟩
            have hyl : ys.length ≤ k + 1 := by rw [hys]; simp; omega
            have HYS : Hid (∀ x ∈ ys, SmallF 200 x) := fun x hx => by
              rw [hys] at hx
              rcases List.mem_append.1 hx with h | h
              · exact HSM.out x h
              · rw [List.mem_singleton.1 h]; exact HSF.out
            rw [← hys] at hO7 HGN
            have HO7 := Lib.hid hO7
            obtain ⟨a', d', rfl, _, _, _⟩ := hO7.read fldC_len
            have HO8 := Lib.hid (ownF_off HO7.out 2 (.slice a' ys.length d'))
            clear hys hO7
            go_wp2
            go_roundw
            case rel => exact ⟨k + 1, ys, a', d', by omega, by go_num, hyl, HGN.out, HYS.out, HO8.out, (cell_off (by omega) _).trans k07, (cell_off (by omega) _).trans k17, cell_same k27 _, (World.frozen?_setCell _ _ _ _).trans kf7, hB7.setCell (Nat.le_refl _) _, by simpa using hK7⟩
            case measure => simp [intOf]; omega
        · have hkn : k = ps.length := by omega
          have HMP := Lib.hid (readsK_end HG.out (by omega))
          have HKK := Lib.hid (HKM.out acc HMP.out)
          have hKV : Hid (∀ u, Below K WK u → RdF u a acc.length acc → Calls Tryz.prog 134 #[.agg #[.string MM, .string SS, .slice a acc.length d]] u fun e w' => e = .returned (.bool (isKnd ⟨(mainK h).1, (mainK h).2, acc⟩)) ∧ Below u.heap.size u w') := fun u hu hr => by
            have := kindValid_any MM SS a acc.length d acc u (HT0.out u hu) (by omega) (by omega) hr (by omega) (fun x hx => (HSM.out x hx).up (by omega))
            rw [HM1.out.1, HM1.out.2] at this; exact this
          have HOWN := Lib.hid hown
          obtain ⟨a0, d0, hv0, hrd, _, _⟩ := hown.read fldC_len
          injection hv0 with e1 _ e3
          subst e1 e3
          have HRD := Lib.hid hrd
          obtain ⟨_, cZ, fZ, hBZ⟩ := HCW.out _ hb
          have hlz : w.heap.size < wr.heap.size := Nat.lt_trans hKw hKr
          have hmk : MM = str (Knd.mk (mainK h).1 (mainK h).2 acc).main ∧ SS = str (Knd.mk (mainK h).1 (mainK h).2 acc).sub := ⟨HMM.out.symm, HSS.out.symm⟩
          have HMK := Lib.hid hmk
          clear hown hrd hmk hkn
          cases hkn : isKnd ⟨(mainK h).1, (mainK h).2, acc⟩
          · have HN : Hid (parseK s.data.toList = none) := by show _ = _; rw [HKK.out]; exact okK_no hkn
            rw [hkn] at hKV
            clear hkn
            go_wp2_with fail
            refine (hKV.out _ hb HRD.out).mono ?_
            rintro e w8 ⟨rfl, hb8⟩
            have cZ8 : ∀ i, w8.cell? ⟨w.heap.size, i, none⟩ = #[Value.string ⟨#[]⟩, .string ⟨#[]⟩, .slice none 0 0][i]? := fun i => (below_at hb8 hlz).trans (cZ i)
            have fZ8 : ∀ i, w8.frozen? ⟨w.heap.size, i, none⟩ = false := fun i => (below_fz hb8 hlz).trans (fZ i)
            clear cZ fZ
            go_wp2
            refine bodyPost_ret (v := .tuple #[.agg #[.string ⟨#[]⟩, .string ⟨#[]⟩, .slice none 0 0], .bool false]) (by simp [results, Tryz.results96, go_sem, cZ8]) rfl (pkRet_none HN.out ?_)
            exact ((((hBZ.trans (hb8.mono (Nat.le_of_lt hlz))).setCell (by simp) _).setCell (by simp) _).setCell (by simp) _)
          · have HN : Hid (parseK s.data.toList = some ⟨(mainK h).1, (mainK h).2, acc⟩) := by show _ = _; rw [HKK.out]; exact okK_yes hkn
            rw [hkn] at hKV
            clear hkn
            go_wp2_with fail
            refine (hKV.out _ hb HRD.out).mono ?_
            rintro e w8 ⟨rfl, hb8⟩
            have cZ8 : ∀ i, w8.cell? ⟨w.heap.size, i, none⟩ = #[Value.string ⟨#[]⟩, .string ⟨#[]⟩, .slice none 0 0][i]? := fun i => (below_at hb8 hlz).trans (cZ i)
            have fZ8 : ∀ i, w8.frozen? ⟨w.heap.size, i, none⟩ = false := fun i => (below_fz hb8 hlz).trans (fZ i)
            have k08 := (below_at hb8 hKr).trans k0
            have k18 := (below_at hb8 hKr).trans k1
            have k28 := (below_at hb8 hKr).trans k2
            have HO8 := Lib.hid (HOWN.out.keep hb8)
            have hlz8 : w.heap.size < w8.heap.size := Nat.lt_of_lt_of_le hlz hb8.size
            clear cZ fZ k0 k1 k2
            go_wp2
            refine bodyPost_ret (v := .tuple #[.agg #[.string MM, .string SS, .slice a acc.length d], .bool true]) (by simp [results, Tryz.results96, go_sem, cZ8]) rfl (pkRet_some HN.out HMK.out.1 HMK.out.2 ?_ ?_)
            · exact OwnR.base (ownF_offG (ownF_offG (ownF_offG HO8.out (by omega) 0 _) (by omega) 1 _) (by omega) 2 _) (by omega)
            · exact ((((hBZ.trans (hb8.mono (Nat.le_of_lt hlz))).setCell (by simp) _).setCell (by simp) _).setCell (by simp) _)
end Go.Proofs.YtcdmjckkencgoaaGreatDoor
end

section
namespace Go.Proofs.YtcdmjckkencgoaaGreatDoor
open Go.RowKit

/-- What lay there is as it was; there may be more. -/
def Grow (w w' : World) : Prop := Below w.heap.size w w'
theorem Grow.refl (w : World) : Grow w w := Below.refl _ _
theorem Grow.trans {a b c : World} (h : Grow a b) (k : Grow b c) : Grow a c := nx h k

section
variable {P : Program} {ops : Array Oper} {Q : Exit → Act → World → Prop} {md : Region.Mode}

def growUpon (P : Program) (w : World) (v : Value) : Result Next → Prop
  | .ok (.value u) w' => w' = w ∧ u = v
  | .ok .skip w' => w' = w ∧ v = undef
  | .ok (.enter f args) w' => w' = w ∧ Calls P f args w (fun e w'' => e = .returned v ∧ Grow w w'')
  | _ => False
def growAt (P : Program) (o : Oper) (a : Act) (w : World) (v : Value) : Prop := growUpon P w v ((execOp a.eval o).run P w)
/-- In state a, in every world grown from w, operation o leaves v in its temporary and turns nothing. -/
def GYields (P : Program) (ops : Array Oper) (o : Oper) (v : Value) (a : Act) (w : World) : Prop :=
  (Region.wanted o (yielded ops a.tmps) = true ∧ ∀ w', Grow w w' → growAt P o a w' v) ∨ (Region.wanted o (yielded ops a.tmps) = false ∧ v = undef)
theorem GYields.grow {o : Oper} {v : Value} {a : Act} {w u : World} (h : GYields P ops o v a w) (g : Grow w u) : GYields P ops o v a u :=
  h.imp (fun ⟨h1, h2⟩ => ⟨h1, fun w' k => h2 w' (g.trans k)⟩) id
theorem GYields.of_same {o : Oper} {v : Value} {a a' : Act} {w : World} (hy : GYields P ops o v a w) (he : execOp a'.eval o = execOp a.eval o)
    (hw : Region.wanted o (yielded ops a'.tmps) = Region.wanted o (yielded ops a.tmps)) : GYields P ops o v a' w := by
  unfold GYields growAt at *
  rw [he, hw]
  exact hy
theorem GYields.wpOp {i : Nat} {o : Oper} {v : Value} {a : Act} {w : World} (hi : ops[i]? = some o) (hy : GYields P ops o v a w)
    {K : Act → World → Prop} (h : ∀ w', Grow w w' → K (a.put o.dst v) w') : wpOp P ops Q i K a w := by
  unfold Go.wpOp
  simp only [hi]
  rcases hy with ⟨hw, hv⟩ | ⟨hw, rfl⟩
  · rw [if_pos hw]
    refine .inl ?_
    have h1 := hv w (Grow.refl w)
    unfold growAt at h1
    unfold Oper.wp
    generalize (execOp a.eval o).run P w = r at *
    cases r with
    | ok n w' =>
      cases n <;> simp only [growUpon] at h1 <;> simp only [Oper.upon]
      case value u =>
        obtain ⟨e1, e2⟩ := h1
        rw [e1, e2]
        exact h _ (Grow.refl w)
      case skip =>
        obtain ⟨e1, e2⟩ := h1
        rw [e1, ← e2]
        exact h _ (Grow.refl w)
      case enter f args =>
        obtain ⟨e1, hc⟩ := h1
        rw [e1]
        exact hc.mono fun e w'' ⟨he, hw''⟩ => by subst he; exact h _ hw''
    | halt x w' => simp only [growUpon] at h1
  · rw [if_neg (by rw [hw]; exact Bool.false_ne_true)]; exact h _ (Grow.refl w)

theorem wpOp_putG {j : Nat} {oi oj : Oper} {v : Value} (hj : ops[j]? = some oj) (hap : oi.apart ops oj = true)
    (hsi : ∀ cs b, oi.op ≠ .select cs b) (hsj : ∀ cs b, oj.op ≠ .select cs b)
    (hQ : ∀ c a w, Q (.panic c) (a.put oi.dst v) w → Q (.panic c) a w) {K : Act → World → Prop} {a : Act} {w u : World}
    (hy : GYields P ops oi v a u) (h : wpOp P ops Q j K (a.put oi.dst v) w) :
    wpOp P ops Q j (fun a' w' => GYields P ops oi v a' u ∧ K (a'.put oi.dst v) w') a w := by
  obtain ⟨h1, h2, h3⟩ := Oper.apart_spec hap
  have keep : ∀ (a : Act), GYields P ops oi v a u → ∀ x, GYields P ops oi v (a.put oj.dst x) u := fun a hy x =>
    hy.of_same (execOp_put oi hsi a oj.dst x h3) (wanted_put oi a oj.dst x h3)
  have keepD : ∀ d, GYields P ops oi v { a with defers := d :: a.defers } u := fun d => hy.of_same rfl rfl
  unfold Go.wpOp at *
  simp only [hj] at *
  rw [wanted_put oj a oi.dst v h1] at h
  split
  · rename_i hw
    simp only [hw, if_true] at h
    rcases h with h | ⟨hasks, hlets⟩
    case inr => exact .inr ⟨by unfold Oper.asks at *; rw [execOp_put oj hsj a oi.dst v h1] at hasks; exact hasks, hlets⟩
    refine .inl ?_
    unfold Oper.wp at *
    rw [execOp_put oj hsj a oi.dst v h1] at h
    generalize (execOp a.eval oj).run P w = r at *
    cases r with
    | ok n w' =>
      cases n <;> simp only [Oper.upon] at h ⊢
      case value x => exact ⟨keep a hy x, by rw [← Act.put_comm a v x h2]; exact h⟩
      case skip => exact ⟨keep a hy _, by rw [← Act.put_comm a v undef h2]; exact h⟩
      case defer d =>
        refine ⟨keep _ (keepD d) _, ?_⟩
        rw [← Act.put_comm _ v undef h2, ← Act.put_defers]
        exact h
      case enter f args =>
        refine Calls.mono h fun e w'' he => ?_
        cases e with
        | returned x => exact ⟨keep a hy x, by rw [← Act.put_comm a v x h2]; exact he⟩
        | panicked c => exact hQ _ _ _ he
        | outgrown => exact he
      case row row args => exact Rows.mono h fun x w'' he => ⟨keep a hy x, by rw [← Act.put_comm a v x h2]; exact he⟩
    | halt x w' =>
      cases x <;> simp only [Oper.upon] at h ⊢
      case panic x => exact hQ _ _ _ h
  · rename_i hw
    simp only [hw] at h
    exact ⟨keep a hy _, by rw [← Act.put_comm a v undef h2]; exact h⟩

/-- Whatever order is picked from here on, in this world and in every one grown from it; each operation turns nothing old. -/
def wpAnyG (P : Program) (md : Region.Mode) (ops : Array Oper) (Q : Exit → Act → World → Prop) : Nat → Array Bool → Act → World → Prop
  | 0, listed, a, w => ∀ w', Grow w w' → Region.ready md ops listed = [] ∧ Q .normal a w'
  | fuel + 1, listed, a, w => ∀ w', Grow w w' → (Region.ready md ops listed = [] → Q .normal a w') ∧
    ∀ i ∈ Region.ready md ops listed, wpOp P ops Q i (fun a' w'' => Grow w' w'' ∧ wpAnyG P md ops Q fuel (listed.setIfInBounds i true) a' w'') a w'
theorem wpAny_of_G : ∀ (fuel : Nat) (listed : Array Bool) (a : Act) (w : World), wpAnyG P md ops Q fuel listed a w → wpAny P md ops Q fuel listed a w
  | 0, _, _, w, h => h w (Grow.refl w)
  | fuel + 1, _, _, w, h => ⟨(h w (Grow.refl w)).1, fun i hi => wpOp_mono (fun a' w' h' => wpAny_of_G fuel _ a' w' h'.2) ((h w (Grow.refl w)).2 i hi)⟩
theorem wpAnyG_grow {fuel : Nat} {listed : Array Bool} {a : Act} {w u : World} (g : Grow w u) (h : wpAnyG P md ops Q fuel listed a w) : wpAnyG P md ops Q fuel listed a u := by
  cases fuel with
  | zero => exact fun w' k => h w' (g.trans k)
  | succ fuel => exact fun w' k => h w' (g.trans k)

theorem wpAnyG_first {i : Nat} {oi : Oper} {v : Value} (hi : ops[i]? = some oi) (hsel : ∀ (j : Nat) (o : Oper) cs b, ops[j]? = some o → o.op ≠ .select cs b)
    (hQ : ∀ c a w, Q (.panic c) (a.put oi.dst v) w → Q (.panic c) a w) :
    ∀ (fuel : Nat) (listed : Array Bool) (a : Act) (w : World),
      (∀ j oj, ops[j]? = some oj → j ≠ i → listed.getD j true = false → (∀ e ∈ oj.after, Region.binds md e = true → e.on ≠ i) → oi.apart ops oj = true) →
      i ∈ Region.ready md ops listed → GYields P ops oi v a w →
      wpAnyG P md ops Q fuel (listed.setIfInBounds i true) (a.put oi.dst v) w → wpAnyG P md ops Q (fuel + 1) listed a w := by
  intro fuel
  induction fuel with
  | zero =>
    intro listed a w _ hr hy H w' g
    refine ⟨fun h => (by rw [h] at hr; cases hr), fun j hj => ?_⟩
    by_cases hji : j = i
    · subst hji; exact (hy.grow g).wpOp hi fun w'' k => ⟨k, wpAnyG_grow (g.trans k) H⟩
    · have := ready_mono hj hji
      rw [(H w (Grow.refl w)).1] at this
      cases this
  | succ fuel ih =>
    intro listed a w hfree hr hy H w' g
    refine ⟨fun h => (by rw [h] at hr; cases hr), fun j hj => ?_⟩
    by_cases hji : j = i
    · subst hji; exact (hy.grow g).wpOp hi fun w'' k => ⟨k, wpAnyG_grow (g.trans k) H⟩
    · have h1 := (H w' g).2 j (ready_mono hj hji)
      obtain ⟨hjun, oj, hoj, hall⟩ := mem_ready.1 hj
      have hnot : ∀ e ∈ oj.after, Region.binds md e = true → e.on ≠ i := fun e he hb heq => by
        have h1 := hall e he hb
        have h0 := (mem_ready.1 hr).1
        rw [heq] at h1
        rcases Nat.lt_or_ge i listed.size with h' | h'
        · simp [h'] at h0 h1; rw [h0] at h1; cases h1
        · simp [Array.getElem?_eq_none h'] at h1
      have h2 := wpOp_putG hoj (hfree j oj hoj hji hjun hnot) (fun cs b => hsel i oi cs b hi) (fun cs b => hsel j oj cs b hoj) hQ (hy.grow g) h1
      have hfree' : ∀ k ok, ops[k]? = some ok → k ≠ i → (listed.setIfInBounds j true).getD k true = false →
          (∀ e ∈ ok.after, Region.binds md e = true → e.on ≠ i) → oi.apart ops ok = true := fun k ok hk hki hun hno => by
        refine hfree k ok hk hki ?_ hno
        by_cases hjk : j = k
        · subst hjk; exact hjun
        · rw [getD_set_ne true hjk] at hun; exact hun
      refine wpOp_mono (fun a' w'' h3 => ⟨h3.2.1, ih (listed.setIfInBounds j true) a' w'' hfree' (ready_mono hr (Ne.symm hji)) (h3.1.grow h3.2.1) ?_⟩) h2
      rw [Array.setIfInBounds_comm _ _ hji]
      exact h3.2.2

/-! The moves of a walk. -/

/-- Those of a list's operations that a mask names. -/
def pickL : List Bool → List Oper → List Oper
  | true :: m, o :: l => o :: pickL m l
  | false :: m, _ :: l => pickL m l
  | _, _ => []
def maskListed : List Bool → Nat → Array Bool → Array Bool
  | true :: m, k, listed => maskListed m (k + 1) (listed.setIfInBounds k true)
  | false :: m, k, listed => maskListed m (k + 1) listed
  | [], _, listed => listed
def maskCount : List Bool → Nat
  | true :: m => maskCount m + 1
  | false :: m => maskCount m
  | [] => 0
/-- Each that the mask names may come up when its turn is there, and nobody who could come before it touches its temporaries; its slot is written once. -/
def maskOk (md : Region.Mode) (ops : Array Oper) (n : Nat) : List Bool → List Oper → Nat → Array Bool → Bool
  | true :: m, o :: l, k, listed => (Region.ready md ops listed).contains k && Region.free md ops listed k &&
      (match o.dst with | some d => decide (d < n) && (pickL m l).all (fun o' => o'.dst != some d) | none => false) && maskOk md ops n m l (k + 1) (listed.setIfInBounds k true)
  | false :: m, _ :: l, k, listed => maskOk md ops n m l (k + 1) listed
  | [], _, _, _ => true
  | _, [], _, _ => false

theorem put_size (a : Act) (x : Option Tmp) (v : Value) : (a.put x v).tmps.size = a.tmps.size := by
  cases x <;> simp [Act.put]
/-- A slot that no operation of the rest writes is at the end as it was. -/
theorem quiet_slot {C : World → Prop} {A : Act} {d : Nat} : ∀ (l : List Oper) (a : Act), (∀ o ∈ l, o.dst ≠ some d) → wpQuiet P ops C (fun a' => a' = A) l a → A.tmps[d]? = a.tmps[d]?
  | [], a, _, h => by
    have h1 : a = A := h
    rw [h1]
  | o :: l, a, hd, h => by
    have hp : ∀ v, (a.put o.dst v).tmps[d]? = a.tmps[d]? := fun v => by
      cases ho : o.dst with
      | none => rfl
      | some e =>
        have hne : e ≠ d := fun he => hd o (List.mem_cons_self ..) (by rw [ho, he])
        simp [Act.put, Array.getElem?_setIfInBounds_ne hne]
    unfold wpQuiet at h
    split at h
    · obtain ⟨v, _, h2⟩ := h
      rw [quiet_slot l _ (fun o' ho' => hd o' (List.mem_cons_of_mem _ ho')) h2, hp]
    · rw [quiet_slot l _ (fun o' ho' => hd o' (List.mem_cons_of_mem _ ho')) h, hp]

/-- Those that the mask names are taken first, in the order of the text, in ONE walk, in a world of which nothing is known but that it has grown from w. -/
theorem wpAnyG_mask {A : Act} {n : Nat} (hsel : Region.noSelect ops = true) (hQ : ∀ c a o v w, Q (.panic c) (a.put o v) w → Q (.panic c) a w) {w : World} {fuel : Nat} : ∀ (m : List Bool) (l : List Oper) (k : Nat) (listed : Array Bool) (a : Act),
    (∀ j, l[j]? = ops[k + j]?) → a.tmps.size = n → maskOk md ops n m l k listed = true →
    (∀ x : BelowT w, wpQuiet P ops (fun w' => ∃ y : BelowT x.val, w' = y.val) (fun a' => a' = A) (pickL m l) a) →
    wpAnyG P md ops Q fuel (maskListed m k listed) A w → wpAnyG P md ops Q (maskCount m + fuel) listed a w
  | [], l, k, listed, a, _, _, _, h, H => by
    have h1 : a = A := by have := h ⟨w, Below.refl _ _⟩; rw [pickL] at this; exact this; all_goals simp
    rw [h1]
    simpa [maskCount, maskListed] using H
  | false :: m, [], k, listed, a, _, _, hB, _, _ => by simp [maskOk] at hB
  | true :: m, [], k, listed, a, _, _, hB, _, _ => by simp [maskOk] at hB
  | false :: m, o :: l, k, listed, a, hl, hn, hB, h, H => by
    simp only [maskCount, maskListed, maskOk, pickL] at *
    exact wpAnyG_mask hsel hQ m l (k + 1) listed a (fun j => by have := hl (j + 1); simpa [Nat.add_assoc, Nat.add_comm 1 j] using this) hn hB h H
  | true :: m, o :: l, k, listed, a, hl, hn, hB, h, H => by
    have h0 : ops[k]? = some o := by simpa using (hl 0).symm
    simp only [maskCount, maskListed, maskOk, pickL, Bool.and_eq_true] at *
    obtain ⟨⟨⟨hr, hf⟩, hd⟩, hB'⟩ := hB
    cases ho : o.dst with
    | none => rw [ho] at hd; cases hd
    | some d =>
      rw [ho] at hd
      simp only [Bool.and_eq_true, decide_eq_true_eq, List.all_eq_true, bne_iff_ne] at hd
      have hslot : ∀ v, (a.put (some d) v).tmps[d]? = some v := fun v => by simp [Act.put, hn, hd.1]
      by_cases hw : Region.wanted o (yielded ops a.tmps) = true
      · have h' : ∀ x : BelowT w, (∀ w', (∃ y : BelowT x.val, w' = y.val) → o.quietAt P a (fun w' => ∃ y : BelowT x.val, w' = y.val) w' ((A.tmps[d]?).getD undef)) ∧
            wpQuiet P ops (fun w' => ∃ y : BelowT x.val, w' = y.val) (fun a' => a' = A) (pickL m l) (a.put (some d) ((A.tmps[d]?).getD undef)) := fun x => by
          have h1 := h x
          unfold wpQuiet at h1
          rw [if_pos hw] at h1
          obtain ⟨v, h2, h3⟩ := h1
          rw [ho] at h3
          have h4 := quiet_slot (d := d) (pickL m l) _ hd.2 h3
          rw [hslot] at h4
          rw [h4]
          exact ⟨h2, h3⟩
        have hy : GYields P ops o ((A.tmps[d]?).getD undef) a w := .inl ⟨hw, fun w' g => by
          have h1 := (h' ⟨w', g⟩).1 w' ⟨⟨w', Below.refl _ _⟩, rfl⟩
          unfold Oper.quietAt at h1
          unfold growAt
          generalize (execOp a.eval o).run P w' = r at *
          cases r with
          | ok nx w2 =>
            cases nx <;> simp only [Oper.quietUpon] at h1 <;> simp only [growUpon]
            case value u => exact h1
            case skip => exact h1
            case enter f args => exact ⟨h1.1, h1.2.mono fun e w3 ⟨he, y, hy⟩ => ⟨he, by rw [hy]; exact y.below⟩⟩
          | halt x w2 => simp only [Oper.quietUpon] at h1⟩
        rw [show maskCount m + 1 + fuel = (maskCount m + fuel) + 1 by omega]
        refine wpAnyG_first h0 (Region.noSelect_spec hsel) (fun c a w => hQ c a _ _ w) _ listed a w (Region.free_spec h0 hf) (by simpa using hr) hy ?_
        rw [ho]
        exact wpAnyG_mask hsel hQ m l (k + 1) _ _ (fun j => by have := hl (j + 1); simpa [Nat.add_assoc, Nat.add_comm 1 j] using this) (by rw [put_size]; exact hn) hB' (fun x => (h' x).2) H
      · have hwf : Region.wanted o (yielded ops a.tmps) = false := by simpa using hw
        rw [show maskCount m + 1 + fuel = (maskCount m + fuel) + 1 by omega]
        refine wpAnyG_first h0 (Region.noSelect_spec hsel) (fun c a w => hQ c a _ _ w) _ listed a w (Region.free_spec h0 hf) (by simpa using hr) (.inr ⟨hwf, rfl⟩) ?_
        refine wpAnyG_mask hsel hQ m l (k + 1) _ _ (fun j => by have := hl (j + 1); simpa [Nat.add_assoc, Nat.add_comm 1 j] using this) (by rw [put_size]; exact hn) hB' (fun x => ?_) H
        have h1 := h x
        unfold wpQuiet at h1
        rw [if_neg hw] at h1
        exact h1

/-- The mask's operations are taken first; the region is written out. -/
theorem wpAnyG_take {F fuel n : Nat} {l : List Oper} {listed : Array Bool} {a : Act} {w : World} (m : List Bool) (hF : maskCount m + fuel = F) (hsel : Region.noSelect l.toArray = true)
    (hn : a.tmps.size = n) (hB : maskOk md l.toArray n m l 0 listed = true)
    (h : ∃ A, (∀ x : BelowT w, wpQuiet P l.toArray (fun w' => ∃ y : BelowT x.val, w' = y.val) (fun a' => a' = A) (pickL m l) a) ∧ wpAnyG P md l.toArray (NoPanic Q) fuel (maskListed m 0 listed) A w) : wpAnyG P md l.toArray (NoPanic Q) F listed a w := by
  obtain ⟨A, h1, h2⟩ := h
  rw [← hF]
  exact wpAnyG_mask hsel (fun _ _ _ _ _ h => h) m l 0 listed a (fun j => by simp) hn hB h1 h2
/-- One operation alone may come up: what it does, in a world that has grown from w. -/
theorem wpAnyG_one {m fuel : Nat} {listed : Array Bool} {a : Act} {w : World} (hr : Region.ready md ops listed = [m])
    (h : ∀ w', Grow w w' → wpOp P ops Q m (fun a' w'' => Grow w' w'' ∧ wpAnyG P md ops Q fuel (listed.setIfInBounds m true) a' w'') a w') : wpAnyG P md ops Q (fuel + 1) listed a w :=
  fun w' g => ⟨fun h0 => (by rw [hr] at h0; cases h0), fun i hi => by
    rw [hr] at hi
    have : i = m := by simpa using hi
    subst this
    exact h w' g⟩
theorem wpOp_at {m : Nat} {o : Oper} {K : Act → World → Prop} {a : Act} {w : World} (hm : ops[m]? = some o) (hw : Region.wanted o (yielded ops a.tmps) = true) (h : o.wp P a w K Q) : wpOp P ops Q m K a w := by
  unfold Go.wpOp
  simp only [hm]
  rw [if_pos hw]
  exact .inl h
/-- All have come up. -/
theorem wpAnyG_done {listed : Array Bool} {a : Act} {w : World} (hr : Region.ready md ops listed = []) (h : ∀ x : BelowT w, Q .normal a x.val) : ∀ fuel, wpAnyG P md ops (NoPanic Q) fuel listed a w
  | 0 => fun w' g => ⟨hr, h ⟨w', g⟩⟩
  | _ + 1 => fun w' g => ⟨fun _ => h ⟨w', g⟩, by rw [hr]; simp⟩
/-- The beginning. -/
theorem wp_region_grow {id : Nat} {a : Act} {w : World} (hm : P.follows .mixedOrders = true)
    (h : wpAnyG P .any ops (NoPanic Q) ops.size (Array.replicate ops.size false) a w) : (Code.region id ops true).wp P Q a w :=
  wp_region_noPanic (wp_region_any hm (wpAny_of_G _ _ _ _ (wpAnyG_grow (show Grow w w.drew from (Below.refl _ _).drew) h)))
end
end Go.Proofs.YtcdmjckkencgoaaGreatDoor
end
