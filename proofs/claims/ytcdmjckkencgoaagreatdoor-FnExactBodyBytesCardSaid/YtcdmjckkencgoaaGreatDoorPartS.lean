/-
  Parts between boundaries: what the model's functions return. No statement is proved here.
-/
import Derived.Test.YtcdmjckkencgoaaGreatDoorPart
namespace Go.Proofs.YtcdmjckkencgoaaGreatDoor
open Go.RowKit

set_option maxRecDepth 100000 in
set_option maxHeartbeats 2000000 in
theorem l7Boundary_any (s : ByteArray) (w : World) (hs : s.size ≤ 1073741824) :
    Calls Tryz.prog 86 #[.string s] w fun e w' => e = .returned (.bool (isBnd s.data.toList)) ∧ w = w' := by
  go_enter Tryz.func86, Tryz.ntmps86
  go_wp2_with fail
  go_loop [3] (fun i => ∃ k : Nat, k ≤ s.size ∧ i = .int .i64 k ∧ ∀ j, (h : j < k) → (h' : j < s.size) → alnumB s[j] = true) (fun i => s.size - (intOf i).toNat)
  case atStart => exact ⟨0, Nat.zero_le _, rfl, fun j h => by omega⟩
  case round =>
    obtain ⟨k, hk, rfl, hall⟩ := hrel
    have H := Lib.hid hall
    clear hall
    by_cases hlt : k < s.size
    · by_cases h20 : k ≤ 20
      · have d0 : decide ((k : Int) ≤ 20) = true := by simp; omega
        cases h1 : alnumB s[k]
        · have HN := Lib.hid (isBnd_bad s k hlt h1)
          have H1 := Lib.hid h1
          clear h1
          go_wp2_with fail
          refine (l1Letter_any _ _).mono ?_
          rintro e w1 ⟨rfl, rfl⟩
          rw [H1.out]
          go_wp2
          go_ret
          exact ⟨ret_bool HN.out.symm, rfl⟩
        · have H1 := Lib.hid h1
          clear h1
          go_wp2_with fail
          refine (l1Letter_any _ _).mono ?_
          rintro e w1 ⟨rfl, rfl⟩
          rw [H1.out]
          go_wp2
          go_round
          case rel => exact ⟨k + 1, by omega, by go_num, fun j h h' => by
            by_cases e : j = k
            · subst e; exact H1.out
            · exact H.out j (by omega) h'⟩
          case measure => simp [intOf]; omega
      · have d0 : decide ((k : Int) ≤ 20) = false := by simp; omega
        have HN := Lib.hid (isBnd_len s (.inr (by omega)))
        have d1 : decide ((1 : Int) ≤ (s.size : Int)) = true := by simp; omega
        have d2 : decide ((s.size : Int) ≤ 20) = false := by simp; omega
        go_wp2
        go_ret
        exact ⟨ret_bool HN.out.symm, rfl⟩
    · by_cases h0 : s.size = 0
      · have HN := Lib.hid (isBnd_len s (.inl (by omega)))
        have d1 : decide ((1 : Int) ≤ (s.size : Int)) = false := by simp; omega
        go_wp2
        go_ret
        exact ⟨ret_bool HN.out.symm, rfl⟩
      · have d1 : decide ((1 : Int) ≤ (s.size : Int)) = true := by simp; omega
        by_cases h20 : s.size ≤ 20
        · have HN := Lib.hid (isBnd_good s (by omega) h20 (fun j h' => H.out j (by omega) h'))
          have d2 : decide ((s.size : Int) ≤ 20) = true := by simp; omega
          go_wp2
          go_ret
          exact ⟨ret_bool HN.out.symm, rfl⟩
        · have HN := Lib.hid (isBnd_len s (.inr (by omega)))
          have d2 : decide ((s.size : Int) ≤ 20) = false := by simp; omega
          go_wp2
          go_ret
          exact ⟨ret_bool HN.out.symm, rfl⟩
set_option maxRecDepth 100000 in
set_option maxHeartbeats 400000 in
theorem l7Looks_any (x : List UInt8) (s : ByteArray) (w : World) (hs : s.size ≤ 1000000) :
    Calls Tryz.prog 82 #[.string (str x), .string s] w fun e w' => e = .returned (.bool (looksB s.data.toList x)) ∧ w = w' := by
  have HB := Lib.hid (beg_str s)
  have HB2 : Hid ((⟨#[45, 45]⟩ : ByteArray) ++ s ++ ⟨#[45, 45]⟩ = str (endL s.data.toList)) := by show _ = _; rw [HB.out]; exact end_str s
  have z2 : (⟨#[45, 45]⟩ : ByteArray).size = 2 := rfl
  by_cases h1 : x = begL s.data.toList
  · have e1 : ((str x).toList == ((⟨#[45, 45]⟩ : ByteArray) ++ s).toList) = true := by rw [beq_dec, decide_eq_true_iff, HB.out, h1]
    have HL : Hid (looksB s.data.toList x = true) := by show _ = _; unfold looksB; simp [h1]
    clear h1
    generalize str x = X at *
    go_enter Tryz.func82, Tryz.ntmps82
    go_wp2
    go_ret
    exact ⟨ret_bool HL.out.symm, rfl⟩
  · have e1 : ((str x).toList == ((⟨#[45, 45]⟩ : ByteArray) ++ s).toList) = false := by rw [HB.out]; exact sb_f rfl h1
    by_cases h2 : x = endL s.data.toList
    · have e2 : ((str x).toList == ((⟨#[45, 45]⟩ : ByteArray) ++ s ++ ⟨#[45, 45]⟩).toList) = true := by rw [beq_dec, decide_eq_true_iff, HB2.out, h2]
      have HL : Hid (looksB s.data.toList x = true) := by show _ = _; unfold looksB; simp [h2]
      clear h1 h2
      generalize str x = X at *
      go_enter Tryz.func82, Tryz.ntmps82
      go_wp2
      go_ret
      exact ⟨ret_bool HL.out.symm, rfl⟩
    · have e2 : ((str x).toList == ((⟨#[45, 45]⟩ : ByteArray) ++ s ++ ⟨#[45, 45]⟩).toList) = false := by rw [HB2.out]; exact sb_f rfl h2
      have HL : Hid (looksB s.data.toList x = false) := by show _ = _; unfold looksB; simp [h1, h2]
      clear h1 h2
      generalize str x = X at *
      go_enter Tryz.func82, Tryz.ntmps82
      go_wp2
      go_ret
      exact ⟨ret_bool HL.out.symm, rfl⟩
theorem partsRet_noneE {o : Option (List (List (List UInt8)))} {w w' : World} (h : o = none) (hb : Below w.heap.size w w') : PartsRet o w (.returned (.tuple #[.slice (some ⟨w'.heap.size, 0, none⟩) 0 0, .bool false])) (w'.alloc (.cells #[] 23)) := by
  subst h; exact ⟨_, [], rfl, (OwnSS.empty w').base hb.size, hb.alloc hb.size _⟩
def openP (op : Bool) (qs : List (List (List UInt8))) (cur : List (List UInt8)) : List (List (List UInt8)) := if op then qs ++ [cur] else []
set_option maxRecDepth 100000 in
set_option maxHeartbeats 8000000 in
theorem l7RawSplitParts_any (a : Option Addr) (n c : Nat) (xs : List (List UInt8)) (s : ByteArray) (w : World) (hr : RdL w a n xs) (hn : n ≤ 1048576) (hs : s.size ≤ 1073741824) :
    Calls Tryz.prog 126 #[.slice a n c, .string s] w (PartsRet (splitP xs s.data.toList) w) := by
  obtain ⟨hl, hr2⟩ := hr
  have HLEN := Lib.hid hl
  have HR := Lib.hid hr2
  clear hl hr2
  have hbA : Below w.heap.size w (w.alloc (.cells #[] 23)) := (Below.refl _ _).alloc (Nat.le_refl _) _
  have hbA2 : Below w.heap.size w ((w.alloc (.cells #[] 23)).alloc (.cells #[] 9)) := hbA.alloc hbA.size _
  cases hv : isBnd s.data.toList
  · have HP := Lib.hid (splitP_no (ls := xs) hv)
    have HL : Hid (∀ u, Calls Tryz.prog 86 #[.string s] u fun e w' => e = .returned (.bool false) ∧ u = w') := fun u => by have := l7Boundary_any s u hs; rw [hv] at this; exact this
    clear hv
    go_enter Tryz.func126, Tryz.ntmps126
    go_wp2_with fail
    go_loopw [6, 7, 8, 9] (fun _ _ _ i wr => i = .int .i64 0 ∧ Below w.heap.size w wr) (fun _ _ _ _ _ => 0)
    case atStart => exact ⟨rfl, hbA2⟩
    case round =>
      obtain ⟨rfl, hb⟩ := hrel
      by_cases h0 : n = 0
      · subst h0
        go_wp2
        go_ret2
        exact partsRet_noneE HP.out hb
      · have h1 : (0 : Int) < (n : Int) := by omega
        go_wp2_with fail
        refine (HL.out _).mono ?_
        rintro e w1 ⟨rfl, rfl⟩
        go_wp2
        go_ret2
        exact partsRet_noneE HP.out hb
  · have HP := Lib.hid (splitP_yes (ls := xs) hv)
    have hz := bnd_size hv
    have HL : Hid (∀ u, Calls Tryz.prog 86 #[.string s] u fun e w' => e = .returned (.bool true) ∧ u = w') := fun u => by have := l7Boundary_any s u hs; rw [hv] at this; exact this
    have HB := Lib.hid (beg_str s)
    have HB2 : Hid ((⟨#[45, 45]⟩ : ByteArray) ++ s ++ ⟨#[45, 45]⟩ = str (endL s.data.toList)) := by show _ = _; rw [HB.out]; exact end_str s
    have z2 : (⟨#[45, 45]⟩ : ByteArray).size = 2 := rfl
    have HST : Hid (SplitSt w.heap.size (.slice (some ⟨w.heap.size, 0, none⟩) 0 0) (.slice (some ⟨w.heap.size + 1, 0, none⟩) 0 0) [] [] [] ((w.alloc (.cells #[] 23)).alloc (.cells #[] 9))) := by
      show SplitSt _ _ _ _ _ _ _
      have := SplitSt.fresh (OwnSS.empty w) hbA.size
      simpa using this
    clear hv
    go_enter Tryz.func126, Tryz.ntmps126
    go_wp2_with fail
    go_loopw [6, 7, 8, 9] (fun v u o i wr => ∃ (k : Nat) (us : List Value) (qs : List (List (List UInt8))) (cur : List (List UInt8)) (op : Bool), k ≤ n ∧ i = .int .i64 k ∧ o = .bool op ∧ qs.length ≤ k ∧ cur.length ≤ k ∧ goesP s.data.toList xs k (openP op qs cur) ∧ (op = false → qs = [] ∧ us = []) ∧ SplitSt w.heap.size v u us qs cur wr ∧ Below w.heap.size w wr) (fun _ _ _ i _ => n - (intOf i).toNat)
    case atStart => exact ⟨0, [], [], [], false, Nat.zero_le _, rfl, rfl, Nat.le_refl _, Nat.le_refl _, goesP_start _ _, (fun _ => ⟨rfl, rfl⟩), HST.out, hbA2⟩
    case round =>
      obtain ⟨k, us, qs, cur, op, hk, rfl, rfl, hql, hcl, hg, hop, hst, hb⟩ := hrel
      have HG := Lib.hid hg
      have HOP := Lib.hid hop
      have HS := Lib.hid hst
      have hbs := hb.size
      clear hg hop hst
      obtain ⟨a3, c3, rfl, _, _, _, _⟩ := HS.out.out.read
      obtain ⟨a4, c4, rfl, _, _, _, _⟩ := HS.out.part.readc
      by_cases hlt : k < n
      · have hkx : k < xs.length := by rw [HLEN.out]; exact hlt
        obtain ⟨b, off, rfl, hbl, hcell⟩ := HR.out.resolve_left (by omega)
        have q0 : wr.cell? ⟨b, off + k, none⟩ = some (.string (str xs[k])) := by rw [below_at hb hbl]; exact hcell k hkx
        clear hcell
        by_cases h1 : xs[k] = begL s.data.toList
        · have HN := Lib.hid (goesP_beg HG.out hkx h1)
          have e1 : ((str xs[k]).toList == ((⟨#[45, 45]⟩ : ByteArray) ++ s).toList) = true := by rw [beq_dec, decide_eq_true_iff, HB.out, h1]
          clear h1
          generalize str xs[k] = X at *
          cases op
          · have HN2 : Hid (goesP s.data.toList xs (k + 1) (openP true [] [])) := HN.out
            obtain ⟨hq0, hu0⟩ := HOP.out rfl
            subst hq0 hu0
            have HF := Lib.hid (SplitSt.fresh HS.out.out hbs)
            go_wp2_with fail
            refine (HL.out _).mono ?_
            rintro e w1 ⟨rfl, rfl⟩
            go_wp2
            go_roundw
            case rel => exact ⟨k + 1, [], [], [], true, by omega, by go_num, rfl, Nat.zero_le _, Nat.zero_le _, HN2.out, (fun h => by cases h), HF.out, hb.alloc hbs _⟩
            case measure => simp [intOf]; omega
          · have HN2 : Hid (goesP s.data.toList xs (k + 1) (openP true (qs ++ [cur]) [])) := HN.out
            go_wp2_with fail
            refine (HL.out _).mono ?_
            rintro e w1 ⟨rfl, rfl⟩
            have HA : Hid (SplitSt w.heap.size (.slice a3 qs.length c3) (.slice a4 cur.length c4) us qs cur (wr.alloc (.cells #[.slice a4 cur.length c4] 23))) := HS.out.keep ((Below.refl _ _).alloc (Nat.le_refl _) _)
            go_wp2_with (at_builtin; refine wpList_append_SS rfl _ _ rfl w.heap.size _ (.slice a4 cur.length c4) us qs cur wr.heap.size rfl rfl ?c1 rfl HA.out.out HA.out.part HA.out.off HA.out.apart ?c2 ?c3 ?_)
            case c1 => rw [World.cell?_alloc_at _ _ _ _ rfl]; rfl
            case c2 => simp; omega
            case c3 => omega
            intro v' w3 hO3 hgr _
            have hb3 : Below w.heap.size w w3 := (hb.alloc hbs _).grown hgr (by simp; omega) (fun g hg => (HA.out.out.lt.1 g hg).1)
            have HF := Lib.hid (SplitSt.fresh hO3 hb3.size)
            go_wp2
            go_roundw
            case rel => exact ⟨k + 1, us ++ [.slice a4 cur.length c4], qs ++ [cur], [], true, by omega, by go_num, rfl, by simp; omega, Nat.zero_le _, HN2.out, (fun h => by cases h), HF.out, hb3.alloc hb3.size _⟩
            case measure => simp [intOf]; omega
        · have e1 : ((str xs[k]).toList == ((⟨#[45, 45]⟩ : ByteArray) ++ s).toList) = false := by rw [HB.out]; exact sb_f rfl h1
          cases op
          · have HN2 : Hid (goesP s.data.toList xs (k + 1) (openP false qs cur)) := goesP_skip HG.out hkx h1
            clear h1
            by_cases h2 : xs[k] = endL s.data.toList
            · have e2 : ((str xs[k]).toList == ((⟨#[45, 45]⟩ : ByteArray) ++ s ++ ⟨#[45, 45]⟩).toList) = true := by rw [beq_dec, decide_eq_true_iff, HB2.out, h2]
              clear h2
              generalize str xs[k] = X at *
              go_wp2_with fail
              refine (HL.out _).mono ?_
              rintro e w1 ⟨rfl, rfl⟩
              go_wp2
              go_roundw
              case rel => exact ⟨k + 1, us, qs, cur, false, by omega, by go_num, rfl, by omega, by omega, HN2.out, (fun _ => HOP.out (by simp)), HS.out, hb⟩
              case measure => simp [intOf]; omega
            · have e2 : ((str xs[k]).toList == ((⟨#[45, 45]⟩ : ByteArray) ++ s ++ ⟨#[45, 45]⟩).toList) = false := by rw [HB2.out]; exact sb_f rfl h2
              clear h2
              generalize str xs[k] = X at *
              go_wp2_with fail
              refine (HL.out _).mono ?_
              rintro e w1 ⟨rfl, rfl⟩
              go_wp2
              go_roundw
              case rel => exact ⟨k + 1, us, qs, cur, false, by omega, by go_num, rfl, by omega, by omega, HN2.out, (fun _ => HOP.out (by simp)), HS.out, hb⟩
              case measure => simp [intOf]; omega
          · by_cases h2 : xs[k] = endL s.data.toList
            · have HR2 : Hid (splitP xs s.data.toList = some (qs ++ [cur])) := HP.out.trans (goesP_end HG.out (by first | simp | (unfold openP; simp)) hkx h2)
              have e2 : ((str xs[k]).toList == ((⟨#[45, 45]⟩ : ByteArray) ++ s ++ ⟨#[45, 45]⟩).toList) = true := by rw [beq_dec, decide_eq_true_iff, HB2.out, h2]
              clear h1 h2
              generalize str xs[k] = X at *
              go_wp2_with fail
              refine (HL.out _).mono ?_
              rintro e w1 ⟨rfl, rfl⟩
              have HA : Hid (SplitSt w.heap.size (.slice a3 qs.length c3) (.slice a4 cur.length c4) us qs cur (wr.alloc (.cells #[.slice a4 cur.length c4] 23))) := HS.out.keep ((Below.refl _ _).alloc (Nat.le_refl _) _)
              go_wp2_with (at_builtin; refine wpList_append_SS rfl _ _ rfl w.heap.size _ (.slice a4 cur.length c4) us qs cur wr.heap.size rfl rfl ?c1 rfl HA.out.out HA.out.part HA.out.off HA.out.apart ?c2 ?c3 ?_)
              case c1 => rw [World.cell?_alloc_at _ _ _ _ rfl]; rfl
              case c2 => simp; omega
              case c3 => omega
              intro v' w3 hO3 hgr _
              have hb3 : Below w.heap.size w w3 := (hb.alloc hbs _).grown hgr (by simp; omega) (fun g hg => (HA.out.out.lt.1 g hg).1)
              go_wp2
              go_ret2
              exact partsRet_some HR2.out hO3 hb3
            · have HN2 : Hid (goesP s.data.toList xs (k + 1) (openP true qs (cur ++ [xs[k]]))) := goesP_line HG.out hkx h1 h2
              have e2 : ((str xs[k]).toList == ((⟨#[45, 45]⟩ : ByteArray) ++ s ++ ⟨#[45, 45]⟩).toList) = false := by rw [HB2.out]; exact sb_f rfl h2
              have HXE : Hid ((str xs[k]).data.toList = xs[k]) := str_list _
              clear h1 h2
              generalize str xs[k] = X at *
              go_wp2_with fail
              refine (HL.out _).mono ?_
              rintro e w1 ⟨rfl, rfl⟩
              have HA : Hid (SplitSt w.heap.size (.slice a3 qs.length c3) (.slice a4 cur.length c4) us qs cur (wr.alloc (.cells #[.string X] 9))) := HS.out.keep ((Below.refl _ _).alloc (Nat.le_refl _) _)
              go_wp2_with (at_builtin; refine wpList_append_1L rfl _ _ rfl w.heap.size _ cur X wr.heap.size rfl rfl ?c1 HA.out.part ?c2 ?c3 ?_)
              case c1 => rw [World.cell?_alloc_at _ _ _ _ rfl]; rfl
              case c2 => simp; omega
              case c3 => omega
              intro v' w3 hO3 hgr hat
              have hb3 : Below w.heap.size w w3 := (hb.alloc hbs _).grown hgr (by simp; omega) (fun g hg => (HA.out.part.lt g hg).1)
              have HM : Hid (SplitSt w.heap.size (.slice a3 qs.length c3) v' us qs (cur ++ [xs[k]]) w3) := by rw [← HXE.out]; exact HA.out.more hgr hO3 hat (by simp)
              clear hgr hat hO3
              go_wp2
              go_roundw
              case rel => exact ⟨k + 1, us, qs, cur ++ [xs[k]], true, by omega, by go_num, rfl, by omega, by simp; omega, HN2.out, (fun h => by cases h), HM.out, hb3⟩
              case measure => simp [intOf]; omega
      · have HR2 := Lib.hid (HP.out.trans (goesP_out HG.out (by rw [HLEN.out]; omega)))
        go_wp2
        go_ret2
        exact partsRet_noneE HR2.out hb
def ListsRet (ps : List (List (List UInt8))) (w : World) (e : Ending) (w' : World) : Prop := ∃ v us, e = .returned v ∧ OwnSS w.heap.size v us ps w' ∧ Below w.heap.size w w'
set_option maxRecDepth 100000 in
set_option maxHeartbeats 4000000 in
theorem ownLists_any (a : Option Addr) (n c : Nat) (ps : List (List (List UInt8))) (w : World) (hr : RdSS w a n ps) (hn : n ≤ 2000000) (hx : ∀ p ∈ ps, p.length ≤ 4000000) :
    Calls Tryz.prog 127 #[.slice a n c] w (ListsRet ps w) := by
  obtain ⟨hl, hr2⟩ := hr
  have HLEN := Lib.hid hl
  have HR := Lib.hid hr2
  have HX := Lib.hid hx
  clear hl hr2 hx
  have hbA : Below w.heap.size w (w.alloc (.cells #[] 23)) := (Below.refl _ _).alloc (Nat.le_refl _) _
  go_enter Tryz.func127, Tryz.ntmps127
  go_wp2_with fail
  go_loopw [3, 9] (fun v i wr => ∃ (k : Nat) (us : List Value), k ≤ n ∧ i = .int .i64 k ∧ OwnSS w.heap.size v us (ps.take k) wr ∧ Below w.heap.size w wr) (fun _ i _ => n - (intOf i).toNat)
  case atStart => exact ⟨0, [], Nat.zero_le _, rfl, OwnSS.empty w, hbA⟩
  case round =>
    obtain ⟨k, us, hk, rfl, ho, hb⟩ := hrel
    have HO := Lib.hid ho
    have hbs := hb.size
    clear ho
    by_cases hlt : k < n
    · have hkx : k < ps.length := by rw [HLEN.out]; exact hlt
      obtain ⟨b, off, rfl, hbl, hcell⟩ := HR.out.resolve_left (by omega)
      obtain ⟨a5, c5, q0, hd5, hac5, hnc5⟩ := hcell k hkx
      rw [← below_at hb hbl] at q0
      have HT := Lib.hid (List.take_succ_eq_append_getElem hkx)
      have hpk := HX.out _ (List.getElem_mem hkx)
      have hpl : (ps.take k).length ≤ 2000000 := by rw [List.length_take]; omega
      generalize ps.take k = qs at *
      generalize ps[k] = p at *
      have HD5 := Lib.hid hd5
      have HAC := Lib.hid hac5
      clear hd5 hac5 hcell
      obtain ⟨a3, c3, rfl, _, _, _, _⟩ := HO.out.read
      have HE : Hid (OwnL wr.heap.size (.slice (some ⟨wr.heap.size, 0, none⟩) 0 0) [] (wr.alloc (.cells #[] 9))) := OwnL.empty wr
      have hbE : Below w.heap.size w (wr.alloc (.cells #[] 9)) := hb.alloc hbs _
      go_wp2_with (at_builtin; refine wpList_append_RL rfl _ _ rfl wr.heap.size _ [] p a5 p.length c5 rfl rfl HE.out (HD5.out.below hbE) HAC.out ?d1 ?d2 ?_)
      case d1 => simp
      case d2 => simp; omega
      intro v5 w5 hO5 hgr5 hat5
      have hb5' : Below wr.heap.size wr w5 := ((Below.refl _ _).alloc (Nat.le_refl _) _).grown hgr5 (by simp) (fun g hg => (HE.out.lt g hg).1)
      have hb5 : Below w.heap.size w w5 := nx hb hb5'
      have hbs5 := hb5.size
      have HO5 := Lib.hid hO5
      obtain ⟨a6, c6, rfl, _, _, _, _⟩ := hO5.readc
      have hA5 : Below w5.heap.size w5 (w5.alloc (.cells #[.slice a6 p.length c6] 23)) := (Below.refl _ _).alloc (Nat.le_refl _) _
      have HOU : Hid (OwnL w.heap.size (.slice a6 p.length c6) p (w5.alloc (.cells #[.slice a6 p.length c6] 23))) := (HO5.out.keep hA5).base hbs
      have HOV : Hid (OwnSS w.heap.size (.slice a3 qs.length c3) us qs (w5.alloc (.cells #[.slice a6 p.length c6] 23))) := (HO.out.keep hb5').keep hA5
      clear hO5 hgr5 hat5
      go_wp2_with (at_builtin; refine wpList_append_SS rfl _ _ rfl w.heap.size _ (.slice a6 p.length c6) us qs p w5.heap.size rfl rfl ?c1 rfl HOV.out HOU.out ?c4 ?c5 ?c2 ?c3 ?_)
      case c1 => rw [World.cell?_alloc_at _ _ _ _ rfl]; rfl
      case c4 => exact fun g hg e => by have := (HO5.out.lt g hg).1; have := (HO.out.lt.1 g e).2; omega
      case c5 => exact fun i z g hz hg e => by have := (HO5.out.lt g hg).1; have := (HO.out.lt.2 i z g hz e).2; omega
      case c2 => simp; omega
      case c3 => omega
      intro v' w6 hO6 hgr6 _
      have hb6 : Below w.heap.size w w6 := (hb5.alloc hbs5 _).grown hgr6 (by simp; omega) (fun g hg => (HOV.out.lt.1 g hg).1)
      have HN : Hid (OwnSS w.heap.size v' (us ++ [.slice a6 p.length c6]) (ps.take (k + 1)) w6) := by show OwnSS _ _ _ _ _; rw [HT.out]; exact hO6
      clear hO6 hgr6
      go_wp2
      go_roundw
      case rel => exact ⟨k + 1, _, by omega, by go_num, HN.out, hb6⟩
      case measure => simp [intOf]; omega
    · have HT : Hid (ps.take k = ps) := by show _ = _; rw [List.take_of_length_le (by rw [HLEN.out]; omega)]
      go_wp2
      go_ret
      exact ⟨_, us, rfl, by have := HO.out; rw [HT.out] at this; exact this, hb⟩
theorem splitPartsS_any (a : Option Addr) (n c : Nat) (xs : List (List UInt8)) (s : ByteArray) (w : World) (hr : RdL w a n xs) (hn : n ≤ 1048576) (hs : s.size ≤ 1073741824) :
    Calls Tryz.prog 92 #[.slice a n c, .string s] w (PartsRet (splitP xs s.data.toList) w) := by
  have hps : sumP ((splitP xs s.data.toList).getD []) ≤ xs.length := by
    cases h : splitP xs s.data.toList with
    | none => exact Nat.zero_le _
    | some ps => have := splB_len _ _ _ (splitP_some h).2; show sumP ps ≤ _; omega
  have hxl := hr.1
  have HR := Lib.hid (fun u h => l7RawSplitParts_any a n c xs s u h hn hs)
  have HRD := Lib.hid hr
  generalize splitP xs s.data.toList = o at *
  have hlen := sumP_len (o.getD [])
  have HX : Hid (∀ p ∈ o.getD [], p.length ≤ 4000000) := fun p hp => by have := sumP_mem hp; omega
  clear hr
  go_enter Tryz.func92, Tryz.ntmps92
  go_wp2_with fail
  refine (HR.out _ HRD.out).mono ?_
  rintro e w1 ⟨v1, us1, rfl, ho1, hb1⟩
  obtain ⟨a1, c1, rfl, hd1, _, _, _⟩ := ho1.read
  have hl1 : (o.getD []).length ≤ 2000000 := by omega
  have HD1 := Lib.hid hd1
  clear hd1 ho1
  generalize hq : o.getD [] = qs at *
  have HQ := Lib.hid hq
  generalize hk : o.isSome = ok at *
  have HK := Lib.hid hk
  clear hq hk
  go_wp2_with fail
  refine (ownLists_any a1 _ c1 qs _ HD1.out hl1 HX.out).mono ?_
  rintro e w2 ⟨v2, us2, rfl, ho2, hb2⟩
  have HO2 := Lib.hid ho2
  obtain ⟨a2, c2, rfl, _, _, _, _⟩ := ho2.read
  clear ho2
  go_wp2
  go_ret2
  exact ⟨_, us2, by rw [HK.out]; rfl, by rw [HQ.out]; exact HO2.out.base hb1.size, nx hb1 hb2⟩
end Go.Proofs.YtcdmjckkencgoaaGreatDoor
