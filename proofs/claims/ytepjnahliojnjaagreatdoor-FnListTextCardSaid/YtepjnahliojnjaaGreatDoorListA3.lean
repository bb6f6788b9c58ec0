/-
  Lists of addresses, read: what the program's function returns. No statement is proved here.
-/
import Derived.Test.YtepjnahliojnjaaGreatDoorListA2
namespace Go.Proofs.YtepjnahliojnjaaGreatDoor
open Go.RowKit

theorem mapA_snoc : ∀ (ps : List (List UInt8)) (p : List UInt8), mapA (ps ++ [p]) = (mapA ps).bind fun xs => (parseA p).map fun a => xs ++ [a]
  | [], p => by
    show (match parseA p with | none => none | some a => (some []).map (a :: ·)) = _
    cases parseA p <;> rfl
  | q :: ps, p => by
    show (match parseA q with | none => none | some a => (mapA (ps ++ [p])).map (a :: ·)) = (match parseA q with | none => none | some a => (mapA ps).map (a :: ·)).bind _
    cases parseA q with
    | none => rfl
    | some a =>
      show (mapA (ps ++ [p])).map (a :: ·) = ((mapA ps).map (a :: ·)).bind _
      rw [mapA_snoc ps p]
      cases mapA ps with
      | none => rfl
      | some xs => cases parseA p <;> rfl
theorem mapA_bad : ∀ (ps qs : List (List UInt8)), mapA ps = none → mapA (ps ++ qs) = none
  | [], _, h => by cases h
  | p :: ps, qs, h => by
    unfold mapA at h
    show (match parseA p with | none => none | some a => (mapA (ps ++ qs)).map (a :: ·)) = none
    cases hp : parseA p with
    | none => rfl
    | some a =>
      rw [hp] at h
      have h : (mapA ps).map (a :: ·) = none := h
      have h2 : mapA ps = none := by cases hm : mapA ps with
        | none => rfl
        | some x => rw [hm] at h; cases h
      show (mapA (ps ++ qs)).map (a :: ·) = none
      rw [mapA_bad ps qs h2]; rfl
theorem mapA_stop {ps : List (List UInt8)} {k : Nat} (h : k < ps.length) (hp : parseA ps[k] = none) : mapA ps = none := by
  have e : ps = ps.take (k + 1) ++ ps.drop (k + 1) := (List.take_append_drop _ _).symm
  rw [e]
  refine mapA_bad _ _ ?_
  rw [List.take_succ_eq_append_getElem h, mapA_snoc, hp]
  cases mapA (ps.take k) <;> rfl
theorem mapA_next {ps : List (List UInt8)} {k : Nat} {xs : List Adr} {a : Adr} (h : k < ps.length) (hx : mapA (ps.take k) = some xs) (hp : parseA ps[k] = some a) : mapA (ps.take (k + 1)) = some (xs ++ [a]) := by
  rw [List.take_succ_eq_append_getElem h, mapA_snoc, hx, hp]; rfl
theorem spTo_all (s : ByteArray) : (spTo s 0 = s.size) ↔ trimS s.data.toList = [] := by
  rw [trimS_nil_iff]
  unfold spTo
  rw [List.drop_zero, Nat.zero_add, ← size_list, run_all, List.all_eq_true]
  constructor
  · intro h x hx; have := h x hx; unfold spB at this; simpa using this
  · intro h x hx; unfold spB; simpa using h x hx
def parseLR (l : List UInt8) : List Adr := (parseL l).getD []
/-- What reading a list leaves. -/
def ListRetA (l : List UInt8) (w : World) (e : Ending) (w' : World) : Prop := ∃ v, e = .returned (.tuple #[v, .bool (parseL l).isSome]) ∧ OwnA w.heap.size v (parseLR l) w' ∧ Below w.heap.size w w'
theorem listRetA_mk {l : List UInt8} {w w' : World} {v : Value} {b : Bool} {xs : List Adr} (h : parseL l = if b then some xs else none) (ho : OwnA w.heap.size v (if b then xs else []) w') (hb : Below w.heap.size w w') : ListRetA l w (.returned (.tuple #[v, .bool b])) w' := by
  refine ⟨v, ?_, ?_, hb⟩
  · rw [h]; cases b <;> rfl
  · unfold parseLR; rw [h]; cases b <;> exact ho
theorem parseR_some {l : List UInt8} {a : Adr} (h : parseA l = some a) : parseR l = a ∧ (parseA l).isSome = true := by unfold parseR; rw [h]; exact ⟨rfl, rfl⟩
set_option maxRecDepth 100000 in
set_option maxHeartbeats 1000000 in
theorem parseList_any (s : ByteArray) (w : World) (en : Env w) (hs : s.size ≤ 1073741824) :
    Calls Tryz.prog 7 #[.string s] w (ListRetA s.data.toList w) := by
  cases htx : isText s.data.toList
  · have HX := Lib.hid htx
    have HN : Hid (parseL s.data.toList = none) := by show _ = _; unfold parseL; rw [if_neg (by simp [htx])]
    clear htx
    go_enter Tryz.func7, Tryz.ntmps7
    go_wp2_with fail
    refine (textValid_any s _ (by unfold maxLen; omega)).mono ?_
    rintro e w1 ⟨rfl, rfl⟩
    rw [HX.out]
    go_wp2
    go_ret2
    exact listRetA_mk (b := false) (xs := []) HN.out (OwnR.nil _ _ _ _ _) (Below.refl _ _)
  · have HX := Lib.hid htx
    have hs2 : s.size ≤ 200 := by have := text_len htx; rw [size_list] at this; exact this
    have HPT : Hid (∀ p ∈ partsU 44 s.data.toList, p.length ≤ 200) := fun p hp => by
      have := (partsU_small 44 _ s.data.toList (Nat.le_refl _)).2 p hp; rw [size_list] at this; omega
    have HPN : Hid ((partsU 44 s.data.toList).length ≤ 201) := by
      show _ ≤ _
      have := (partsU_small 44 _ s.data.toList (Nat.le_refl _)).1; rw [size_list] at this; omega
    have HPL : Hid (parseL s.data.toList = if trimS s.data.toList = [] then some [] else if (partsU 44 s.data.toList).length ≤ 10 then mapA (partsU 44 s.data.toList) else none) := by show _ = _; unfold parseL; rw [if_pos htx]
    clear htx
    by_cases hsp : spTo s 0 = s.size
    · have HN : Hid (parseL s.data.toList = some []) := by show _ = _; rw [HPL.out, if_pos ((spTo_all s).1 hsp)]
      have e1 : (((spTo s 0 : Nat) : Int) == (s.size : Int)) = true := by rw [beq_iff_eq]; omega
      clear hsp
      go_enter Tryz.func7, Tryz.ntmps7
      go_wp2_with fail
      refine (textValid_any s _ (by unfold maxLen; omega)).mono ?_
      rintro e w1 ⟨rfl, rfl⟩
      rw [HX.out]
      go_wp2_with fail
      refine (skipSpaces_any s 0 _ (Nat.zero_le _) hs).mono ?_
      rintro e w1 ⟨rfl, rfl⟩
      go_wp2
      go_ret2
      exact listRetA_mk (b := true) (xs := []) HN.out (OwnR.nil _ _ _ _ _) (Below.refl _ _)
    · have HNE : Hid (¬ trimS s.data.toList = []) := fun h => hsp ((spTo_all s).2 h)
      have e1 : (((spTo s 0 : Nat) : Int) == (s.size : Int)) = false := by rw [beq_eq_false_iff_ne]; omega
      clear hsp
      obtain ⟨i0, hi, hz0, hz1, hz2⟩ := info_parts aInfo
      have HP2 : Hid (parseL s.data.toList = if (partsU 44 s.data.toList).length ≤ 10 then mapA (partsU 44 s.data.toList) else none) := by show _ = _; rw [HPL.out, if_neg HNE.out]
      generalize hPS : partsU 44 s.data.toList = ps at *
      have HPS := Lib.hid hPS
      clear hPS
      have hpn := HPN.out
      go_enter Tryz.func7, Tryz.ntmps7
      go_wp2_with fail
      refine (textValid_any s _ (by unfold maxLen; omega)).mono ?_
      rintro e w1 ⟨rfl, rfl⟩
      rw [HX.out]
      go_wp2_with fail
      refine (skipSpaces_any s 0 _ (Nat.zero_le _) hs).mono ?_
      rintro e w1 ⟨rfl, rfl⟩
      go_wp2_with fail
      refine (splitUnquoted_any s 44 _ (by decide) (by omega)).mono ?_
      rintro e w1 ⟨v, rfl, ho, hb1⟩
      rw [HPS.out] at ho
      obtain ⟨a1, c1, rfl, hr, hm⟩ := ho.read
      have HR := Lib.hid hr.2
      clear hr
      by_cases h10 : 10 < ps.length
      · have d1 : decide ((10 : Int) < ps.length) = true := by simp; omega
        have HN : Hid (parseL s.data.toList = none) := by show _ = _; rw [HP2.out, if_neg (by omega)]
        go_wp2
        go_ret2
        exact listRetA_mk (b := false) (xs := []) HN.out (OwnR.nil _ _ _ _ _) hb1
      · have d1 : decide ((10 : Int) < ps.length) = false := by simp; omega
        have HP3 : Hid (parseL s.data.toList = mapA ps) := by show _ = _; rw [HP2.out, if_pos (by omega)]
        have en1 := en.below hb1
        go_wp2_with fail
        go_loopw [5, 25] (fun v i wr => ∃ (k : Nat) (acc : List Adr), k ≤ ps.length ∧ i = .int .i64 k ∧ acc.length ≤ k ∧ mapA (ps.take k) = some acc ∧ OwnA w1.heap.size v acc wr ∧ Below w1.heap.size w1 wr) (fun _ i _ => ps.length - (intOf i).toNat)
        case atStart => exact ⟨0, [], Nat.zero_le _, rfl, Nat.le_refl _, rfl, OwnR.nil _ _ _ _ _, Below.refl _ _⟩
        case round =>
          obtain ⟨k, acc, hk, rfl, hal, hmp, hown, hb⟩ := hrel
          have HMP := Lib.hid hmp
          clear hmp
          by_cases hlt : k < ps.length
          · obtain ⟨b, off, rfl, hbl, hcell⟩ := HR.out.resolve_left (by omega)
            have hc1 : wr.cell? ⟨b, off + k, none⟩ = some (.string (str ps[k])) := by rw [below_at hb hbl]; exact hcell k hlt
            have hsz : (str ps[k]).size ≤ 200 := by rw [str_size]; exact HPT.out _ (List.getElem_mem hlt)
            have HSL := Lib.hid (str_list ps[k])
            clear hcell
            cases hp : parseA ps[k] with
            | none =>
              have HN : Hid (parseL s.data.toList = none) := by show _ = _; rw [HP3.out]; exact mapA_stop hlt hp
              have HV : Hid ((parseA (str ps[k]).data.toList).isSome = false ∧ parseR (str ps[k]).data.toList = adr0) := by
                show _ ∧ _
                rw [HSL.out]; unfold parseR; rw [hp]; exact ⟨rfl, rfl⟩
              generalize str ps[k] = px at *
              clear hp
              go_wp2_with fail
              refine (parseAddress_any px _ (en1.below hb) (by omega)).mono ?_
              rintro e w2 ⟨rfl, hb2⟩
              rw [HV.out.1, HV.out.2, adrV_zero]
              go_wp2
              go_ret2
              exact listRetA_mk (b := false) (xs := []) HN.out (OwnR.nil _ _ _ _ _) (((nx hb1 (nx hb hb2))).alloc (nx hb1 (nx hb hb2)).size _)
            | some x =>
              have HNX := Lib.hid (mapA_next hlt HMP.out hp)
              have HV : Hid ((parseA (str ps[k]).data.toList).isSome = true ∧ parseR (str ps[k]).data.toList = x) := by
                show _ ∧ _
                rw [HSL.out]; exact (parseR_some hp).symm
              generalize str ps[k] = px at *
              clear hp
              go_wp2_with fail
              refine (parseAddress_any px _ (en1.below hb) (by omega)).mono ?_
              rintro e w2 ⟨rfl, hb2⟩
              rw [HV.out.1, HV.out.2]
              have hown2 := hown.keep hb2
              have hb02 := nx hb1 (nx hb hb2)
              have hbs := hb02.size
              have hb12 := nx hb hb2
              have hbs1 := hb12.size
              have hXV : adrV x = .agg #[.string (str x.name), .string (str x.loc), .string (str x.dom)] := rfl
              rw [hXV]
              clear hXV
              go_wp2_with (at_builtin; refine wpList_append_own _ rfl _ _ 23 rfl w1.heap.size 36 i0 (.agg #[.string ⟨#[]⟩, .string ⟨#[]⟩, .string ⟨#[]⟩]) 3 48 Tryz.underlying23 hi hz0 hz1 hz2 rfl (by decide) _ _ _ rfl (World.ownsRow.alloc (World.ownsRow.alloc hown2 _) _) ⟨w2.heap.size + 1, 0, none⟩ 1 1 (adrC x) rfl rfl ?c1 ?c2 ?c3 ?c4 ?c5 ?_)
              case c1 => intro u v hu; rw [add0, World.cell?_alloc_at _ _ _ _ (by simp)]; simpa [adrC] using hu
              case c2 => intro u hu; simp [adrC] at hu; rcases hu with rfl | rfl | rfl <;> rfl
              case c3 => unfold maxLen; omega
              case c4 => omega
              case c5 => simp; omega
              intro v' w3 hown' hgrow _
              have hO3 := OwnR.snoc hown'
              have hb3 : Below w1.heap.size w2 w3 := (((Below.refl _ _).alloc (by omega) _).alloc (by simp; omega) _).grown hgrow (by simp; omega) (fun k hk => (World.ownsRow.lt hown2 k hk).1)
              go_wp2
              go_roundw
              case rel => exact ⟨k + 1, _, by omega, by go_num, by simp; omega, HNX.out, hO3, hb12.trans hb3⟩
              case measure => simp [intOf]; omega
          · have HN : Hid (parseL s.data.toList = some acc) := by show _ = _; rw [HP3.out, ← HMP.out, List.take_of_length_le (by omega)]
            go_wp2
            go_ret2
            exact listRetA_mk (b := true) (xs := acc) HN.out (hown.base hb1.size) (nx hb1 hb)
end Go.Proofs.YtepjnahliojnjaaGreatDoor
