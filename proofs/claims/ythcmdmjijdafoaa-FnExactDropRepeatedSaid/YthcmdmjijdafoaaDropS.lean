/-
  Repeated addresses are dropped: what the model's own function returns. No statement is proved here.
-/
import Derived.Test.YthcmdmjijdafoaaSetM
import Derived.Test.YthcmdmjijdafoaaBoxA
import Derived.Deep.RegionHeld3
import Derived.Deep.QuietTactic
import Derived.BigQuiet
namespace Go.Proofs.Ythcmdmjijdafoaa
open Go.RowKit

/-- A list of the call's own is returned: the addresses xs; nothing that was there turns. -/
def DropRet (xs : List Adr) (w : World) (e : Ending) (w' : World) : Prop := ∃ v, e = .returned v ∧ OwnA w.heap.size v xs w' ∧ Below w.heap.size w w'
theorem fold_sub (y : Adr) : ∀ (al acc : List Adr), y ∈ al.foldl dropStep acc → y ∈ acc ∨ y ∈ al
  | [], acc, h => .inl h
  | x :: al, acc, h => by
    rcases fold_sub y al (dropStep acc x) h with h | h
    · unfold dropStep at h
      split at h
      · exact .inl h
      · rcases List.mem_append.1 h with h | h
        · exact .inl h
        · exact .inr (by rw [List.mem_singleton.1 h]; simp)
    · exact .inr (List.mem_cons_of_mem _ h)
theorem dropR_mem {y : Adr} {al : List Adr} (h : y ∈ dropR al) : y ∈ al := by
  rcases fold_sub y al [] h with h | h
  · simp at h
  · exact h
theorem dropR_step {xs : List Adr} {k : Nat} (h : k < xs.length) : dropR (xs.take (k + 1)) = dropStep (dropR (xs.take k)) xs[k] := by
  unfold dropR
  rw [List.take_succ_eq_append_getElem h, List.foldl_append]; rfl
theorem any_step {acc : List Adr} {x : Adr} {j : Nat} (h : j < acc.length) : (acc.take (j + 1)).any (fun b => sameB b x) = ((acc.take j).any (fun b => sameB b x) || sameB acc[j] x) := by
  rw [List.take_succ_eq_append_getElem h, List.any_append]; simp
set_option maxRecDepth 100000 in
set_option maxHeartbeats 1000000 in
theorem dropRepeatedS_any (a : Option Addr) (n c : Nat) (xs : List Adr) (w : World) (hr : RdA w a n xs) (hn : n ≤ 1048576) (hx : ∀ x ∈ xs, SmallA 1073741000 x) :
    Calls Try.prog 11 #[.slice a n c] w (DropRet (dropR xs) w) := by
  obtain ⟨i0, hi, hz0, hz1, hz2⟩ := info_parts aInfo
  have HR := Lib.hid hr
  have HX := Lib.hid hx
  have hlen := hr.1
  have HLEN := Lib.hid hlen
  clear hr hx hlen
  have hb0 : Below w.heap.size w (w.alloc (.cells #[] 29)) := (Below.refl _ _).alloc (Nat.le_refl _) _
  go_enter Try.func11, Try.ntmps11
  go_wp2_with fail
  go_loopw [3, 4] (fun v i wr => ∃ (k : Nat) (acc : List Adr), k ≤ n ∧ i = .int .i64 k ∧ acc = dropR (xs.take k) ∧ OwnA w.heap.size v acc wr ∧ Below w.heap.size w wr) (fun _ i _ => n - (intOf i).toNat)
  case atStart => exact ⟨0, [], Nat.zero_le _, rfl, rfl, OwnR.empty _ _ _ w, hb0⟩
  case round =>
    obtain ⟨k, acc, hk, rfl, hacc, hown, hb⟩ := hrel
    have HACC := Lib.hid hacc
    have hal : acc.length ≤ k := by rw [hacc]; exact Nat.le_trans (dropR_len _) (by rw [List.length_take]; omega)
    clear hacc
    by_cases hlt : k < n
    · have hkx : k < xs.length := by rw [HLEN.out]; exact hlt
      obtain ⟨b, off, rfl, hbl, hcell⟩ := HR.out.2.resolve_left (by omega)
      obtain ⟨q0, q1, q2⟩ := RdR.adr hcell hkx
      obtain ⟨_, _, z2⟩ := HX.out _ (List.getElem_mem hkx)
      rw [← str_size] at z2
      have HST := Lib.hid (dropR_step hkx)
      have HAX : Hid (adr (str xs[k].name) (str xs[k].loc) (str xs[k].dom) = xs[k]) := adr_str _
      have HXC : Hid (adrC xs[k] = [.string (str xs[k].name), .string (str xs[k].loc), .string (str xs[k].dom)]) := rfl
      have HOWN := Lib.hid hown
      obtain ⟨a2, c2, rfl, hd2, hm2, _⟩ := hown.read adrC_len
      have HRD := Lib.hid hd2
      have HQ : Hid (∀ w', Below w.heap.size w w' → w'.cell? ⟨b, off + k * 3, none⟩ = some (.string (str xs[k].name)) ∧ w'.cell? ⟨b, off + k * 3 + 1, none⟩ = some (.string (str xs[k].loc)) ∧ w'.cell? ⟨b, off + k * 3 + 2, none⟩ = some (.string (str xs[k].dom))) := fun w' h =>
        ⟨(below_at h hbl).trans q0, (below_at h hbl).trans q1, (below_at h hbl).trans q2⟩
      have hkz : (0 : Int) ≤ (k : Int) := by omega
      have hkn : (k : Int) < (n : Int) := by omega
      have HB := Lib.hid hb
      have HXS : Hid (∀ y ∈ acc, (str y.dom).size ≤ 1073741824) := by
        intro y hy
        have : y ∈ xs := by
          rw [HACC.out] at hy
          exact List.mem_of_mem_take (dropR_mem hy)
        have := (HX.out y this).2.2
        rw [str_size]; omega
      clear hcell q0 q1 q2 hown hd2 hb
      generalize xs[k] = x at *
      generalize str x.name = s0 at *
      generalize str x.loc = s1 at *
      generalize str x.dom = s2 at *
      go_wp2_with fail
      go_loopw [5, 6] (fun f j wi => ∃ (m : Nat) (fb : Bool), m ≤ acc.length ∧ j = .int .i64 m ∧ f = .bool fb ∧ fb = (acc.take m).any (fun y => sameB y x) ∧ Below wr.heap.size wr wi) (fun _ j _ => acc.length - (intOf j).toNat)
      case atStart => exact ⟨0, false, Nat.zero_le _, rfl, rfl, by simp, Below.refl _ _⟩
      case round =>
        obtain ⟨m, fb, hm, rfl, rfl, hfb, hbi⟩ := hrel
        have HFB := Lib.hid hfb
        have HBI := Lib.hid hbi
        clear hfb hbi
        by_cases hlm : m < acc.length
        · cases fb
          · obtain ⟨b2, o2, rfl, hbl2, hcell2⟩ := HRD.out.2.resolve_left (by omega)
            obtain ⟨p0, p1, p2⟩ := RdR.adr hcell2 hlm
            have zy := HXS.out _ (List.getElem_mem hlm)
            have HAY : Hid (adr (str acc[m].name) (str acc[m].loc) (str acc[m].dom) = acc[m]) := adr_str _
            have HNX := Lib.hid (any_step (x := x) hlm)
            generalize acc[m] = y at *
            generalize str y.name = t0 at *
            generalize str y.loc = t1 at *
            generalize str y.dom = t2 at *
            have HK : Hid (∀ w', Below wr.heap.size wr w' → w'.cell? ⟨b2, o2 + m * 3, none⟩ = some (.string t0) ∧ w'.cell? ⟨b2, o2 + m * 3 + 1, none⟩ = some (.string t1) ∧ w'.cell? ⟨b2, o2 + m * 3 + 2, none⟩ = some (.string t2) ∧ w'.cell? ⟨b, off + k * 3, none⟩ = some (.string s0) ∧ w'.cell? ⟨b, off + k * 3 + 1, none⟩ = some (.string s1) ∧ w'.cell? ⟨b, off + k * 3 + 2, none⟩ = some (.string s2) ∧ Below wr.heap.size wr w') := fun w' h => by
              have h2 := nx HBI.out h
              obtain ⟨g0, g1, g2⟩ := HQ.out w' (nx HB.out h2)
              exact ⟨(below_at h2 hbl2).trans p0, (below_at h2 hbl2).trans p1, (below_at h2 hbl2).trans p2, g0, g1, g2, h⟩
            have hmz : (0 : Int) ≤ (m : Int) := by omega
            have hmn : (m : Int) < (acc.length : Int) := by omega
            clear hcell2 p0 p1 p2
            go_wp2
            go_region_held3 (fun w' => w'.cell? ⟨b2, o2 + m * 3, none⟩ = some (.string t0) ∧ w'.cell? ⟨b2, o2 + m * 3 + 1, none⟩ = some (.string t1) ∧ w'.cell? ⟨b2, o2 + m * 3 + 2, none⟩ = some (.string t2) ∧ w'.cell? ⟨b, off + k * 3, none⟩ = some (.string s0) ∧ w'.cell? ⟨b, off + k * 3 + 1, none⟩ = some (.string s1) ∧ w'.cell? ⟨b, off + k * 3 + 2, none⟩ = some (.string s2) ∧ Below wr.heap.size wr w')
              (first
                | exact HK.out _ (Below.refl _ _).drew
                | exact HK.out _ hb7)
              (first
                | (go_at_call 30
                   refine (sameBoxS_any t0 t1 t2 s0 s1 s2 _ (by omega) (by omega)).mono ?_
                   rintro e w6 ⟨rfl, hb6⟩
                   rw [HAY.out, HAX.out]
                   have hb7 : Below wr.heap.size wr w6 := nx (by go_split_ands; assumption) hb6))
            all_goals
              go_wp2
              go_roundw
              case rel => exact ⟨m + 1, sameB y x, by omega, by go_num, rfl, by rw [HNX.out, ← HFB.out]; simp, nx HBI.out hb7⟩
              case measure => simp [intOf]; omega
          · have HNX := Lib.hid (any_step (x := x) hlm)
            have hmz : (0 : Int) ≤ (m : Int) := by omega
            have hmn : (m : Int) < (acc.length : Int) := by omega
            go_wp2
            go_quiet (fail)
            go_wp2
            go_roundw
            case rel => exact ⟨m + 1, true, by omega, by go_num, rfl, by rw [HNX.out, ← HFB.out]; simp, below_drewN HBI.out _⟩
            case measure => simp [intOf]; omega
        · have HANY : Hid (acc.any (fun y => sameB y x) = fb) := by
            show _ = _
            have h := HFB.out
            rw [List.take_of_length_le (by omega)] at h
            exact h.symm
          have HBW := Lib.hid (nx HB.out HBI.out)
          have HO2 := Lib.hid (HOWN.out.keep HBI.out)
          cases fb
          · have HNX : Hid (dropR (xs.take (k + 1)) = acc ++ [x]) := by
              show _ = _
              rw [HST.out, ← HACC.out]; unfold dropStep; rw [if_neg (by rw [HANY.out]; simp)]
            obtain ⟨g0, g1, g2⟩ := HQ.out wr HBW.out
            have hown2 := HO2.out
            unfold OwnA OwnR at hown2
            have hwz := HBW.out.size
            have hXC := HXC.out
            go_wp2_with (at_builtin; refine wpList_append_own _ rfl _ _ 23 rfl w.heap.size 29 i0 (.agg #[.string ⟨#[]⟩, .string ⟨#[]⟩, .string ⟨#[]⟩]) 3 48 Try.underlying23 hi hz0 hz1 hz2 rfl (by decide) _ _ _ rfl (World.ownsRow.alloc hown2 _) ⟨wr.heap.size, 0, none⟩ 1 1 (adrC x) rfl rfl ?c1 ?c2 ?c3 ?c4 ?c5 ?_)
            case c1 => intro u v hu; rw [add0, World.cell?_alloc_at _ _ _ _ (by simp)]; rw [hXC] at hu; simpa using hu
            case c2 => intro u hu; simp [adrC] at hu; rcases hu with rfl | rfl | rfl <;> rfl
            case c3 => unfold maxLen; omega
            case c4 => omega
            case c5 => simp; omega
            intro v' w3 hown' hgrow _
            have hO3 : OwnA w.heap.size v' (acc ++ [x]) w3 := OwnR.snoc (f := adrC) (x := x) (by rw [HXC.out]; exact hown')
            have hb3 : Below w.heap.size wr w3 := ((Below.refl _ _).alloc (by omega) _).grown hgrow (by simp; omega) (fun k hk => (World.ownsRow.lt hown2 k hk).1)
            go_wp2
            go_roundw
            case rel => exact ⟨k + 1, acc ++ [x], by omega, by go_num, HNX.out.symm, hO3, HBW.out.trans hb3⟩
            case measure => simp [intOf]; omega
          · have HNX : Hid (dropR (xs.take (k + 1)) = acc) := by
              show _ = _
              rw [HST.out, ← HACC.out]; unfold dropStep; rw [if_pos HANY.out]
            go_wp2
            go_roundw
            case rel => exact ⟨k + 1, acc, by omega, by go_num, HNX.out.symm, HO2.out, HBW.out⟩
            case measure => simp [intOf]; omega
    · have hkn : k = n := by omega
      subst hkn
      have HFIN : Hid (acc = dropR xs) := by show _ = _; rw [HACC.out, List.take_of_length_le (by rw [HLEN.out]; omega)]
      go_wp2
      go_ret
      exact ⟨_, rfl, by rw [← HFIN.out]; exact hown, hb⟩
end Go.Proofs.Ythcmdmjijdafoaa
