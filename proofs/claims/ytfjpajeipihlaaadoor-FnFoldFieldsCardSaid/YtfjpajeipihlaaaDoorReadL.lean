/-
  Lines of fields, read: what the program's function returns. No statement is proved here.
-/
import Derived.Test.YtfjpajeipihlaaaDoorReadF
namespace Go.Proofs.YtfjpajeipihlaaaDoor
open Go.RowKit

theorem prefix_32 (l : List UInt8) : Lib.hasPrefix l [32] = isCont l := by
  unfold Lib.hasPrefix isCont
  cases l with
  | nil => rfl
  | cons x l =>
    by_cases h : x = 32
    · subst h; simp [List.isPrefixOf]
    · have h' : ¬ (32 : UInt8) = x := fun e => h e.symm
      simp [List.isPrefixOf, h, h']
/-- What reading returns. -/
def ReadRet (xs : List (List UInt8)) (w : World) (e : Ending) (w' : World) : Prop := ∃ v, e = .returned (.tuple #[v, .bool (readFs xs).isSome]) ∧ OwnR 24 2 fldC w.heap.size v ((readFs xs).getD []) w' ∧ Below w.heap.size w w'
theorem readRet_none {xs : List (List UInt8)} {w w' : World} {v : Value} (h : readFs xs = none) (ho : OwnF w.heap.size v [] w') (hb : Below w.heap.size w w') : ReadRet xs w (.returned (.tuple #[v, .bool false])) w' :=
  ⟨v, by rw [h]; rfl, by rw [h]; exact ho, hb⟩
theorem readRet_some {xs : List (List UInt8)} {w w' : World} {v : Value} {fs : List Fld} (h : readFs xs = some fs) (ho : OwnF w.heap.size v fs w') (hb : Below w.heap.size w w') : ReadRet xs w (.returned (.tuple #[v, .bool true])) w' :=
  ⟨v, by rw [h]; rfl, by rw [h]; exact ho, hb⟩
set_option maxRecDepth 100000 in
set_option maxHeartbeats 4000000 in
theorem readFields_any (a : Option Addr) (n c : Nat) (xs : List (List UInt8)) (w : World) (hr : RdL w a n xs) (hnc : n ≤ c) (hc : c ≤ maxLen) (hn : n ≤ 1073741824) (ht : xs.flatten.length ≤ 1073741000) :
    Calls Tryd.prog 16 #[.slice a n c] w (ReadRet xs w) := by
  unfold maxLen at hc
  obtain ⟨i0, hi, hz0, hz1, hz2⟩ := info_parts fInfo
  have HLEN := Lib.hid hr.1
  have HR := Lib.hid hr
  have HLL : Hid (∀ k e, (str (lineAt xs k e)).size ≤ 1073741000) := fun k e => by rw [str_size]; have := lineAt_len xs k e; omega
  clear hr
  go_enter Tryd.func16, Tryd.ntmps16
  go_wp2_with fail
  go_loopw [4, 5] (fun v i wr => ∃ (k : Nat) (acc : List Fld), k ≤ n ∧ i = .int .i64 k ∧ acc.length ≤ 20 ∧ readsTo xs k acc ∧ OwnF w.heap.size v acc wr ∧ Below w.heap.size w wr) (fun _ i _ => n - (intOf i).toNat)
  case atStart => exact ⟨0, [], Nat.zero_le _, rfl, by simp, readsTo_start xs, OwnR.nil _ _ _ _ _, Below.refl _ _⟩
  case round =>
    obtain ⟨k, acc, hk, rfl, hal, hrd, hown, hb⟩ := hrel
    have HRD := Lib.hid hrd
    have HOWN := Lib.hid hown
    clear hrd hown
    by_cases hlt : k < n
    · obtain ⟨b, off, rfl, hbl, hcell⟩ := HR.out.2.resolve_left (by omega)
      have HCELL : Hid (∀ i, (h : i < xs.length) → wr.cell? ⟨b, off + i, none⟩ = some (.string (str xs[i]))) := fun i h => by rw [below_at hb hbl]; exact hcell i h
      clear hcell
      go_wp2_with fail
      go_loop [6] (fun e => ∃ j : Nat, k + 1 ≤ j ∧ j ≤ n ∧ e = .int .i64 j ∧ ∀ i, k + 1 ≤ i → i < j → (h : i < xs.length) → isCont xs[i] = true) (fun e => n - (intOf e).toNat)
      case atStart => exact ⟨k + 1, Nat.le_refl _, hlt, by go_num, fun i h1 h2 => by omega⟩
      case round =>
        obtain ⟨j, hj1, hj2, rfl, hall⟩ := hrel
        have HA := Lib.hid hall
        clear hall
        by_cases hgo : ∃ h : j < xs.length, isCont xs[j] = true
        · obtain ⟨hjx, hcont⟩ := hgo
          have hjn : j < n := by have := HLEN.out; omega
          have hc1 := HCELL.out j hjx
          have HP : Hid (Lib.hasPrefix (str xs[j]).data.toList (ByteArray.mk #[32]).data.toList = true) := by show Lib.hasPrefix _ [32] = _; rw [str_list, prefix_32]; exact hcont
          have HCT := Lib.hid hcont
          generalize str xs[j] = px at *
          clear hcont
          go_wp2_with fail
          refine (Tryd.strings_HasPrefix px ⟨#[32]⟩ _).mono ?_
          rintro e w2 ⟨rfl, rfl⟩
          rw [HP.out]
          go_wp2
          go_round
          case rel => exact ⟨j + 1, by omega, by omega, by go_num, fun i h1 h2 h => by
            by_cases e : i = j
            · subst e; exact HCT.out
            · exact HA.out i h1 (by omega) h⟩
          case measure => simp [intOf]; omega
        · have HG : Hid (groupsL (xs.drop k) = lineAt xs k j :: groupsL (xs.drop j)) := group_at (by rw [HLEN.out]; exact hlt) hj1 (by rw [HLEN.out]; exact hj2) HA.out (fun h => by
            cases hq : isCont xs[j]
            · rfl
            · exact absurd ⟨h, hq⟩ hgo)
          have HSL : Hid (RdL wr (some ⟨b, off + k, none⟩) (j - k) ((xs.drop k).take (j - k))) := by
            refine ⟨?_, .inr ⟨b, off + k, rfl, Nat.lt_of_lt_of_le hbl hb.size, fun i hi => ?_⟩⟩
            · rw [List.length_take, List.length_drop, HLEN.out]; omega
            · have hi2 : i < j - k := by rw [List.length_take] at hi; omega
              rw [List.getElem_take, List.getElem_drop, Nat.add_assoc]
              exact HCELL.out (k + i) _
          have HJ : Hid (Lib.join ((xs.drop k).take (j - k)) (ByteArray.mk #[]).data.toList = lineAt xs k j) := join_none _
          have HJL : Hid ((Lib.join ((xs.drop k).take (j - k)) (ByteArray.mk #[]).data.toList).length ≤ 140737488355328) := by
            show _ ≤ _; rw [HJ.out]; have := HLL.out k j; rw [str_size] at this; omega
          have HRF : Hid (∀ u : World, Calls Tryd.prog 43 #[.string (str (lineAt xs k j))] u (OneRet (lineAt xs k j) u)) := fun u => by
            have := readField_any (str (lineAt xs k j)) u (HLL.out k j); rw [str_list] at this; exact this
          have hkj : k ≤ j := by omega
          have hjc : j ≤ c := by omega
          have hjk : j - k ≤ 140737488355328 := by omega
          have hcj : j - k ≤ c - k := by omega
          by_cases hjn : j < n
          all_goals
            first
              | (have hjx : j < xs.length := by rw [HLEN.out]; exact hjn
                 have hc1 := HCELL.out j hjx
                 have HP : Hid (Lib.hasPrefix (str xs[j]).data.toList (ByteArray.mk #[32]).data.toList = false) := by
                   show Lib.hasPrefix _ [32] = _
                   rw [str_list, prefix_32]
                   cases hq : isCont xs[j]
                   · rfl
                   · exact absurd ⟨hjx, hq⟩ hgo
                 generalize str xs[j] = px at *
                 clear hjx hgo
                 go_wp2_with fail
                 refine (Tryd.strings_HasPrefix px ⟨#[32]⟩ _).mono ?_
                 rintro e w2 ⟨rfl, rfl⟩
                 rw [HP.out]
                 clear HP hc1)
              | clear hgo
            go_wp2_with fail
            refine (join_any _ _ _ _ ⟨#[]⟩ _ HSL.out hcj hjk HJL.out).mono ?_
            rintro e w2 ⟨rfl, hb2⟩
            rw [HJ.out]
            go_wp2_with fail
            refine (HRF.out _).mono ?_
            rintro e w3 ⟨g, rfl, hg, hb3⟩
            have hXV : fldV g = .agg #[.string (str g.name), .string (str g.val)] := rfl
            rw [hXV]
            clear hXV
            have hb03 := nx hb (nx hb2 hb3)
            have hown3 := HOWN.out.keep (nx hb2 hb3)
            unfold OwnF OwnR at hown3
            have hbs := hb03.size
            cases ho : oneF (lineAt xs k j) with
            | none =>
              have HN := Lib.hid (readsTo_bad HRD.out HG.out ho)
              clear ho hg
              go_wp2
              go_ret2
              exact readRet_none HN.out (OwnR.nil _ _ _ _ _) (hb03.alloc hbs _)
            | some f =>
              have hgf := hg f ho
              subst hgf
              by_cases h20 : acc.length = 20
              · have HN := Lib.hid (readsTo_long HRD.out HG.out ho h20)
                obtain ⟨a5, c5, hv5, _, _, _⟩ := HOWN.out.read fldC_len
                subst hv5
                have e20 : ((acc.length : Int) == 20) = true := by rw [h20]; rfl
                clear ho hg h20
                go_wp2
                go_ret2
                exact readRet_none HN.out (OwnR.nil _ _ _ _ _) (hb03.alloc hbs _)
              · have HN := Lib.hid (readsTo_next HRD.out HG.out ho)
                obtain ⟨a5, c5, hv5, _, _, _⟩ := HOWN.out.read fldC_len
                subst hv5
                have e20 : ((acc.length : Int) == 20) = false := by rw [beq_eq_false_iff_ne]; omega
                have hlt20 : acc.length < 20 := by omega
                clear ho hg h20
                go_wp2_with (at_builtin; refine wpList_append_own _ rfl _ _ 30 rfl w.heap.size 24 i0 (.agg #[.string ⟨#[]⟩, .string ⟨#[]⟩]) 2 32 Tryd.underlying30 hi hz0 hz1 hz2 rfl (by decide) _ _ _ rfl (World.ownsRow.alloc (World.ownsRow.alloc hown3 _) _) ⟨w3.heap.size + 1, 0, none⟩ 1 1 (fldC g) rfl rfl ?c1 ?c2 ?c3 ?c4 ?c5 ?_)
                case c1 => intro u v hu; rw [add0, World.cell?_alloc_at _ _ _ _ (by simp)]; simpa [fldC] using hu
                case c2 => intro u hu; simp [fldC] at hu; rcases hu with rfl | rfl <;> rfl
                case c3 => unfold maxLen; omega
                case c4 => omega
                case c5 => simp; omega
                intro v' w4 hown' hgrow _
                have hO4 := OwnR.snoc hown'
                have hb4 : Below w.heap.size w3 w4 := (((Below.refl _ _).alloc (by omega) _).alloc (by simp; omega) _).grown hgrow (by simp; omega) (fun k hk => (World.ownsRow.lt hown3 k hk).1)
                go_wp2
                go_roundw
                case rel => exact ⟨j, _, by omega, rfl, by rw [List.length_append, List.length_singleton]; omega, HN.out, hO4, hb03.trans hb4⟩
                case measure => simp [intOf]; omega
    · have HN : Hid (readFs xs = some acc) := readFs_all (readsTo_end HRD.out (by rw [HLEN.out]; omega)) hal
      go_wp2
      go_ret2
      exact readRet_some HN.out HOWN.out hb
end Go.Proofs.YtfjpajeipihlaaaDoor
