/-
  Lines of fields, read by the model: what its function returns. No statement is proved here.
-/
import Derived.Test.YtfjpajeipihlaaaDoorReadS
namespace Go.Proofs.YtfjpajeipihlaaaDoor
open Go.RowKit

theorem cont_of (l : List UInt8) : (isCont l = true ∧ ∃ h : 0 < (str l).size, (str l)[0] = 32) ∨ (isCont l = false ∧ ((str l).size = 0 ∨ ∃ h : 0 < (str l).size, (str l)[0] ≠ 32)) := by
  cases l with
  | nil => exact .inr ⟨rfl, .inl rfl⟩
  | cons x l =>
    have h : 0 < (str (x :: l)).size := by rw [str_size]; simp
    have hx : (str (x :: l))[0] = x := by rw [← getElem_list (str (x :: l)) 0 h]; simp [str]
    by_cases e : x = 32
    · subst e; exact .inl ⟨rfl, h, hx⟩
    · refine .inr ⟨?_, .inr ⟨h, by rw [hx]; exact e⟩⟩
      unfold isCont; simpa using e
theorem lineAt_one {xs : List (List UInt8)} {k : Nat} (hk : k < xs.length) : lineAt xs k (k + 1) = xs[k] := by
  unfold lineAt
  have h : (xs.drop k).take 1 = [xs[k]] := by rw [List.drop_eq_getElem_cons hk]; rfl
  rw [show k + 1 - k = 1 by omega, h]; simp
theorem lineAt_succ {xs : List (List UInt8)} {k j : Nat} (hkj : k ≤ j) (hj : j < xs.length) : lineAt xs k (j + 1) = lineAt xs k j ++ xs[j] := by
  unfold lineAt
  rw [show j + 1 - k = (j - k) + 1 by omega, List.take_succ_eq_append_getElem (by rw [List.length_drop]; omega), List.flatten_append, List.getElem_drop]
  simp [show k + (j - k) = j by omega]
theorem own_fresh {B : Nat} (w : World) (h : B ≤ w.heap.size) : OwnF B (.slice (some ⟨w.heap.size, 0, none⟩) 0 0) [] (w.alloc (.cells #[] 24)) := (OwnR.empty _ _ _ w).base h
theorem readRet_is {xs : List (List UInt8)} {fs : List Fld} {w w' : World} {e : Ending} (h : readFs xs = some fs) (hr : ReadRet xs w e w') : ∃ v, e = .returned (.tuple #[v, .bool true]) ∧ OwnF w.heap.size v fs w' ∧ Below w.heap.size w w' := by
  obtain ⟨v, h1, h2, h3⟩ := hr
  rw [h] at h1 h2
  exact ⟨v, h1, h2, h3⟩
theorem readRet_not {xs : List (List UInt8)} {w w' : World} {e : Ending} (h : readFs xs = none) (hr : ReadRet xs w e w') : ∃ v, e = .returned (.tuple #[v, .bool false]) ∧ OwnF w.heap.size v [] w' ∧ Below w.heap.size w w' := by
  obtain ⟨v, h1, h2, h3⟩ := hr
  rw [h] at h1 h2
  exact ⟨v, h1, h2, h3⟩
set_option maxRecDepth 100000 in
set_option maxHeartbeats 4000000 in
theorem readFieldsS_any (a : Option Addr) (n c : Nat) (xs : List (List UInt8)) (w : World) (hr : RdL w a n xs) (hn : n ≤ 1073741824) (ht : xs.flatten.length ≤ 1073741000) :
    Calls Tryd.prog 22 #[.slice a n c] w (ReadRet xs w) := by
  obtain ⟨i0, hi, hz0, hz1, hz2⟩ := info_parts fInfo
  have HLEN := Lib.hid hr.1
  have HR := Lib.hid hr
  have HLL : Hid (∀ k e, (str (lineAt xs k e)).size ≤ 1073741000) := fun k e => by rw [str_size]; have := lineAt_len xs k e; omega
  have hb00 : Below w.heap.size w (w.alloc (.cells #[] 24)) := (Below.refl _ _).alloc (Nat.le_refl _) _
  have HOW : Hid (OwnF w.heap.size (.slice (some ⟨w.heap.size, 0, none⟩) 0 0) [] (w.alloc (.cells #[] 24))) := own_fresh w (Nat.le_refl _)
  clear hr
  go_enter Tryd.func22, Tryd.ntmps22
  go_wp2_with fail
  go_loopw [4, 5] (fun v i wr => ∃ (k : Nat) (acc : List Fld), k ≤ n ∧ i = .int .i64 k ∧ acc.length ≤ 20 ∧ readsTo xs k acc ∧ OwnF w.heap.size v acc wr ∧ Below w.heap.size w wr) (fun _ i _ => n - (intOf i).toNat)
  case atStart => exact ⟨0, [], Nat.zero_le _, rfl, by simp, readsTo_start xs, HOW.out, hb00⟩
  case round =>
    obtain ⟨k, acc, hk, rfl, hal, hrd, hown, hb⟩ := hrel
    have HRD := Lib.hid hrd
    have HOWN := Lib.hid hown
    clear hrd hown
    by_cases hlt : k < n
    · obtain ⟨b, off, rfl, hbl, hcell⟩ := HR.out.2.resolve_left (by omega)
      have HCELL : Hid (∀ i, (h : i < xs.length) → wr.cell? ⟨b, off + i, none⟩ = some (.string (str xs[i]))) := fun i h => by rw [below_at hb hbl]; exact hcell i h
      have hkx : k < xs.length := by have := HLEN.out; omega
      have hck := HCELL.out k hkx
      have HL1 : Hid (str xs[k] = str (lineAt xs k (k + 1))) := by show _ = _; rw [lineAt_one hkx]
      clear hcell
      generalize str xs[k] = lk at *
      go_wp2_with fail
      go_loop [5, 6] (fun e l => ∃ j : Nat, k + 1 ≤ j ∧ j ≤ n ∧ e = .int .i64 j ∧ l = .string (str (lineAt xs k j)) ∧ ∀ i, k + 1 ≤ i → i < j → (h : i < xs.length) → isCont xs[i] = true) (fun e _ => n - (intOf e).toNat)
      case atStart => exact ⟨k + 1, Nat.le_refl _, hlt, by go_num, by rw [HL1.out], fun i h1 h2 => by omega⟩
      case round =>
        obtain ⟨j, hj1, hj2, rfl, rfl, hall⟩ := hrel
        have HA := Lib.hid hall
        clear hall
        have hls := HLL.out k j
        by_cases hgo : ∃ h : j < xs.length, isCont xs[j] = true
        · obtain ⟨hjx, hcont⟩ := hgo
          have hjn : j < n := by have := HLEN.out; omega
          have hc1 := HCELL.out j hjx
          have HCT := Lib.hid hcont
          have hkj : k ≤ j := by omega
          have HLS : Hid (str (lineAt xs k j) ++ str xs[j] = str (lineAt xs k (j + 1))) := by
            show _ = _
            apply bytes_ext; rw [Joins.data_append, str_list, str_list, str_list, lineAt_succ hkj hjx]
          have hls2 : (str (lineAt xs k j)).size + (str xs[j]).size ≤ 1073741000 := by
            have := HLL.out k (j + 1); rw [← HLS.out, ByteArray.size_append] at this; exact this
          rcases cont_of xs[j] with ⟨_, h0, h32⟩ | ⟨hf, _⟩
          · have e32 := beq_t h32 (n := 32) rfl
            clear h32 hcont
            generalize str xs[j] = px at *
            generalize str (lineAt xs k j) = ln at *
            have h0i : (0 : Int) < (px.size : Int) := by omega
            go_wp2
            go_round
            case rel => exact ⟨j + 1, by omega, by omega, by go_num, by rw [← HLS.out], fun i h1 h2 h => by
              by_cases e : i = j
              · subst e; exact HCT.out
              · exact HA.out i h1 (by omega) h⟩
            case measure => simp [intOf]; omega
          · exact absurd (hcont.symm.trans hf) (by simp)
        · have HG : Hid (groupsL (xs.drop k) = lineAt xs k j :: groupsL (xs.drop j)) := group_at hkx hj1 (by rw [HLEN.out]; exact hj2) HA.out (fun h => by
            cases hq : isCont xs[j]
            · rfl
            · exact absurd ⟨h, hq⟩ hgo)
          have HRF : Hid (∀ u : World, Calls Tryd.prog 52 #[.string (str (lineAt xs k j))] u (OneRet (lineAt xs k j) u)) := fun u => by
            have := l3One_any (str (lineAt xs k j)) u (HLL.out k j); rw [str_list] at this; exact this
          have hkj : k ≤ j := by omega
          have hcase : (j = n) ∨ ∃ h : j < xs.length, (str xs[j]).size = 0 ∨ ∃ h : 0 < (str xs[j]).size, (str xs[j])[0] ≠ 32 := by
            by_cases hjn : j < n
            · have hjx : j < xs.length := by rw [HLEN.out]; exact hjn
              rcases cont_of xs[j] with ⟨hq, _⟩ | ⟨_, h⟩
              · exact absurd ⟨hjx, hq⟩ hgo
              · exact .inr ⟨hjx, h⟩
            · exact .inl (by omega)
          clear hgo
          rcases hcase with hjn | ⟨hjx, h0 | ⟨h0, h32⟩⟩
          all_goals
            first
              | (have hjn' : ¬ ((j : Int) < (n : Int)) := by omega
                 clear hjn)
              | (have hjn : j < n := by have := HLEN.out; omega
                 have hc1 := HCELL.out j hjx
                 have e32 := beq_f h32 (n := 32) rfl
                 have h0i : (0 : Int) < ((str xs[j]).size : Int) := by omega
                 clear h32
                 generalize str xs[j] = px at *)
              | (have hjn : j < n := by have := HLEN.out; omega
                 have hc1 := HCELL.out j hjx
                 generalize str xs[j] = px at *
                 have h0i : ¬ ((0 : Int) < (px.size : Int)) := by omega
                 clear h0)
            go_wp2_with fail
            refine (HRF.out _).mono ?_
            rintro e w3 ⟨g, rfl, hg, hb3⟩
            have hXV : fldV g = .agg #[.string (str g.name), .string (str g.val)] := rfl
            rw [hXV]
            clear hXV
            have hb03 := nx hb hb3
            have hown3 := HOWN.out.keep hb3
            unfold OwnF OwnR at hown3
            have hbs := hb03.size
            have hbs2 : w.heap.size ≤ (w3.alloc (.cells #[.string (str g.name), .string (str g.val)] 24)).heap.size := by simp; omega
            cases ho : oneF (lineAt xs k j) with
            | none =>
              have HN := Lib.hid (readsTo_bad HRD.out HG.out ho)
              clear ho hg
              go_wp2
              go_ret2
              exact readRet_none HN.out (by simpa using own_fresh (B := w.heap.size) (w3.alloc (.cells #[.string (str g.name), .string (str g.val)] 24)) hbs2) (hb03.alloc hbs _ |>.alloc hbs2 _)
            | some f =>
              have hgf := hg f ho
              subst hgf
              by_cases h20 : acc.length = 20
              · have HN := Lib.hid (readsTo_long HRD.out HG.out ho h20)
                obtain ⟨a5, c5, hv5, _, _, _⟩ := HOWN.out.read fldC_len
                subst hv5
                have e20 : ((acc.length : Int) == 20) = true := by rw [h20]; rfl
                clear ho hg h20
                go_wp2
                go_ret2
                exact readRet_none HN.out (by simpa using own_fresh (B := w.heap.size) (w3.alloc (.cells #[.string (str g.name), .string (str g.val)] 24)) hbs2) (hb03.alloc hbs _ |>.alloc hbs2 _)
              · have HN := Lib.hid (readsTo_next HRD.out HG.out ho)
                obtain ⟨a5, c5, hv5, _, _, _⟩ := HOWN.out.read fldC_len
                subst hv5
                have e20 : ((acc.length : Int) == 20) = false := by rw [beq_eq_false_iff_ne]; omega
                have hlt20 : acc.length < 20 := by omega
                clear ho hg h20
                go_wp2_with (at_builtin; refine wpList_append_own _ rfl _ _ 30 rfl w.heap.size 24 i0 (.agg #[.string ⟨#[]⟩, .string ⟨#[]⟩]) 2 32 Tryd.underlying30 hi hz0 hz1 hz2 rfl (by decide) _ _ _ rfl (World.ownsRow.alloc (World.ownsRow.alloc hown3 _) _) ⟨w3.heap.size + 1, 0, none⟩ 1 1 (fldC g) rfl rfl ?c1 ?c2 ?c3 ?c4 ?c5 ?_)
                case c1 => intro u v hu; rw [add0, World.cell?_alloc_at _ _ _ _ (by simp)]; simpa [fldC] using hu
                case c2 => intro u hu; simp [fldC] at hu; rcases hu with rfl | rfl <;> rfl
                case c3 => unfold maxLen; omega
                case c4 => omega
                case c5 => simp; omega
                intro v' w4 hown' hgrow _
                have hO4 := OwnR.snoc hown'
                have hb4 : Below w.heap.size w3 w4 := (((Below.refl _ _).alloc (by omega) _).alloc (by simp; omega) _).grown hgrow (by simp; omega) (fun k hk => (World.ownsRow.lt hown3 k hk).1)
                go_wp2
                go_roundw
                case rel => exact ⟨j, _, by omega, rfl, by rw [List.length_append, List.length_singleton]; omega, HN.out, hO4, hb03.trans hb4⟩
                case measure => simp [intOf]; omega
    · have HN : Hid (readFs xs = some acc) := readFs_all (readsTo_end HRD.out (by rw [HLEN.out]; omega)) hal
      go_wp2
      go_ret2
      exact readRet_some HN.out HOWN.out hb
end Go.Proofs.YtfjpajeipihlaaaDoor
