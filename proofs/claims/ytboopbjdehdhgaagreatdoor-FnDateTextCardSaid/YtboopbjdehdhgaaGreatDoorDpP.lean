/-
  Dates read by the model: the whole text. No statement is proved here.
-/
import Derived.Test.YtboopbjdehdhgaaGreatDoorDpT
import Derived.Test.YtboopbjdehdhgaaGreatDoorDpM
import Derived.Test.YtboopbjdehdhgaaGreatDoorRdE
import Derived.Test.YtboopbjdehdhgaaGreatDoorTrimS
import Derived.Test.YtboopbjdehdhgaaGreatDoorFmtT
import Derived.Test.YtboopbjdehdhgaaGreatDoorDateS3
import Derived.Test.YtboopbjdehdhgaaGreatDoorWday
import Derived.Maps.AppendAt
namespace Go.Proofs.YtboopbjdehdhgaaGreatDoor
open Go.RowKit

theorem parseU_no {l : List UInt8} (h : isText l = false) : parseU l = none := by unfold parseU; simp [h]
theorem parseU_cut {l p r : List UInt8} (h : isText l = true) (hc : cutU 44 l = some (p, r)) : parseU l = okO (readD (nonempty (splitC 32 r))) (fun D => sameN (trimS p) (wdayT D)) := by
  unfold parseU; rw [if_pos h, hc]
theorem parseU_uncut {l : List UInt8} (h : isText l = true) (hc : cutU 44 l = none) : parseU l = okO (readD (nonempty (splitC 32 l))) (fun _ => true) := by
  unfold parseU; rw [if_pos h, hc]
theorem laid7_y {R : Nat} {y m d h mi s z : Int} {w : World} (L : Laid7 R ⟨y, m, d, h, mi, s, z⟩ w) (v : Int) : Laid7 R ⟨v, m, d, h, mi, s, z⟩ (w.setCell ⟨R, 0, none⟩ (.int .i64 v)) := by
  obtain ⟨z0, z1, z2, z3, z4, z5, z6⟩ := L
  refine ⟨?_, ?_, ?_, ?_, ?_, ?_, ?_⟩ <;> first | exact cell_same z0 _ | (rw [cell_off (by omega)]; assumption)
theorem laid7_m {R : Nat} {y m d h mi s z : Int} {w : World} (L : Laid7 R ⟨y, m, d, h, mi, s, z⟩ w) (v : Int) : Laid7 R ⟨y, v, d, h, mi, s, z⟩ (w.setCell ⟨R, 1, none⟩ (.int .i64 v)) := by
  obtain ⟨z0, z1, z2, z3, z4, z5, z6⟩ := L
  refine ⟨?_, ?_, ?_, ?_, ?_, ?_, ?_⟩ <;> first | exact cell_same z1 _ | (rw [cell_off (by omega)]; assumption)
theorem laid7_d {R : Nat} {y m d h mi s z : Int} {w : World} (L : Laid7 R ⟨y, m, d, h, mi, s, z⟩ w) (v : Int) : Laid7 R ⟨y, m, v, h, mi, s, z⟩ (w.setCell ⟨R, 2, none⟩ (.int .i64 v)) := by
  obtain ⟨z0, z1, z2, z3, z4, z5, z6⟩ := L
  refine ⟨?_, ?_, ?_, ?_, ?_, ?_, ?_⟩ <;> first | exact cell_same z2 _ | (rw [cell_off (by omega)]; assumption)
theorem laid7_h {R : Nat} {y m d h mi s z : Int} {w : World} (L : Laid7 R ⟨y, m, d, h, mi, s, z⟩ w) (v : Int) : Laid7 R ⟨y, m, d, v, mi, s, z⟩ (w.setCell ⟨R, 3, none⟩ (.int .i64 v)) := by
  obtain ⟨z0, z1, z2, z3, z4, z5, z6⟩ := L
  refine ⟨?_, ?_, ?_, ?_, ?_, ?_, ?_⟩ <;> first | exact cell_same z3 _ | (rw [cell_off (by omega)]; assumption)
theorem laid7_i {R : Nat} {y m d h mi s z : Int} {w : World} (L : Laid7 R ⟨y, m, d, h, mi, s, z⟩ w) (v : Int) : Laid7 R ⟨y, m, d, h, v, s, z⟩ (w.setCell ⟨R, 4, none⟩ (.int .i64 v)) := by
  obtain ⟨z0, z1, z2, z3, z4, z5, z6⟩ := L
  refine ⟨?_, ?_, ?_, ?_, ?_, ?_, ?_⟩ <;> first | exact cell_same z4 _ | (rw [cell_off (by omega)]; assumption)
theorem laid7_s {R : Nat} {y m d h mi s z : Int} {w : World} (L : Laid7 R ⟨y, m, d, h, mi, s, z⟩ w) (v : Int) : Laid7 R ⟨y, m, d, h, mi, v, z⟩ (w.setCell ⟨R, 5, none⟩ (.int .i64 v)) := by
  obtain ⟨z0, z1, z2, z3, z4, z5, z6⟩ := L
  refine ⟨?_, ?_, ?_, ?_, ?_, ?_, ?_⟩ <;> first | exact cell_same z5 _ | (rw [cell_off (by omega)]; assumption)
theorem laid7_z {R : Nat} {y m d h mi s z : Int} {w : World} (L : Laid7 R ⟨y, m, d, h, mi, s, z⟩ w) (v : Int) : Laid7 R ⟨y, m, d, h, mi, s, v⟩ (w.setCell ⟨R, 6, none⟩ (.int .i64 v)) := by
  obtain ⟨z0, z1, z2, z3, z4, z5, z6⟩ := L
  refine ⟨?_, ?_, ?_, ?_, ?_, ?_, ?_⟩ <;> first | exact cell_same z6 _ | (rw [cell_off (by omega)]; assumption)
def MonK (l : List UInt8) (k : Nat) (M : Int) : Prop := (M = 0 ∧ ∀ j, j < k → sameN l (moL.getD j []) = false) ∨ (∃ j : Nat, j < k ∧ j < 12 ∧ sameN l (moL.getD j []) = true ∧ M = (j : Int) + 1)
theorem monK_zero (l : List UInt8) : MonK l 0 0 := .inl ⟨rfl, fun j h => by omega⟩
theorem monK_hit {l : List UInt8} {k : Nat} (hk : k < 12) (h : sameN l (moL.getD k []) = true) : MonK l (k + 1) ((k : Int) + 1) := .inr ⟨k, by omega, hk, h, rfl⟩
theorem monK_miss {l : List UInt8} {k : Nat} {M : Int} (h : MonK l k M) (hm : sameN l (moL.getD k []) = false) : MonK l (k + 1) M := by
  rcases h with ⟨h1, h2⟩ | ⟨j, h1, h2, h3, h4⟩
  · refine .inl ⟨h1, fun j hj => ?_⟩
    by_cases e : j = k
    · rw [e]; exact hm
    · exact h2 j (by omega)
  · exact .inr ⟨j, by omega, h2, h3, h4⟩
theorem monK_end {l : List UInt8} {M : Int} (h : MonK l 12 M) : M = (monR l : Int) := by
  rcases h with ⟨h1, h2⟩ | ⟨j, h1, h2, h3, h4⟩
  · rw [h1, mon_none h2]; rfl
  · rw [h4, mon_at h2 h3]; rfl
theorem sameS_str (a : List UInt8) (b : List UInt8) : decide (lowS (str a) = lowS (str b)) = sameN a b := by
  unfold sameN
  rw [decide_eq_decide]
  unfold lowS
  rw [str_list, str_list]
  exact ⟨fun h => by rw [← str_list (low a), h, str_list], fun h => by rw [h]⟩
/-- What stands behind all that is read: the date that is made, the result, the parts. -/
structure StP (R0 Rd g : Nat) (ps : List (List UInt8)) (wo : World) (D : Dat) (w : World) : Prop where
  date : Laid7 Rd D w
  fzd : ∀ i, w.frozen? ⟨Rd, i, none⟩ = false
  res : Laid7 R0 ⟨0, 0, 0, 0, 0, 0, 0⟩ w
  fzr : ∀ i, w.frozen? ⟨R0, i, none⟩ = false
  parts : ∀ k, (hk : k < ps.length) → w.cell? ⟨g, k, none⟩ = some (.string (str ps[k]))
  below : Below wo.heap.size wo w
  lt : Rd < w.heap.size
theorem StP.next {R0 Rd g : Nat} {ps : List (List UInt8)} {wo : World} {D : Dat} {w w' : World} (h : StP R0 Rd g ps wo D w) (b : Below w.heap.size w w') (hr : R0 < w.heap.size) (hg : g < w.heap.size) : StP R0 Rd g ps wo D w' :=
  ⟨h.date.below b, fun i => (below_fz b h.lt).trans (h.fzd i), h.res.below b, fun i => (below_fz b hr).trans (h.fzr i), fun k hk => (below_at b hg).trans (h.parts k hk), nx h.below b, by have := b.size; have := h.lt; omega⟩
theorem StP.set {R0 Rd g i : Nat} {ps : List (List UInt8)} {wo : World} {D E : Dat} {w : World} {v : Value} (h : StP R0 Rd g ps wo D w) (hL : Laid7 Rd E (w.setCell ⟨Rd, i, none⟩ v)) (h0 : R0 ≠ Rd) (hg : g ≠ Rd) (hb : wo.heap.size ≤ Rd) : StP R0 Rd g ps wo E (w.setCell ⟨Rd, i, none⟩ v) := by
  refine ⟨hL, fun j => (World.frozen?_setCell _ _ _ _).trans (h.fzd j), ?_, fun j => (World.frozen?_setCell _ _ _ _).trans (h.fzr j), fun k hk => (cell_blk (fun e => hg e.symm) _).trans (h.parts k hk), h.below.setCell hb _, by have := h.lt; simpa [World.setCell] using this⟩
  obtain ⟨z0, z1, z2, z3, z4, z5, z6⟩ := h.res
  refine ⟨?_, ?_, ?_, ?_, ?_, ?_, ?_⟩ <;> (rw [cell_blk (fun e => h0 e.symm)]; assumption)
theorem own_casesP {B : Nat} {v : Value} {xs : List (List UInt8)} {w : World} (h : OwnL B v xs w) (h0 : xs ≠ []) : ∃ g cap, v = .slice (some ⟨g, 0, none⟩) xs.length cap ∧ B ≤ g ∧ g < w.heap.size ∧ ∀ k, (hk : k < xs.length) → w.cell? ⟨g, k, none⟩ = some (.string (str xs[k])) := by
  have ho := h
  unfold OwnL at ho
  rcases ho.2 with ⟨_, h0'⟩ | ⟨g, cap, cur, rfl, hBg, hg, _⟩
  · exact absurd (List.length_eq_zero_iff.1 h0') h0
  · refine ⟨g, cap, rfl, hBg, ?_, fun k hk => ?_⟩
    · rcases Nat.lt_or_ge g w.heap.size with h9 | h9
      · exact h9
      · simp [Array.getElem?_eq_none h9] at hg
    · have := ho.cells (g := g) rfl k _ (List.getElem?_eq_getElem (by simpa using hk))
      rw [add0] at this; rw [this, List.getElem_map]; rfl
theorem nonempty_len (xs : List (List UInt8)) : (nonempty xs).length ≤ xs.length := List.length_filter_le _ _
theorem nonempty_take (xs : List (List UInt8)) (k : Nat) (h : k < xs.length) : nonempty (xs.take (k + 1)) = nonempty (xs.take k) ++ (if xs[k] = [] then [] else [xs[k]]) := by
  rw [List.take_succ_eq_append_getElem h]
  unfold nonempty
  rw [List.filter_append]
  congr 1
  by_cases he : xs[k] = []
  · rw [if_pos he, he]; rfl
  · rw [if_neg he]; simp [he]
theorem blk_cell {w w' : World} {g k : Nat} (h : w'.heap[g]? = w.heap[g]?) : w'.cell? ⟨g, k, none⟩ = w.cell? ⟨g, k, none⟩ := World.cell?_of_block (w := w) (a := ⟨g, k, none⟩) h
theorem empP (l : List UInt8) : (str l).toList.isEmpty = decide (l = []) := by
  rw [ByteArray.toList_eq, str_list, Bool.eq_iff_iff, List.isEmpty_iff, decide_eq_true_iff]
theorem read5_none {a b c d e : List UInt8} (ok : Dat → Bool) (h : (num? a 1 2).isSome = false ∨ (num? c 4 4).isSome = false ∨ (clock? d).isSome = false ∨ (zone? e).isSome = false) : okO (readD [a, b, c, d, e]) ok = none := by
  rw [readD5]; unfold read5
  generalize num? a 1 2 = x at *
  generalize num? c 4 4 = y at *
  generalize clock? d = t at *
  generalize zone? e = z at *
  cases x <;> cases y <;> cases t <;> cases z <;> first | rfl | (simp at h)
set_option maxRecDepth 100000 in
set_option maxHeartbeats 16000000 in
theorem parseDateS_any (s : ByteArray) (w : World) (hs : s.size ≤ 1073741824) : Calls Tryz.prog 11 #[.string s] w (DateRet (parseD s.data.toList) w) := by
  rw [← parseU_eq]
  obtain ⟨i0, hi, hz0, hz1, hz2⟩ := info_parts sInfo
  have hb0 := laid7_below 0 0 0 0 0 0 0 24 w
  have HB0 := Lib.hid hb0
  have HTV := Lib.hid (fun u => textValidS_any s u (by unfold maxLen; omega))
  cases ht : isText s.data.toList
  · have HN := Lib.hid (parseU_no ht)
    rw [ht] at HTV
    clear ht
    go_enter Tryz.func11, Tryz.ntmps11
    go_wp2_with fail
    refine (HTV.out _).mono ?_
    rintro e w1 ⟨rfl, rfl⟩
    go_wp2
    refine bodyPost_ret (v := .tuple #[.agg #[.int .i64 0, .int .i64 0, .int .i64 0, .int .i64 0, .int .i64 0, .int .i64 0, .int .i64 0], .bool false]) (by simp [results, Tryz.results11, go_sem]) rfl (dateRet_none HN.out ?_)
    exact HB0.out
  · have hz0 := laid7_new 0 0 0 0 0 0 0 24 w
    have hzf0 : ∀ i, (w.alloc (.cells #[.int .i64 0, .int .i64 0, .int .i64 0, .int .i64 0, .int .i64 0, .int .i64 0, .int .i64 0] 24)).frozen? ⟨w.heap.size, i, none⟩ = false := fun i => World.frozen?_alloc_at _ _ _ _ rfl
    have hlt0 : w.heap.size < (w.alloc (.cells #[.int .i64 0, .int .i64 0, .int .i64 0, .int .i64 0, .int .i64 0, .int .i64 0, .int .i64 0] 24)).heap.size := by simp
    have hsz := text_len ht
    rw [ht] at HTV
    have HR1 : Hid (cutU 44 s.data.toList = none → parseU s.data.toList = okO (readD (nonempty (splitC 32 s.data.toList))) (fun _ => true)) := fun h => parseU_uncut ht h
    have HR2 : Hid (∀ p r, cutU 44 s.data.toList = some (p, r) → parseU s.data.toList = okO (readD (nonempty (splitC 32 r))) (fun D => sameN (trimS p) (wdayT D)) ∧ p.length + 1 + r.length = s.data.toList.length) := fun p r h => ⟨parseU_cut ht h, cutU_bound h⟩
    clear ht
    go_enter Tryz.func11, Tryz.ntmps11
    go_wp2_with fail
    refine (HTV.out _).mono ?_
    rintro e wx ⟨rfl, rfl⟩
    generalize (w.alloc (.cells #[.int .i64 0, .int .i64 0, .int .i64 0, .int .i64 0, .int .i64 0, .int .i64 0, .int .i64 0] 24)) = w1 at *
    have HZ : Hid (∀ u, Below w1.heap.size w1 u → Laid7 w.heap.size ⟨0, 0, 0, 0, 0, 0, 0⟩ u ∧ (∀ i, u.frozen? ⟨w.heap.size, i, none⟩ = false)) := fun u hu => ⟨hz0.below hu, fun i => (below_fz hu hlt0).trans (hzf0 i)⟩
    clear hz0 hzf0 hb0
    go_wp2_with fail
    refine (l2Cut_any s 44 w1 (by decide) (by omega)).mono ?_
    rintro e w2 ⟨hcs, hcn, q, rfl⟩
    cases hc : cutU 44 s.data.toList with
    | none =>
      obtain rfl := hcn hc
      have HPO := Lib.hid (HR1.out hc)
      clear hc hcs hcn
      go_wp2_with fail
      refine (l2Parts_any s 32 _ (by have := size_list s; omega)).mono ?_
      rintro e w4 ⟨v4, rfl, ho4, hb4⟩
      have hxl := (splitC_small 32 s.data.toList).1
      have hx2 := (splitC_small 32 s.data.toList).2
      have hlen200 : (s.data.toList).length ≤ 200 := by rw [size_list]; exact hsz
      have hne4 := splitC_ne 32 s.data.toList
      have ho0 : OwnL w1.heap.size (.slice (some ⟨w1.heap.size, 0, none⟩) 0 0) [] ((w1.drewN q).alloc (.cells #[] 9)) := OwnL.empty (w1.drewN q)
      have hbA : Below w1.heap.size w1 ((w1.drewN q).alloc (.cells #[] 9)) := (bdN (Below.refl _ _) _).alloc (Nat.le_refl _) _
      have hAs : ((w1.drewN q).alloc (.cells #[] 9)).heap.size = w1.heap.size + 1 := by simp
      rw [hAs] at ho4
      have HB4 : Hid (Below w1.heap.size w1 w4) := hbA.trans (hb4.mono (by rw [hAs]; omega))
      have ho0 := ho0.keep hb4
      have HXS : Hid (∀ x ∈ splitC 32 s.data.toList, x.length ≤ 200) := fun x hx => by have := hx2 x hx; omega
      have hxs201 : (splitC 32 s.data.toList).length ≤ 201 := by omega
      clear hxl hx2
      generalize splitC 32 s.data.toList = xs at *
      obtain ⟨g4, c4, rfl, hg4, hgl4, hc4⟩ := own_casesP ho4 hne4
      have HC4 := Lib.hid hc4
      obtain ⟨n, hn⟩ : ∃ n, xs.length = n := ⟨_, rfl⟩
      have HLEN := Lib.hid hn
      have HO0 := Lib.hid ho0
      rw [hn] at hxs201 ⊢
      have hws4 := HB4.out.size
      clear hc4 ho4 hb4 hbA hAs hn ho0 hne4
      go_wp2_with fail
      go_loopw [8, 10] (fun v i wr => ∃ (k : Nat) (acc : List (List UInt8)), k ≤ n ∧ i = .int .i64 k ∧ acc = nonempty (xs.take k) ∧ acc.length ≤ k ∧ OwnL w1.heap.size v acc wr ∧ v.ownBlock ≠ some g4 ∧ wr.heap[g4]? = w4.heap[g4]? ∧ g4 < wr.heap.size ∧ Below w1.heap.size w1 wr) (fun _ i _ => n - (intOf i).toNat)
      case atStart => exact ⟨0, [], by omega, rfl, rfl, by simp, HO0.out, by simp [Value.ownBlock]; omega, rfl, hgl4, HB4.out⟩
      case round =>
        obtain ⟨k, acc, hk, rfl, hacc, hal, hown, hob, hblk, hgl, hb⟩ := hrel
        have HACC := Lib.hid hacc
        have HB := Lib.hid hb
        have HBLK := Lib.hid hblk
        have HOB := Lib.hid hob
        have hbs := hb.size
        clear hacc hb hblk hob
        by_cases hlt : k < n
        · have hkx : k < xs.length := by rw [HLEN.out]; exact hlt
          have c0 : wr.cell? ⟨g4, k, none⟩ = some (.string (str xs[k])) := by rw [blk_cell HBLK.out]; exact HC4.out k hkx
          have hkz := str_size xs[k]
          have HNT := Lib.hid (nonempty_take xs k hkx)
          by_cases he : xs[k] = []
          · have hem : (str xs[k]).toList.isEmpty = true := by rw [empP, decide_eq_true he]
            have HN : Hid (acc = nonempty (xs.take (k + 1))) := by show _ = _; rw [HNT.out, if_pos he, List.append_nil, HACC.out]
            clear he hkz
            generalize str xs[k] = x at *
            go_wp2
            go_roundw
            case rel => exact ⟨k + 1, acc, by omega, by go_num, HN.out, by omega, hown, HOB.out, HBLK.out, hgl, HB.out⟩
            case measure => simp [intOf]; omega
          · have hem : (str xs[k]).toList.isEmpty = false := by rw [empP, decide_eq_false he]
            have HN : Hid (acc ++ [(str xs[k]).data.toList] = nonempty (xs.take (k + 1))) := by show _ = _; rw [HNT.out, if_neg he, HACC.out, str_list]
            have hown1 := hown
            unfold OwnL at hown1
            clear he hkz
            generalize str xs[k] = x at *
            go_wp2_with (at_builtin; refine wpList_append_own_at _ rfl _ _ 34 rfl w1.heap.size 9 i0 (.string ⟨#[]⟩) 1 16 Tryz.underlying34 hi hz0 hz1 hz2 rfl (by decide) _ _ _ rfl (World.ownsRow.alloc hown1 _) ⟨wr.heap.size, 0, none⟩ 1 1 [.string x] rfl rfl ?c1 ?c2 ?c3 ?c4 ?c5 ?_)
            case c1 =>
              intro u v hj
              match u, hj with
              | 0, hj => simp at hj; subst hj; simp [Addr.add]
            case c2 => intro u hu; simp at hu; subst hu; rfl
            case c3 => unfold maxLen; omega
            case c4 => omega
            case c5 => simp; omega
            intro v' w5 hown' hgrow _ hat
            have hO5 := own_snoc hown'
            have hb5 : Below w1.heap.size wr w5 := ((Below.refl _ _).alloc (by omega) _).grown hgrow (by simp; omega) (fun k hk => (World.ownsRow.lt hown1 k hk).1)
            have HBK5 : Hid (w5.heap[g4]? = w4.heap[g4]?) := by
              show _ = _
              rw [hgrow.block g4 (by simp; omega) (fun e => HOB.out e.symm), Lib.alloc_old wr _ g4 hgl]; exact HBLK.out
            have HOB5 : Hid (v'.ownBlock ≠ some g4) := by
              show _ ≠ _
              rcases hat with h | h
              · rw [h]; exact HOB.out
              · rw [h]; simp; omega
            have hs5 := hb5.size
            go_wp2
            go_roundw
            case rel => exact ⟨k + 1, _, by omega, by go_num, HN.out, by rw [List.length_append, List.length_singleton]; omega, hO5, HOB5.out, HBK5.out, by omega, HB.out.trans hb5⟩
            case measure => simp [intOf]; omega
        · have HACC : Hid (acc = nonempty xs) := by show _ = _; rw [HACC.out, List.take_of_length_le (by rw [HLEN.out]; omega)]
          rw [← HACC.out] at HPO
          by_cases h5 : acc.length = 5
          · obtain ⟨p0, p1, p2, p3, p4, rfl⟩ : ∃ a b c d e, acc = [a, b, c, d, e] := by
              match acc, h5 with
              | [a, b, c, d, e], _ => exact ⟨a, b, c, d, e, rfl⟩
            have HP200 : Hid (∀ x ∈ [p0, p1, p2, p3, p4], x.length ≤ 200) := fun x hx => by
              rw [HACC.out] at hx; unfold nonempty at hx; exact HXS.out x (List.mem_filter.1 hx).1
            obtain ⟨g8, c8, rfl, hg8, hgl8, hc8⟩ := own_casesP hown (by simp)
            rename World => wo
            have HZO := HZ.out wo HB.out
            have hR0 : w.heap.size < wo.heap.size := by omega
            have HS0 : Hid (StP w.heap.size wo.heap.size g8 [p0, p1, p2, p3, p4] wo ⟨0, 0, 0, 0, 0, 0, 0⟩ (wo.alloc (.cells #[.int .i64 0, .int .i64 0, .int .i64 0, .int .i64 0, .int .i64 0, .int .i64 0, .int .i64 0] 24))) :=
              ⟨laid7_new 0 0 0 0 0 0 0 24 wo, fun i => World.frozen?_alloc_at _ _ _ _ rfl, HZO.1.below (laid7_below 0 0 0 0 0 0 0 24 wo), fun i => (below_fz (laid7_below 0 0 0 0 0 0 0 24 wo) hR0).trans (HZO.2 i), fun k hk => (below_at (laid7_below 0 0 0 0 0 0 0 24 wo) hgl8).trans (hc8 k hk), laid7_below 0 0 0 0 0 0 0 24 wo, by simp⟩
            have c0 : wo.cell? ⟨g8, 0, none⟩ = some (.string (str p0)) := hc8 0 (by simp)
            have hlD : [p0, p1, p2, p3, p4].length = 5 := rfl
            obtain ⟨k0, HK0⟩ : ∃ k, Hid ((num? p0 1 2).isSome = k) := ⟨_, rfl⟩
            obtain ⟨k2, HK2⟩ : ∃ k, Hid ((num? p2 4 4).isSome = k) := ⟨_, rfl⟩
            have HD0 : Hid (∀ u, Calls Tryz.prog 39 #[.string (str p0), .int .i64 1, .int .i64 2] u fun e w' => ∃ v : Nat, v < 100000 ∧ e = .returned (.tuple #[.int .i64 (v : Int), .bool k0]) ∧ (k0 = true → num? p0 1 2 = some v) ∧ w' = u) := fun u => by
              have := l4Digits_any (str p0) 1 2 u (by omega) (by omega) (by rw [str_size]; exact Nat.le_trans (HP200.out p0 (by simp)) (by omega)); rw [str_list] at this
              exact this.mono fun e w' h => digP HK0.out h
            have HD2 : Hid (∀ u, Calls Tryz.prog 39 #[.string (str p2), .int .i64 4, .int .i64 4] u fun e w' => ∃ v : Nat, v < 100000 ∧ e = .returned (.tuple #[.int .i64 (v : Int), .bool k2]) ∧ (k2 = true → num? p2 4 4 = some v) ∧ w' = u) := fun u => by
              have := l4Digits_any (str p2) 4 4 u (by omega) (by omega) (by rw [str_size]; exact Nat.le_trans (HP200.out p2 (by simp)) (by omega)); rw [str_list] at this
              exact this.mono fun e w' h => digP HK2.out h
            have hz8 : (str p1).size ≤ 200 := by rw [str_size]; exact HP200.out p1 (by simp)
            have hwo1 : (wo.alloc (.cells #[.int .i64 0, .int .i64 0, .int .i64 0, .int .i64 0, .int .i64 0, .int .i64 0, .int .i64 0] 24)).heap.size = wo.heap.size + 1 := by simp
            have hgne : g8 ≠ wo.heap.size := by omega
            have hrne : w.heap.size ≠ wo.heap.size := by omega
            have h5n : ((5 : Int) != 5) = false := rfl
            clear h5 hc8 HZO hown hlD c0
            go_upto_region 18 with fail
            generalize (wo.alloc (.cells #[.int .i64 0, .int .i64 0, .int .i64 0, .int .i64 0, .int .i64 0, .int .i64 0, .int .i64 0] 24)) = wz at *
            have HS1 := HS0
            clear HS0
            have c0 := HS1.out.parts 0 (by simp)
            simp only [List.getElem_cons_zero] at c0
            obtain ⟨y0, y1, y2, y3, y4, y5, y6⟩ := HS1.out.date
            simp only at y0 y1 y2 y3 y4 y5 y6
            have f2 := HS1.out.fzd 2
            go_wp2_with fail
            refine (HD0.out _).mono ?_
            rintro e wq ⟨v0, hv0, rfl, Hv0, rfl⟩
            have HV0 := Lib.hid Hv0
            have HSA := Lib.hid (HS1.out.set (laid7_d HS1.out.date (v0 : Int)) hrne hgne (Nat.le_refl _))
            clear Hv0
            go_upto_region 20 with fail
            generalize hwz : wq.setCell ⟨wo.heap.size, 2, none⟩ (.int .i64 (v0 : Int)) = wz at *
            clear hwz y0 y1 y2 y3 y4 y5 y6 f2 HS1 c0
            go_wp2_with fail
            go_loopw [14] (fun i wr => ∃ (kk : Nat) (M : Int), kk ≤ 12 ∧ i = .int .i64 kk ∧ MonK p1 kk M ∧ -1 ≤ M ∧ M ≤ 12 ∧ StP w.heap.size wo.heap.size g8 [p0, p1, p2, p3, p4] wo ⟨0, M, v0, 0, 0, 0, 0⟩ wr) (fun i _ => 12 - (intOf i).toNat)
            case atStart => exact ⟨0, 0, by omega, rfl, monK_zero _, by omega, by omega, HSA.out⟩
            case round =>
              obtain ⟨kk, M, hkk, rfl, hmk, hM1, hM2, hst⟩ := hrel
              have HMK := Lib.hid hmk
              have HST := Lib.hid hst
              have hws := hst.below.size
              clear hst hmk
              by_cases hlt2 : kk < 12
              · have hsame := sameTextS_any (str p1) (str (moL.getD kk []))
                obtain ⟨S3, hS3⟩ : ∃ S, str (moL.getD kk []) = S := ⟨_, rfl⟩
                have HMO := Lib.hid (fun u => l4Months_any kk S3 u hlt2 hS3)
                have hz3 : S3.size ≤ 10 := by rw [← hS3, str_size, moL_len kk hlt2]; omega
                cases hsn : sameN p1 (moL.getD kk [])
                · have HSM : Hid (∀ u, Calls Tryz.prog 40 #[.string (str p1), .string S3] u fun e w' => e = .returned (.bool false) ∧ Below u.heap.size u w') := fun u => by
                    have := sameTextS_any (str p1) (str (moL.getD kk [])) u (by omega) (by rw [hS3]; omega)
                    rw [sameS_str, hsn, hS3] at this; exact this
                  have HMM := Lib.hid (monK_miss HMK.out hsn)
                  clear hsn hS3 hsame
                  go_wp2_with fail
                  refine wp_region_grow (by kernel_rfl) ?_
                  refine wpAnyG_take (fuel := 4) [true, true, true, false, true, false, false, false] (by kernel_rfl) (by kernel_rfl) (by rfl) (by kernel_rfl) ?_
                  apply Exists.intro
                  refine ⟨fun x => ?_, ?_⟩
                  · have HY : Hid (∀ y : BelowT x.val, y.val.cell? ⟨g8, 1, none⟩ = some (.string (str p1))) := fun y => (HST.out.next (nx x.below y.below) (by omega) (by omega)).parts 1 (by simp)
                    have y1 := HY.out
                    simp only [pickL]
                    repeat (go_big_quiet_step (fail))
                    exact wpQuiet_nil rfl
                  refine wpAnyG_one (m := 3) (by kernel_rfl) (fun u8 g8' => ?_)
                  refine wpOp_at (o := _) (by rfl) (by rfl) ?_
                  go_simp
                  refine (HMO.out _).mono ?_
                  rintro e w6 ⟨rfl, hb6, hmon⟩
                  refine ⟨hb6, ?_⟩
                  try simp only [Act.put, List.setIfInBounds_toArray, List.set_cons_zero, List.set_cons_succ]
                  have HMN := Lib.hid hmon
                  have h86 := nx g8' hb6
                  clear hmon
                  generalize u8.heap.size = gm at *
                  refine wpAnyG_take (fuel := 0) [false, false, false, false, false, true, true, true] (by kernel_rfl) (by kernel_rfl) (by rfl) (by kernel_rfl) ?_
                  apply Exists.intro
                  refine ⟨fun x => ?_, ?_⟩
                  · have ym : ∀ y : BelowT x.val, y.val.cell? ⟨gm, kk, none⟩ = some (.string S3) := fun y => HMN.out.below (nx x.below y.below)
                    simp only [pickL]
                    repeat (go_big_quiet_step ((go_at_call 40; exact calls_belowT (HSM.out _))))
                    exact wpQuiet_nil rfl
                  refine wpAnyG_done (by kernel_rfl) (fun x => ?_) _
                  have hb9 := nx h86 x.below
                  have HS9 := Lib.hid (HST.out.next hb9 (by omega) (by omega))
                  generalize x.val = w9 at *
                  clear h86 hb6 g8' hb9
                  go_wp2
                  go_roundw
                  case rel => exact ⟨kk + 1, M, by omega, by go_num, HMM.out, hM1, hM2, HS9.out⟩
                  case measure => simp [intOf]; omega
                · have HSM : Hid (∀ u, Calls Tryz.prog 40 #[.string (str p1), .string S3] u fun e w' => e = .returned (.bool true) ∧ Below u.heap.size u w') := fun u => by
                    have := sameTextS_any (str p1) (str (moL.getD kk [])) u (by omega) (by rw [hS3]; omega)
                    rw [sameS_str, hsn, hS3] at this; exact this
                  have HMM := Lib.hid (monK_hit hlt2 hsn)
                  clear hsn hS3 hsame
                  go_wp2_with fail
                  refine wp_region_grow (by kernel_rfl) ?_
                  refine wpAnyG_take (fuel := 4) [true, true, true, false, true, false, false, false] (by kernel_rfl) (by kernel_rfl) (by rfl) (by kernel_rfl) ?_
                  apply Exists.intro
                  refine ⟨fun x => ?_, ?_⟩
                  · have HY : Hid (∀ y : BelowT x.val, y.val.cell? ⟨g8, 1, none⟩ = some (.string (str p1))) := fun y => (HST.out.next (nx x.below y.below) (by omega) (by omega)).parts 1 (by simp)
                    have y1 := HY.out
                    simp only [pickL]
                    repeat (go_big_quiet_step (fail))
                    exact wpQuiet_nil rfl
                  refine wpAnyG_one (m := 3) (by kernel_rfl) (fun u8 g8' => ?_)
                  refine wpOp_at (o := _) (by rfl) (by rfl) ?_
                  go_simp
                  refine (HMO.out _).mono ?_
                  rintro e w6 ⟨rfl, hb6, hmon⟩
                  refine ⟨hb6, ?_⟩
                  try simp only [Act.put, List.setIfInBounds_toArray, List.set_cons_zero, List.set_cons_succ]
                  have HMN := Lib.hid hmon
                  have h86 := nx g8' hb6
                  clear hmon
                  generalize u8.heap.size = gm at *
                  refine wpAnyG_take (fuel := 0) [false, false, false, false, false, true, true, true] (by kernel_rfl) (by kernel_rfl) (by rfl) (by kernel_rfl) ?_
                  apply Exists.intro
                  refine ⟨fun x => ?_, ?_⟩
                  · have ym : ∀ y : BelowT x.val, y.val.cell? ⟨gm, kk, none⟩ = some (.string S3) := fun y => HMN.out.below (nx x.below y.below)
                    simp only [pickL]
                    repeat (go_big_quiet_step ((go_at_call 40; exact calls_belowT (HSM.out _))))
                    exact wpQuiet_nil rfl
                  refine wpAnyG_done (by kernel_rfl) (fun x => ?_) _
                  have hb9 := nx h86 x.below
                  have HS9 := Lib.hid (HST.out.next hb9 (by omega) (by omega))
                  generalize x.val = w9 at *
                  clear h86 hb6 g8' hb9
                  obtain ⟨y0, y1, y2, y3, y4, y5, y6⟩ := HS9.out.date
                  simp only at y0 y1 y2 y3 y4 y5 y6
                  have f1 := HS9.out.fzd 1
                  go_wp2
                  go_roundw
                  case rel => exact ⟨kk + 1, (kk : Int) + 1, by omega, by go_num, HMM.out, by omega, by omega, HS9.out.set (laid7_m HS9.out.date _) hrne hgne (Nat.le_refl _)⟩
                  case measure => simp [intOf]; omega
              · have hk12 : kk = 12 := by omega
                subst hk12
                have HME := Lib.hid (monK_end HMK.out)
                clear HMK
                have c2 := HST.out.parts 2 (by simp)
                simp only [List.getElem_cons_succ, List.getElem_cons_zero] at c2
                obtain ⟨y0, y1, y2, y3, y4, y5, y6⟩ := HST.out.date
                simp only at y0 y1 y2 y3 y4 y5 y6
                have f0 := HST.out.fzd 0
                go_wp2_with fail
                refine (HD2.out _).mono ?_
                rintro e wq ⟨v2, hv2, rfl, Hv2, rfl⟩
                have HV2 := Lib.hid Hv2
                have HSY := Lib.hid (HST.out.set (laid7_y HST.out.date (v2 : Int)) hrne hgne (Nat.le_refl _))
                clear Hv2
                go_upto_region 27 with fail
                generalize hwz : wq.setCell ⟨wo.heap.size, 0, none⟩ (.int .i64 (v2 : Int)) = wy at *
                clear hwz y0 y1 y2 y3 y4 y5 y6 f0 c2 HST
                have c3 := HSY.out.parts 3 (by simp)
                simp only [List.getElem_cons_succ, List.getElem_cons_zero] at c3
                obtain ⟨y0, y1, y2, y3, y4, y5, y6⟩ := HSY.out.date
                simp only at y0 y1 y2 y3 y4 y5 y6
                have hwy := HSY.out.below.size
                have hwl := HSY.out.lt
                have f0 := HSY.out.fzd 0
                have f1 := HSY.out.fzd 1
                have f2 := HSY.out.fzd 2
                have f3 := HSY.out.fzd 3
                have f4 := HSY.out.fzd 4
                have f5 := HSY.out.fzd 5
                have f6 := HSY.out.fzd 6
                obtain ⟨kt, HKT⟩ : ∃ k, Hid ((clock? p3).isSome = k) := ⟨_, rfl⟩
                have HTM : Hid (∀ u, Calls Tryz.prog 41 #[.string (str p3), .agg #[.int .i64 (v2 : Int), .int .i64 M, .int .i64 (v0 : Int), .int .i64 0, .int .i64 0, .int .i64 0, .int .i64 0]] u fun e w' => ∃ th tm ts : Int, e = .returned (.tuple #[.agg #[.int .i64 (v2 : Int), .int .i64 M, .int .i64 (v0 : Int), .int .i64 th, .int .i64 tm, .int .i64 ts, .int .i64 0], .bool kt]) ∧ (kt = true → ∃ a b c : Nat, clock? p3 = some (a, b, c) ∧ th = a ∧ tm = b ∧ ts = c) ∧ Below u.heap.size u w') := fun u => by
                  have := l4Time_any (str p3) v2 M v0 0 0 0 0 u (by rw [str_size]; exact Nat.le_trans (HP200.out p3 (by simp)) (by omega))
                  rw [str_list] at this
                  refine this.mono ?_
                  rintro e w' ⟨th, tm, ts, h1, h2, h3⟩
                  refine ⟨th, tm, ts, by rw [h1, HKT.out], fun hk => ?_, h3⟩
                  have hk2 := HKT.out
                  rw [hk] at hk2
                  cases hc : clock? p3 with
                  | none => rw [hc] at hk2; cases hk2
                  | some t => exact ⟨t.1, t.2.1, t.2.2, rfl, h2 t.1 t.2.1 t.2.2 hc⟩
                go_region_with (go_at_call 41; refine (HTM.out _).mono ?_; rintro e w7 ⟨th, tm, ts, rfl, Htm, hb7⟩; have HS7 := Lib.hid (HSY.out.next (nx ((Below.refl _ _).drew) hb7) (by omega) (by omega)); obtain ⟨x0, x1, x2, x3, x4, x5, x6⟩ := HS7.out.date; simp only at x0 x1 x2 x3 x4 x5 x6; have e0 := HS7.out.fzd 0; have e1 := HS7.out.fzd 1; have e2 := HS7.out.fzd 2; have e3 := HS7.out.fzd 3; have e4 := HS7.out.fzd 4; have e5 := HS7.out.fzd 5; have e6 := HS7.out.fzd 6)
                all_goals
                  have HS8 := Lib.hid (((((((HS7.out.set (laid7_y HS7.out.date (v2 : Int)) hrne hgne (Nat.le_refl _)) |> fun k => (k.set (laid7_m k.date M) hrne hgne (Nat.le_refl _))) |> fun k => (k.set (laid7_d k.date (v0 : Int)) hrne hgne (Nat.le_refl _))) |> fun k => (k.set (laid7_h k.date th) hrne hgne (Nat.le_refl _))) |> fun k => (k.set (laid7_i k.date tm) hrne hgne (Nat.le_refl _))) |> fun k => (k.set (laid7_s k.date ts) hrne hgne (Nat.le_refl _))) |> fun k => (k.set (laid7_z k.date 0) hrne hgne (Nat.le_refl _)))
                  have HTMC := Lib.hid Htm
                  clear x0 x1 x2 x3 x4 x5 x6 e0 e1 e2 e3 e4 e5 e6 HS7 Htm hb7 y0 y1 y2 y3 y4 y5 y6 f0 f1 f2 f3 f4 f5 f6 c3 HSY HTM HD0 HD2
                  go_upto_region 28 with fail
                  generalize (((((((w7.setCell ⟨wo.heap.size, 0, none⟩ (.int .i64 (v2 : Int))).setCell ⟨wo.heap.size, 1, none⟩ (.int .i64 M)).setCell ⟨wo.heap.size, 2, none⟩ (.int .i64 (v0 : Int))).setCell ⟨wo.heap.size, 3, none⟩ (.int .i64 th)).setCell ⟨wo.heap.size, 4, none⟩ (.int .i64 tm)).setCell ⟨wo.heap.size, 5, none⟩ (.int .i64 ts)).setCell ⟨wo.heap.size, 6, none⟩ (.int .i64 0)) = w8 at *
                  have c4' := HS8.out.parts 4 (by simp)
                  simp only [List.getElem_cons_succ, List.getElem_cons_zero] at c4'
                  obtain ⟨y0, y1, y2, y3, y4, y5, y6⟩ := HS8.out.date
                  simp only at y0 y1 y2 y3 y4 y5 y6
                  have f6 := HS8.out.fzd 6
                  obtain ⟨kz, HKZ⟩ : ∃ k, Hid ((zone? p4).isSome = k) := ⟨_, rfl⟩
                  have HOF : Hid (∀ u, Calls Tryz.prog 42 #[.string (str p4)] u fun e w' => ∃ v : Int, -100000000 ≤ v ∧ v ≤ 100000000 ∧ e = .returned (.tuple #[.int .i64 v, .bool kz]) ∧ (∀ m, zone? p4 = some m → m = v) ∧ w' = u) := fun u => by
                    have := l4Offset_any (str p4) u (by rw [str_size]; exact Nat.le_trans (HP200.out p4 (by simp)) (by omega))
                    rw [str_list] at this
                    refine this.mono ?_
                    rintro e w' ⟨v, h1, h2, h3, h4, h5⟩
                    exact ⟨v, h1, h2, by rw [h3, HKZ.out], h4, h5⟩
                  go_wp2_with fail
                  refine (HOF.out _).mono ?_
                  rintro e wq4 ⟨v4, hv4a, hv4b, rfl, Hz4, rfl⟩
                  have HZ4 := Lib.hid Hz4
                  have HS9 := Lib.hid (HS8.out.set (laid7_z HS8.out.date v4) hrne hgne (Nat.le_refl _))
                  clear Hz4 HOF c4'
                  go_upto_region 30 with fail
                  generalize wq4.setCell ⟨wo.heap.size, 6, none⟩ (.int .i64 v4) = w9 at *
                  clear f6 HS8 y0 y1 y2 y3 y4 y5 y6
                  obtain ⟨y0, y1, y2, y3, y4, y5, y6⟩ := HS9.out.date
                  simp only at y0 y1 y2 y3 y4 y5 y6
                  obtain ⟨z0, z1, z2, z3, z4, z5, z6⟩ := HS9.out.res
                  simp only at z0 z1 z2 z3 z4 z5 z6
                  have g0 := HS9.out.fzr 0
                  have g1 := HS9.out.fzr 1
                  have g2 := HS9.out.fzr 2
                  have g3 := HS9.out.fzr 3
                  have g4' := HS9.out.fzr 4
                  have g5 := HS9.out.fzr 5
                  have g6 := HS9.out.fzr 6
                  cases k0 with
                  | false =>
                    have HN : Hid (parseU s.data.toList = none) := by show _ = _; rw [HPO.out]; exact read5_none _ (.inl HK0.out)
                    go_wp2
                    refine bodyPost_ret (v := .tuple #[.agg #[.int .i64 0, .int .i64 0, .int .i64 0, .int .i64 0, .int .i64 0, .int .i64 0, .int .i64 0], .bool false]) (by simp [results, Tryz.results11, go_sem, z0, z1, z2, z3, z4, z5, z6]) rfl (dateRet_none HN.out ?_)
                    iterate 7 refine Below.setCell ?_ (by first | exact Nat.le_refl _ | simp) _
                    exact nx HB0.out (nx HB.out HS9.out.below)
                  | true =>
                  cases k2 with
                  | false =>
                    have HN : Hid (parseU s.data.toList = none) := by show _ = _; rw [HPO.out]; exact read5_none _ (.inr (.inl HK2.out))
                    go_wp2
                    refine bodyPost_ret (v := .tuple #[.agg #[.int .i64 0, .int .i64 0, .int .i64 0, .int .i64 0, .int .i64 0, .int .i64 0, .int .i64 0], .bool false]) (by simp [results, Tryz.results11, go_sem, z0, z1, z2, z3, z4, z5, z6]) rfl (dateRet_none HN.out ?_)
                    iterate 7 refine Below.setCell ?_ (by first | exact Nat.le_refl _ | simp) _
                    exact nx HB0.out (nx HB.out HS9.out.below)
                  | true =>
                  cases kt with
                  | false =>
                    have HN : Hid (parseU s.data.toList = none) := by show _ = _; rw [HPO.out]; exact read5_none _ (.inr (.inr (.inl HKT.out)))
                    go_wp2
                    refine bodyPost_ret (v := .tuple #[.agg #[.int .i64 0, .int .i64 0, .int .i64 0, .int .i64 0, .int .i64 0, .int .i64 0, .int .i64 0], .bool false]) (by simp [results, Tryz.results11, go_sem, z0, z1, z2, z3, z4, z5, z6]) rfl (dateRet_none HN.out ?_)
                    iterate 7 refine Below.setCell ?_ (by first | exact Nat.le_refl _ | simp) _
                    exact nx HB0.out (nx HB.out HS9.out.below)
                  | true =>
                  cases kz with
                  | false =>
                    have HN : Hid (parseU s.data.toList = none) := by show _ = _; rw [HPO.out]; exact read5_none _ (.inr (.inr (.inr HKZ.out)))
                    go_wp2
                    refine bodyPost_ret (v := .tuple #[.agg #[.int .i64 0, .int .i64 0, .int .i64 0, .int .i64 0, .int .i64 0, .int .i64 0, .int .i64 0], .bool false]) (by simp [results, Tryz.results11, go_sem, z0, z1, z2, z3, z4, z5, z6]) rfl (dateRet_none HN.out ?_)
                    iterate 7 refine Below.setCell ?_ (by first | exact Nat.le_refl _ | simp) _
                    exact nx HB0.out (nx HB.out HS9.out.below)
                  | true =>
                  have HRD : Hid (readD [p0, p1, p2, p3, p4] = some ⟨v2, M, v0, th, tm, ts, v4⟩) := by
                    show _ = _
                    obtain ⟨ta, tb, tc, e1, e2, e3, e4⟩ := HTMC.out rfl
                    have e5 : zone? p4 = some v4 := by
                      cases hz : zone? p4 with
                      | none => have := HKZ.out; rw [hz] at this; cases this
                      | some m => rw [HZ4.out m hz]
                    rw [readD5, HV0.out rfl, HV2.out rfl, e1, e5, HME.out, e2, e3, e4]; rfl
                  by_cases hok : OkDate ⟨v2, M, v0, th, tm, ts, v4⟩
                  · have HDV : Hid (∀ u, Calls Tryz.prog 8 #[.agg #[.int .i64 (v2 : Int), .int .i64 M, .int .i64 (v0 : Int), .int .i64 th, .int .i64 tm, .int .i64 ts, .int .i64 v4]] u fun e w' => e = .returned (.bool true) ∧ Below u.heap.size u w') := fun u => by rw [← okDB_ok hok]; exact dateValidS_any ⟨v2, M, v0, th, tm, ts, v4⟩ u
                    have HOK := Lib.hid hok
                    have hw9 := HS9.out.below.size
                    clear hok
                    go_wp2_with fail
                    refine (HDV.out _).mono ?_
                    rintro e wv ⟨rfl, hbv⟩
                    have HSV := Lib.hid (HS9.out.next hbv (by omega) (by omega))
                    clear y0 y1 y2 y3 y4 y5 y6 z0 z1 z2 z3 z4 z5 z6 g0 g1 g2 g3 g4' g5 g6
                    obtain ⟨y0, y1, y2, y3, y4, y5, y6⟩ := HSV.out.date
                    simp only at y0 y1 y2 y3 y4 y5 y6
                    obtain ⟨z0, z1, z2, z3, z4, z5, z6⟩ := HSV.out.res
                    simp only at z0 z1 z2 z3 z4 z5 z6
                    have g0 := HSV.out.fzr 0
                    have g1 := HSV.out.fzr 1
                    have g2 := HSV.out.fzr 2
                    have g3 := HSV.out.fzr 3
                    have g4' := HSV.out.fzr 4
                    have g5 := HSV.out.fzr 5
                    have g6 := HSV.out.fzr 6
                    have HYES : Hid (parseU s.data.toList = some ⟨v2, M, v0, th, tm, ts, v4⟩) := by show _ = _; rw [HPO.out, HRD.out]; exact okO_some HOK.out rfl
                    go_wp2
                    refine bodyPost_ret (v := .tuple #[.agg #[.int .i64 (v2 : Int), .int .i64 M, .int .i64 (v0 : Int), .int .i64 th, .int .i64 tm, .int .i64 ts, .int .i64 v4], .bool true]) (by simp [results, Tryz.results11, go_sem, z0, z1, z2, z3, z4, z5, z6]) rfl (dateRet_some HYES.out ?_)
                    iterate 7 refine Below.setCell ?_ (by first | exact Nat.le_refl _ | simp) _
                    exact nx HB0.out (nx HB.out HSV.out.below)
                  · have HDV : Hid (∀ u, Calls Tryz.prog 8 #[.agg #[.int .i64 (v2 : Int), .int .i64 M, .int .i64 (v0 : Int), .int .i64 th, .int .i64 tm, .int .i64 ts, .int .i64 v4]] u fun e w' => e = .returned (.bool false) ∧ Below u.heap.size u w') := fun u => by rw [← okDB_no hok]; exact dateValidS_any ⟨v2, M, v0, th, tm, ts, v4⟩ u
                    have HN : Hid (parseU s.data.toList = none) := by show _ = _; rw [HPO.out, HRD.out]; exact okO_bad hok
                    have hw9 := HS9.out.below.size
                    clear hok
                    go_wp2_with fail
                    refine (HDV.out _).mono ?_
                    rintro e wv ⟨rfl, hbv⟩
                    have HSV := Lib.hid (HS9.out.next hbv (by omega) (by omega))
                    clear y0 y1 y2 y3 y4 y5 y6 z0 z1 z2 z3 z4 z5 z6 g0 g1 g2 g3 g4' g5 g6
                    obtain ⟨y0, y1, y2, y3, y4, y5, y6⟩ := HSV.out.date
                    simp only at y0 y1 y2 y3 y4 y5 y6
                    obtain ⟨z0, z1, z2, z3, z4, z5, z6⟩ := HSV.out.res
                    simp only at z0 z1 z2 z3 z4 z5 z6
                    have g0 := HSV.out.fzr 0
                    have g1 := HSV.out.fzr 1
                    have g2 := HSV.out.fzr 2
                    have g3 := HSV.out.fzr 3
                    have g4' := HSV.out.fzr 4
                    have g5 := HSV.out.fzr 5
                    have g6 := HSV.out.fzr 6
                    go_wp2
                    refine bodyPost_ret (v := .tuple #[.agg #[.int .i64 0, .int .i64 0, .int .i64 0, .int .i64 0, .int .i64 0, .int .i64 0, .int .i64 0], .bool false]) (by simp [results, Tryz.results11, go_sem, z0, z1, z2, z3, z4, z5, z6]) rfl (dateRet_none HN.out ?_)
                    iterate 7 refine Below.setCell ?_ (by first | exact Nat.le_refl _ | simp) _
                    exact nx HB0.out (nx HB.out HSV.out.below)
          · have HN : Hid (parseU s.data.toList = none) := by show _ = _; rw [HPO.out, readD_no h5]; rfl
            obtain ⟨a3, c3, rfl, hr3, _⟩ := hown.read
            have HFR := HZ.out wr (HB.out)
            obtain ⟨⟨z0, z1, z2, z3, z4, z5, z6⟩, hfz⟩ := HFR
            simp only at z0 z1 z2 z3 z4 z5 z6
            have f0 := hfz 0
            have f1 := hfz 1
            have f2 := hfz 2
            have f3 := hfz 3
            have f4 := hfz 4
            have f5 := hfz 5
            have f6 := hfz 6
            have h5i : ((acc.length : Int) != 5) = true := by rw [bne_iff_ne]; omega
            clear hfz h5 hr3
            go_wp2
            refine bodyPost_ret (v := .tuple #[.agg #[.int .i64 0, .int .i64 0, .int .i64 0, .int .i64 0, .int .i64 0, .int .i64 0, .int .i64 0], .bool false]) (by simp [results, Tryz.results11, go_sem, z0, z1, z2, z3, z4, z5, z6]) rfl (dateRet_none HN.out ?_)
            iterate 7 refine Below.setCell ?_ (by first | exact Nat.le_refl _ | simp) _
            exact nx HB0.out HB.out
    | some y =>
      obtain ⟨p, r⟩ := y
      obtain rfl := hcs p r hc
      obtain ⟨hpo, hpr⟩ := HR2.out p r hc
      have HPO := Lib.hid hpo
      clear hc hcs hcn hpo
      go_wp2_with fail
      refine (l2Trim_any (str p) _ (by rw [str_size]; omega)).mono ?_
      rintro e w3 ⟨rfl, rfl⟩
      rw [str_list]
      go_wp2_with fail
      refine (l2Parts_any (str r) 32 _ (by rw [str_size]; omega)).mono ?_
      rintro e w4 ⟨v4, rfl, ho4, hb4⟩
      rw [str_list] at ho4
      have hxl := (splitC_small 32 r).1
      have hx2 := (splitC_small 32 r).2
      have hlen200 : (r).length ≤ 200 := by have := hpr; omega
      have hne4 := splitC_ne 32 r
      have ho0 : OwnL w1.heap.size (.slice (some ⟨w1.heap.size, 0, none⟩) 0 0) [] ((w1.drewN q).alloc (.cells #[] 9)) := OwnL.empty (w1.drewN q)
      have hbA : Below w1.heap.size w1 ((w1.drewN q).alloc (.cells #[] 9)) := (bdN (Below.refl _ _) _).alloc (Nat.le_refl _) _
      have hAs : ((w1.drewN q).alloc (.cells #[] 9)).heap.size = w1.heap.size + 1 := by simp
      rw [hAs] at ho4
      have HB4 : Hid (Below w1.heap.size w1 w4) := hbA.trans (hb4.mono (by rw [hAs]; omega))
      have ho0 := ho0.keep hb4
      have HXS : Hid (∀ x ∈ splitC 32 r, x.length ≤ 200) := fun x hx => by have := hx2 x hx; omega
      have hxs201 : (splitC 32 r).length ≤ 201 := by omega
      clear hxl hx2
      generalize splitC 32 r = xs at *
      obtain ⟨g4, c4, rfl, hg4, hgl4, hc4⟩ := own_casesP ho4 hne4
      have HC4 := Lib.hid hc4
      obtain ⟨n, hn⟩ : ∃ n, xs.length = n := ⟨_, rfl⟩
      have HLEN := Lib.hid hn
      have HO0 := Lib.hid ho0
      rw [hn] at hxs201 ⊢
      have hws4 := HB4.out.size
      clear hc4 ho4 hb4 hbA hAs hn ho0 hne4
      go_wp2_with fail
      go_loopw [8, 10] (fun v i wr => ∃ (k : Nat) (acc : List (List UInt8)), k ≤ n ∧ i = .int .i64 k ∧ acc = nonempty (xs.take k) ∧ acc.length ≤ k ∧ OwnL w1.heap.size v acc wr ∧ v.ownBlock ≠ some g4 ∧ wr.heap[g4]? = w4.heap[g4]? ∧ g4 < wr.heap.size ∧ Below w1.heap.size w1 wr) (fun _ i _ => n - (intOf i).toNat)
      case atStart => exact ⟨0, [], by omega, rfl, rfl, by simp, HO0.out, by simp [Value.ownBlock]; omega, rfl, hgl4, HB4.out⟩
      case round =>
        obtain ⟨k, acc, hk, rfl, hacc, hal, hown, hob, hblk, hgl, hb⟩ := hrel
        have HACC := Lib.hid hacc
        have HB := Lib.hid hb
        have HBLK := Lib.hid hblk
        have HOB := Lib.hid hob
        have hbs := hb.size
        clear hacc hb hblk hob
        by_cases hlt : k < n
        · have hkx : k < xs.length := by rw [HLEN.out]; exact hlt
          have c0 : wr.cell? ⟨g4, k, none⟩ = some (.string (str xs[k])) := by rw [blk_cell HBLK.out]; exact HC4.out k hkx
          have hkz := str_size xs[k]
          have HNT := Lib.hid (nonempty_take xs k hkx)
          by_cases he : xs[k] = []
          · have hem : (str xs[k]).toList.isEmpty = true := by rw [empP, decide_eq_true he]
            have HN : Hid (acc = nonempty (xs.take (k + 1))) := by show _ = _; rw [HNT.out, if_pos he, List.append_nil, HACC.out]
            clear he hkz
            generalize str xs[k] = x at *
            go_wp2
            go_roundw
            case rel => exact ⟨k + 1, acc, by omega, by go_num, HN.out, by omega, hown, HOB.out, HBLK.out, hgl, HB.out⟩
            case measure => simp [intOf]; omega
          · have hem : (str xs[k]).toList.isEmpty = false := by rw [empP, decide_eq_false he]
            have HN : Hid (acc ++ [(str xs[k]).data.toList] = nonempty (xs.take (k + 1))) := by show _ = _; rw [HNT.out, if_neg he, HACC.out, str_list]
            have hown1 := hown
            unfold OwnL at hown1
            clear he hkz
            generalize str xs[k] = x at *
            go_wp2_with (at_builtin; refine wpList_append_own_at _ rfl _ _ 34 rfl w1.heap.size 9 i0 (.string ⟨#[]⟩) 1 16 Tryz.underlying34 hi hz0 hz1 hz2 rfl (by decide) _ _ _ rfl (World.ownsRow.alloc hown1 _) ⟨wr.heap.size, 0, none⟩ 1 1 [.string x] rfl rfl ?c1 ?c2 ?c3 ?c4 ?c5 ?_)
            case c1 =>
              intro u v hj
              match u, hj with
              | 0, hj => simp at hj; subst hj; simp [Addr.add]
            case c2 => intro u hu; simp at hu; subst hu; rfl
            case c3 => unfold maxLen; omega
            case c4 => omega
            case c5 => simp; omega
            intro v' w5 hown' hgrow _ hat
            have hO5 := own_snoc hown'
            have hb5 : Below w1.heap.size wr w5 := ((Below.refl _ _).alloc (by omega) _).grown hgrow (by simp; omega) (fun k hk => (World.ownsRow.lt hown1 k hk).1)
            have HBK5 : Hid (w5.heap[g4]? = w4.heap[g4]?) := by
              show _ = _
              rw [hgrow.block g4 (by simp; omega) (fun e => HOB.out e.symm), Lib.alloc_old wr _ g4 hgl]; exact HBLK.out
            have HOB5 : Hid (v'.ownBlock ≠ some g4) := by
              show _ ≠ _
              rcases hat with h | h
              · rw [h]; exact HOB.out
              · rw [h]; simp; omega
            have hs5 := hb5.size
            go_wp2
            go_roundw
            case rel => exact ⟨k + 1, _, by omega, by go_num, HN.out, by rw [List.length_append, List.length_singleton]; omega, hO5, HOB5.out, HBK5.out, by omega, HB.out.trans hb5⟩
            case measure => simp [intOf]; omega
        · have HACC : Hid (acc = nonempty xs) := by show _ = _; rw [HACC.out, List.take_of_length_le (by rw [HLEN.out]; omega)]
          rw [← HACC.out] at HPO
          by_cases h5 : acc.length = 5
          · obtain ⟨p0, p1, p2, p3, p4, rfl⟩ : ∃ a b c d e, acc = [a, b, c, d, e] := by
              match acc, h5 with
              | [a, b, c, d, e], _ => exact ⟨a, b, c, d, e, rfl⟩
            have HP200 : Hid (∀ x ∈ [p0, p1, p2, p3, p4], x.length ≤ 200) := fun x hx => by
              rw [HACC.out] at hx; unfold nonempty at hx; exact HXS.out x (List.mem_filter.1 hx).1
            obtain ⟨g8, c8, rfl, hg8, hgl8, hc8⟩ := own_casesP hown (by simp)
            rename World => wo
            have HZO := HZ.out wo HB.out
            have hR0 : w.heap.size < wo.heap.size := by omega
            have HS0 : Hid (StP w.heap.size wo.heap.size g8 [p0, p1, p2, p3, p4] wo ⟨0, 0, 0, 0, 0, 0, 0⟩ (wo.alloc (.cells #[.int .i64 0, .int .i64 0, .int .i64 0, .int .i64 0, .int .i64 0, .int .i64 0, .int .i64 0] 24))) :=
              ⟨laid7_new 0 0 0 0 0 0 0 24 wo, fun i => World.frozen?_alloc_at _ _ _ _ rfl, HZO.1.below (laid7_below 0 0 0 0 0 0 0 24 wo), fun i => (below_fz (laid7_below 0 0 0 0 0 0 0 24 wo) hR0).trans (HZO.2 i), fun k hk => (below_at (laid7_below 0 0 0 0 0 0 0 24 wo) hgl8).trans (hc8 k hk), laid7_below 0 0 0 0 0 0 0 24 wo, by simp⟩
            have c0 : wo.cell? ⟨g8, 0, none⟩ = some (.string (str p0)) := hc8 0 (by simp)
            have hlD : [p0, p1, p2, p3, p4].length = 5 := rfl
            obtain ⟨k0, HK0⟩ : ∃ k, Hid ((num? p0 1 2).isSome = k) := ⟨_, rfl⟩
            obtain ⟨k2, HK2⟩ : ∃ k, Hid ((num? p2 4 4).isSome = k) := ⟨_, rfl⟩
            have HD0 : Hid (∀ u, Calls Tryz.prog 39 #[.string (str p0), .int .i64 1, .int .i64 2] u fun e w' => ∃ v : Nat, v < 100000 ∧ e = .returned (.tuple #[.int .i64 (v : Int), .bool k0]) ∧ (k0 = true → num? p0 1 2 = some v) ∧ w' = u) := fun u => by
              have := l4Digits_any (str p0) 1 2 u (by omega) (by omega) (by rw [str_size]; exact Nat.le_trans (HP200.out p0 (by simp)) (by omega)); rw [str_list] at this
              exact this.mono fun e w' h => digP HK0.out h
            have HD2 : Hid (∀ u, Calls Tryz.prog 39 #[.string (str p2), .int .i64 4, .int .i64 4] u fun e w' => ∃ v : Nat, v < 100000 ∧ e = .returned (.tuple #[.int .i64 (v : Int), .bool k2]) ∧ (k2 = true → num? p2 4 4 = some v) ∧ w' = u) := fun u => by
              have := l4Digits_any (str p2) 4 4 u (by omega) (by omega) (by rw [str_size]; exact Nat.le_trans (HP200.out p2 (by simp)) (by omega)); rw [str_list] at this
              exact this.mono fun e w' h => digP HK2.out h
            have hz8 : (str p1).size ≤ 200 := by rw [str_size]; exact HP200.out p1 (by simp)
            have hwo1 : (wo.alloc (.cells #[.int .i64 0, .int .i64 0, .int .i64 0, .int .i64 0, .int .i64 0, .int .i64 0, .int .i64 0] 24)).heap.size = wo.heap.size + 1 := by simp
            have hgne : g8 ≠ wo.heap.size := by omega
            have hrne : w.heap.size ≠ wo.heap.size := by omega
            have h5n : ((5 : Int) != 5) = false := rfl
            clear h5 hc8 HZO hown hlD c0
            go_upto_region 18 with fail
            generalize (wo.alloc (.cells #[.int .i64 0, .int .i64 0, .int .i64 0, .int .i64 0, .int .i64 0, .int .i64 0, .int .i64 0] 24)) = wz at *
            have HS1 := HS0
            clear HS0
            have c0 := HS1.out.parts 0 (by simp)
            simp only [List.getElem_cons_zero] at c0
            obtain ⟨y0, y1, y2, y3, y4, y5, y6⟩ := HS1.out.date
            simp only at y0 y1 y2 y3 y4 y5 y6
            have f2 := HS1.out.fzd 2
            go_wp2_with fail
            refine (HD0.out _).mono ?_
            rintro e wq ⟨v0, hv0, rfl, Hv0, rfl⟩
            have HV0 := Lib.hid Hv0
            have HSA := Lib.hid (HS1.out.set (laid7_d HS1.out.date (v0 : Int)) hrne hgne (Nat.le_refl _))
            clear Hv0
            go_upto_region 20 with fail
            generalize hwz : wq.setCell ⟨wo.heap.size, 2, none⟩ (.int .i64 (v0 : Int)) = wz at *
            clear hwz y0 y1 y2 y3 y4 y5 y6 f2 HS1 c0
            go_wp2_with fail
            go_loopw [14] (fun i wr => ∃ (kk : Nat) (M : Int), kk ≤ 12 ∧ i = .int .i64 kk ∧ MonK p1 kk M ∧ -1 ≤ M ∧ M ≤ 12 ∧ StP w.heap.size wo.heap.size g8 [p0, p1, p2, p3, p4] wo ⟨0, M, v0, 0, 0, 0, 0⟩ wr) (fun i _ => 12 - (intOf i).toNat)
            case atStart => exact ⟨0, 0, by omega, rfl, monK_zero _, by omega, by omega, HSA.out⟩
            case round =>
              obtain ⟨kk, M, hkk, rfl, hmk, hM1, hM2, hst⟩ := hrel
              have HMK := Lib.hid hmk
              have HST := Lib.hid hst
              have hws := hst.below.size
              clear hst hmk
              by_cases hlt2 : kk < 12
              · have hsame := sameTextS_any (str p1) (str (moL.getD kk []))
                obtain ⟨S3, hS3⟩ : ∃ S, str (moL.getD kk []) = S := ⟨_, rfl⟩
                have HMO := Lib.hid (fun u => l4Months_any kk S3 u hlt2 hS3)
                have hz3 : S3.size ≤ 10 := by rw [← hS3, str_size, moL_len kk hlt2]; omega
                cases hsn : sameN p1 (moL.getD kk [])
                · have HSM : Hid (∀ u, Calls Tryz.prog 40 #[.string (str p1), .string S3] u fun e w' => e = .returned (.bool false) ∧ Below u.heap.size u w') := fun u => by
                    have := sameTextS_any (str p1) (str (moL.getD kk [])) u (by omega) (by rw [hS3]; omega)
                    rw [sameS_str, hsn, hS3] at this; exact this
                  have HMM := Lib.hid (monK_miss HMK.out hsn)
                  clear hsn hS3 hsame
                  go_wp2_with fail
                  refine wp_region_grow (by kernel_rfl) ?_
                  refine wpAnyG_take (fuel := 4) [true, true, true, false, true, false, false, false] (by kernel_rfl) (by kernel_rfl) (by rfl) (by kernel_rfl) ?_
                  apply Exists.intro
                  refine ⟨fun x => ?_, ?_⟩
                  · have HY : Hid (∀ y : BelowT x.val, y.val.cell? ⟨g8, 1, none⟩ = some (.string (str p1))) := fun y => (HST.out.next (nx x.below y.below) (by omega) (by omega)).parts 1 (by simp)
                    have y1 := HY.out
                    simp only [pickL]
                    repeat (go_big_quiet_step (fail))
                    exact wpQuiet_nil rfl
                  refine wpAnyG_one (m := 3) (by kernel_rfl) (fun u8 g8' => ?_)
                  refine wpOp_at (o := _) (by rfl) (by rfl) ?_
                  go_simp
                  refine (HMO.out _).mono ?_
                  rintro e w6 ⟨rfl, hb6, hmon⟩
                  refine ⟨hb6, ?_⟩
                  try simp only [Act.put, List.setIfInBounds_toArray, List.set_cons_zero, List.set_cons_succ]
                  have HMN := Lib.hid hmon
                  have h86 := nx g8' hb6
                  clear hmon
                  generalize u8.heap.size = gm at *
                  refine wpAnyG_take (fuel := 0) [false, false, false, false, false, true, true, true] (by kernel_rfl) (by kernel_rfl) (by rfl) (by kernel_rfl) ?_
                  apply Exists.intro
                  refine ⟨fun x => ?_, ?_⟩
                  · have ym : ∀ y : BelowT x.val, y.val.cell? ⟨gm, kk, none⟩ = some (.string S3) := fun y => HMN.out.below (nx x.below y.below)
                    simp only [pickL]
                    repeat (go_big_quiet_step ((go_at_call 40; exact calls_belowT (HSM.out _))))
                    exact wpQuiet_nil rfl
                  refine wpAnyG_done (by kernel_rfl) (fun x => ?_) _
                  have hb9 := nx h86 x.below
                  have HS9 := Lib.hid (HST.out.next hb9 (by omega) (by omega))
                  generalize x.val = w9 at *
                  clear h86 hb6 g8' hb9
                  go_wp2
                  go_roundw
                  case rel => exact ⟨kk + 1, M, by omega, by go_num, HMM.out, hM1, hM2, HS9.out⟩
                  case measure => simp [intOf]; omega
                · have HSM : Hid (∀ u, Calls Tryz.prog 40 #[.string (str p1), .string S3] u fun e w' => e = .returned (.bool true) ∧ Below u.heap.size u w') := fun u => by
                    have := sameTextS_any (str p1) (str (moL.getD kk [])) u (by omega) (by rw [hS3]; omega)
                    rw [sameS_str, hsn, hS3] at this; exact this
                  have HMM := Lib.hid (monK_hit hlt2 hsn)
                  clear hsn hS3 hsame
                  go_wp2_with fail
                  refine wp_region_grow (by kernel_rfl) ?_
                  refine wpAnyG_take (fuel := 4) [true, true, true, false, true, false, false, false] (by kernel_rfl) (by kernel_rfl) (by rfl) (by kernel_rfl) ?_
                  apply Exists.intro
                  refine ⟨fun x => ?_, ?_⟩
                  · have HY : Hid (∀ y : BelowT x.val, y.val.cell? ⟨g8, 1, none⟩ = some (.string (str p1))) := fun y => (HST.out.next (nx x.below y.below) (by omega) (by omega)).parts 1 (by simp)
                    have y1 := HY.out
                    simp only [pickL]
                    repeat (go_big_quiet_step (fail))
                    exact wpQuiet_nil rfl
                  refine wpAnyG_one (m := 3) (by kernel_rfl) (fun u8 g8' => ?_)
                  refine wpOp_at (o := _) (by rfl) (by rfl) ?_
                  go_simp
                  refine (HMO.out _).mono ?_
                  rintro e w6 ⟨rfl, hb6, hmon⟩
                  refine ⟨hb6, ?_⟩
                  try simp only [Act.put, List.setIfInBounds_toArray, List.set_cons_zero, List.set_cons_succ]
                  have HMN := Lib.hid hmon
                  have h86 := nx g8' hb6
                  clear hmon
                  generalize u8.heap.size = gm at *
                  refine wpAnyG_take (fuel := 0) [false, false, false, false, false, true, true, true] (by kernel_rfl) (by kernel_rfl) (by rfl) (by kernel_rfl) ?_
                  apply Exists.intro
                  refine ⟨fun x => ?_, ?_⟩
                  · have ym : ∀ y : BelowT x.val, y.val.cell? ⟨gm, kk, none⟩ = some (.string S3) := fun y => HMN.out.below (nx x.below y.below)
                    simp only [pickL]
                    repeat (go_big_quiet_step ((go_at_call 40; exact calls_belowT (HSM.out _))))
                    exact wpQuiet_nil rfl
                  refine wpAnyG_done (by kernel_rfl) (fun x => ?_) _
                  have hb9 := nx h86 x.below
                  have HS9 := Lib.hid (HST.out.next hb9 (by omega) (by omega))
                  generalize x.val = w9 at *
                  clear h86 hb6 g8' hb9
                  obtain ⟨y0, y1, y2, y3, y4, y5, y6⟩ := HS9.out.date
                  simp only at y0 y1 y2 y3 y4 y5 y6
                  have f1 := HS9.out.fzd 1
                  go_wp2
                  go_roundw
                  case rel => exact ⟨kk + 1, (kk : Int) + 1, by omega, by go_num, HMM.out, by omega, by omega, HS9.out.set (laid7_m HS9.out.date _) hrne hgne (Nat.le_refl _)⟩
                  case measure => simp [intOf]; omega
              · have hk12 : kk = 12 := by omega
                subst hk12
                have HME := Lib.hid (monK_end HMK.out)
                clear HMK
                have c2 := HST.out.parts 2 (by simp)
                simp only [List.getElem_cons_succ, List.getElem_cons_zero] at c2
                obtain ⟨y0, y1, y2, y3, y4, y5, y6⟩ := HST.out.date
                simp only at y0 y1 y2 y3 y4 y5 y6
                have f0 := HST.out.fzd 0
                go_wp2_with fail
                refine (HD2.out _).mono ?_
                rintro e wq ⟨v2, hv2, rfl, Hv2, rfl⟩
                have HV2 := Lib.hid Hv2
                have HSY := Lib.hid (HST.out.set (laid7_y HST.out.date (v2 : Int)) hrne hgne (Nat.le_refl _))
                clear Hv2
                go_upto_region 27 with fail
                generalize hwz : wq.setCell ⟨wo.heap.size, 0, none⟩ (.int .i64 (v2 : Int)) = wy at *
                clear hwz y0 y1 y2 y3 y4 y5 y6 f0 c2 HST
                have c3 := HSY.out.parts 3 (by simp)
                simp only [List.getElem_cons_succ, List.getElem_cons_zero] at c3
                obtain ⟨y0, y1, y2, y3, y4, y5, y6⟩ := HSY.out.date
                simp only at y0 y1 y2 y3 y4 y5 y6
                have hwy := HSY.out.below.size
                have hwl := HSY.out.lt
                have f0 := HSY.out.fzd 0
                have f1 := HSY.out.fzd 1
                have f2 := HSY.out.fzd 2
                have f3 := HSY.out.fzd 3
                have f4 := HSY.out.fzd 4
                have f5 := HSY.out.fzd 5
                have f6 := HSY.out.fzd 6
                obtain ⟨kt, HKT⟩ : ∃ k, Hid ((clock? p3).isSome = k) := ⟨_, rfl⟩
                have HTM : Hid (∀ u, Calls Tryz.prog 41 #[.string (str p3), .agg #[.int .i64 (v2 : Int), .int .i64 M, .int .i64 (v0 : Int), .int .i64 0, .int .i64 0, .int .i64 0, .int .i64 0]] u fun e w' => ∃ th tm ts : Int, e = .returned (.tuple #[.agg #[.int .i64 (v2 : Int), .int .i64 M, .int .i64 (v0 : Int), .int .i64 th, .int .i64 tm, .int .i64 ts, .int .i64 0], .bool kt]) ∧ (kt = true → ∃ a b c : Nat, clock? p3 = some (a, b, c) ∧ th = a ∧ tm = b ∧ ts = c) ∧ Below u.heap.size u w') := fun u => by
                  have := l4Time_any (str p3) v2 M v0 0 0 0 0 u (by rw [str_size]; exact Nat.le_trans (HP200.out p3 (by simp)) (by omega))
                  rw [str_list] at this
                  refine this.mono ?_
                  rintro e w' ⟨th, tm, ts, h1, h2, h3⟩
                  refine ⟨th, tm, ts, by rw [h1, HKT.out], fun hk => ?_, h3⟩
                  have hk2 := HKT.out
                  rw [hk] at hk2
                  cases hc : clock? p3 with
                  | none => rw [hc] at hk2; cases hk2
                  | some t => exact ⟨t.1, t.2.1, t.2.2, rfl, h2 t.1 t.2.1 t.2.2 hc⟩
                go_region_with (go_at_call 41; refine (HTM.out _).mono ?_; rintro e w7 ⟨th, tm, ts, rfl, Htm, hb7⟩; have HS7 := Lib.hid (HSY.out.next (nx ((Below.refl _ _).drew) hb7) (by omega) (by omega)); obtain ⟨x0, x1, x2, x3, x4, x5, x6⟩ := HS7.out.date; simp only at x0 x1 x2 x3 x4 x5 x6; have e0 := HS7.out.fzd 0; have e1 := HS7.out.fzd 1; have e2 := HS7.out.fzd 2; have e3 := HS7.out.fzd 3; have e4 := HS7.out.fzd 4; have e5 := HS7.out.fzd 5; have e6 := HS7.out.fzd 6)
                all_goals
                  have HS8 := Lib.hid (((((((HS7.out.set (laid7_y HS7.out.date (v2 : Int)) hrne hgne (Nat.le_refl _)) |> fun k => (k.set (laid7_m k.date M) hrne hgne (Nat.le_refl _))) |> fun k => (k.set (laid7_d k.date (v0 : Int)) hrne hgne (Nat.le_refl _))) |> fun k => (k.set (laid7_h k.date th) hrne hgne (Nat.le_refl _))) |> fun k => (k.set (laid7_i k.date tm) hrne hgne (Nat.le_refl _))) |> fun k => (k.set (laid7_s k.date ts) hrne hgne (Nat.le_refl _))) |> fun k => (k.set (laid7_z k.date 0) hrne hgne (Nat.le_refl _)))
                  have HTMC := Lib.hid Htm
                  clear x0 x1 x2 x3 x4 x5 x6 e0 e1 e2 e3 e4 e5 e6 HS7 Htm hb7 y0 y1 y2 y3 y4 y5 y6 f0 f1 f2 f3 f4 f5 f6 c3 HSY HTM HD0 HD2
                  go_upto_region 28 with fail
                  generalize (((((((w7.setCell ⟨wo.heap.size, 0, none⟩ (.int .i64 (v2 : Int))).setCell ⟨wo.heap.size, 1, none⟩ (.int .i64 M)).setCell ⟨wo.heap.size, 2, none⟩ (.int .i64 (v0 : Int))).setCell ⟨wo.heap.size, 3, none⟩ (.int .i64 th)).setCell ⟨wo.heap.size, 4, none⟩ (.int .i64 tm)).setCell ⟨wo.heap.size, 5, none⟩ (.int .i64 ts)).setCell ⟨wo.heap.size, 6, none⟩ (.int .i64 0)) = w8 at *
                  have c4' := HS8.out.parts 4 (by simp)
                  simp only [List.getElem_cons_succ, List.getElem_cons_zero] at c4'
                  obtain ⟨y0, y1, y2, y3, y4, y5, y6⟩ := HS8.out.date
                  simp only at y0 y1 y2 y3 y4 y5 y6
                  have f6 := HS8.out.fzd 6
                  obtain ⟨kz, HKZ⟩ : ∃ k, Hid ((zone? p4).isSome = k) := ⟨_, rfl⟩
                  have HOF : Hid (∀ u, Calls Tryz.prog 42 #[.string (str p4)] u fun e w' => ∃ v : Int, -100000000 ≤ v ∧ v ≤ 100000000 ∧ e = .returned (.tuple #[.int .i64 v, .bool kz]) ∧ (∀ m, zone? p4 = some m → m = v) ∧ w' = u) := fun u => by
                    have := l4Offset_any (str p4) u (by rw [str_size]; exact Nat.le_trans (HP200.out p4 (by simp)) (by omega))
                    rw [str_list] at this
                    refine this.mono ?_
                    rintro e w' ⟨v, h1, h2, h3, h4, h5⟩
                    exact ⟨v, h1, h2, by rw [h3, HKZ.out], h4, h5⟩
                  go_wp2_with fail
                  refine (HOF.out _).mono ?_
                  rintro e wq4 ⟨v4, hv4a, hv4b, rfl, Hz4, rfl⟩
                  have HZ4 := Lib.hid Hz4
                  have HS9 := Lib.hid (HS8.out.set (laid7_z HS8.out.date v4) hrne hgne (Nat.le_refl _))
                  clear Hz4 HOF c4'
                  go_upto_region 30 with fail
                  generalize wq4.setCell ⟨wo.heap.size, 6, none⟩ (.int .i64 v4) = w9 at *
                  clear f6 HS8 y0 y1 y2 y3 y4 y5 y6
                  obtain ⟨y0, y1, y2, y3, y4, y5, y6⟩ := HS9.out.date
                  simp only at y0 y1 y2 y3 y4 y5 y6
                  obtain ⟨z0, z1, z2, z3, z4, z5, z6⟩ := HS9.out.res
                  simp only at z0 z1 z2 z3 z4 z5 z6
                  have g0 := HS9.out.fzr 0
                  have g1 := HS9.out.fzr 1
                  have g2 := HS9.out.fzr 2
                  have g3 := HS9.out.fzr 3
                  have g4' := HS9.out.fzr 4
                  have g5 := HS9.out.fzr 5
                  have g6 := HS9.out.fzr 6
                  cases k0 with
                  | false =>
                    have HN : Hid (parseU s.data.toList = none) := by show _ = _; rw [HPO.out]; exact read5_none _ (.inl HK0.out)
                    go_wp2
                    refine bodyPost_ret (v := .tuple #[.agg #[.int .i64 0, .int .i64 0, .int .i64 0, .int .i64 0, .int .i64 0, .int .i64 0, .int .i64 0], .bool false]) (by simp [results, Tryz.results11, go_sem, z0, z1, z2, z3, z4, z5, z6]) rfl (dateRet_none HN.out ?_)
                    iterate 7 refine Below.setCell ?_ (by first | exact Nat.le_refl _ | simp) _
                    exact nx HB0.out (nx HB.out HS9.out.below)
                  | true =>
                  cases k2 with
                  | false =>
                    have HN : Hid (parseU s.data.toList = none) := by show _ = _; rw [HPO.out]; exact read5_none _ (.inr (.inl HK2.out))
                    go_wp2
                    refine bodyPost_ret (v := .tuple #[.agg #[.int .i64 0, .int .i64 0, .int .i64 0, .int .i64 0, .int .i64 0, .int .i64 0, .int .i64 0], .bool false]) (by simp [results, Tryz.results11, go_sem, z0, z1, z2, z3, z4, z5, z6]) rfl (dateRet_none HN.out ?_)
                    iterate 7 refine Below.setCell ?_ (by first | exact Nat.le_refl _ | simp) _
                    exact nx HB0.out (nx HB.out HS9.out.below)
                  | true =>
                  cases kt with
                  | false =>
                    have HN : Hid (parseU s.data.toList = none) := by show _ = _; rw [HPO.out]; exact read5_none _ (.inr (.inr (.inl HKT.out)))
                    go_wp2
                    refine bodyPost_ret (v := .tuple #[.agg #[.int .i64 0, .int .i64 0, .int .i64 0, .int .i64 0, .int .i64 0, .int .i64 0, .int .i64 0], .bool false]) (by simp [results, Tryz.results11, go_sem, z0, z1, z2, z3, z4, z5, z6]) rfl (dateRet_none HN.out ?_)
                    iterate 7 refine Below.setCell ?_ (by first | exact Nat.le_refl _ | simp) _
                    exact nx HB0.out (nx HB.out HS9.out.below)
                  | true =>
                  cases kz with
                  | false =>
                    have HN : Hid (parseU s.data.toList = none) := by show _ = _; rw [HPO.out]; exact read5_none _ (.inr (.inr (.inr HKZ.out)))
                    go_wp2
                    refine bodyPost_ret (v := .tuple #[.agg #[.int .i64 0, .int .i64 0, .int .i64 0, .int .i64 0, .int .i64 0, .int .i64 0, .int .i64 0], .bool false]) (by simp [results, Tryz.results11, go_sem, z0, z1, z2, z3, z4, z5, z6]) rfl (dateRet_none HN.out ?_)
                    iterate 7 refine Below.setCell ?_ (by first | exact Nat.le_refl _ | simp) _
                    exact nx HB0.out (nx HB.out HS9.out.below)
                  | true =>
                  have HRD : Hid (readD [p0, p1, p2, p3, p4] = some ⟨v2, M, v0, th, tm, ts, v4⟩) := by
                    show _ = _
                    obtain ⟨ta, tb, tc, e1, e2, e3, e4⟩ := HTMC.out rfl
                    have e5 : zone? p4 = some v4 := by
                      cases hz : zone? p4 with
                      | none => have := HKZ.out; rw [hz] at this; cases this
                      | some m => rw [HZ4.out m hz]
                    rw [readD5, HV0.out rfl, HV2.out rfl, e1, e5, HME.out, e2, e3, e4]; rfl
                  by_cases hok : OkDate ⟨v2, M, v0, th, tm, ts, v4⟩
                  · have HDV : Hid (∀ u, Calls Tryz.prog 8 #[.agg #[.int .i64 (v2 : Int), .int .i64 M, .int .i64 (v0 : Int), .int .i64 th, .int .i64 tm, .int .i64 ts, .int .i64 v4]] u fun e w' => e = .returned (.bool true) ∧ Below u.heap.size u w') := fun u => by rw [← okDB_ok hok]; exact dateValidS_any ⟨v2, M, v0, th, tm, ts, v4⟩ u
                    have HOK := Lib.hid hok
                    have hw9 := HS9.out.below.size
                    clear hok
                    go_wp2_with fail
                    refine (HDV.out _).mono ?_
                    rintro e wv ⟨rfl, hbv⟩
                    have HSV := Lib.hid (HS9.out.next hbv (by omega) (by omega))
                    clear y0 y1 y2 y3 y4 y5 y6 z0 z1 z2 z3 z4 z5 z6 g0 g1 g2 g3 g4' g5 g6
                    obtain ⟨y0, y1, y2, y3, y4, y5, y6⟩ := HSV.out.date
                    simp only at y0 y1 y2 y3 y4 y5 y6
                    obtain ⟨z0, z1, z2, z3, z4, z5, z6⟩ := HSV.out.res
                    simp only at z0 z1 z2 z3 z4 z5 z6
                    have g0 := HSV.out.fzr 0
                    have g1 := HSV.out.fzr 1
                    have g2 := HSV.out.fzr 2
                    have g3 := HSV.out.fzr 3
                    have g4' := HSV.out.fzr 4
                    have g5 := HSV.out.fzr 5
                    have g6 := HSV.out.fzr 6
                    have HWD : Hid (∀ u, Calls Tryz.prog 17 #[.agg #[.int .i64 (v2 : Int), .int .i64 M, .int .i64 (v0 : Int), .int .i64 th, .int .i64 tm, .int .i64 ts, .int .i64 v4]] u fun e w' => e = .returned (.string (str (wdayT ⟨v2, M, v0, th, tm, ts, v4⟩))) ∧ Below u.heap.size u w') := fun u => by rw [← wdayF_ok HOK.out]; exact weekdayOfS_any ⟨v2, M, v0, th, tm, ts, v4⟩ u
                    have hwl3 : (str (wdayT ⟨v2, M, v0, th, tm, ts, v4⟩)).size = 3 := by rw [str_size]; exact wdN_len _
                    have htp : (str (trimS p)).size ≤ 200 := by rw [str_size]; have := trimS_len p; omega
                    have HST3 : Hid (∀ u, Calls Tryz.prog 40 #[.string (str (trimS p)), .string (str (wdayT ⟨v2, M, v0, th, tm, ts, v4⟩))] u fun e w' => e = .returned (.bool (sameN (trimS p) (wdayT ⟨v2, M, v0, th, tm, ts, v4⟩))) ∧ Below u.heap.size u w') := fun u => by
                      have := sameTextS_any (str (trimS p)) (str (wdayT ⟨v2, M, v0, th, tm, ts, v4⟩)) u (by omega) (by omega)
                      rw [sameS_str] at this; exact this
                    have hwv := HSV.out.below.size
                    cases hsd : sameN (trimS p) (wdayT ⟨v2, M, v0, th, tm, ts, v4⟩)
                    · have HN : Hid (parseU s.data.toList = none) := by show _ = _; rw [HPO.out, HRD.out]; exact okO_other hsd
                      rw [hsd] at HST3
                      clear hsd
                      generalize str (wdayT ⟨v2, M, v0, th, tm, ts, v4⟩) = S7 at *
                      go_wp2_with fail
                      refine (HWD.out _).mono ?_
                      rintro e wy1 ⟨rfl, hby1⟩
                      go_wp2_with fail
                      refine (HST3.out _).mono ?_
                      rintro e wy2 ⟨rfl, hby2⟩
                      have HSW := Lib.hid (HSV.out.next (nx hby1 hby2) (by omega) (by omega))
                      clear y0 y1 y2 y3 y4 y5 y6 z0 z1 z2 z3 z4 z5 z6 g0 g1 g2 g3 g4' g5 g6
                      obtain ⟨y0, y1, y2, y3, y4, y5, y6⟩ := HSW.out.date
                      simp only at y0 y1 y2 y3 y4 y5 y6
                      obtain ⟨z0, z1, z2, z3, z4, z5, z6⟩ := HSW.out.res
                      simp only at z0 z1 z2 z3 z4 z5 z6
                      have g0 := HSW.out.fzr 0
                      have g1 := HSW.out.fzr 1
                      have g2 := HSW.out.fzr 2
                      have g3 := HSW.out.fzr 3
                      have g4' := HSW.out.fzr 4
                      have g5 := HSW.out.fzr 5
                      have g6 := HSW.out.fzr 6
                      go_wp2
                      refine bodyPost_ret (v := .tuple #[.agg #[.int .i64 0, .int .i64 0, .int .i64 0, .int .i64 0, .int .i64 0, .int .i64 0, .int .i64 0], .bool false]) (by simp [results, Tryz.results11, go_sem, z0, z1, z2, z3, z4, z5, z6]) rfl (dateRet_none HN.out ?_)
                      iterate 7 refine Below.setCell ?_ (by first | exact Nat.le_refl _ | simp) _
                      exact nx HB0.out (nx HB.out HSW.out.below)
                    · have HYES : Hid (parseU s.data.toList = some ⟨v2, M, v0, th, tm, ts, v4⟩) := by show _ = _; rw [HPO.out, HRD.out]; exact okO_some HOK.out hsd
                      rw [hsd] at HST3
                      clear hsd
                      generalize str (wdayT ⟨v2, M, v0, th, tm, ts, v4⟩) = S7 at *
                      go_wp2_with fail
                      refine (HWD.out _).mono ?_
                      rintro e wy1 ⟨rfl, hby1⟩
                      go_wp2_with fail
                      refine (HST3.out _).mono ?_
                      rintro e wy2 ⟨rfl, hby2⟩
                      have HSW := Lib.hid (HSV.out.next (nx hby1 hby2) (by omega) (by omega))
                      clear y0 y1 y2 y3 y4 y5 y6 z0 z1 z2 z3 z4 z5 z6 g0 g1 g2 g3 g4' g5 g6
                      obtain ⟨y0, y1, y2, y3, y4, y5, y6⟩ := HSW.out.date
                      simp only at y0 y1 y2 y3 y4 y5 y6
                      obtain ⟨z0, z1, z2, z3, z4, z5, z6⟩ := HSW.out.res
                      simp only at z0 z1 z2 z3 z4 z5 z6
                      have g0 := HSW.out.fzr 0
                      have g1 := HSW.out.fzr 1
                      have g2 := HSW.out.fzr 2
                      have g3 := HSW.out.fzr 3
                      have g4' := HSW.out.fzr 4
                      have g5 := HSW.out.fzr 5
                      have g6 := HSW.out.fzr 6
                      go_wp2
                      refine bodyPost_ret (v := .tuple #[.agg #[.int .i64 (v2 : Int), .int .i64 M, .int .i64 (v0 : Int), .int .i64 th, .int .i64 tm, .int .i64 ts, .int .i64 v4], .bool true]) (by simp [results, Tryz.results11, go_sem, z0, z1, z2, z3, z4, z5, z6]) rfl (dateRet_some HYES.out ?_)
                      iterate 7 refine Below.setCell ?_ (by first | exact Nat.le_refl _ | simp) _
                      exact nx HB0.out (nx HB.out HSW.out.below)
                  · have HDV : Hid (∀ u, Calls Tryz.prog 8 #[.agg #[.int .i64 (v2 : Int), .int .i64 M, .int .i64 (v0 : Int), .int .i64 th, .int .i64 tm, .int .i64 ts, .int .i64 v4]] u fun e w' => e = .returned (.bool false) ∧ Below u.heap.size u w') := fun u => by rw [← okDB_no hok]; exact dateValidS_any ⟨v2, M, v0, th, tm, ts, v4⟩ u
                    have HN : Hid (parseU s.data.toList = none) := by show _ = _; rw [HPO.out, HRD.out]; exact okO_bad hok
                    have hw9 := HS9.out.below.size
                    clear hok
                    go_wp2_with fail
                    refine (HDV.out _).mono ?_
                    rintro e wv ⟨rfl, hbv⟩
                    have HSV := Lib.hid (HS9.out.next hbv (by omega) (by omega))
                    clear y0 y1 y2 y3 y4 y5 y6 z0 z1 z2 z3 z4 z5 z6 g0 g1 g2 g3 g4' g5 g6
                    obtain ⟨y0, y1, y2, y3, y4, y5, y6⟩ := HSV.out.date
                    simp only at y0 y1 y2 y3 y4 y5 y6
                    obtain ⟨z0, z1, z2, z3, z4, z5, z6⟩ := HSV.out.res
                    simp only at z0 z1 z2 z3 z4 z5 z6
                    have g0 := HSV.out.fzr 0
                    have g1 := HSV.out.fzr 1
                    have g2 := HSV.out.fzr 2
                    have g3 := HSV.out.fzr 3
                    have g4' := HSV.out.fzr 4
                    have g5 := HSV.out.fzr 5
                    have g6 := HSV.out.fzr 6
                    go_wp2
                    refine bodyPost_ret (v := .tuple #[.agg #[.int .i64 0, .int .i64 0, .int .i64 0, .int .i64 0, .int .i64 0, .int .i64 0, .int .i64 0], .bool false]) (by simp [results, Tryz.results11, go_sem, z0, z1, z2, z3, z4, z5, z6]) rfl (dateRet_none HN.out ?_)
                    iterate 7 refine Below.setCell ?_ (by first | exact Nat.le_refl _ | simp) _
                    exact nx HB0.out (nx HB.out HSV.out.below)
          · have HN : Hid (parseU s.data.toList = none) := by show _ = _; rw [HPO.out, readD_no h5]; rfl
            obtain ⟨a3, c3, rfl, hr3, _⟩ := hown.read
            have HFR := HZ.out wr (HB.out)
            obtain ⟨⟨z0, z1, z2, z3, z4, z5, z6⟩, hfz⟩ := HFR
            simp only at z0 z1 z2 z3 z4 z5 z6
            have f0 := hfz 0
            have f1 := hfz 1
            have f2 := hfz 2
            have f3 := hfz 3
            have f4 := hfz 4
            have f5 := hfz 5
            have f6 := hfz 6
            have h5i : ((acc.length : Int) != 5) = true := by rw [bne_iff_ne]; omega
            clear hfz h5 hr3
            go_wp2
            refine bodyPost_ret (v := .tuple #[.agg #[.int .i64 0, .int .i64 0, .int .i64 0, .int .i64 0, .int .i64 0, .int .i64 0, .int .i64 0], .bool false]) (by simp [results, Tryz.results11, go_sem, z0, z1, z2, z3, z4, z5, z6]) rfl (dateRet_none HN.out ?_)
            iterate 7 refine Below.setCell ?_ (by first | exact Nat.le_refl _ | simp) _
            exact nx HB0.out HB.out
end Go.Proofs.YtboopbjdehdhgaaGreatDoor
