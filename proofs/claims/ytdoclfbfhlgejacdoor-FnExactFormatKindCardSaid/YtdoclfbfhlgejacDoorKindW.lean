/-
  Kinds: what the model's FormatKind returns. No statement is proved here.
-/
import Derived.Test.YtdoclfbfhlgejacDoorKindV
namespace Go.Proofs.YtdoclfbfhlgejacDoor
open Go.RowKit

theorem part_strS (T N Q : ByteArray) (l : List UInt8) (f : Fld) (hT : T = str l) (hN : N = str f.name) (hQ : Q = str (quoteW f.val)) : T ++ (⟨#[59, 32]⟩ : ByteArray) ++ N ++ (⟨#[61]⟩ : ByteArray) ++ Q = str (l ++ parT f) := by
  subst hT hN hQ
  apply bytes_ext
  rw [str_list]
  simp only [Joins.data_append, str_list]
  unfold parT; simp
set_option maxRecDepth 100000 in
set_option maxHeartbeats 1000000 in
theorem formatKindS_any (m s : ByteArray) (a : Option Addr) (n c : Nat) (xs : List Fld) (w : World) (hm : m.size ≤ 1073741824) (hs : s.size ≤ 1073741824) (hr : RdF w a n xs) (hnc : n ≤ c) (hn : n ≤ 1073741824) (hx : ∀ x ∈ xs, SmallF 1048576 x) :
    Calls Tryd.prog 18 #[.agg #[.string m, .string s, .slice a n c]] w fun e w' => e = .returned (.string (str (fmtK ⟨m.data.toList, s.data.toList, xs⟩))) ∧ Below w.heap.size w w' := by
  have hb0 : Below w.heap.size w (w.alloc (.cells #[.string m, .string s, .slice a n c] 25)) := (Below.refl _ _).alloc (Nat.le_refl _) _
  have HK0 := Lib.hid (KK3.new w (.string m) (.string s) (.slice a n c) 25)
  have HV := Lib.hid (kindValidS_any m s a n c xs _ hm hs (hr.below hb0) hnc hn hx)
  cases hv : isKnd ⟨m.data.toList, s.data.toList, xs⟩
  · have HF : Hid (str (fmtK ⟨m.data.toList, s.data.toList, xs⟩) = ⟨#[]⟩) := by show _ = _; rw [fmtK_no hv]; rfl
    rw [hv] at HV
    clear hv
    go_enter Tryd.func18, Tryd.ntmps18
    go_wp2_with fail
    refine (HV.out).mono ?_
    rintro e w1 ⟨rfl, hb1⟩
    go_wp2
    go_ret
    exact ⟨ret_str HF.out.symm, nx hb0 hb1⟩
  · have HFT : Hid (str (fmtK ⟨m.data.toList, s.data.toList, xs⟩) = str (textK ⟨m.data.toList, s.data.toList, xs⟩)) := by show _ = _; rw [fmtK_val hv]
    obtain ⟨h1, h2, h3, h4, h5⟩ := isKnd_iff.1 hv
    have hm1 := small_size h1
    have hs1 := small_size h2
    have hn4 : n ≤ 4 := by have := hr.1; have : xs.length ≤ 4 := h3; omega
    have HX := Lib.hid (parsOk_small h4)
    rw [hv] at HV
    have HR := Lib.hid (hr.below hb0)
    have HLEN := Lib.hid hr.1
    have HD : Hid (m ++ ⟨#[47]⟩ ++ s = str (m.data.toList ++ 47 :: s.data.toList)) := by
      show _ = _
      apply bytes_ext
      rw [str_list]
      simp only [Joins.data_append]
      simp
    have HTX : Hid (textK ⟨m.data.toList, s.data.toList, xs⟩ = (m.data.toList ++ 47 :: s.data.toList) ++ parsT xs) := textK_split _
    have hz1 : (⟨#[47]⟩ : ByteArray).size = 1 := rfl
    have hz2 : (⟨#[59, 32]⟩ : ByteArray).size = 2 := rfl
    have hz3 : (⟨#[61]⟩ : ByteArray).size = 1 := rfl
    clear hv h1 h2 h3 h4 h5 hr hx hm hs
    generalize hl : m.data.toList ++ 47 :: s.data.toList = l0 at *
    have HLL := Lib.hid hl
    clear hl
    go_enter Tryd.func18, Tryd.ntmps18
    go_wp2_with fail
    generalize hW : w.alloc (.cells #[.string m, .string s, .slice a n c] 25) = W0 at *
    clear hW
    refine (HV.out).mono ?_
    rintro e w1 ⟨rfl, hb1⟩
    have HK1 := Lib.hid (HK0.out.below hb1)
    obtain ⟨k0, k1, k2⟩ := HK1.out
    go_wp2_with fail
    clear k0 k1 k2
    go_loopw [3, 4] (fun t i wr => ∃ (k : Nat) (T : ByteArray), k ≤ n ∧ i = .int .i64 k ∧ t = .string T ∧ T = str (l0 ++ parsT (xs.take k)) ∧ T.size ≤ 2001 + 1405 * k ∧ Below w1.heap.size w1 wr) (fun _ i _ => n - (intOf i).toNat)
    case atStart => exact ⟨0, _, Nat.zero_le _, rfl, rfl, by rw [List.take_zero]; show m ++ ⟨#[47]⟩ ++ s = str (l0 ++ []); rw [List.append_nil]; exact HD.out, by show (m ++ (⟨#[47]⟩ : ByteArray) ++ s).size ≤ _; rw [ByteArray.size_append, ByteArray.size_append, hz1]; omega, Below.refl _ _⟩
    case round =>
      obtain ⟨k, T, hk, rfl, rfl, hT, hTz, hb⟩ := hrel
      have HT := Lib.hid hT
      clear hT
      have HK2 := Lib.hid (HK1.out.below hb)
      obtain ⟨k0, k1, k2⟩ := HK2.out
      by_cases hlt : k < n
      · have hkx : k < xs.length := by rw [HLEN.out]; exact hlt
        obtain ⟨b, off, rfl, hbl, hcell⟩ := HR.out.2.resolve_left (by omega)
        obtain ⟨q0, q1⟩ := RdR.fld hcell hkx
        have hbW := nx hb1 hb
        rw [← below_at hbW hbl] at q0 q1
        have HQ0 : Hid (∀ u, Below wr.heap.size wr u → u.cell? ⟨b, off + k * 2, none⟩ = some (.string (str xs[k].name)) ∧ u.cell? ⟨b, off + k * 2 + 1, none⟩ = some (.string (str xs[k].val))) := fun u h => by
          have hbl2 := Nat.lt_of_lt_of_le hbl hbW.size
          exact ⟨by rw [below_at h hbl2]; exact q0, by rw [below_at h hbl2]; exact q1⟩
        have hsz := HX.out _ (List.getElem_mem hkx)
        have hpl := parT_len xs[k] hsz
        have hz0 : (str xs[k].name).size ≤ 1000 := by rw [str_size]; exact hsz.1
        have hzv : (str xs[k].val).size ≤ 1000 := by rw [str_size]; exact hsz.2
        have hql : (str (quoteW xs[k].val)).size ≤ 402 := by rw [str_size]; exact quoteW_len _
        have HNX : Hid (T ++ (⟨#[59, 32]⟩ : ByteArray) ++ str xs[k].name ++ (⟨#[61]⟩ : ByteArray) ++ str (quoteW xs[k].val) = str (l0 ++ parsT (xs.take (k + 1)))) := by
          show _ = _
          rw [part_strS T _ _ _ xs[k] HT.out rfl rfl, parsT_take xs k hkx, List.append_assoc]
        have HQ : Hid (∀ u, Calls Tryd.prog 42 #[.string (str xs[k].val)] u fun e w' => e = .returned (.string (str (quoteW xs[k].val))) ∧ Below u.heap.size u w') := fun u => by
          have := quoteWordS_any (str xs[k].val) u (by omega)
          rw [str_list] at this; exact this
        have hsum : (T ++ (⟨#[59, 32]⟩ : ByteArray) ++ str xs[k].name ++ (⟨#[61]⟩ : ByteArray) ++ str (quoteW xs[k].val)).size ≤ 2001 + 1405 * (k + 1) := by
          rw [ByteArray.size_append, ByteArray.size_append, ByteArray.size_append, ByteArray.size_append, hz2, hz3]; omega
        clear hcell hsz hpl q0 q1
        generalize str (quoteW xs[k].val) = Q at *
        generalize str xs[k].name = N at *
        generalize str xs[k].val = V at *
        go_wp2_with fail
        clear k0 k1 k2
        have z2 := fun (y : BelowT wr) => (HK2.out.below y.below).2.2
        have y0 := fun (y : BelowT wr) => (HQ0.out y.val y.below).1
        have y1 := fun (y : BelowT wr) => (HQ0.out y.val y.below).2
        refine wp_region_quietB (W := wr) (by kernel_rfl) (by kernel_rfl) (Below.refl _ _) ?_
        repeat (go_big_quiet_step (first
          | (go_at_call 42; exact calls_belowT (HQ.out _))))
        refine wpQuiet_nil ?_
        intro wz hwz
        obtain ⟨x9, rfl⟩ := hwz
        have hbx := nx hb x9.below
        clear y0 y1 z2
        generalize x9.val = w9 at *
        go_wp2
        go_roundw
        case rel => exact ⟨k + 1, _, by omega, by go_num, rfl, HNX.out, hsum, hbx⟩
        case measure => simp [intOf]; omega
      · have HF : Hid (T = str (textK ⟨m.data.toList, s.data.toList, xs⟩)) := by
          show _ = _
          rw [HT.out, HTX.out, List.take_of_length_le (by rw [HLEN.out]; omega)]
        go_wp2
        go_ret
        exact ⟨ret_str (by rw [HFT.out]; exact HF.out), nx hb0 (nx hb1 hb)⟩
end Go.Proofs.YtdoclfbfhlgejacDoor
