/-
  Lists of fields in the exact laws: a list that came in; marks. No statement is proved here.
-/
import Derived.Test.YtdoclfbfhlgejacDoorListsF
namespace Go.Proofs.YtdoclfbfhlgejacDoor
open Go.ChangeShapes Go.WideShapes Go.RowKit Go.Deep

theorem cells2 {H : Type} {enc : TypeId × Value → H} {P : Program} {W : World} {base : Nat} {spare : Nat → Bool} {held : Bool} {T : TypeId} {f0 f1 : Field} {f : Nat} {cs : List Value} {x : DataW H × List MemPlace} (hs : P.underlying T = some (.struct #[f0, f1])) (hone : oneCellFields P #[f0, f1] = true)
    (h : DataW.trod enc P W base spare held f T cs = some x) (hl : cs.length = 2) :
    ∃ c0 c1 y0 y1 n, cs = [c0, c1] ∧ DataW.trod enc P W base spare held n f0.type [c0] = some y0 ∧ DataW.trod enc P W base spare held n f1.type [c1] = some y1 := by
  obtain ⟨ys, n', hn', hy, hlen, hyl, hf⟩ := DataW.trod_struct hs h
  match cs, hl with
  | [c0, c1], _ =>
    have g0 := hf 0 f0 rfl
    have g1 := hf 1 f1 rfl
    obtain ⟨o0, k0⟩ := hone_of hone 0 f0 rfl
    obtain ⟨o1, k1⟩ := hone_of hone 1 f1 rfl
    rw [o0, k0] at g0
    rw [o1, k1] at g1
    match ys, hyl with
    | [y0, y1], _ => exact ⟨c0, c1, y0, y1, n', rfl, g0, g1⟩
theorem addr_noneF (b o j : Nat) : (⟨b, o, none⟩ : Addr).add j = ⟨b, o + j, none⟩ := by unfold Addr.add; split <;> simp_all
set_option maxRecDepth 100000 in
theorem fld_cells {H : Type} {enc : TypeId × Value → H} {W : World} {f : Nat} {cs : List Value} {x : DataW H × List MemPlace} (h : DataW.trod enc Tryd.prog W 0 (fun _ => true) true f 82 cs = some x) (hl : cs.length = 2) :
    ∃ s0 s1 : ByteArray, cs = [.string s0, .string s1] ∧ s0.size ≤ maxLen ∧ s1.size ≤ maxLen := by
  obtain ⟨c0, c1, y0, y1, n, rfl, g0, g1⟩ := cells2 Tryd.underlying82 (by kernel_rfl) h hl
  obtain ⟨s0, e0, _, z0⟩ := DataW.trod_string Tryd.underlying9 g0
  obtain ⟨s1, e1, _, z1⟩ := DataW.trod_string Tryd.underlying9 g1
  injection e0 with e0 _
  injection e1 with e1 _
  subst e0 e1
  exact ⟨s0, s1, rfl, z0, z1⟩
set_option maxRecDepth 100000 in
theorem flds_of_trod {H : Type} {enc : TypeId × Value → H} {W : World} {a : Option Addr} {n c : Nat} {d : DataW H} {p : List MemPlace}
    (h : DataW.Trod enc Tryd.prog W 0 (fun _ => true) true 33 (Value.slice a n c) d p) : ∃ xs, RdF W a n xs ∧ n ≤ maxLen ∧ ∀ x ∈ xs, SmallF maxLen x := by
  obtain ⟨fuel, hf⟩ := h
  have hC : Tryd.prog.cellsOf 82 = 2 := by kernel_rfl
  rcases open_slice Tryd.underlying33 hf with ⟨hcs, _⟩ | ⟨x, l, k, m, f, D, Pl, hcs, _, hl, hm, hmm, _, hi⟩
  · simp [Value.cells] at hcs
    obtain ⟨rfl, rfl, rfl⟩ := hcs
    exact ⟨[], ⟨rfl, .inl rfl⟩, Nat.zero_le _, fun j hj => by simp at hj⟩
  · simp [Value.cells] at hcs
    obtain ⟨rfl, rfl, rfl⟩ := hcs
    have hmm' : m = c := by simpa using hmm
    subst hmm'
    have hq : ∀ i, i < m → ∃ y : Fld, SmallF maxLen y ∧ ∀ d v, (fldC y)[d]? = some v → W.cell? (x.add (i * 2 + d)) = some v := by
      intro i him
      obtain ⟨cs', hc, ht'⟩ := hi i him
      rw [hC] at hc
      obtain ⟨_, hcl, hat⟩ := World.cells?_some hc
      obtain ⟨s0, s1, rfl, z0, z1⟩ := fld_cells ht' hcl
      refine ⟨fld s0 s1, ⟨?_, ?_⟩, fun d v hv => ?_⟩
      · unfold fld; simpa [size_list] using z0
      · unfold fld; simpa [size_list] using z1
      · have hv' : (fldC (fld s0 s1)) = [.string s0, .string s1] := by unfold fldC fld; simp only [str_of]
        rw [hv'] at hv
        have hd : d < 2 := by rcases Nat.lt_or_ge d 2 with h | h; exact h; rw [List.getElem?_eq_none (by simpa using h)] at hv; cases hv
        have := hat d hd
        rw [Go.Deep.add_add] at this
        rw [this]; exact hv
    obtain ⟨b, off, spot⟩ := x
    refine ⟨(List.range n).map (fun i => if h : i < m then Classical.choose (hq i h) else fld0), ⟨by simp, ?_⟩, by omega, fun y hy => ?_⟩
    · by_cases h0 : n = 0
      · exact .inl h0
      · have hc0 := (Classical.choose_spec (hq 0 (by omega))).2 0 _ rfl
        have hspot : spot = none := by simpa [Addr.add] using World.cell?_spot hc0
        subst hspot
        rw [addr_noneF] at hc0
        refine .inr ⟨b, off, rfl, lt_of_cell hc0, fun i hi' d v hv => ?_⟩
        have hin : i < n := by simpa using hi'
        have him : i < m := by omega
        rw [List.getElem_map, List.getElem_range, dif_pos him] at hv
        have := (Classical.choose_spec (hq i him)).2 d v hv
        rw [addr_noneF, ← Nat.add_assoc] at this
        exact this
    · obtain ⟨i, hi', rfl⟩ := List.mem_map.1 hy
      have hin : i < n := by simpa using hi'
      rw [dif_pos (by omega : i < m)]
      exact (Classical.choose_spec (hq i (by omega))).1
theorem markTextF_any (q : Int) (k : Nat) (w : World) (hq : q = (k : Int)) (hk0 : 0 < k) (hk : k ≤ 1073741824) :
    Calls Tryd.prog 81 #[.int .i64 q] w fun e w' => e = .returned (.string (str (mT k))) ∧ Below w.heap.size w w' := by
  subst hq
  exact markText_any k w hk0 hk
/-- The marks from k on, two for each field. -/
def markF (k j : Nat) : Fld := ⟨mT (k + 2 * j), mT (k + 2 * j + 1)⟩
def marksF (k n : Nat) : List Fld := (List.range n).map (markF k)
theorem marksF_len (k n : Nat) : (marksF k n).length = n := by simp [marksF]
theorem marksF_at (k n j : Nat) (h : j < (marksF k n).length) : (marksF k n)[j] = markF k j := by simp [marksF]
def MarkedF (B k : Nat) (a : Option Addr) (n c : Nat) (w : World) (e : Ending) (w' : World) : Prop := e = .returned (.int .i64 ((k + 2 * n : Nat) : Int)) ∧ OwnF B (.slice a n c) (marksF k n) w' ∧ Only (Value.slice a n c).ownBlock w w'
theorem markedF_mk {B k : Nat} {a : Option Addr} {n c : Nat} {w w' : World} {q : Int} (hq : q = ((k + 2 * n : Nat) : Int)) (ho : OwnF B (.slice a n c) (marksF k n) w') (hb : Only (Value.slice a n c).ownBlock w w') : MarkedF B k a n c w (.returned (.int .i64 q)) w' := ⟨by rw [hq], ho, hb⟩
theorem set2_rowS {L : List Value} {k : Nat} {xs : List Fld} (x : Fld) (s0 s1 : ByteArray) (e0 : str x.name = s0) (e1 : str x.val = s1) (hk : k * 2 + 1 < L.length) (hx : ∀ (hj : k < xs.length), xs[k] = x)
    (h : ∀ j, j < k → (hj : j < xs.length) → ∀ d, d < 2 → L[j * 2 + d]? = (fldC xs[j])[d]?) :
    ∀ j, j < k + 1 → (hj : j < xs.length) → ∀ d, d < 2 → ((L.set (k * 2) (.string s0)).set (k * 2 + 1) (.string s1))[j * 2 + d]? = (fldC xs[j])[d]? := by
  subst e0 e1
  exact set2_row x hk hx h
set_option maxRecDepth 100000 in
set_option maxHeartbeats 1000000 in
theorem markFieldS_any (B : Nat) (a : Option Addr) (n c : Nat) (xs : List Fld) (k : Nat) (w : World) (ho : OwnF B (.slice a n c) xs w) (hn : xs.length = n) (hk0 : 0 < k) (hk : k + 2 * n ≤ 1073741824) :
    Calls Tryd.prog 52 #[.slice a n c, .int .i64 k] w (MarkedF B k a n c w) := by
  unfold OwnF OwnR at ho
  rw [hn] at ho
  rcases ho.2 with ⟨hv, h0⟩ | ⟨g, cap, cur, hv, hBg, _⟩
  · subst h0
    have HO : Hid (OwnF B (.slice a 0 c) (marksF k 0) w) := by show OwnF _ _ _ _; rw [hv]; exact OwnR.nil _ _ _ B w
    clear hv ho
    go_enter Tryd.func52, Tryd.ntmps52
    go_wp2_with fail
    go_loop [1, 5] (fun q i => q = .int .i64 k ∧ i = .int .i64 0) (fun _ _ => 0)
    case atStart => exact ⟨rfl, rfl⟩
    case round =>
      obtain ⟨rfl, rfl⟩ := hrel
      go_wp2
      go_ret
      exact markedF_mk (by omega) HO.out (Only.refl _ _)
  · injection hv with h1 h2 h3
    subst h1 h3
    have HOB : Hid ((Value.slice (some ⟨g, 0, none⟩) n c).ownBlock = some g) := rfl
    go_enter Tryd.func52, Tryd.ntmps52
    go_wp2_with fail
    go_loopw [1, 5] (fun q i wr => ∃ (j : Nat) (L : List Value) (m : Nat), j ≤ n ∧ m = k + 2 * j ∧ i = .int .i64 j ∧ q = .int .i64 (m : Int) ∧ Only (some g) w wr ∧ wr.ownsRow B 49 2 (.slice (some ⟨g, 0, none⟩) n c) n L ∧ g < wr.heap.size ∧ ∀ u, u < j → (hu : u < (marksF k n).length) → ∀ d, d < 2 → L[u * 2 + d]? = (fldC (marksF k n)[u])[d]?) (fun _ i _ => n - (intOf i).toNat)
    case atStart => exact ⟨0, _, k, Nat.zero_le _, rfl, rfl, rfl, Only.refl _ _, ho, (ho.lt g rfl).2, fun j h => by omega⟩
    case round =>
      obtain ⟨j, L, m, hj, hmj, rfl, rfl, hb, hO, hg, hL⟩ := hrel
      have HL := Lib.hid hL
      clear hL
      by_cases hlt : j < n
      · have hlL : L.length = n * 2 := hO.1
        have h3 : j * 2 + 1 < L.length := by rw [hlL]; omega
        have hm30 : m + 2 ≤ 1073741824 := by omega
        have hm0 : 0 < m := by omega
        have HMJ := Lib.hid hmj
        have HM : Hid (markF k j = ⟨mT m, mT (m + 1)⟩) := by show _ = _; rw [hmj]; rfl
        generalize hM0 : str (mT m) = M0 at *
        generalize hM1 : str (mT (m + 1)) = M1 at *
        have H0 := Lib.hid hM0
        have H1 := Lib.hid hM1
        have HNX := Lib.hid (set2_rowS (xs := marksF k n) (markF k j) M0 M1 (by rw [HM.out]; exact hM0) (by rw [HM.out]; exact hM1) h3 (fun hq => marksF_at k n j hq) HL.out)
        have HO := Lib.hid hO
        have HB := Lib.hid hb
        have HG := Lib.hid hg
        clear hlL hM0 hM1 hO hb hg h3 hmj
        go_wp2_with fail
        refine (markTextF_any _ m _ rfl hm0 (by omega)).mono ?_
        rintro e w1 ⟨rfl, hb1⟩
        rw [H0.out]
        have HO1 := Lib.hid (row_keep HO.out hb1)
        have HG1 : Hid (g < w1.heap.size) := Nat.lt_of_lt_of_le HG.out hb1.size
        obtain ⟨v0, hv0⟩ := row_cell HO1.out (j * 2) (by have := HO1.out.1; omega)
        have f0 : w1.frozen? ⟨g, j * 2, none⟩ = false := HO1.out.frozenAt _
        have HO1s := Lib.hid (HO1.out.stored (j * 2) (.string M0)).1
        have HB1s : Hid (Only (some g) w (w1.setCell ⟨g, j * 2, none⟩ (.string M0))) := (HB.out.ext hb1).setCell _
        have HG1s : Hid (g < (w1.setCell ⟨g, j * 2, none⟩ (.string M0)).heap.size) := by show _ < _; simpa using HG1.out
        clear hb1
        go_wp2_with fail
        refine (markTextF_any _ (m + 1) _ (by omega) (by omega) (by omega)).mono ?_
        rintro e w2 ⟨rfl, hb2⟩
        rw [H1.out]
        have HO2 := Lib.hid (row_keep HO1s.out hb2)
        have HG2 : Hid (g < w2.heap.size) := Nat.lt_of_lt_of_le HG1s.out hb2.size
        obtain ⟨v1, hv1⟩ := row_cell HO2.out (j * 2 + 1) (by have := HO2.out.1; omega)
        have f1 : w2.frozen? ⟨g, j * 2 + 1, none⟩ = false := HO2.out.frozenAt _
        have HST := Lib.hid (HO2.out.stored (j * 2 + 1) (.string M1)).1
        have HB2s : Hid (Only (some g) w (w2.setCell ⟨g, j * 2 + 1, none⟩ (.string M1))) := (HB1s.out.ext hb2).setCell _
        clear hv0 f0 hb2
        go_wp2
        go_roundw
        case rel => exact ⟨j + 1, _, m + 2, by omega, by have := HMJ.out; omega, by go_num, by go_num, HB2s.out, HST.out, by simpa using HG2.out, HNX.out⟩
        case measure => simp [intOf]; omega
      · have hjn : j = n := by omega
        subst hjn
        have HO : Hid (OwnF B (.slice (some ⟨g, 0, none⟩) j c) (marksF k j) wr) := by
          show OwnF _ _ _ _
          unfold OwnF OwnR
          rw [← flat_ext fldC 2 (by omega) fldC_len (marksF k j) L (by rw [hO.1, marksF_len]) (fun u hu => HL.out u (by rw [marksF_len] at hu; exact hu) hu), marksF_len]
          exact hO
        clear hO
        go_wp2
        go_ret
        exact markedF_mk (by omega) HO.out hb
set_option maxRecDepth 100000 in
set_option maxHeartbeats 1000000 in
theorem heldFieldS_any (a : Option Addr) (n c : Nat) (k : Nat) (w : World) (hr : RdF w a n (marksF k n)) (hk0 : 0 < k) (hk : k + 2 * n ≤ 1073741824) :
    Calls Tryd.prog 53 #[.slice a n c, .int .i64 k] w fun e w' => e = .returned (.int .i64 ((k + 2 * n : Nat) : Int)) ∧ Below w.heap.size w w' := by
  have HR := Lib.hid hr.2
  clear hr
  go_enter Tryd.func53, Tryd.ntmps53
  go_wp2_with fail
  go_loopw [1, 5] (fun q i wr => ∃ (j m : Nat), j ≤ n ∧ m = k + 2 * j ∧ i = .int .i64 j ∧ q = .int .i64 (m : Int) ∧ Below w.heap.size w wr) (fun _ i _ => n - (intOf i).toNat)
  case atStart => exact ⟨0, k, Nat.zero_le _, rfl, rfl, rfl, Below.refl _ _⟩
  case round =>
    obtain ⟨j, m, hj, hmj, rfl, rfl, hb⟩ := hrel
    by_cases hlt : j < n
    · obtain ⟨b, off, rfl, hbl, hcell⟩ := HR.out.resolve_left (by omega)
      have hjx : j < (marksF k n).length := by rw [marksF_len]; exact hlt
      obtain ⟨q0, q1⟩ := RdR.fld hcell hjx
      have HM : Hid (markF k j = ⟨mT m, mT (m + 1)⟩) := by show _ = _; rw [hmj]; rfl
      rw [marksF_at, HM.out] at q0 q1
      have hm30 : m + 2 ≤ 1073741824 := by omega
      have hm0 : 0 < m := by omega
      have HMJ := Lib.hid hmj
      have HK : Hid (∀ w', Below wr.heap.size wr w' → w'.cell? ⟨b, off + j * 2, none⟩ = some (.string (str (mT m))) ∧ w'.cell? ⟨b, off + j * 2 + 1, none⟩ = some (.string (str (mT (m + 1)))) ∧ Below wr.heap.size wr w') := by
        intro w' h
        have h2 := nx hb h
        exact ⟨(below_at h2 hbl).trans q0, (below_at h2 hbl).trans q1, h⟩
      have E0 : Hid (str (mT m) = markT m) := rfl
      generalize hM0 : str (mT m) = M0 at *
      generalize hM1 : str (mT (m + 1)) = M1 at *
      have H0 := Lib.hid hM0
      have H1 := Lib.hid hM1
      have e0 : (M0.toList != M0.toList) = false := by simp
      have e1 : (M1.toList != M1.toList) = false := by simp
      clear hcell q0 q1 hM0 hM1 E0 hmj
      go_wp2
      go_region_held3 (fun w' => w'.cell? ⟨b, off + j * 2, none⟩ = some (.string M0) ∧ w'.cell? ⟨b, off + j * 2 + 1, none⟩ = some (.string M1) ∧ Below wr.heap.size wr w')
        (first
          | exact HK.out _ (Below.refl _ _).drew
          | exact HK.out _ hb7)
        (first
          | (go_at_call 81
             refine (markTextF_any _ m _ rfl hm0 (by omega)).mono ?_
             rintro e w6 ⟨rfl, hb6⟩
             rw [H0.out]
             have hb7 : Below wr.heap.size wr w6 := nx (by go_split_ands; assumption) hb6))
      go_split_ands
      go_wp2
      go_region_held3 (fun w' => w'.cell? ⟨b, off + j * 2, none⟩ = some (.string M0) ∧ w'.cell? ⟨b, off + j * 2 + 1, none⟩ = some (.string M1) ∧ Below wr.heap.size wr w')
        (first
          | exact HK.out _ hb7.drew
          | exact HK.out _ hb9)
        (first
          | (go_at_call 81
             refine (markTextF_any _ (m + 1) _ (by omega) (by omega) (by omega)).mono ?_
             rintro e w8 ⟨rfl, hb8⟩
             rw [H1.out]
             have hb9 : Below wr.heap.size wr w8 := nx (by go_split_ands; assumption) hb8))
      go_wp2
      go_roundw
      case rel => exact ⟨j + 1, m + 2, by omega, by have := HMJ.out; omega, by go_num, by go_num, nx hb hb9⟩
      case measure => simp [intOf]; omega
    · have hjn : j = n := by omega
      subst hjn
      go_wp2
      go_ret
      exact ⟨by first | rfl | (rw [hmj]; rfl) | (simp [hmj]; done), hb⟩
end Go.Proofs.YtdoclfbfhlgejacDoor
