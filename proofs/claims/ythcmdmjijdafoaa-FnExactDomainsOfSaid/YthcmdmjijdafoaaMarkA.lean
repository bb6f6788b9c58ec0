/-
  Marks in a list of addresses: only the marked row turns. No statement is proved here.
-/
import Derived.Test.YthcmdmjijdafoaaListsB
import Derived.Test.YthcmdmjijdafoaaOnly
namespace Go.Proofs.Ythcmdmjijdafoaa
open Go.ChangeShapes Go.WideShapes Go.RowKit Go.Deep

def MarkedAO (B k : Nat) (a : Option Addr) (n c : Nat) (w : World) (e : Ending) (w' : World) : Prop := e = .returned (.int .i64 ((k + 3 * n : Nat) : Int)) ∧ OwnA B (.slice a n c) (marksA k n) w' ∧ Only (Value.slice a n c).ownBlock w w'
theorem markedAO_mk {B k : Nat} {a : Option Addr} {n c : Nat} {w w' : World} {q : Int} (hq : q = ((k + 3 * n : Nat) : Int)) (ho : OwnA B (.slice a n c) (marksA k n) w') (hb : Only (Value.slice a n c).ownBlock w w') : MarkedAO B k a n c w (.returned (.int .i64 q)) w' := ⟨by rw [hq], ho, hb⟩
set_option maxRecDepth 100000 in
set_option maxHeartbeats 1000000 in
theorem markAddressO_any (B : Nat) (a : Option Addr) (n c : Nat) (xs : List Adr) (k : Nat) (w : World) (ho : OwnA B (.slice a n c) xs w) (hn : xs.length = n) (hk0 : 0 < k) (hk : k + 3 * n ≤ 1073741824) :
    Calls Try.prog 21 #[.slice a n c, .int .i64 k] w (MarkedAO B k a n c w) := by
  unfold OwnA OwnR at ho
  rw [hn] at ho
  rcases ho.2 with ⟨hv, h0⟩ | ⟨g, cap, cur, hv, hBg, _⟩
  · subst h0
    have HO : Hid (OwnA B (.slice a 0 c) (marksA k 0) w) := by show OwnA _ _ _ _; rw [hv]; exact OwnR.nil _ _ _ B w
    clear hv ho
    go_enter Try.func21, Try.ntmps21
    go_wp2_with fail
    go_loop [1, 5] (fun q i => q = .int .i64 k ∧ i = .int .i64 0) (fun _ _ => 0)
    case atStart => exact ⟨rfl, rfl⟩
    case round =>
      obtain ⟨rfl, rfl⟩ := hrel
      go_wp2
      go_ret
      exact markedAO_mk (by omega) HO.out (Only.refl _ _)
  · injection hv with h1 h2 h3
    subst h1 h3
    have HOB : Hid ((Value.slice (some ⟨g, 0, none⟩) n c).ownBlock = some g) := rfl
    go_enter Try.func21, Try.ntmps21
    go_wp2_with fail
    go_loopw [1, 5] (fun q i wr => ∃ (j : Nat) (L : List Value) (m : Nat), j ≤ n ∧ m = k + 3 * j ∧ i = .int .i64 j ∧ q = .int .i64 (m : Int) ∧ Only (some g) w wr ∧ wr.ownsRow B 29 3 (.slice (some ⟨g, 0, none⟩) n c) n L ∧ g < wr.heap.size ∧ ∀ u, u < j → (hu : u < (marksA k n).length) → ∀ d, d < 3 → L[u * 3 + d]? = (adrC (marksA k n)[u])[d]?) (fun _ i _ => n - (intOf i).toNat)
    case atStart => exact ⟨0, _, k, Nat.zero_le _, rfl, rfl, rfl, Only.refl _ _, ho, (ho.lt g rfl).2, fun j h => by omega⟩
    case round =>
      obtain ⟨j, L, m, hj, hmj, rfl, rfl, hb, hO, hg, hL⟩ := hrel
      have HL := Lib.hid hL
      clear hL
      by_cases hlt : j < n
      · have hlL : L.length = n * 3 := hO.1
        have h3 : j * 3 + 2 < L.length := by rw [hlL]; omega
        have hm30 : m + 3 ≤ 1073741824 := by omega
        have hm0 : 0 < m := by omega
        have HMJ := Lib.hid hmj
        have HM : Hid (markA k j = ⟨mT m, mT (m + 1), mT (m + 2)⟩) := by show _ = _; rw [hmj]; rfl
        generalize hM0 : str (mT m) = M0 at *
        generalize hM1 : str (mT (m + 1)) = M1 at *
        generalize hM2 : str (mT (m + 2)) = M2 at *
        have H0 := Lib.hid hM0
        have H1 := Lib.hid hM1
        have H2 := Lib.hid hM2
        have HNX := Lib.hid (set3_rowS (xs := marksA k n) (markA k j) M0 M1 M2 (by rw [HM.out]; exact hM0) (by rw [HM.out]; exact hM1) (by rw [HM.out]; exact hM2) h3 (fun hq => marksA_at k n j hq) HL.out)
        have HO := Lib.hid hO
        have HB := Lib.hid hb
        have HG := Lib.hid hg
        clear hlL hM0 hM1 hM2 hO hb hg h3 hmj
        go_wp2_with fail
        refine (markTextI_any _ m _ rfl hm0 (by omega)).mono ?_
        rintro e w1 ⟨rfl, hb1⟩
        rw [H0.out]
        have HO1 := Lib.hid (row_keep HO.out hb1)
        have HG1 : Hid (g < w1.heap.size) := Nat.lt_of_lt_of_le HG.out hb1.size
        obtain ⟨v0, hv0⟩ := row_cell HO1.out (j * 3) (by have := HO1.out.1; omega)
        have f0 : w1.frozen? ⟨g, j * 3, none⟩ = false := HO1.out.frozenAt _
        have HO1s := Lib.hid (HO1.out.stored (j * 3) (.string M0)).1
        have HB1s : Hid (Only (some g) w (w1.setCell ⟨g, j * 3, none⟩ (.string M0))) := (HB.out.ext hb1).setCell _
        have HG1s : Hid (g < (w1.setCell ⟨g, j * 3, none⟩ (.string M0)).heap.size) := by show _ < _; simpa using HG1.out
        clear hb1
        go_wp2_with fail
        refine (markTextI_any _ (m + 1) _ (by omega) (by omega) (by omega)).mono ?_
        rintro e w2 ⟨rfl, hb2⟩
        rw [H1.out]
        have HO2 := Lib.hid (row_keep HO1s.out hb2)
        have HG2 : Hid (g < w2.heap.size) := Nat.lt_of_lt_of_le HG1s.out hb2.size
        obtain ⟨v1, hv1⟩ := row_cell HO2.out (j * 3 + 1) (by have := HO2.out.1; omega)
        have f1 : w2.frozen? ⟨g, j * 3 + 1, none⟩ = false := HO2.out.frozenAt _
        have HO2s := Lib.hid (HO2.out.stored (j * 3 + 1) (.string M1)).1
        have HB2s : Hid (Only (some g) w (w2.setCell ⟨g, j * 3 + 1, none⟩ (.string M1))) := (HB1s.out.ext hb2).setCell _
        have HG2s : Hid (g < (w2.setCell ⟨g, j * 3 + 1, none⟩ (.string M1)).heap.size) := by show _ < _; simpa using HG2.out
        clear hv0 f0 hb2
        go_wp2_with fail
        refine (markTextI_any _ (m + 2) _ (by omega) (by omega) (by omega)).mono ?_
        rintro e w3 ⟨rfl, hb3⟩
        rw [H2.out]
        have HO3 := Lib.hid (row_keep HO2s.out hb3)
        have HG3 : Hid (g < w3.heap.size) := Nat.lt_of_lt_of_le HG2s.out hb3.size
        obtain ⟨v2, hv2⟩ := row_cell HO3.out (j * 3 + 2) (by have := HO3.out.1; omega)
        have f2 : w3.frozen? ⟨g, j * 3 + 2, none⟩ = false := HO3.out.frozenAt _
        have HST := Lib.hid (HO3.out.stored (j * 3 + 2) (.string M2)).1
        have HB3s : Hid (Only (some g) w (w3.setCell ⟨g, j * 3 + 2, none⟩ (.string M2))) := (HB2s.out.ext hb3).setCell _
        clear hv1 f1 hb3
        go_wp2
        go_roundw
        case rel => exact ⟨j + 1, _, m + 3, by omega, by have := HMJ.out; omega, by go_num, by go_num, HB3s.out, HST.out, by simpa using HG3.out, HNX.out⟩
        case measure => simp [intOf]; omega
      · have hjn : j = n := by omega
        subst hjn
        have HO : Hid (OwnA B (.slice (some ⟨g, 0, none⟩) j c) (marksA k j) wr) := by
          show OwnA _ _ _ _
          unfold OwnA OwnR
          rw [← flat_ext adrC 3 (by omega) adrC_len (marksA k j) L (by rw [hO.1, marksA_len]) (fun u hu => HL.out u (by rw [marksA_len] at hu; exact hu) hu), marksA_len]
          exact hO
        clear hO
        go_wp2
        go_ret
        exact markedAO_mk (by omega) HO.out hb
end Go.Proofs.Ythcmdmjijdafoaa
