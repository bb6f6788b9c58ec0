/-
  Fresh boundaries: what the model's function returns. No statement is proved here.
-/
import Derived.Test.YtdoclfbfhlgejadDoorDecP
import Derived.Test.YtdoclfbfhlgejadDoorPartJ
namespace Go.Proofs.YtdoclfbfhlgejadDoor
open Go.RowKit

theorem freeB_succ (b : List UInt8) (xs : List (List UInt8)) (k : Nat) (h : k < xs.length) : freeB b (xs.take (k + 1)) = (freeB b (xs.take k) && !looksB b xs[k]) := by
  rw [List.take_succ_eq_append_getElem h]; unfold freeB; rw [List.all_append]; simp
theorem freeB_nil (b : List UInt8) : freeB b [] = true := rfl
set_option maxRecDepth 100000 in
set_option maxHeartbeats 1000000 in
theorem freshBoundaryS_any (a : Option Addr) (n c : Nat) (xs : List (List UInt8)) (w : World) (hr : RdL w a n xs) (hn : n ≤ 1073741824) :
    Calls Tryd.prog 5 #[.slice a n c] w (FreshRet (freshB xs) w) := by
  have HR := Lib.hid hr
  have HLEN := Lib.hid hr.1
  clear hr
  go_enter Tryd.func5, Tryd.ntmps5
  go_wp2_with fail
  go_loopw [4] (fun i wr => ∃ (k : Nat), k ≤ 100 ∧ i = .int .i64 k ∧ Below w.heap.size w wr ∧ ∀ j, j < k → freeB (bName j) xs = false) (fun i _ => 100 - (intOf i).toNat)
  case atStart => exact ⟨0, Nat.zero_le _, rfl, Below.refl _ _, fun j h => by omega⟩
  case round =>
    obtain ⟨k, hk, rfl, hb, hall⟩ := hrel
    have HA := Lib.hid hall
    clear hall
    by_cases hlt : k < 100
    · have hz := decD_smallP hlt
      have HI : Hid (∀ u, Calls Tryd.prog 9 #[.int .i64 k] u fun e w' => e = .returned (.string (str (Lib.decDigits k))) ∧ Below u.heap.size u w') := fun u => l13DecP_any k u (by omega) (by omega)
      have HN := Lib.hid (bName_strP k)
      have hz2 : (str (bName k)).size ≤ 1000000 := by rw [str_size, bName_len hlt]; split <;> omega
      have HBL : Hid ((str (bName k)).data.toList = bName k) := str_list _
      have HLK : Hid (∀ u x, Calls Tryd.prog 10 #[.string (str x), .string (str (bName k))] u fun e w' => e = .returned (.bool (looksB (bName k) x)) ∧ u = w') := fun u x => by
        have := l7Looks_any x (str (bName k)) u hz2
        rw [HBL.out] at this; exact this
      have z1 : (⟨#[98]⟩ : ByteArray).size = 1 := rfl
      have HAT : Hid (freeB (bName k) xs = true → freshB xs = some (bName k)) := fun h => freshB_at hlt h HA.out
      generalize str (Lib.decDigits k) = D at *
      have HX : Hid ((⟨#[98]⟩ : ByteArray) ++ D = str (bName k)) := HN.out
      generalize hB : bName k = B at *
      have HB := Lib.hid hB
      clear hz2 HBL HN hB
      go_wp2_with fail
      refine (HI.out _).mono ?_
      rintro e w1 ⟨rfl, hb1⟩
      have hb01 := nx hb hb1
      obtain ⟨X, hX⟩ : ∃ X, X = str B := ⟨_, rfl⟩
      rw [← hX] at HX HLK
      have HXX := Lib.hid hX
      clear hX
      go_wp2_with fail
      rw [HX.out]
      obtain ⟨wo, rfl⟩ : ∃ wo : World, wo = wr := ⟨_, rfl⟩
      go_loopw [6, 7] (fun f i wq => ∃ (j : Nat), j ≤ n ∧ i = .int .i64 j ∧ f = .bool (freeB B (xs.take j)) ∧ Below w.heap.size w wq) (fun _ i _ => n - (intOf i).toNat)
      case atStart => exact ⟨0, Nat.zero_le _, rfl, rfl, hb01⟩
      case round =>
        obtain ⟨j, hj, rfl, rfl, hbj⟩ := hrel
        by_cases hjl : j < n
        · have hjx : j < xs.length := by rw [HLEN.out]; exact hjl
          obtain ⟨b4, o4, rfl, hbl4, hc4⟩ := HR.out.2.resolve_left (by omega)
          have y0 : wr.cell? ⟨b4, o4 + j, none⟩ = some (.string (str xs[j])) := by rw [below_at hbj hbl4]; exact hc4 j hjx
          have HS := Lib.hid (freeB_succ B xs j hjx)
          have HLJ := Lib.hid (fun u => HLK.out u xs[j])
          generalize looksB B xs[j] = q at *
          generalize str xs[j] = Y at *
          generalize freeB B (xs.take j) = f at *
          clear hc4
          cases f
          · go_wp2
            go_roundw
            case rel => exact ⟨j + 1, by omega, by go_num, by rw [HS.out]; rfl, hbj⟩
            case measure => simp [intOf]; omega
          · go_wp2_with fail
            refine (HLJ.out _).mono ?_
            rintro e w3 ⟨rfl, rfl⟩
            go_wp2
            go_roundw
            case rel => exact ⟨j + 1, by omega, by go_num, by rw [HS.out]; simp, hbj⟩
            case measure => simp [intOf]; omega
        · have HT : Hid (xs.take j = xs) := List.take_of_length_le (by rw [HLEN.out]; omega)
          rw [HT.out]
          cases hf : freeB B xs
          · have HF := Lib.hid hf
            clear hf
            go_wp2
            go_roundw
            case rel => exact ⟨k + 1, by omega, by go_num, hbj, fun t ht => by
              by_cases e : t = k
              · subst e; rw [HB.out]; exact HF.out
              · exact HA.out t (by omega)⟩
            case measure => simp [intOf]; omega
          · have HF := Lib.hid (HAT.out hf)
            clear hf
            go_wp2
            go_ret2
            exact freshRet_some HF.out HXX.out hbj
    · have HF := Lib.hid (freshB_none (fun j hj => HA.out j (by omega)))
      go_wp2
      go_ret2
      exact freshRet_none HF.out hb
end Go.Proofs.YtdoclfbfhlgejadDoor
