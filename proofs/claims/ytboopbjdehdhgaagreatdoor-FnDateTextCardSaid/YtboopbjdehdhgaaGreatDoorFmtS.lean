/-
  Dates written as texts: what the model's functions return. No statement is proved here.
-/
import Derived.Test.YtboopbjdehdhgaaGreatDoorFmt
import Derived.Deep.RegionHeld3
namespace Go.Proofs.YtboopbjdehdhgaaGreatDoor
open Go.RowKit Go.Sort

theorem decD_step {n : Nat} (h : ¬ n < 10) : Lib.decDigits n = Lib.decDigits (n / 10) ++ [dgt (n % 10)] := by rw [Lib.decDigits, dif_neg h]; rfl
theorem dig_back {P : Program} (w : World) (m : Nat) (v : Int) (hm : m < 10) (hv : v = 48 + (m : Int)) (src dst e t : TypeId) (cap : Nat) (hs : P.underlying src = some (.slice e)) (he : P.underlying e = some (.int .u8)) (hd : P.underlying dst = some .string) :
    (convert src dst (.slice (some ⟨w.heap.size, 0, none⟩) 1 cap)).run P (w.alloc (.cells #[.int .u8 v] t)) = .ok (.string (str [dgt m])) (w.alloc (.cells #[.int .u8 v] t)) := by
  have := run_convert_bytes_back (P := P) (w.alloc (.cells #[.int .u8 v] t)) src dst e ⟨w.heap.size, 0, none⟩ cap [dgt m] hs he hd (fun j hj => by
    have hj0 : j = 0 := by simpa using hj
    subst hj0
    rw [add0, World.cell?_alloc_at _ _ _ _ rfl]
    simp [dgt_nat hm, hv])
  exact this
set_option maxRecDepth 100000 in
set_option maxHeartbeats 1000000 in
theorem l13Dec_any (n : Int) (w : World) (h0 : 0 ≤ n) (h1 : n < 10000) : Calls Tryz.prog 18 #[.int .i64 n] w fun e w' => e = .returned (.string (str (Lib.decDigits n.toNat))) ∧ Below w.heap.size w w' := by
  have hN4 := dec_len (n := n.toNat) (by omega)
  obtain ⟨L, hL⟩ : ∃ L, Lib.decDigits n.toNat = L := ⟨_, rfl⟩
  have HLL := Lib.hid hL
  rw [hL] at hN4 ⊢
  clear hL
  go_enter Tryz.func18, Tryz.ntmps18
  go_wp2_with fail
  go_loopw [0, 3] (fun a b wr => ∃ (k : Nat) (l : List UInt8), k < 10000 ∧ a = .int .i64 k ∧ b = .string (str l) ∧ Lib.decDigits k ++ l = L ∧ Below w.heap.size w wr) (fun a _ _ => (intOf a).toNat)
  case atStart => exact ⟨n.toNat, [], by omega, by show Value.int .i64 n = _; congr 1; omega, rfl, by rw [List.append_nil]; exact HLL.out, Below.refl _ _⟩
  case round =>
    obtain ⟨k, l, hk, rfl, rfl, he, hb⟩ := hrel
    have hsz : (str l).size ≤ 4 := by rw [str_size]; have := congrArg List.length he; rw [List.length_append] at this; omega
    have HE := Lib.hid he
    have hbs := hb.size
    clear he
    by_cases h9 : 9 < (k : Int)
    · have hback := fun c => dig_back (P := Tryz.prog) wr (k % 10) (48 + (k : Int) % 10) (Nat.mod_lt _ (by omega)) (by omega) 22 9 5 5 c Tryz.underlying22 Tryz.underlying5 Tryz.underlying9
      have HAP : Hid (str [dgt (k % 10)] ++ str l = str (dgt (k % 10) :: l)) := str_app _ _
      have hz1 : (str [dgt (k % 10)]).size ≤ 1 := by rw [str_size]; exact Nat.le_refl 1
      have HNX : Hid (Lib.decDigits (k / 10) ++ (dgt (k % 10) :: l) = L) := by show _ = _; rw [← HE.out, decD_step (n := k) (by omega), List.append_assoc]; rfl
      generalize str l = S at *
      generalize str [dgt (k % 10)] = S1 at *
      go_wp2
      go_roundw
      case rel => exact ⟨k / 10, dgt (k % 10) :: l, by omega, by go_num, by show Value.string _ = _; rw [HAP.out], HNX.out, hb.alloc hbs _⟩
      case measure => simp [intOf]; omega
    · have hback := fun c => dig_back (P := Tryz.prog) wr k (48 + (k : Int)) (by omega) (by omega) 22 9 5 5 c Tryz.underlying22 Tryz.underlying5 Tryz.underlying9
      have HAP : Hid (str [dgt k] ++ str l = str L) := by show _ = _; rw [str_app, ← HE.out, decD_one (by omega)]
      have hz1 : (str [dgt k]).size ≤ 1 := by rw [str_size]; exact Nat.le_refl 1
      generalize str l = S at *
      generalize str [dgt k] = S1 at *
      go_wp2
      go_ret
      exact ⟨ret_str HAP.out, hb.alloc hbs _⟩
set_option maxRecDepth 100000 in
set_option maxHeartbeats 400000 in
theorem l4Two_any (n : Int) (w : World) (h0 : 0 ≤ n) (h1 : n < 100) : Calls Tryz.prog 20 #[.int .i64 n] w fun e w' => e = .returned (.string (str (two n))) ∧ Below w.heap.size w w' := by
  have q1 : 0 ≤ n / 10 ∧ n / 10 < 10 := by omega
  have q2 : 0 ≤ n % 10 ∧ n % 10 < 10 := by omega
  have H1 := Lib.hid (fun u => l13Dec_any (n / 10) u (by omega) (by omega))
  have H2 := Lib.hid (fun u => l13Dec_any (n % 10) u (by omega) (by omega))
  have HR : Hid (str (Lib.decDigits (n / 10).toNat) ++ str (Lib.decDigits (n % 10).toNat) = str (two n)) := by
    show _ = _
    rw [decD_one (by omega), decD_one (by omega), str_app]
    unfold two
    rw [show (n / 10).toNat = n.toNat / 10 by omega, show (n % 10).toNat = n.toNat % 10 by omega]; rfl
  have z1 : (str (Lib.decDigits (n / 10).toNat)).size ≤ 4 := by rw [str_size]; exact dec_len (by omega)
  have z2 : (str (Lib.decDigits (n % 10).toNat)).size ≤ 4 := by rw [str_size]; exact dec_len (by omega)
  generalize str (Lib.decDigits (n / 10).toNat) = A at *
  generalize str (Lib.decDigits (n % 10).toNat) = B at *
  go_enter Tryz.func20, Tryz.ntmps20
  go_wp2_with fail
  refine (H1.out _).mono ?_
  rintro e w1 ⟨rfl, hb1⟩
  go_wp2_with fail
  refine (H2.out _).mono ?_
  rintro e w2 ⟨rfl, hb2⟩
  go_wp2
  go_ret
  exact ⟨ret_str HR.out, nx hb1 hb2⟩
end Go.Proofs.YtboopbjdehdhgaaGreatDoor
