/-
  Numbers written in decimals by the model. No statement is proved here.
-/
import Derived.Test.YtdoclfbfhlgejadDoorPartS
namespace Go.Proofs.YtdoclfbfhlgejadDoor
open Go.RowKit

theorem digN_nat {n : Nat} (h : n < 10) : (digN n).toNat = 48 + n := by unfold digN; rw [UInt8.toNat_ofNat']; omega
theorem decP_len {n : Nat} (h : n < 10000) : (Lib.decDigits n).length ≤ 4 := by
  have step : ∀ m, ¬ m < 10 → Lib.decDigits m = Lib.decDigits (m / 10) ++ [digN (m % 10)] := fun m hm => by rw [Lib.decDigits, dif_neg hm]; rfl
  have one : ∀ m, m < 10 → (Lib.decDigits m).length = 1 := fun m hm => by rw [decN_one hm]; rfl
  by_cases h1 : n < 10
  · rw [one n h1]; omega
  · rw [step n h1, List.length_append]
    by_cases h2 : n / 10 < 10
    · rw [one _ h2]; simp
    · rw [step _ h2, List.length_append]
      by_cases h3 : n / 10 / 10 < 10
      · rw [one _ h3]; simp
      · rw [step _ h3, List.length_append, one _ (by omega)]; simp
theorem decP_step {n : Nat} (h : ¬ n < 10) : Lib.decDigits n = Lib.decDigits (n / 10) ++ [digN (n % 10)] := by rw [Lib.decDigits, dif_neg h]; rfl
theorem digP_back {P : Program} (w : World) (m : Nat) (v : Int) (hm : m < 10) (hv : v = 48 + (m : Int)) (src dst e t : TypeId) (cap : Nat) (hs : P.underlying src = some (.slice e)) (he : P.underlying e = some (.int .u8)) (hd : P.underlying dst = some .string) :
    (convert src dst (.slice (some ⟨w.heap.size, 0, none⟩) 1 cap)).run P (w.alloc (.cells #[.int .u8 v] t)) = .ok (.string (str [digN m])) (w.alloc (.cells #[.int .u8 v] t)) := by
  have := run_convert_bytes_back (P := P) (w.alloc (.cells #[.int .u8 v] t)) src dst e ⟨w.heap.size, 0, none⟩ cap [digN m] hs he hd (fun j hj => by
    have hj0 : j = 0 := by simpa using hj
    subst hj0
    rw [add0, World.cell?_alloc_at _ _ _ _ rfl]
    simp [digN_nat hm, hv])
  exact this
set_option maxRecDepth 100000 in
set_option maxHeartbeats 1000000 in
theorem l13DecP_any (n : Int) (w : World) (h0 : 0 ≤ n) (h1 : n < 10000) : Calls Tryd.prog 9 #[.int .i64 n] w fun e w' => e = .returned (.string (str (Lib.decDigits n.toNat))) ∧ Below w.heap.size w w' := by
  have hN4 := decP_len (n := n.toNat) (by omega)
  obtain ⟨L, hL⟩ : ∃ L, Lib.decDigits n.toNat = L := ⟨_, rfl⟩
  have HLL := Lib.hid hL
  rw [hL] at hN4 ⊢
  clear hL
  go_enter Tryd.func9, Tryd.ntmps9
  go_wp2_with fail
  go_loopw [0, 3] (fun a b wr => ∃ (k : Nat) (l : List UInt8), k < 10000 ∧ a = .int .i64 k ∧ b = .string (str l) ∧ Lib.decDigits k ++ l = L ∧ Below w.heap.size w wr) (fun a _ _ => (intOf a).toNat)
  case atStart => exact ⟨n.toNat, [], by omega, by show Value.int .i64 n = _; congr 1; omega, rfl, by rw [List.append_nil]; exact HLL.out, Below.refl _ _⟩
  case round =>
    obtain ⟨k, l, hk, rfl, rfl, he, hb⟩ := hrel
    have hsz : (str l).size ≤ 4 := by rw [str_size]; have := congrArg List.length he; rw [List.length_append] at this; omega
    have HE := Lib.hid he
    have hbs := hb.size
    clear he
    by_cases h9 : 9 < (k : Int)
    · have hback := fun c => digP_back (P := Tryd.prog) wr (k % 10) (48 + (k : Int) % 10) (Nat.mod_lt _ (by omega)) (by omega) 32 9 5 5 c Tryd.underlying32 Tryd.underlying5 Tryd.underlying9
      have HAP : Hid (str [digN (k % 10)] ++ str l = str (digN (k % 10) :: l)) := str_appP _ _
      have hz1 : (str [digN (k % 10)]).size ≤ 1 := by rw [str_size]; exact Nat.le_refl 1
      have HNX : Hid (Lib.decDigits (k / 10) ++ (digN (k % 10) :: l) = L) := by show _ = _; rw [← HE.out, decP_step (n := k) (by omega), List.append_assoc]; rfl
      generalize str l = S at *
      generalize str [digN (k % 10)] = S1 at *
      go_wp2
      go_roundw
      case rel => exact ⟨k / 10, digN (k % 10) :: l, by omega, by go_num, by show Value.string _ = _; rw [HAP.out], HNX.out, hb.alloc hbs _⟩
      case measure => simp [intOf]; omega
    · have hback := fun c => digP_back (P := Tryd.prog) wr k (48 + (k : Int)) (by omega) (by omega) 32 9 5 5 c Tryd.underlying32 Tryd.underlying5 Tryd.underlying9
      have HAP : Hid (str [digN k] ++ str l = str L) := by show _ = _; rw [str_appP, ← HE.out, decN_one (by omega)]
      have hz1 : (str [digN k]).size ≤ 1 := by rw [str_size]; exact Nat.le_refl 1
      generalize str l = S at *
      generalize str [digN k] = S1 at *
      go_wp2
      go_ret
      exact ⟨ret_str HAP.out, hb.alloc hbs _⟩
end Go.Proofs.YtdoclfbfhlgejadDoor
