/-
  The laws of chapter 7 on fresh boundaries: each law's walk. For every input of the law: it returns true, and the input reads as it did. Conditions: none but the statement's own.
-/
import Derived.Test.YtdoclfbfhlgejadDoorLaw0d
import Derived.Test.YtdoclfbfhlgejadDoorPartF
import Derived.Test.YtdoclfbfhlgejadDoorDrawS
import Derived.Test.YtdoclfbfhlgejadDoorLawL
namespace Go.Proofs.YtdoclfbfhlgejadDoor
open Go.ChangeShapes Go.WideShapes Go.ChangeAt Go.RowKit
open Go.ChangeMaps (open_string shut_string)

theorem str_head (l : List UInt8) (h : 0 < (str l).size) : (str l)[0] = l[0]'(by rw [str_size] at h; exact h) := by
  have hs := str_list l
  have e : (str l)[0] = (str l).data.toList[0]'(by rw [size_list]; exact h) := rfl
  rw [e]
  simp only [hs]
theorem head_at0 (l : List UInt8) (h : 0 < l.length) : l.head? = some l[0] := by
  match l, h with
  | c :: r, _ => rfl
theorem fresh_drawn {xs : List (List UInt8)} (h : ∀ x ∈ xs, lineOk x = true) : ∃ k, k ≤ 3 ∧ freshB xs = some (bName k) := by
  have h3 : freeB (bName 3) xs = true := freeB_t fun k hk => by
    have := lineOk_b3 (h _ (List.getElem_mem hk))
    have e : bName 3 = [98, 51] := by unfold bName; rw [decN_one (by omega)]; rfl
    rw [e]; exact this
  cases h0 : freeB (bName 0) xs with
  | true => exact ⟨0, by omega, freshB_at (by omega) h0 (fun j hj => by omega)⟩
  | false =>
    cases h1 : freeB (bName 1) xs with
    | true =>
      refine ⟨1, by omega, freshB_at (by omega) h1 (fun j hj => ?_)⟩
      obtain rfl : j = 0 := by omega
      exact h0
    | false =>
      cases h2 : freeB (bName 2) xs with
      | true => exact ⟨2, by omega, freshB_at (by omega) h2 (fun j hj => by rcases (by omega : j = 0 ∨ j = 1) with rfl | rfl <;> assumption)⟩
      | false => exact ⟨3, by omega, freshB_at (by omega) h3 (fun j hj => by rcases (by omega : j = 0 ∨ j = 1 ∨ j = 2) with rfl | rfl | rfl <;> assumption)⟩
theorem bName_zero : bName 0 = [98, 48] := by unfold bName; rw [decN_one (by omega)]; rfl
theorem fresh_zero {xs : List (List UInt8)} {b : List UInt8} (h : freshB xs = some b) (hn : ∀ j, (hj : j < xs.length) → xs[j].head? ≠ some 45) : b = [98, 48] := by
  have h0 : freeB (bName 0) xs = true := freeB_t fun k hk => by
    refine looks_f.2 ⟨fun e => hn k hk (by rw [e]; rfl), fun e => hn k hk (by rw [e]; rfl)⟩
  rw [freshB_at (by omega) h0 (fun j hj => by omega)] at h
  injection h with h
  rw [← h, bName_zero]
set_option maxRecDepth 100000 in
set_option maxHeartbeats 1000000 in
theorem fnExactFreshBoundary_walk (a : Option Addr) (n c : Nat) (xs : List (List UInt8)) (w : World) (hr : RdL w a n xs) (hn : n ≤ maxLen) (hx : ∀ j, (hj : j < xs.length) → xs[j].length ≤ maxLen) :
    Calls Tryd.prog 3 #[.slice a n c] w fun e w' => e = .returned (.bool true) ∧ Below w.heap.size w w' := by
  go_enter Tryd.func3, Tryd.ntmps3
  go_wp2_with fail
  refine (szStringS_any a n c xs 1048576 _ hr hn (by omega) (by omega) hx).mono ?_
  rintro e w1 ⟨r, rfl, hr1, hr2, hsz, rfl⟩
  by_cases hneg : r < 0
  · go_wp2
    go_ret
    exact ⟨rfl, Below.refl _ _⟩
  · obtain ⟨hnl, _⟩ := hsz (by omega)
    have hlen := hr.1
    have HN : Hid (n ≤ 1073741824) := by show n ≤ _; omega
    have HL2 : Hid (xs.length ≤ 1073741824) := by show _ ≤ _; omega
    have HMX : Hid (xs.length ≤ maxLen) := by show _ ≤ _; unfold maxLen; omega
    have HR := Lib.hid hr
    have HI1 : Hid (∀ (b : Option Addr) (c : Nat) (u : World), RdL u b xs.length xs → Calls Tryd.prog 7 #[.slice b xs.length c] u (FreshRet (freshB xs) u)) := fun b c u h => freshBoundary_any b xs.length c xs u h HL2.out
    have HI2 : Hid (∀ (b : Option Addr) (c : Nat) (u : World), RdL u b xs.length xs → Calls Tryd.prog 5 #[.slice b xs.length c] u (FreshRet (freshB xs) u)) := fun b c u h => freshBoundaryS_any b xs.length c xs u h HL2.out
    clear hsz hnl hlen hx hr
    generalize hdd : freshB xs = dd at *
    have hee : ((str (dd.getD [])).toList == (str (dd.getD [])).toList) = true := by simp
    have hne : ((str (dd.getD [])).toList != (str (dd.getD [])).toList) = false := by simp
    clear hdd
    go_wp2_with fail
    refine (toStringS_any a n c xs _ HR.out HN.out).mono ?_
    rintro e w1 ⟨a1, c1, rfl, ho1, hd1, hb1⟩
    go_wp2_with fail
    refine (HI2.out a1 c1 _ hd1).mono ?_
    rintro e w2 ⟨rfl, hb2⟩
    have hb12 := nx hb1 hb2
    go_wp2_with fail
    refine (toStringS_any a n c xs _ (HR.out.below hb12) HN.out).mono ?_
    rintro e w3 ⟨a3, c3, rfl, ho3, hd3, hb3⟩
    have hb13 := nx hb12 hb3
    go_wp2_with fail
    refine (HI1.out a3 c3 _ hd3).mono ?_
    rintro e w4 ⟨rfl, hb4⟩
    have hb14 := nx hb13 hb4
    generalize str (dd.getD []) = ft at *
    generalize dd.isSome = ok at *
    go_wp2_with fail
    refine (toStringS_any a n c xs _ (HR.out.below hb14) HN.out).mono ?_
    rintro e w5 ⟨a5, c5, rfl, ho5, hd5, hb5⟩
    have hb15 := nx hb14 hb5
    have hd35 := (hd3.below hb4).below hb5
    go_wp2_with fail
    refine (eqStringS_any _ _ _ _ _ _ xs xs _ hd35 hd5 HMX.out HMX.out).mono ?_
    rintro e w6 ⟨rfl, hb6⟩
    rw [decide_eq_true (rfl : xs = xs)]
    go_wp2
    go_ret
    exact ⟨rfl, nx hb15 hb6⟩
end Go.Proofs.YtdoclfbfhlgejadDoor
