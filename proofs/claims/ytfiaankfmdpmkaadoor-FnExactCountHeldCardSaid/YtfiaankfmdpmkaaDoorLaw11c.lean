/-
  The exact law of mails that are held: its walk. For every input of the law: it returns true, and the input reads as it did. Conditions: none but the statement's own.
-/
import Derived.Test.YtfiaankfmdpmkaaDoorBoxE
import Derived.Test.YtfiaankfmdpmkaaDoorZip
namespace Go.Proofs.YtfiaankfmdpmkaaDoor
open Go.ChangeShapes Go.WideShapes Go.ChangeAt Go.RowKit
open Go.ChangeMaps (open_string shut_string)

theorem bsRet_small {M : Nat} {bs : List Bx} {ys : List BxA} (h : ys.map BxA.b = bs) (hs : ∀ b ∈ bs, SmallBx M b) : ∀ y ∈ ys, SmallBx M y.b := fun y hy => hs y.b (h ▸ List.mem_map_of_mem hy)
set_option maxRecDepth 100000 in
set_option maxHeartbeats 4000000 in
theorem fnExactCountHeld_walk (a : Option Addr) (n c : Nat) (xs : List BxA) (w : World) (en : Env w) (hx : xs.length = n ∧ n ≤ maxLen ∧ n ≤ c ∧ (a = none → c = 0) ∧ RdBs maxLen w a xs) :
    Calls Tryd.prog 4 #[.slice a n c] w fun e w' => e = .returned (.bool true) ∧ Below w.heap.size w w' := by
  obtain ⟨hl, hn, _, _, hr⟩ := hx
  obtain ⟨bs, hbs⟩ : ∃ bs, bs = xs.map BxA.b := ⟨_, rfl⟩
  have HSZ : Hid (Calls Tryd.prog 8 #[.slice a n c, .int .i64 1048576] w (SizedBs 1048576 bs w)) := hbs ▸ szBoxS_any a n c xs 1048576 w hl hr hn (by omega) (by omega)
  have HT1 : Hid (∀ u, (bs.length ≤ 1048576 ∧ ∀ b ∈ bs, SmallBx 1048576 b) → Below w.heap.size w u → Calls Tryd.prog 10 #[.slice a n c] u fun e w' => ∃ (a' : Option Addr) (ys : List BxA), e = .returned (.slice a' n n) ∧ ys.map BxA.b = bs ∧ ys.length = n ∧ RdBs 1048576 w' a' ys ∧ Below u.heap.size u w') := fun u h hb => (toBoxS_any a n c xs u hl ((hr.below hb).up (fun y hy => h.2 y.b (hbs ▸ List.mem_map_of_mem hy))) (by have := h.1; rw [hbs, List.length_map] at this; omega)).mono fun e w' ⟨a', ys, he, h1, h2, h3, h4, h5⟩ => ⟨a', ys, he, by rw [h1, hbs], h2, h3.rd (bsRet_small (h1.trans hbs.symm) h.2), h5⟩
  have HN : Hid ((bs.length ≤ 1048576 ∧ ∀ b ∈ bs, SmallBx 1048576 b) → n ≤ 1048576) := fun h => by have := h.1; rw [hbs, List.length_map] at this; omega
  have HVS : Hid (∀ u (a' : Option Addr) (ys : List BxA), n ≤ 1048576 → ys.map BxA.b = bs → ys.length = n → RdBs 1048576 u a' ys → Calls Tryd.prog 13 #[.slice a' n n] u fun e w' => e = .returned (.int .i64 (heldB bs : Nat)) ∧ Below u.heap.size u w') := fun u a' ys hn1 h1 h2 h3 => h1 ▸ countHeldS_any 1048576 a' n n ys u h2 h3 (by omega) (by omega)
  have HVI : Hid (∀ u (a' : Option Addr) (ys : List BxA), n ≤ 1048576 → Env u → ys.map BxA.b = bs → ys.length = n → RdBs 1048576 u a' ys → Calls Tryd.prog 14 #[.slice a' n n] u fun e w' => e = .returned (.int .i64 (heldB bs : Nat)) ∧ Below u.heap.size u w') := fun u a' ys hn1 en1 h1 h2 h3 => h1 ▸ countHeld_any 1048576 a' n n ys u en1 h2 h3 (by omega) (by omega)
  have HEQ : Hid (∀ u (a' : Option Addr) (ys : List BxA) (a2 : Option Addr) (zs : List BxA), n ≤ 1048576 → ys.map BxA.b = bs → ys.length = n → RdBs 1048576 u a' ys → zs.map BxA.b = bs → zs.length = n → RdBs 1048576 u a2 zs → Calls Tryd.prog 12 #[.slice a' n n, .slice a2 n n] u fun e w' => e = .returned (.bool true) ∧ Below u.heap.size u w') := fun u a' ys a2 zs hn1 h1 h2 h3 k1 k2 k3 => by
    have := eqBoxS_any 1048576 a' a2 n n n n ys zs u h2 k2 h3 k3 (by unfold maxLen; omega) (by unfold maxLen; omega) (by unfold maxLen; omega)
    rw [decide_eq_true (show ys.map BxA.b = zs.map BxA.b from h1.trans k1.symm)] at this; exact this
  have HEN := Lib.hid en
  clear hr hl hn hbs en
  generalize ((heldB bs : Nat) : Int) = q at *
  have hne : (q != q) = false := by simp
  go_enter Tryd.func4, Tryd.ntmps4
  go_wp2_with fail
  refine HSZ.out.mono ?_
  rintro e w1 ⟨r, rfl, hr1, hr2, hok, hb1⟩
  have HOK := Lib.hid hok
  clear hok
  by_cases hneg : r < 0
  · go_wp2
    go_ret
    exact ⟨rfl, hb1⟩
  have HSM : Hid (bs.length ≤ 1048576 ∧ ∀ b ∈ bs, SmallBx 1048576 b) := HOK.out (by omega)
  have hn1 := HN.out HSM.out
  clear hr1 hr2 HOK HN
  go_wp2_with fail
  refine (HT1.out _ HSM.out hb1).mono ?_
  rintro e w2 ⟨a2, ys2, rfl, h21, h22, h23, hb2⟩
  have hb02 := nx hb1 hb2
  go_wp2_with fail
  refine (HVS.out _ _ ys2 hn1 h21 h22 h23).mono ?_
  rintro e w3 ⟨rfl, hb3⟩
  have hb03 := nx hb02 hb3
  clear h21 h22 h23
  go_wp2_with fail
  refine (HT1.out _ HSM.out hb03).mono ?_
  rintro e w4 ⟨a4, ys4, rfl, h41, h42, h43, hb4⟩
  have hb04 := nx hb03 hb4
  have H41 := Lib.hid h41
  have H42 := Lib.hid h42
  have H43 := Lib.hid h43
  clear h41 h42 h43
  go_wp2_with fail
  refine (HVI.out _ _ ys4 hn1 (HEN.out.below hb04) H41.out H42.out H43.out).mono ?_
  rintro e w5 ⟨rfl, hb5⟩
  have hb05 := nx hb04 hb5
  go_wp2_with fail
  refine (HT1.out _ HSM.out hb05).mono ?_
  rintro e w6 ⟨a6, ys6, rfl, h61, h62, h63, hb6⟩
  go_wp2_with fail
  refine (HEQ.out _ _ ys4 _ ys6 hn1 H41.out H42.out (H43.out.below (nx hb5 hb6)) h61 h62 h63).mono ?_
  rintro e w7 ⟨rfl, hb7⟩
  go_wp2
  go_ret
  exact ⟨rfl, nx (nx hb05 hb6) hb7⟩
end Go.Proofs.YtfiaankfmdpmkaaDoor
