/-
  Several texts in one. No statement is proved here.
-/
import Derived.Test.YtombejhpfobehaaGreatDoorZip1
import Derived.Deep.RegionWith
import Derived.Test.YtombejhpfobehaaGreatDoorMal
import Derived.Test.YtombejhpfobehaaGreatDoorBoxI
import Derived.Test.YtombejhpfobehaaGreatDoorDraw1
import Derived.Test.YtombejhpfobehaaGreatDoorCards
import Derived.Test.YtombejhpfobehaaGreatDoorTie
import Derived.Test.YtombejhpfobehaaGreatDoorAtoms
import Derived.Deep.DeepHandedRow
import Derived.Lib.LaidTab
import Derived.Deep.DeepLaidRun
import Derived.Test.YtombejhpfobehaaGreatDoorAddr
import Derived.Shelf.Vars
import Derived.ProofKit
import Derived.OpenShut
import Derived.ShutString
import Derived.ChangeOld
import Derived.WalkSmall
import Derived.Test.YtombejhpfobehaaGreatDoorLists
import Derived.SliceStrings
import Derived.Test.YtombejhpfobehaaGreatDoorMalS
import Derived.Test.YtombejhpfobehaaGreatDoorOnly
import Derived.Deep.Cut
import Derived.Test.YtombejhpfobehaaGreatDoorQuietB
import Derived.Deep.QuietTactic
import Derived.BigQuiet
import Derived.Test.YtombejhpfobehaaGreatDoorSsnB
import Derived.Test.YtombejhpfobehaaGreatDoorBox
section
namespace Go.Proofs.YtombejhpfobehaaGreatDoor
open Go.RowKit

set_option maxRecDepth 100000 in
set_option maxHeartbeats 400000 in
theorem l2Name_any (s : ByteArray) (w : World) (hs : s.size ≤ 1073741824) :
    Calls Tryz.prog 190 #[.string s] w fun e w' => e = .returned (.bool (isName s.data.toList)) ∧ w = w' := by
  have HD : Hid (isName s.data.toList = (isText s.data.toList && decide (s.size ≤ 40))) := rfl
  cases h : isText s.data.toList
  · have H := Lib.hid h
    clear h
    go_enter Tryz.func190, Tryz.ntmps190
    go_wp2_with fail
    refine (textValidS_any s _ (by unfold maxLen; omega)).mono ?_
    rintro e w1 ⟨rfl, rfl⟩
    rw [H.out]
    go_wp2
    go_ret
    exact ⟨ret_bool (by rw [HD.out, H.out]; rfl), rfl⟩
  · have H := Lib.hid h
    clear h
    go_enter Tryz.func190, Tryz.ntmps190
    go_wp2_with fail
    refine (textValidS_any s _ (by unfold maxLen; omega)).mono ?_
    rintro e w1 ⟨rfl, rfl⟩
    rw [H.out]
    go_wp2
    go_ret
    exact ⟨ret_bool (by rw [HD.out, H.out, Bool.true_and, Bool.eq_iff_iff]; simp; omega), rfl⟩
theorem isLocal_long {l : List UInt8} (h : 30 < l.length) : isLocal l = false := by unfold isLocal; rw [decide_eq_false (by omega)]; rfl
theorem isDomain_long {l : List UInt8} (h : 40 < l.length) : isDomain l = false := by unfold isDomain; rw [decide_eq_false (by omega)]; rfl
set_option maxRecDepth 100000 in
set_option maxHeartbeats 1000000 in
theorem addressValidS_any (n l d : ByteArray) (w : World) (hn : n.size ≤ 1073741000) (hl : l.size ≤ 1073741000) (hd : d.size ≤ 1073741000) :
    Calls Tryz.prog 172 #[.agg #[.string n, .string l, .string d]] w fun e w' => e = .returned (.bool (isAdr (adr n l d))) ∧ Below w.heap.size w w' := by
  have HP : Hid (isAdr (adr n l d) = (isName n.data.toList && isLocal l.data.toList && isDomain d.data.toList)) := rfl
  have hb0 : Below w.heap.size w (w.alloc (.cells #[.string n, .string l, .string d] 135)) := (Below.refl _ _).alloc (Nat.le_refl _) _
  cases h1 : isName n.data.toList
  · have H1 := Lib.hid h1
    clear h1
    go_enter Tryz.func172, Tryz.ntmps172
    go_wp2_with fail
    refine (l2Name_any n _ (by omega)).mono ?_
    rintro e w1 ⟨rfl, rfl⟩
    rw [H1.out]
    go_wp2
    go_ret
    exact ⟨ret_bool (by rw [HP.out, H1.out]; rfl), hb0⟩
  · have H1 := Lib.hid h1
    clear h1
    by_cases h30 : l.size ≤ 30
    · have d1 : decide ((l.size : Int) ≤ 30) = true := by simp; omega
      cases h3 : isLocal l.data.toList
      · have H3 := Lib.hid h3
        clear h3
        go_enter Tryz.func172, Tryz.ntmps172
        go_wp2_with fail
        refine (l2Name_any n _ (by omega)).mono ?_
        rintro e w1 ⟨rfl, rfl⟩
        rw [H1.out]
        go_wp2_with fail
        refine (l2Local_any l _ hl).mono ?_
        rintro e w1 ⟨rfl, hb1⟩
        rw [H3.out]
        go_wp2
        go_ret
        exact ⟨ret_bool (by rw [HP.out, H1.out, H3.out]; rfl), nx hb0 hb1⟩
      · have H3 := Lib.hid h3
        clear h3
        by_cases h40 : d.size ≤ 40
        · have d2 : decide ((d.size : Int) ≤ 40) = true := by simp; omega
          go_enter Tryz.func172, Tryz.ntmps172
          go_wp2_with fail
          refine (l2Name_any n _ (by omega)).mono ?_
          rintro e w1 ⟨rfl, rfl⟩
          rw [H1.out]
          go_wp2_with fail
          refine (l2Local_any l _ hl).mono ?_
          rintro e w1 ⟨rfl, hb1⟩
          rw [H3.out]
          obtain ⟨hc, hf⟩ := bcell hb1
          go_wp2_with fail
          refine (l2Domain_any d _ hd).mono ?_
          rintro e w2 ⟨rfl, hb2⟩
          go_wp2
          go_ret
          exact ⟨ret_bool (by rw [HP.out, H1.out, H3.out]; rfl), nx (nx hb0 hb1) hb2⟩
        · have d2 : decide ((d.size : Int) ≤ 40) = false := by simp; omega
          have HDD := Lib.hid (isDomain_long (l := d.data.toList) (by rw [size_list]; omega))
          go_enter Tryz.func172, Tryz.ntmps172
          go_wp2_with fail
          refine (l2Name_any n _ (by omega)).mono ?_
          rintro e w1 ⟨rfl, rfl⟩
          rw [H1.out]
          go_wp2_with fail
          refine (l2Local_any l _ hl).mono ?_
          rintro e w1 ⟨rfl, hb1⟩
          rw [H3.out]
          obtain ⟨hc, hf⟩ := bcell hb1
          go_wp2
          go_ret
          exact ⟨ret_bool (by rw [HP.out, H1.out, H3.out, HDD.out]; rfl), nx hb0 hb1⟩
    · have d1 : decide ((l.size : Int) ≤ 30) = false := by simp; omega
      have HLL := Lib.hid (isLocal_long (l := l.data.toList) (by rw [size_list]; omega))
      go_enter Tryz.func172, Tryz.ntmps172
      go_wp2_with fail
      refine (l2Name_any n _ (by omega)).mono ?_
      rintro e w1 ⟨rfl, rfl⟩
      rw [H1.out]
      go_wp2
      go_ret
      exact ⟨ret_bool (by rw [HP.out, H1.out, HLL.out]; rfl), hb0⟩
end Go.Proofs.YtombejhpfobehaaGreatDoor
end

section
namespace Go.Proofs.YtombejhpfobehaaGreatDoor
open Go.RowKit

def boxVal (l : List UInt8) : Adr × Bool := match cutU 64 l with
  | none => (⟨[], l, []⟩, false)
  | some (a, d) => (⟨[], a, low d⟩, isAdr ⟨[], a, low d⟩)
theorem boxVal_boxA (l : List UInt8) : boxA [] l = if (boxVal l).2 then some (boxVal l).1 else none := by
  unfold boxA boxVal
  cases cutU 64 l with
  | none => rfl
  | some y => rfl
theorem boxVal_small (l : List UInt8) : (boxVal l).1.loc.length ≤ l.length ∧ (boxVal l).1.dom.length ≤ l.length ∧ (boxVal l).1.name = [] := by
  unfold boxVal
  cases h : cutU 64 l with
  | none => exact ⟨Nat.le_refl _, by simp, rfl⟩
  | some y =>
    obtain ⟨a, d⟩ := y
    have := cutU_bound h
    exact ⟨by show a.length ≤ _; omega, by show (low d).length ≤ _; unfold low; rw [List.length_map]; omega, rfl⟩
def BoxRet (l : List UInt8) (w : World) (e : Ending) (w' : World) : Prop := e = .returned (.tuple #[adrV (boxVal l).1, .bool (boxVal l).2]) ∧ Below w.heap.size w w'
theorem boxRet_none {l : List UInt8} {w w' : World} {x : ByteArray} (h : cutU 64 l = none) (hx : x.data.toList = l) (hb : Below w.heap.size w w') : BoxRet l w (.returned (.tuple #[.agg #[.string ⟨#[]⟩, .string x, .string ⟨#[]⟩], .bool false])) w' := by
  refine ⟨?_, hb⟩
  unfold boxVal; rw [h]
  show _ = Ending.returned (.tuple #[.agg #[.string (str []), .string (str l), .string (str [])], .bool false])
  rw [← hx, str_of]; rfl
theorem boxRet_some {l a d : List UInt8} {w w' : World} {b : Bool} (h : cutU 64 l = some (a, d)) (hv : b = isAdr ⟨[], a, low d⟩) (hb : Below w.heap.size w w') : BoxRet l w (.returned (.tuple #[.agg #[.string ⟨#[]⟩, .string (str a), .string (str (low d))], .bool b])) w' := by
  refine ⟨?_, hb⟩
  unfold boxVal; rw [h, hv]; rfl
theorem lowS_nil : lowS ⟨#[]⟩ = ⟨#[]⟩ := rfl
set_option maxRecDepth 100000 in
set_option maxHeartbeats 1000000 in
theorem l2Box_any (s : ByteArray) (w : World) (hs : s.size ≤ 1073741000) :
    Calls Tryz.prog 142 #[.string s] w (BoxRet s.data.toList w) := by
  have hb0 : Below w.heap.size w (w.alloc (.cells #[.string ⟨#[]⟩, .string ⟨#[]⟩, .string ⟨#[]⟩] 135)) := (Below.refl _ _).alloc (Nat.le_refl _) _
  cases hcut : cutU 64 s.data.toList with
  | none =>
    have HC := Lib.hid hcut
    clear hcut
    go_enter Tryz.func142, Tryz.ntmps142
    go_wp2_with fail
    refine (l2Cut_any s 64 _ (by decide) (by omega)).mono ?_
    rintro e w1 ⟨_, hno, q, rfl⟩
    have he := hno HC.out
    clear hno
    subst he
    have hb1 := below_drewN hb0 q
    go_wp2_with fail
    refine (lowerTextS_any ⟨#[]⟩ _ (by decide)).mono ?_
    rintro e w2 ⟨rfl, hb2⟩
    rw [lowS_nil]
    obtain ⟨hc, hf⟩ := bcell hb2
    have hsz := hb2.size
    simp at hsz
    have hlt : w.heap.size < w2.heap.size := by omega
    have hne : w.heap.size ≠ w2.heap.size := by omega
    have hne2 : w2.heap.size ≠ w.heap.size := by omega
    go_wp2
    go_region
    all_goals
      go_wp2
      refine bodyPost_ret (v := .tuple #[.agg #[.string ⟨#[]⟩, .string s, .string ⟨#[]⟩], .bool false]) (by simp [results, Tryz.results142, go_sem, hc, hlt, World.cell?_alloc_lt]) rfl (boxRet_none HC.out rfl ?_)
      exact ((((((nx hb1 hb2).setCell (by simp) _).setCell (by simp) _).setCell (by simp) _).alloc (by simp; omega) _).drew)
  | some y =>
    obtain ⟨a, d⟩ := y
    have hbd := cutU_bound hcut
    rw [size_list] at hbd
    have HC := Lib.hid hcut
    have HLD := Lib.hid (lowS_str d)
    have hlz : (str a).size ≤ 1073741000 := by rw [str_size]; omega
    have hdz : (str d).size ≤ 1073741000 := by rw [str_size]; omega
    have hez : (str (low d)).size ≤ 1073741000 := by rw [str_size]; unfold low; rw [List.length_map]; omega
    have HAD : Hid (adr ⟨#[]⟩ (str a) (str (low d)) = ⟨[], a, low d⟩) := adr_str ⟨[], a, low d⟩
    clear hcut hbd
    go_enter Tryz.func142, Tryz.ntmps142
    go_wp2_with fail
    refine (l2Cut_any s 64 _ (by decide) (by omega)).mono ?_
    rintro e w1 ⟨hy, _, q, rfl⟩
    have he := hy a d HC.out
    clear hy
    subst he
    have hb1 := below_drewN hb0 q
    go_wp2_with fail
    refine (lowerTextS_any (str d) _ (by omega)).mono ?_
    rintro e w2 ⟨rfl, hb2⟩
    rw [HLD.out]
    obtain ⟨hc, hf⟩ := bcell hb2
    have hsz := hb2.size
    simp at hsz
    have hlt : w.heap.size < w2.heap.size := by omega
    have hlt2 : w.heap.size < w2.heap.size + 1 := by omega
    have hne : w.heap.size ≠ w2.heap.size := by omega
    have hne2 : w2.heap.size ≠ w.heap.size := by omega
    go_wp2
    go_region_with (go_at_call 172; refine (addressValidS_any ⟨#[]⟩ (str a) (str (low d)) _ ?_ ?_ ?_).mono ?_; exact Nat.zero_le _; exact hlz; exact hez; rintro e w5 ⟨rfl, hb5⟩; rw [HAD.out]; obtain ⟨hc5, hf5⟩ := bcell hb5)
    all_goals
      go_wp2
      refine bodyPost_ret (v := .tuple #[.agg #[.string ⟨#[]⟩, .string (str a), .string (str (low d))], .bool (isAdr ⟨[], a, low d⟩)]) (by simp [results, Tryz.results142, go_sem, hc, hc5, hlt, hlt2, World.cell?_alloc_lt]) rfl (boxRet_some HC.out rfl ?_)
      have h25 : Below w.heap.size w w5 := nx (((nx hb1 hb2).alloc (nx hb1 hb2).size _).drew) hb5
      exact (((h25.setCell (by simp) _).setCell (by simp) _).setCell (by simp) _)
end Go.Proofs.YtombejhpfobehaaGreatDoor
end

section
namespace Go.Proofs.YtombejhpfobehaaGreatDoor
open Go.RowKit

theorem boxVal_path (l : List UInt8) : isPath l = ((boxVal l).2 && decide (boxT (boxVal l).1 = l)) := by
  rw [path_box, boxVal_boxA]
  cases (boxVal l).2 <;> rfl
theorem boxVal_low (l : List UInt8) : isPath (lowPath l) = (boxVal l).2 ∧ (isPath (lowPath l) = true → boxT (boxVal l).1 = lowPath l) := by
  have h := box_path l
  rw [boxVal_boxA] at h
  cases hb : (boxVal l).2 with
  | false =>
    rw [hb] at h
    cases hp : isPath (lowPath l) with
    | false => exact ⟨rfl, fun h => by cases h⟩
    | true => rw [hp] at h; cases h
  | true =>
    rw [hb] at h
    cases hp : isPath (lowPath l) with
    | false => rw [hp] at h; cases h
    | true => rw [hp] at h; injection h with h; exact ⟨rfl, fun _ => h⟩
theorem strS_toList (l : List UInt8) : (str l).toList = l := by rw [ByteArray.toList_eq]; exact str_list _
theorem sumBox (p q : List UInt8) (s : ByteArray) : (((str p ++ ⟨#[64]⟩) ++ str q).toList == s.toList) = decide (p ++ 64 :: q = s.data.toList) := by
  have e : ((str p ++ ⟨#[64]⟩) ++ str q).toList = p ++ 64 :: q := by
    rw [ByteArray.toList_eq, Joins.data_append, Joins.data_append, str_list, str_list]; simp
  rw [e, ByteArray.toList_eq, Bool.eq_iff_iff, beq_iff_eq, decide_eq_true_iff]
set_option maxRecDepth 100000 in
set_option maxHeartbeats 1000000 in
theorem l10Box_any (s : ByteArray) (w : World) (hs : s.size ≤ 1073741000) :
    Calls Tryz.prog 87 #[.string s] w fun e w' => e = .returned (.bool (isPath s.data.toList)) ∧ Below w.heap.size w w' := by
  obtain ⟨z1, z2, z3⟩ := boxVal_small s.data.toList
  rw [size_list] at z1 z2
  have H0 : Hid (∀ u, Calls Tryz.prog 142 #[.string s] u (BoxRet s.data.toList u)) := fun u => l2Box_any s u (by omega)
  unfold BoxRet adrV at H0
  rw [boxVal_path]
  have d0 := sumBox (boxVal s.data.toList).1.loc (boxVal s.data.toList).1.dom s
  unfold boxT
  have s1 : (str (boxVal s.data.toList).1.loc).size ≤ 1073741000 := by rw [str_size]; omega
  have s2 : (str (boxVal s.data.toList).1.dom).size ≤ 1073741000 := by rw [str_size]; omega
  have s3 : (ByteArray.mk #[64]).size = 1 := rfl
  generalize decide ((boxVal s.data.toList).1.loc ++ 64 :: (boxVal s.data.toList).1.dom = s.data.toList) = g1 at *
  generalize (boxVal s.data.toList).2 = g0 at *
  generalize str (boxVal s.data.toList).1.loc = x1 at *
  generalize str (boxVal s.data.toList).1.dom = x2 at *
  generalize str (boxVal s.data.toList).1.name = x0 at *
  clear z1 z2 z3
  go_enter Tryz.func87, Tryz.ntmps87
  go_wp2_with fail
  refine (H0.out _).mono ?_
  rintro e w1 ⟨rfl, hb1⟩
  have hb2 : Below w.heap.size w (w1.alloc (.cells #[.string x0, .string x1, .string x2] 135)) := hb1.alloc hb1.size _
  cases g0
  · go_wp2
    go_ret
    exact ⟨rfl, by first | exact hb2 | exact hb1⟩
  · go_wp2
    go_ret
    exact ⟨rfl, by first | exact hb2 | exact hb1⟩
theorem boxE (x : ByteArray) (w : World) (hx : x.size ≤ 1073741000) : Calls Tryz.prog 87 #[.string x] w fun e w' => e = .returned (.bool (isPath x.data.toList)) ∧ Below w.heap.size w w' := l10Box_any x w hx
theorem textSE (x : ByteArray) (w : World) (hx : x.size ≤ 1073741000) : Calls Tryz.prog 125 #[.string x] w fun e w' => e = .returned (.bool (isText x.data.toList)) ∧ Below w.heap.size w w' :=
  (textValidS_any x w (by unfold maxLen; omega)).mono (fun _ _ ⟨he, hw⟩ => ⟨he, hw ▸ Below.refl _ _⟩)
theorem all_bad {P : List UInt8 → Bool} {xs : List (List UInt8)} {k : Nat} (h : k < xs.length) (hp : P xs[k] = false) : xs.all P = false := by
  rw [List.all_eq_false]; exact ⟨_, List.getElem_mem h, by simp [hp]⟩
theorem all_good {P : List UInt8 → Bool} {xs : List (List UInt8)} {n : Nat} (hn : xs.length ≤ n) (h : ∀ j, j < n → (h' : j < xs.length) → P xs[j] = true) : xs.all P = true := by
  rw [List.all_eq_true]; intro x hx
  obtain ⟨j, hj, rfl⟩ := List.getElem_of_mem hx
  exact h j (by omega) hj
set_option maxRecDepth 100000 in
set_option maxHeartbeats 4000000 in
theorem l10Draft_any (M : Nat) (x : MlA) (w : World) (h1 : RdM M w x) (hM : M ≤ 1073741000) :
    Calls Tryz.prog 103 #[mlV x] w fun e w' => e = .returned (.bool (isDraft x.m)) ∧ Below w.heap.size w w' := by
  obtain ⟨⟨f1, t1, l1⟩, a1, c1, b1, d1⟩ := x
  obtain ⟨⟨p1, _, _⟩, ⟨p2, _, _⟩, p0, p3, p5, p4, p6⟩ := h1
  dsimp only at *
  unfold mlV isDraft isSend
  dsimp only
  have H0 : Hid (∀ u, Below w.heap.size w u → Calls Tryz.prog 87 #[.string (str f1)] u fun e w' => e = .returned (.bool (isPath f1)) ∧ Below u.heap.size u w') := fun u hb => by
    have := l10Box_any (str f1) u (by rw [str_size]; omega)
    rw [str_list] at this; exact this
  have P1 := Lib.hid p1
  have P2 := Lib.hid p2
  have P5 := Lib.hid p5
  have P6 := Lib.hid p6
  have e1 : decide (t1.length ≤ 10) = decide ((t1.length : Int) ≤ 10) := decide_eq_decide.2 (by omega)
  have e2 : decide (l1.length ≤ 31) = decide ((l1.length : Int) ≤ 31) := decide_eq_decide.2 (by omega)
  rw [e1, e2]
  have d0 := eqEmp f1
  have d0' : ((str f1).toList != []) = !decide (f1 = []) := by rw [bne, d0]
  have hz1 : t1.length ≤ 1073741000 := by omega
  have hz2 : l1.length ≤ 1073741000 := by omega
  have HN1 : Hid (t1.length ≤ t1.length) := Nat.le_refl _
  have HN2 : Hid (l1.length ≤ l1.length) := Nat.le_refl _
  clear p1 p2 p3 p4 p5 p6 p0 e1 e2
  generalize decide (f1 = []) = g00 at *
  generalize isPath f1 = g0 at *
  obtain ⟨n1, hn1⟩ : ∃ n, n = t1.length := ⟨_, rfl⟩
  obtain ⟨n3, hn3⟩ : ∃ n, n = l1.length := ⟨_, rfl⟩
  rw [← hn1, ← hn3]
  rw [← hn1] at hz1 P1
  rw [← hn3] at hz2 P2
  have HE1 := Lib.hid hn1
  have HE3 := Lib.hid hn3
  clear hn1 hn3 HN1 HN2
  generalize str f1 = s1 at *
  have hA : Below w.heap.size w (w.alloc (.cells #[.string s1, .slice a1 n1 c1, .slice b1 n3 d1] 33)) := (Below.refl _ _).alloc (Nat.le_refl _) _
  have HX := Lib.hid (MK3.new w (.string s1) (.slice a1 n1 c1) (.slice b1 n3 d1) 33)
  cases g00
  · cases g0
    · go_enter Tryz.func103, Tryz.ntmps103
      go_wp2_with fail
      refine (H0.out _ hA).mono ?_
      rintro e w1 ⟨rfl, hb1⟩
      have hb01 := nx hA hb1
      have HX1 := Lib.hid (HX.out.below hb1)
      go_wp2
      go_ret
      exact ⟨rfl, hb01⟩
    · by_cases k1 : (n1 : Int) ≤ 10
      · by_cases k2 : (n3 : Int) ≤ 31
        · rw [decide_eq_true k1, decide_eq_true k2]
          go_enter Tryz.func103, Tryz.ntmps103
          go_wp2_with fail
          refine (H0.out _ hA).mono ?_
          rintro e w1 ⟨rfl, hb1⟩
          have hb01 := nx hA hb1
          have HX1 := Lib.hid (HX.out.below hb1)
          obtain ⟨y0, y1, y2⟩ := HX1.out
          go_wp2_with fail
          go_loopw [3] (fun i w5 => ∃ k : Nat, k ≤ n1 ∧ i = .int .i64 k ∧ Below w1.heap.size w1 w5 ∧ ∀ j, j < k → (h' : j < t1.length) → isPath t1[j] = true) (fun i _ => n1 - (intOf i).toNat)
          case atStart => exact ⟨0, Nat.zero_le _, rfl, Below.refl _ _, fun j h => by omega⟩
          case round =>
            obtain ⟨k, hk, rfl, hb, hall⟩ := hrel
            have HA := Lib.hid hall
            clear hall
            obtain ⟨y0, y1, y2⟩ := HX1.out.below hb
            by_cases hlt : k < n1
            · have hkx : k < t1.length := by have := HE1.out; omega
              obtain ⟨b, off, rfl, hbl, hcell⟩ := P1.out.2.resolve_left (by omega)
              have hc1 : wr.cell? ⟨b, off + k, none⟩ = some (.string (str t1[k])) := by rw [below_at (nx hb01 hb) hbl]; exact hcell k hkx
              have HC : Hid (Calls Tryz.prog 87 #[.string (str t1[k])] wr fun e w' => e = .returned (.bool (isPath (str t1[k]).data.toList)) ∧ Below wr.heap.size wr w') := boxE _ wr (by rw [str_size]; have := P5.out _ (List.getElem_mem hkx); omega)
              rw [str_list] at HC
              clear hcell
              cases hp : isPath t1[k]
              · have HE : Hid (t1.all isPath = false) := all_bad hkx hp
                rw [hp] at HC
                generalize str t1[k] = z at *
                clear hp
                go_wp2_with fail
                refine HC.out.mono ?_
                rintro e w2 ⟨rfl, hb2⟩
                go_wp2
                go_ret
                exact ⟨ret_bool (by rw [HE.out]; simp), nx hb01 (nx hb hb2)⟩
              · have HQ := Lib.hid hp
                rw [hp] at HC
                generalize str t1[k] = z at *
                clear hp
                go_wp2_with fail
                refine HC.out.mono ?_
                rintro e w2 ⟨rfl, hb2⟩
                go_wp2
                go_roundw
                case rel => exact ⟨k + 1, by omega, by go_num, nx hb hb2, fun j h h' => by
                  by_cases e : j = k
                  · subst e; exact HQ.out
                  · exact HA.out j (by omega) h'⟩
                case measure => simp [intOf]; omega
            · have HT : Hid (t1.all isPath = true) := all_good (n := n1) (by have := HE1.out; omega) (fun j h h' => HA.out j (by omega) h')
              go_wp2_with fail
              go_loopw [4] (fun i w5 => ∃ k : Nat, k ≤ n3 ∧ i = .int .i64 k ∧ Below w1.heap.size w1 w5 ∧ ∀ j, j < k → (h' : j < l1.length) → isText l1[j] = true) (fun i _ => n3 - (intOf i).toNat)
              case atStart => exact ⟨0, Nat.zero_le _, rfl, hb, fun j h => by omega⟩
              case round =>
                clear y0 y1 y2 hlt hb hk
                obtain ⟨k2, hk, rfl, hb, hall⟩ := hrel
                have HA2 := Lib.hid hall
                clear hall
                obtain ⟨y0, y1, y2⟩ := HX1.out.below hb
                by_cases hlt : k2 < n3
                · have hkx : k2 < l1.length := by have := HE3.out; omega
                  obtain ⟨b, off, rfl, hbl, hcell⟩ := P2.out.2.resolve_left (by omega)
                  have hc1 : wr.cell? ⟨b, off + k2, none⟩ = some (.string (str l1[k2])) := by rw [below_at (nx hb01 hb) hbl]; exact hcell k2 hkx
                  have HC : Hid (Calls Tryz.prog 125 #[.string (str l1[k2])] wr fun e w' => e = .returned (.bool (isText (str l1[k2]).data.toList)) ∧ Below wr.heap.size wr w') := textSE _ wr (by rw [str_size]; have := P6.out _ (List.getElem_mem hkx); omega)
                  rw [str_list] at HC
                  clear hcell
                  cases hp : isText l1[k2]
                  · have HE : Hid (l1.all isText = false) := all_bad hkx hp
                    rw [hp] at HC
                    generalize str l1[k2] = z at *
                    clear hp
                    go_wp2_with fail
                    refine HC.out.mono ?_
                    rintro e w2 ⟨rfl, hb2⟩
                    go_wp2
                    go_ret
                    exact ⟨ret_bool (by rw [HE.out]; simp), nx hb01 (nx hb hb2)⟩
                  · have HQ := Lib.hid hp
                    rw [hp] at HC
                    generalize str l1[k2] = z at *
                    clear hp
                    go_wp2_with fail
                    refine HC.out.mono ?_
                    rintro e w2 ⟨rfl, hb2⟩
                    go_wp2
                    go_roundw
                    case rel => exact ⟨k2 + 1, by omega, by go_num, nx hb hb2, fun j h h' => by
                      by_cases e : j = k2
                      · subst e; exact HQ.out
                      · exact HA2.out j (by omega) h'⟩
                    case measure => simp [intOf]; omega
                · have HL : Hid (l1.all isText = true) := all_good (n := n3) (by have := HE3.out; omega) (fun j h h' => HA2.out j (by omega) h')
                  go_wp2
                  go_ret
                  exact ⟨ret_bool (by rw [HT.out, HL.out]; rfl), nx hb01 hb⟩
        · rw [decide_eq_false k2]
          go_enter Tryz.func103, Tryz.ntmps103
          go_wp2_with fail
          refine (H0.out _ hA).mono ?_
          rintro e w1 ⟨rfl, hb1⟩
          have hb01 := nx hA hb1
          have HX1 := Lib.hid (HX.out.below hb1)
          obtain ⟨y0, y1, y2⟩ := HX1.out
          go_wp2
          go_ret
          exact ⟨ret_bool (by simp), hb01⟩
      · rw [decide_eq_false k1]
        go_enter Tryz.func103, Tryz.ntmps103
        go_wp2_with fail
        refine (H0.out _ hA).mono ?_
        rintro e w1 ⟨rfl, hb1⟩
        have hb01 := nx hA hb1
        have HX1 := Lib.hid (HX.out.below hb1)
        obtain ⟨y0, y1, y2⟩ := HX1.out
        go_wp2
        go_ret
        exact ⟨ret_bool (by simp), hb01⟩
  · by_cases k1 : (n1 : Int) ≤ 10
    · by_cases k2 : (n3 : Int) ≤ 31
      · rw [decide_eq_true k1, decide_eq_true k2]
        go_enter Tryz.func103, Tryz.ntmps103
        have hb01 := hA
        have HX1 := HX
        obtain ⟨y0, y1, y2⟩ := HX1.out
        go_wp2_with fail
        generalize w.alloc (.cells #[.string s1, .slice a1 n1 c1, .slice b1 n3 d1] 33) = w1 at *
        go_loopw [3] (fun i w5 => ∃ k : Nat, k ≤ n1 ∧ i = .int .i64 k ∧ Below w1.heap.size w1 w5 ∧ ∀ j, j < k → (h' : j < t1.length) → isPath t1[j] = true) (fun i _ => n1 - (intOf i).toNat)
        case atStart => exact ⟨0, Nat.zero_le _, rfl, Below.refl _ _, fun j h => by omega⟩
        case round =>
          obtain ⟨k, hk, rfl, hb, hall⟩ := hrel
          have HA := Lib.hid hall
          clear hall
          obtain ⟨y0, y1, y2⟩ := HX1.out.below hb
          by_cases hlt : k < n1
          · have hkx : k < t1.length := by have := HE1.out; omega
            obtain ⟨b, off, rfl, hbl, hcell⟩ := P1.out.2.resolve_left (by omega)
            have hc1 : wr.cell? ⟨b, off + k, none⟩ = some (.string (str t1[k])) := by rw [below_at (nx hb01 hb) hbl]; exact hcell k hkx
            have HC : Hid (Calls Tryz.prog 87 #[.string (str t1[k])] wr fun e w' => e = .returned (.bool (isPath (str t1[k]).data.toList)) ∧ Below wr.heap.size wr w') := boxE _ wr (by rw [str_size]; have := P5.out _ (List.getElem_mem hkx); omega)
            rw [str_list] at HC
            clear hcell
            cases hp : isPath t1[k]
            · have HE : Hid (t1.all isPath = false) := all_bad hkx hp
              rw [hp] at HC
              generalize str t1[k] = z at *
              clear hp
              go_wp2_with fail
              refine HC.out.mono ?_
              rintro e w2 ⟨rfl, hb2⟩
              go_wp2
              go_ret
              exact ⟨ret_bool (by rw [HE.out]; simp), nx hb01 (nx hb hb2)⟩
            · have HQ := Lib.hid hp
              rw [hp] at HC
              generalize str t1[k] = z at *
              clear hp
              go_wp2_with fail
              refine HC.out.mono ?_
              rintro e w2 ⟨rfl, hb2⟩
              go_wp2
              go_roundw
              case rel => exact ⟨k + 1, by omega, by go_num, nx hb hb2, fun j h h' => by
                by_cases e : j = k
                · subst e; exact HQ.out
                · exact HA.out j (by omega) h'⟩
              case measure => simp [intOf]; omega
          · have HT : Hid (t1.all isPath = true) := all_good (n := n1) (by have := HE1.out; omega) (fun j h h' => HA.out j (by omega) h')
            go_wp2_with fail
            go_loopw [4] (fun i w5 => ∃ k : Nat, k ≤ n3 ∧ i = .int .i64 k ∧ Below w1.heap.size w1 w5 ∧ ∀ j, j < k → (h' : j < l1.length) → isText l1[j] = true) (fun i _ => n3 - (intOf i).toNat)
            case atStart => exact ⟨0, Nat.zero_le _, rfl, hb, fun j h => by omega⟩
            case round =>
              clear y0 y1 y2 hlt hb hk
              obtain ⟨k2, hk, rfl, hb, hall⟩ := hrel
              have HA2 := Lib.hid hall
              clear hall
              obtain ⟨y0, y1, y2⟩ := HX1.out.below hb
              by_cases hlt : k2 < n3
              · have hkx : k2 < l1.length := by have := HE3.out; omega
                obtain ⟨b, off, rfl, hbl, hcell⟩ := P2.out.2.resolve_left (by omega)
                have hc1 : wr.cell? ⟨b, off + k2, none⟩ = some (.string (str l1[k2])) := by rw [below_at (nx hb01 hb) hbl]; exact hcell k2 hkx
                have HC : Hid (Calls Tryz.prog 125 #[.string (str l1[k2])] wr fun e w' => e = .returned (.bool (isText (str l1[k2]).data.toList)) ∧ Below wr.heap.size wr w') := textSE _ wr (by rw [str_size]; have := P6.out _ (List.getElem_mem hkx); omega)
                rw [str_list] at HC
                clear hcell
                cases hp : isText l1[k2]
                · have HE : Hid (l1.all isText = false) := all_bad hkx hp
                  rw [hp] at HC
                  generalize str l1[k2] = z at *
                  clear hp
                  go_wp2_with fail
                  refine HC.out.mono ?_
                  rintro e w2 ⟨rfl, hb2⟩
                  go_wp2
                  go_ret
                  exact ⟨ret_bool (by rw [HE.out]; simp), nx hb01 (nx hb hb2)⟩
                · have HQ := Lib.hid hp
                  rw [hp] at HC
                  generalize str l1[k2] = z at *
                  clear hp
                  go_wp2_with fail
                  refine HC.out.mono ?_
                  rintro e w2 ⟨rfl, hb2⟩
                  go_wp2
                  go_roundw
                  case rel => exact ⟨k2 + 1, by omega, by go_num, nx hb hb2, fun j h h' => by
                    by_cases e : j = k2
                    · subst e; exact HQ.out
                    · exact HA2.out j (by omega) h'⟩
                  case measure => simp [intOf]; omega
              · have HL : Hid (l1.all isText = true) := all_good (n := n3) (by have := HE3.out; omega) (fun j h h' => HA2.out j (by omega) h')
                go_wp2
                go_ret
                exact ⟨ret_bool (by rw [HT.out, HL.out]; rfl), nx hb01 hb⟩
      · rw [decide_eq_false k2]
        go_enter Tryz.func103, Tryz.ntmps103
        go_wp2
        go_ret
        exact ⟨ret_bool (by simp), hA⟩
    · rw [decide_eq_false k1]
      go_enter Tryz.func103, Tryz.ntmps103
      go_wp2
      go_ret
      exact ⟨ret_bool (by simp), hA⟩
set_option maxRecDepth 100000 in
set_option maxHeartbeats 2000000 in
theorem mailValidS_any (M : Nat) (x : MlA) (w : World) (h1 : RdM M w x) (hM : M ≤ 1073741000) :
    Calls Tryz.prog 64 #[mlV x] w fun e w' => e = .returned (.bool (isMail x.m)) ∧ Below w.heap.size w w' := by
  have hA0 : ∀ o, Below w.heap.size w (w.alloc o) := fun o => (Below.refl _ _).alloc (Nat.le_refl _) o
  have H0 : Hid (∀ u, Below w.heap.size w u → Calls Tryz.prog 103 #[mlV x] u fun e w' => e = .returned (.bool (isDraft x.m)) ∧ Below u.heap.size u w') := fun u hb => l10Draft_any M x u (h1.below hb) hM
  obtain ⟨⟨f1, t1, l1⟩, a1, c1, b1, d1⟩ := x
  obtain ⟨⟨p1, _, _⟩, ⟨p2, _, _⟩, p0, p3, p5, p4, p6⟩ := h1
  dsimp only at *
  unfold isMail
  unfold mlV at *
  dsimp only at *
  have e1 : decide (0 < t1.length) = decide ((0 : Int) < (t1.length : Int)) := decide_eq_decide.2 (by omega)
  have e2 : decide (l1.length ≤ 30) = decide ((l1.length : Int) ≤ 30) := decide_eq_decide.2 (by omega)
  rw [e1, e2]
  have hz1 : t1.length ≤ 1073741000 := by omega
  have hz2 : l1.length ≤ 1073741000 := by omega
  clear p1 p2 p3 p4 p5 p6 p0 hM e1 e2
  generalize isDraft ⟨f1, t1, l1⟩ = g0 at *
  generalize t1.length = n1 at *
  generalize l1.length = n3 at *
  generalize str f1 = s1 at *
  have HX := Lib.hid (MK3.new w (.string s1) (.slice a1 n1 c1) (.slice b1 n3 d1) 33)
  go_enter Tryz.func64, Tryz.ntmps64
  go_wp2_with fail
  refine (H0.out _ (hA0 _)).mono ?_
  rintro e w1 ⟨rfl, hb1⟩
  have hb01 := nx (hA0 _) hb1
  obtain ⟨y0, y1, y2⟩ := HX.out.below hb1
  cases g0
  · go_wp2
    go_ret
    exact ⟨rfl, hb01⟩
  · by_cases k1 : (0 : Int) < (n1 : Int)
    · have z1 := decide_eq_true k1
      go_wp2
      go_ret
      exact ⟨ret_bool (by rw [z1]; rfl), hb01⟩
    · have z1 := decide_eq_false k1
      go_wp2
      go_ret
      exact ⟨ret_bool (by rw [z1]; rfl), hb01⟩
end Go.Proofs.YtombejhpfobehaaGreatDoor
end

section
namespace Go.Proofs.YtombejhpfobehaaGreatDoor
open Go.RowKit

theorem isBx_path {b : Bx} (h : isPath b.path = false) : isBx b = false := by unfold isBx; rw [h]; rfl
theorem isBx_long {b : Bx} (h : 4 < b.mails.length) : isBx b = false := by unfold isBx; rw [decide_eq_false (by omega)]; simp
theorem isBx_mail {x : BxA} {j : Nat} (h : j < x.xs.length) (hp : isMail x.xs[j].m = false) : isBx x.b = false := by
  unfold isBx; rw [show x.b.mails.all isMail = false from ml_bad h hp]; simp
theorem isBx_yes {x : BxA} (h1 : isPath x.path = true) (h2 : x.xs.length ≤ 4) (h3 : ∀ j, (h : j < x.xs.length) → isMail x.xs[j].m = true) : isBx x.b = true := by
  unfold isBx
  rw [show isPath x.b.path = true from h1, show x.b.mails.all isMail = true from ml_good (n := x.xs.length) (Nat.le_refl _) (fun j h h' => h3 j h'), show x.b.mails.length = x.xs.length by unfold BxA.b; simp, decide_eq_true h2]; rfl
set_option maxRecDepth 100000 in
set_option maxHeartbeats 8000000 in
theorem boxesValidS_any (M : Nat) (a : Option Addr) (n c : Nat) (xs : List BxA) (w : World) (hx : xs.length = n) (h1 : RdBs M w a xs) (hM : M ≤ 1073741000) (hn : n ≤ 1073741000) :
    Calls Tryz.prog 86 #[.slice a n c] w fun e w' => e = .returned (.bool (isBxs (xs.map BxA.b))) ∧ Below w.heap.size w w' := by
  have hl : (xs.map BxA.b).length = n := by rw [List.length_map]; exact hx
  have HLONG : Hid (8 < n → isBxs (xs.map BxA.b) = false) := fun h => isBxs_long (by omega)
  have HBAD : Hid (∀ k (h : k < xs.length), isBx (xs[k]'h).b = false → isBxs (xs.map BxA.b) = false) := fun k h hq => isBxs_all (bx_bad h hq)
  have HUP : Hid (∀ k (h : k + 1 < xs.length), ltP (xs[k]'(Nat.lt_of_succ_lt h)).path (xs[k + 1]'h).path = false → isBxs (xs.map BxA.b) = false) := fun k h hq => isBxs_up (bx_upbad h hq)
  have HYES : Hid (n ≤ 8 → (∀ j, j < n → (h' : j < xs.length) → isBx (xs[j]'h').b = true) → (∀ j, j + 1 < n → (h' : j + 1 < xs.length) → ltP (xs[j]'(Nat.lt_of_succ_lt h')).path (xs[j + 1]'h').path = true) → isBxs (xs.map BxA.b) = true) := fun h h2 h3 => isBxs_yes (by omega) (bx_good (by omega) h2) (bx_upgood (by omega) h3)
  have X1 := Lib.hid h1
  have L1 := Lib.hid hx
  obtain ⟨ANS, hans⟩ : ∃ A, A = isBxs (xs.map BxA.b) := ⟨_, rfl⟩
  rw [← hans] at HLONG HBAD HUP HYES ⊢
  clear h1 hl hx hans
  go_enter Tryz.func86, Tryz.ntmps86
  go_wp2_with fail
  go_loopw [3] (fun i wr => ∃ k : Nat, k ≤ n ∧ k ≤ 9 ∧ i = .int .i64 k ∧ Below w.heap.size w wr ∧ (∀ j, j < k → (h' : j < xs.length) → isBx xs[j].b = true) ∧ ∀ j, j + 1 < k → (h' : j + 1 < xs.length) → ltP xs[j].path xs[j + 1].path = true) (fun i _ => n - (intOf i).toNat)
  case atStart => exact ⟨0, Nat.zero_le _, by omega, rfl, Below.refl _ _, fun j h => by omega, fun j h => by omega⟩
  case round =>
    obtain ⟨k, hk, hk9, rfl, hb, hall, hup⟩ := hrel
    have HALL := Lib.hid hall
    have HUPS := Lib.hid hup
    clear hall hup
    by_cases hlt : k < n
    · by_cases hk8 : (k : Int) ≤ 8
      · have k1 : k < xs.length := by rw [L1.out]; exact hlt
        obtain ⟨b1, o1, rfl, hl1, p0, p1, p3⟩ := (X1.out.below hb).at k1
        have hkn : (k : Int) < (n : Int) := by omega
        have hk0 : (0 : Int) ≤ (k : Int) := by omega
        have HC : Hid (∀ y : BelowT wr, Calls Tryz.prog 87 #[.string (str xs[k].path)] y.val fun e w' => e = .returned (.bool (isPath xs[k].path)) ∧ Below y.val.heap.size y.val w') := fun y => by
          have := l10Box_any (str xs[k].path) y.val (by rw [str_size]; have := p3.2.1; omega)
          rw [str_list] at this; exact this
        have HBK := Lib.hid (HBAD.out k k1)
        have hxl : xs[k].xs.length ≤ 1073741000 := by have := p3.2.2.1; omega
        have HXR := Lib.hid p3
        have HCELL : Hid (∀ u, Below wr.heap.size wr u → u.cell? ⟨b1, o1 + k * 2, none⟩ = some (.string (str xs[k].path)) ∧ u.cell? ⟨b1, o1 + k * 2 + 1, none⟩ = some (.slice xs[k].a xs[k].xs.length xs[k].c)) := fun u hu => ⟨(below_at hu hl1).trans p0, (below_at hu hl1).trans p1⟩
        have HPREV : Hid (∀ u, Below wr.heap.size wr u → 0 < k → (h : k - 1 < xs.length) → u.cell? ⟨b1, o1 + (k - 1) * 2, none⟩ = some (.string (str xs[k - 1].path))) := fun u hu _ h => by
          obtain ⟨b2, o2, he2, hl2, q0, _, _⟩ := ((X1.out.below hb).below hu).at h
          injection he2 with he2
          injection he2 with e1 e2
          subst e1 e2
          exact q0
        have zc0 : ∀ y : BelowT wr, y.val.cell? ⟨b1, o1 + k * 2, none⟩ = some (.string (str xs[k].path)) := fun y => (HCELL.out _ y.below).1
        have zc1 : ∀ y : BelowT wr, y.val.cell? ⟨b1, o1 + k * 2 + 1, none⟩ = some (.slice xs[k].a xs[k].xs.length xs[k].c) := fun y => (HCELL.out _ y.below).2
        clear p0 p1 p3
        cases hp : isPath xs[k].path
        · have HN : Hid (ANS = false) := HBK.out (isBx_path hp)
          rw [hp] at HC
          clear hp
          generalize xs[k].xs.length = nn at *
          generalize xs[k].a = aa at *
          generalize xs[k].c = cc at *
          generalize str xs[k].path = s2 at *
          go_wp2_with fail
          refine wp_region_quietB (W := wr) (by kernel_rfl) (by kernel_rfl) (Below.refl _ _) ?_
          repeat (go_big_quiet_step (first
            | (go_at_call 87; exact calls_belowT (HC.out _))))
          refine wpQuiet_nil ?_
          intro wz hwz
          obtain ⟨x9, rfl⟩ := hwz
          have hb2 := x9.below
          clear zc0 zc1
          generalize x9.val = w2 at *
          have hb02 := nx hb hb2
          go_wp2
          go_ret
          exact ⟨ret_bool HN.out.symm, hb02⟩
        · have HP := Lib.hid hp
          rw [hp] at HC
          clear hp
          by_cases hlong : (xs[k].xs.length : Int) > 4
          · have HN : Hid (ANS = false) := HBK.out (isBx_long (by unfold BxA.b; simp; omega))
            generalize xs[k].xs.length = nn at *
            generalize xs[k].a = aa at *
            generalize xs[k].c = cc at *
            generalize str xs[k].path = s2 at *
            go_wp2_with fail
            refine wp_region_quietB (W := wr) (by kernel_rfl) (by kernel_rfl) (Below.refl _ _) ?_
            repeat (go_big_quiet_step (first
              | (go_at_call 87; exact calls_belowT (HC.out _))))
            refine wpQuiet_nil ?_
            intro wz hwz
            obtain ⟨x9, rfl⟩ := hwz
            have hb2 := x9.below
            clear zc0 zc1
            generalize x9.val = w2 at *
            have hb02 := nx hb hb2
            go_wp2
            go_ret
            exact ⟨ret_bool HN.out.symm, hb02⟩
          · have HL4 : Hid (xs[k].xs.length ≤ 4) := by show _ ≤ _; omega
            have HORD : Hid (k = 0 ∨ (0 < k ∧ (∀ h : k - 1 < xs.length, ltP xs[k - 1].path xs[k].path = true)) ∨ (0 < k ∧ (∀ h : k - 1 < xs.length, ltP xs[k - 1].path xs[k].path = false ∧ ANS = false))) := by
              rcases Nat.eq_zero_or_pos k with h0 | h0
              · exact .inl h0
              · have hkk : k - 1 + 1 = k := by omega
                have hk1' : k - 1 < xs.length := by omega
                have hE : ∀ h : k - 1 + 1 < xs.length, ltP xs[k - 1].path xs[k - 1 + 1].path = ltP xs[k - 1].path xs[k].path := fun h => by simp only [hkk]
                cases hq : ltP xs[k - 1].path xs[k].path
                · exact .inr (.inr ⟨h0, fun h => ⟨hq, HUP.out (k - 1) (by omega) (by rw [hE (by omega)]; exact hq)⟩⟩)
                · exact .inr (.inl ⟨h0, fun h => hq⟩)
            have HINNER : Hid (∀ h0 : (k = 0 ∨ ∀ h : k - 1 < xs.length, ltP xs[k - 1].path xs[k].path = true), ∀ j, j + 1 < k + 1 → (h' : j + 1 < xs.length) → ltP xs[j].path xs[j + 1].path = true) := fun h0 j hj h' => by
              by_cases e : j + 1 = k
              · rcases h0 with h0 | h0
                · omega
                · subst e
                  exact h0 (by omega)
              · exact HUPS.out j (by omega) h'
            rcases HORD.out with hk00 | ⟨hkp, hord⟩ | ⟨hkp, hord⟩
            · have HUPN := Lib.hid (HINNER.out (.inl hk00))
              generalize hKe : (k : Int) = K at *
              have HKK := Lib.hid hKe
              have hkz : K ≤ 0 := by omega
              have hkd : decide ((0 : Int) < K) = false := decide_eq_false (by omega)
              have hkt : K.toNat = k := by omega
              clear hk00 hKe
              generalize hX : xs[k] = x at *
              have HX := Lib.hid hX
              clear hX
              generalize hnn : x.xs.length = nn at *
              have HNN := Lib.hid hnn
              clear hnn
              have dl : decide ((nn : Int) > 4) = false := decide_eq_false hlong
              have dl2 : (nn : Int) ≤ 4 := by omega
              generalize str x.path = s2 at *
              go_wp2_with fail
              refine wp_region_quietB (W := wr) (by kernel_rfl) (by kernel_rfl) (Below.refl _ _) ?_
              repeat (go_big_quiet_step (first
                | (go_at_call 87; exact calls_belowT (HC.out _))))
              refine wpQuiet_nil ?_
              intro wz hwz
              obtain ⟨x9, rfl⟩ := hwz
              have hb2 := x9.below
              clear zc0 zc1
              generalize x9.val = w2 at *
              have hb02 := nx hb hb2
              obtain ⟨y0, y1⟩ := HCELL.out _ hb2
              go_wp2_with fail
              go_loopw [4] (fun i wi => ∃ j : Nat, j ≤ nn ∧ i = .int .i64 j ∧ Below w2.heap.size w2 wi ∧ ∀ t, t < j → (h' : t < x.xs.length) → isMail x.xs[t].m = true) (fun i _ => nn - (intOf i).toNat)
              case atStart => exact ⟨0, Nat.zero_le _, rfl, Below.refl _ _, fun j h => by omega⟩
              case round =>
                obtain ⟨j, hj, rfl, hbi, hmls⟩ := hrel
                have HMLS := Lib.hid hmls
                have hb3 := nx hb02 hbi
                obtain ⟨v0, v1⟩ := HCELL.out _ (nx hb2 hbi)
                clear hmls y0 y1
                by_cases hjn : j < nn
                · have j1 : j < x.xs.length := by rw [HNN.out]; exact hjn
                  obtain ⟨b3, o3, ha3, hl3, r0, r1, r2, r3⟩ := ((HXR.out.below (nx hb2 hbi)).1).at j1
                  rw [ha3] at v1
                  have hj0 : (0 : Int) ≤ (j : Int) := by omega
                  have hjn' : (j : Int) < (nn : Int) := by omega
                  have HMV : Hid (Calls Tryz.prog 64 #[.agg #[.string (str x.xs[j].m.frm), .slice x.xs[j].a1 x.xs[j].m.to.length x.xs[j].c1, .slice x.xs[j].a2 x.xs[j].m.lines.length x.xs[j].c2]] wr fun e w' => e = .returned (.bool (isMail x.xs[j].m)) ∧ Below wr.heap.size wr w') := mailValidS_any M x.xs[j] wr r3 hM
                  have HBM := Lib.hid (isBx_mail (x := x) j1)
                  have HQ : Hid (isMail x.xs[j].m = true → ∀ t (h' : t < x.xs.length), t = j → isMail x.xs[t].m = true) := fun hq t h' e => by subst e; exact hq
                  clear r3 ha3
                  obtain ⟨gm, hgm⟩ : ∃ g, g = isMail x.xs[j].m := ⟨_, rfl⟩
                  rw [← hgm] at HMV HBM HQ
                  clear hgm
                  generalize x.xs[j] = z at *
                  cases gm
                  · have HN : Hid (ANS = false) := HBK.out (HBM.out (by first | rfl | trivial))
                    go_wp2_with fail
                    refine HMV.out.mono ?_
                    rintro e w4 ⟨rfl, hb4⟩
                    go_wp2
                    go_ret
                    exact ⟨ret_bool HN.out.symm, nx hb3 hb4⟩
                  · go_wp2_with fail
                    refine HMV.out.mono ?_
                    rintro e w4 ⟨rfl, hb4⟩
                    clear v0 v1 r0 r1 r2
                    go_wp2
                    go_roundw
                    case rel => exact ⟨j + 1, by omega, by go_num, nx hbi hb4, fun t ht h' => by
                      by_cases e : t = j
                      · exact HQ.out (by first | rfl | trivial) t h' e
                      · exact HMLS.out t (by omega) h'⟩
                    case measure => simp [intOf]; omega
                · have HBX : Hid (isBx x.b = true) := isBx_yes HP.out (by have := HL4.out; have := HNN.out; omega) (fun t h => HMLS.out t (by have := HNN.out; omega) h)
                  generalize x.a = aa at *
                  generalize x.c = cc at *
                  go_wp2
                  go_roundw
                  case rel => exact ⟨k + 1, by omega, by omega, by rw [← HKK.out]; go_num, hb3, (fun t ht h' => by
                    by_cases e : t = k
                    · subst e; rw [HX.out]; exact HBX.out
                    · exact HALL.out t (by omega) h'), HUPN.out⟩
                  case measure => simp [intOf]; omega
            · have HUPN := Lib.hid (HINNER.out (.inr hord))
              have hk1' : k - 1 < xs.length := by omega
              have zc2 : ∀ y : BelowT wr, y.val.cell? ⟨b1, o1 + (k - 1) * 2, none⟩ = some (.string (str xs[k - 1].path)) := fun y => HPREV.out _ y.below hkp hk1'
              have z1 : decide ((k : Int) > 0) = true := decide_eq_true (by omega)
              have hkz : (0 : Int) < (k : Int) := by omega
              have hi0 : (0 : Int) ≤ (k : Int) - 1 := by omega
              have hi1 : (k : Int) - 1 < (n : Int) := by omega
              have hi2 : ((k : Int) - 1).toNat = k - 1 := by omega
              have hq' : Op.bytesLess (str xs[k - 1].path).toList (str xs[k].path).toList = true := hord hk1'
              generalize hX : xs[k] = x at *
              have HX := Lib.hid hX
              clear hX hord
              generalize hnn : x.xs.length = nn at *
              have HNN := Lib.hid hnn
              clear hnn
              have dl : decide ((nn : Int) > 4) = false := decide_eq_false hlong
              have dl2 : (nn : Int) ≤ 4 := by omega
              generalize str x.path = s2 at *
              generalize str xs[k - 1].path = s1 at *
              go_wp2_with fail
              refine wp_region_quietB (W := wr) (by kernel_rfl) (by kernel_rfl) (Below.refl _ _) ?_
              repeat (go_big_quiet_step (first
                | (go_at_call 87; exact calls_belowT (HC.out _))))
              refine wpQuiet_nil ?_
              intro wz hwz
              obtain ⟨x9, rfl⟩ := hwz
              have hb2 := x9.below
              clear zc0 zc1 zc2
              generalize x9.val = w2 at *
              have hb02 := nx hb hb2
              obtain ⟨y0, y1⟩ := HCELL.out _ hb2
              go_wp2_with fail
              go_loopw [4] (fun i wi => ∃ j : Nat, j ≤ nn ∧ i = .int .i64 j ∧ Below w2.heap.size w2 wi ∧ ∀ t, t < j → (h' : t < x.xs.length) → isMail x.xs[t].m = true) (fun i _ => nn - (intOf i).toNat)
              case atStart => exact ⟨0, Nat.zero_le _, rfl, Below.refl _ _, fun j h => by omega⟩
              case round =>
                obtain ⟨j, hj, rfl, hbi, hmls⟩ := hrel
                have HMLS := Lib.hid hmls
                have hb3 := nx hb02 hbi
                obtain ⟨v0, v1⟩ := HCELL.out _ (nx hb2 hbi)
                clear hmls y0 y1
                by_cases hjn : j < nn
                · have j1 : j < x.xs.length := by rw [HNN.out]; exact hjn
                  obtain ⟨b3, o3, ha3, hl3, r0, r1, r2, r3⟩ := ((HXR.out.below (nx hb2 hbi)).1).at j1
                  rw [ha3] at v1
                  have hj0 : (0 : Int) ≤ (j : Int) := by omega
                  have hjn' : (j : Int) < (nn : Int) := by omega
                  have HMV : Hid (Calls Tryz.prog 64 #[.agg #[.string (str x.xs[j].m.frm), .slice x.xs[j].a1 x.xs[j].m.to.length x.xs[j].c1, .slice x.xs[j].a2 x.xs[j].m.lines.length x.xs[j].c2]] wr fun e w' => e = .returned (.bool (isMail x.xs[j].m)) ∧ Below wr.heap.size wr w') := mailValidS_any M x.xs[j] wr r3 hM
                  have HBM := Lib.hid (isBx_mail (x := x) j1)
                  have HQ : Hid (isMail x.xs[j].m = true → ∀ t (h' : t < x.xs.length), t = j → isMail x.xs[t].m = true) := fun hq t h' e => by subst e; exact hq
                  clear r3 ha3
                  obtain ⟨gm, hgm⟩ : ∃ g, g = isMail x.xs[j].m := ⟨_, rfl⟩
                  rw [← hgm] at HMV HBM HQ
                  clear hgm
                  generalize x.xs[j] = z at *
                  cases gm
                  · have HN : Hid (ANS = false) := HBK.out (HBM.out (by first | rfl | trivial))
                    go_wp2_with fail
                    refine HMV.out.mono ?_
                    rintro e w4 ⟨rfl, hb4⟩
                    go_wp2
                    go_ret
                    exact ⟨ret_bool HN.out.symm, nx hb3 hb4⟩
                  · go_wp2_with fail
                    refine HMV.out.mono ?_
                    rintro e w4 ⟨rfl, hb4⟩
                    clear v0 v1 r0 r1 r2
                    go_wp2
                    go_roundw
                    case rel => exact ⟨j + 1, by omega, by go_num, nx hbi hb4, fun t ht h' => by
                      by_cases e : t = j
                      · exact HQ.out (by first | rfl | trivial) t h' e
                      · exact HMLS.out t (by omega) h'⟩
                    case measure => simp [intOf]; omega
                · have HBX : Hid (isBx x.b = true) := isBx_yes HP.out (by have := HL4.out; have := HNN.out; omega) (fun t h => HMLS.out t (by have := HNN.out; omega) h)
                  generalize x.a = aa at *
                  generalize x.c = cc at *
                  go_wp2
                  go_roundw
                  case rel => exact ⟨k + 1, by omega, by omega, by go_num, hb3, (fun t ht h' => by
                    by_cases e : t = k
                    · subst e; rw [HX.out]; exact HBX.out
                    · exact HALL.out t (by omega) h'), HUPN.out⟩
                  case measure => simp [intOf]; omega
            · have hk1' : k - 1 < xs.length := by omega
              have zc2 : ∀ y : BelowT wr, y.val.cell? ⟨b1, o1 + (k - 1) * 2, none⟩ = some (.string (str xs[k - 1].path)) := fun y => HPREV.out _ y.below hkp hk1'
              have z1 : decide ((k : Int) > 0) = true := decide_eq_true (by omega)
              have hkz : (0 : Int) < (k : Int) := by omega
              have hi0 : (0 : Int) ≤ (k : Int) - 1 := by omega
              have hi1 : (k : Int) - 1 < (n : Int) := by omega
              have hi2 : ((k : Int) - 1).toNat = k - 1 := by omega
              have HN : Hid (ANS = false) := (hord hk1').2
              have hq' : Op.bytesLess (str xs[k - 1].path).toList (str xs[k].path).toList = false := (hord hk1').1
              clear hord
              generalize xs[k].xs.length = nn at *
              have dl : decide ((nn : Int) > 4) = false := decide_eq_false hlong
              have dl2 : (nn : Int) ≤ 4 := by omega
              generalize xs[k].a = aa at *
              generalize xs[k].c = cc at *
              generalize str xs[k].path = s2 at *
              generalize str xs[k - 1].path = s1 at *
              go_wp2_with fail
              refine wp_region_quietB (W := wr) (by kernel_rfl) (by kernel_rfl) (Below.refl _ _) ?_
              repeat (go_big_quiet_step (first
                | (go_at_call 87; exact calls_belowT (HC.out _))))
              refine wpQuiet_nil ?_
              intro wz hwz
              obtain ⟨x9, rfl⟩ := hwz
              have hb2 := x9.below
              clear zc0 zc1 zc2
              generalize x9.val = w2 at *
              have hb02 := nx hb hb2
              go_wp2
              go_ret
              exact ⟨ret_bool HN.out.symm, hb02⟩
      · have HN : Hid (ANS = false) := HLONG.out (by omega)
        have hkn : (k : Int) < (n : Int) := by omega
        have dn : decide ((n : Int) ≤ 8) = false := decide_eq_false (by omega)
        go_wp2
        go_ret
        exact ⟨ret_bool (by rw [HN.out]), hb⟩
    · by_cases hn8 : n ≤ 8
      · have HN : Hid (ANS = true) := HYES.out hn8 (fun j h h' => HALL.out j (by omega) h') (fun j h h' => HUPS.out j (by omega) h')
        have dn : decide ((n : Int) ≤ 8) = true := decide_eq_true (by omega)
        go_wp2
        go_ret
        exact ⟨ret_bool (by rw [HN.out]), hb⟩
      · have HN : Hid (ANS = false) := HLONG.out (by omega)
        have dn : decide ((n : Int) ≤ 8) = false := decide_eq_false (by omega)
        go_wp2
        go_ret
        exact ⟨ret_bool (by rw [HN.out]), hb⟩
end Go.Proofs.YtombejhpfobehaaGreatDoor
end

section
namespace Go.Proofs.YtombejhpfobehaaGreatDoor
open Go.ChangeShapes Go.WideShapes Go.ChangeAt Go.RowKit
open Go.ChangeMaps (open_string shut_string)

theorem own : ownKnob Tryz.prog.godebug = none := by kernel_rfl
theorem laidOut : laidOutB Tryz.prog = true := by kernel_rfl
/-! The table of atoms' other bytes, as a package-level variable that the rows list. -/
theorem tG : Tryz.prog.globalNamed "loop.example/mailwire/impl.atomMarks" = some 3 := by kernel_rfl
theorem tGType : (Tryz.prog.globals[3]?).map (·.type) = some 180 := by kernel_rfl
theorem tCellsE : Tryz.prog.cellsOf 179 = 2 := by kernel_rfl
theorem tCellsT : Tryz.prog.cellsOf 180 = 18 := by kernel_rfl
theorem tCellsB : Tryz.prog.cellsOf 5 = 1 := by kernel_rfl
def tabAt (cs : List Value) (i : Nat) : Int := intOf (cs.getD i undef)
def tabDatum {H : Type} (cs : List Value) : DataW H := .agg ((List.range 9).map fun i => .agg [.lit (.int .u8 (tabAt cs (2 * i))), .lit (.int .u8 (tabAt cs (2 * i + 1)))])
theorem tab_inv {H : Type} {enc : TypeId × Value → H} {w : World} {base fuel : Nat} {sp : Nat → Bool} {held : Bool} {cs : List Value} {x : DataW H × List MemPlace}
    (h : DataW.trod enc Tryz.prog w base sp held fuel 180 cs = some x) :
    cs.length = 18 ∧ (∀ i, i < 18 → cs[i]? = some (.int .u8 (tabAt cs i))) ∧ x = (tabDatum cs, []) := by
  obtain ⟨xs, m, _, rfl, hl, hn, hf⟩ := DataW.trod_array Tryz.underlying180 h
  rw [tCellsT] at hl
  have key : ∀ i, i < 9 → cs[2 * i]? = some (.int .u8 (tabAt cs (2 * i))) ∧ cs[2 * i + 1]? = some (.int .u8 (tabAt cs (2 * i + 1))) ∧ xs[i]? = some (.agg [.lit (.int .u8 (tabAt cs (2 * i))), .lit (.int .u8 (tabAt cs (2 * i + 1)))], []) := by
    intro i hi
    have h1 := hf i hi
    rw [List.getElem?_eq_getElem (by omega)] at h1
    obtain ⟨y0, y1, k, hx, _, g0, g1⟩ := trod_struct2 Tryz.underlying179 h1
    obtain ⟨z0, c0, e0, _⟩ := DataW.trod_int Tryz.underlying5 g0
    obtain ⟨z1, c1, e1, _⟩ := DataW.trod_int Tryz.underlying5 g1
    have q0 : cs[2 * i]? = some (.int .u8 z0) := by
      have := congrArg (·[0]?) c0
      simp only [tCellsE, tCellsB] at this
      simpa [List.getElem?_take, List.getElem?_drop, Nat.mul_comm] using this
    have q1 : cs[2 * i + 1]? = some (.int .u8 z1) := by
      have := congrArg (·[0]?) c1
      simp only [tCellsE, tCellsB] at this
      simpa [List.getElem?_take, List.getElem?_drop, Nat.mul_comm] using this
    have f0 : tabAt cs (2 * i) = z0 := by unfold tabAt; rw [List.getD_eq_getElem?_getD, q0]; rfl
    have f1 : tabAt cs (2 * i + 1) = z1 := by unfold tabAt; rw [List.getD_eq_getElem?_getD, q1]; rfl
    rw [f0, f1]
    refine ⟨q0, q1, ?_⟩
    rw [List.getElem?_eq_getElem (by omega), hx, e0, e1]; rfl
  refine ⟨hl, fun i hi => ?_, ?_⟩
  · rcases Nat.mod_two_eq_zero_or_one i with h2 | h2
    · have := (key (i / 2) (by omega)).1
      rwa [show 2 * (i / 2) = i by omega] at this
    · have := (key (i / 2) (by omega)).2.1
      rwa [show 2 * (i / 2) + 1 = i by omega] at this
  · have hxs : xs = (List.range 9).map fun i => ((.agg [.lit (.int .u8 (tabAt cs (2 * i))), .lit (.int .u8 (tabAt cs (2 * i + 1)))], []) : DataW H × List MemPlace) := by
      apply List.ext_getElem?
      intro i
      by_cases hi : i < 9
      · rw [(key i hi).2.2]; simp [hi]
      · rw [List.getElem?_eq_none (by omega), List.getElem?_eq_none (by simp; omega)]
    rw [hxs]
    unfold tabDatum
    simp [List.map_map, Function.comp_def]
theorem tab_list {cs : List Value} (hl : cs.length = 18) (h : ∀ i, i < 18 → cs[i]? = some (.int .u8 (tabAt cs i))) (hd : (tabDatum cs : DataW Unit) = Rows.laid_loop_example_mailwire_impl_atomMarks) : cs = tabL := by
  unfold tabDatum Rows.laid_loop_example_mailwire_impl_atomMarks at hd
  simp only [List.range, List.range.loop, List.map_cons, List.map_nil, DataW.agg.injEq, List.cons.injEq, DataW.lit.injEq, Lit.int.injEq, true_and, and_true] at hd
  apply List.ext_getElem?
  intro i
  by_cases hi : i < 18
  · rw [h i hi]
    rcases (by omega : i = 0 ∨ i = 1 ∨ i = 2 ∨ i = 3 ∨ i = 4 ∨ i = 5 ∨ i = 6 ∨ i = 7 ∨ i = 8 ∨ i = 9 ∨ i = 10 ∨ i = 11 ∨ i = 12 ∨ i = 13 ∨ i = 14 ∨ i = 15 ∨ i = 16 ∨ i = 17) with rfl | rfl | rfl | rfl | rfl | rfl | rfl | rfl | rfl | rfl | rfl | rfl | rfl | rfl | rfl | rfl | rfl | rfl <;> simp_all [tabL]
  · rw [List.getElem?_eq_none (by omega), List.getElem?_eq_none (by simp [tabL]; omega)]
theorem tab_reads {H : Type} (enc : TypeId × Value → H) (w : World) (base : Nat) (sp : Nat → Bool) (held : Bool) : DataW.trod enc Tryz.prog w base sp held 8 180 tabL = some (tabDatum tabL, []) := by kernel_rfl
/-- From the rows' condition: the table's cells. -/
theorem tab_of_laid {W : World} (h : laidMet Tryz.prog [("loop.example/mailwire/impl.atomMarks", Rows.laid_loop_example_mailwire_impl_atomMarks)] W) : W.var? Tryz.prog "loop.example/mailwire/impl.atomMarks" = some tabL.toArray ∧ Tab W := by
  obtain ⟨ps, ⟨g', t', cs, fuel, p, q, hg', ht', hvar, hd, _, _⟩, _⟩ := h
  obtain rfl := Option.some.inj (tG.symm.trans hg')
  obtain rfl := Option.some.inj (tGType.symm.trans ht')
  obtain ⟨hl, hc, hx⟩ := tab_inv hd
  have hcs := tab_list hl hc (congrArg Prod.fst hx).symm
  have hv : W.var? Tryz.prog "loop.example/mailwire/impl.atomMarks" = some tabL.toArray := by rw [hvar, ← hcs]
  refine ⟨hv, fun j v hj => ?_⟩
  have := World.var?_cell tG hv j
  rw [Nat.zero_add, this]; simpa using hj
/-- The variable read again behind the call. -/
theorem tab_again {H : Type} {enc : TypeId × Value → H} {W W' : World} {gs : List (DataW H)} {ps : List MemPlace} (h : DataW.TrodVars enc Tryz.prog W (fun _ => true) ["loop.example/mailwire/impl.atomMarks"] gs ps) (hv : W.var? Tryz.prog "loop.example/mailwire/impl.atomMarks" = some tabL.toArray) (hb : Below W.heap.size W W') (ht : Tab W) :
    ∃ d : DataW H, gs = [d] ∧ ∀ sp, DataW.TrodVars enc Tryz.prog W' sp ["loop.example/mailwire/impl.atomMarks"] [d] (MemPlace.row ⟨3, 0, none⟩ tabL.toArray.size ++ []) := by
  obtain ⟨g, t, cs, fuel, d, p, rfl, hg, hty, hvar, hd, rfl⟩ := trodVars_one h
  obtain rfl := Option.some.inj (tG.symm.trans hg)
  obtain rfl := Option.some.inj (tGType.symm.trans hty)
  obtain rfl := Option.some.inj (hv.symm.trans hvar)
  obtain ⟨_, _, hx⟩ := tab_inv hd
  have hdd : d = tabDatum tabL := congrArg Prod.fst hx
  subst hdd
  exact ⟨_, rfl, fun sp => trodVars_mk1 tG tGType (var?_below hb tG ht.lt hv) (tab_reads enc W' 0 sp true)⟩
/-- A world for the witness: the settled one, the table holding what its initialiser lays. -/
noncomputable def laidWorld (os : Os) : World :=
  { World.holding Tryz.prog os ⟨#[], #[], []⟩ with heap := (World.holding Tryz.prog os ⟨#[], #[], []⟩).heap.modify 3 fun
      | .cells _ t frozen => .cells tabL.toArray t frozen
      | o => o }
/-! Rows that list two tables of the library's beside the program's. -/
theorem tab_of_laid3 {W : World} (h : laidMet Tryz.prog [("unicode/utf8.acceptRanges", Rows.laid_unicode_utf8_acceptRanges), ("loop.example/mailwire/impl.atomMarks", Rows.laid_loop_example_mailwire_impl_atomMarks), ("unicode/utf8.first", Rows.laid_unicode_utf8_first)] W) : W.var? Tryz.prog "loop.example/mailwire/impl.atomMarks" = some tabL.toArray ∧ Tab W := by
  obtain ⟨ps, ⟨_, _, _, _, _, _, _, _, _, _, ⟨g', t', cs, fuel, p, q, hg', ht', hvar, hd, _, _⟩, _⟩, _⟩ := h
  obtain rfl := Option.some.inj (tG.symm.trans hg')
  obtain rfl := Option.some.inj (tGType.symm.trans ht')
  obtain ⟨hl, hc, hx⟩ := tab_inv hd
  have hcs := tab_list hl hc (congrArg Prod.fst hx).symm
  have hv : W.var? Tryz.prog "loop.example/mailwire/impl.atomMarks" = some tabL.toArray := by rw [hvar, ← hcs]
  refine ⟨hv, fun j v hj => ?_⟩
  have := World.var?_cell tG hv j
  rw [Nat.zero_add, this]; simpa using hj
def accL : List Nat := [128, 191, 160, 191, 128, 159, 144, 191, 128, 143, 0, 0, 0, 0, 0, 0, 0, 0, 0, 0, 0, 0, 0, 0, 0, 0, 0, 0, 0, 0, 0, 0]
def layAt (h : Array Obj) (g : Nat) (C : Array Value) : Array Obj := h.modify g fun
  | .cells _ t frozen => .cells C t frozen
  | o => o
/-- A world for the witness: the settled one, the three tables holding what their initialisers lay. -/
noncomputable def laidWorld3 (os : Os) : World :=
  { World.holding Tryz.prog os ⟨#[], #[], []⟩ with heap := layAt (layAt (layAt (World.holding Tryz.prog os ⟨#[], #[], []⟩).heap 3 tabL.toArray) 5 (Go.Pinned.utf8FirstZ.map fun (n : Nat) => Value.int .u8 n).toArray) 6 (accL.map fun (n : Nat) => Value.int .u8 n).toArray }
set_option maxRecDepth 100000 in
theorem met3 (os : Os) (args : Array Value) : laidMet Tryz.prog [("unicode/utf8.acceptRanges", Rows.laid_unicode_utf8_acceptRanges), ("loop.example/mailwire/impl.atomMarks", Rows.laid_loop_example_mailwire_impl_atomMarks), ("unicode/utf8.first", Rows.laid_unicode_utf8_first)] ((laidWorld3 os).forCall (fun _ _ => 0) ⟨#[], args, []⟩).memory :=
  laidMet_of_run3 8 (by kernel_rfl) (by kernel_rfl) (by kernel_rfl)
theorem mx_of_shaped {W : World} (h : W.ShapedOpen Tryz.prog) : ∃ m, W.cell? ⟨2, 0, none⟩ = some (.int .i64 m) :=
  cell_of_shapedOpen_int (zero := #[.int .i64 0]) (t := 3) h (of_decide_eq_true (by kernel_rfl)) (by kernel_rfl) rfl (by kernel_rfl) (by kernel_rfl) Tryz.underlying3
end Go.Proofs.YtombejhpfobehaaGreatDoor
end

section
namespace Go.Proofs.YtombejhpfobehaaGreatDoor
open Go.ChangeShapes Go.WideShapes Go.ChangeAt Go.RowKit
open Go.ChangeMaps (open_string shut_string)

theorem strs_of_trod {H : Type} {enc : TypeId × Value → H} {W : World} {T E : TypeId} {a : Option Addr} {n c : Nat} {d : DataW H} {p : List MemPlace} (hT : Tryz.prog.underlying T = some (.slice E)) (hE : Tryz.prog.underlying E = some .string) (hcE : Tryz.prog.cellsOf E = 1)
    (h : DataW.Trod enc Tryz.prog W 0 (fun _ => true) true T (Value.slice a n c) d p) : ∃ xs, RdL W a n xs ∧ n ≤ maxLen ∧ ∀ j, (hj : j < xs.length) → xs[j].length ≤ maxLen := by
  obtain ⟨fuel, hf⟩ := h
  rcases open_strings hT hE hcE hf with ⟨hcs, _⟩ | ⟨x, l, k, ss, hcs, _, hl, hm, hz, _, hcell, hws⟩
  · simp [Value.cells] at hcs
    obtain ⟨rfl, rfl, rfl⟩ := hcs
    exact ⟨[], ⟨rfl, .inl rfl⟩, Nat.zero_le _, fun j hj => by simp at hj⟩
  · simp [Value.cells] at hcs
    obtain ⟨rfl, rfl, rfl⟩ := hcs
    have hz' : ss.length = c := by simpa using hz
    have hxs : ((ss.take n).map fun s => s.data.toList).length = n := by simp; omega
    refine ⟨(ss.take n).map fun s => s.data.toList, ⟨hxs, ?_⟩, by omega, fun j hj => ?_⟩
    · by_cases h0 : n = 0
      · exact .inl h0
      · obtain ⟨b, off, spot⟩ := x
        have hc0 := hcell 0 (by omega)
        have hspot : spot = none := by simpa [Addr.add] using World.cell?_spot hc0
        subst hspot
        have hsh : ∀ i, i < c → W.cell? ⟨b, off + i, none⟩ = some (.string (ss.getD i ByteArray.empty)) := fun i hi => by
          have := hcell i (by omega)
          rw [show (⟨b, off, none⟩ : Addr).add i = ⟨b, off + i, none⟩ by unfold Addr.add; split <;> simp_all] at this
          exact this
        refine .inr ⟨b, off, rfl, lt_of_cell (hsh 0 (by omega)), fun i hi => ?_⟩
        have hi' : i < n := by omega
        rw [hsh i (by omega)]
        have : ss.getD i ByteArray.empty = ss[i]'(by omega) := by rw [List.getD_eq_getElem?_getD, List.getElem?_eq_getElem (by omega)]; rfl
        rw [this, List.getElem_map, List.getElem_take, str_of]
    · have hj' : j < n := by omega
      rw [List.getElem_map, List.getElem_take, size_list]
      exact hws _ (List.getElem_mem _)
end Go.Proofs.YtombejhpfobehaaGreatDoor
end

section
namespace Go.Proofs.YtombejhpfobehaaGreatDoor
open Go.ChangeShapes Go.WideShapes Go.ChangeAt Go.RowKit
open Go.ChangeMaps (open_string shut_string)
open Go.Deep

theorem strs_sliceN {H : Type} {enc : TypeId × Value → H} {W : World} {m : Nat} {c : Value} {y : DataW H × List MemPlace} (h : DataW.trod enc Tryz.prog W 0 (fun _ => true) true m 31 [c] = some y) :
    ∃ (a : Option Addr) (k : Nat) (xs : List (List UInt8)), c = .slice a xs.length k ∧ RdC W a k xs ∧ xs.length ≤ maxLen ∧ ∀ x ∈ xs, x.length ≤ maxLen := by
  obtain ⟨d, p⟩ := y
  rcases DataW.trod_slice Tryz.underlying31 h with ⟨e, _⟩ | ⟨g, len, cap, _, _, _, _, e, _, _, hlc, _⟩
  · injection e with e _
    subst e
    exact ⟨none, 0, [], rfl, ⟨⟨rfl, .inl rfl⟩, Nat.le_refl _, fun _ => rfl⟩, Nat.zero_le _, fun x hx => by cases hx⟩
  · injection e with e _
    subst e
    obtain ⟨xs, h1, h2, h3⟩ := strs_of_trod Tryz.underlying31 Tryz.underlying9 (by kernel_rfl) (a := some g) (n := len) (c := cap) (d := d) (p := p) ⟨_, h⟩
    obtain rfl := h1.1
    exact ⟨some g, cap, xs, rfl, ⟨h1, hlc, fun e => by cases e⟩, h2, fun x hx => by obtain ⟨i, hi, rfl⟩ := List.getElem_of_mem hx; exact h3 i hi⟩
set_option maxRecDepth 100000 in
theorem open_mal {H : Type} {enc : TypeId × Value → H} {W : World} {r : Reach} {b0 : Nat} {v : Value} {d : DataW H} {p : List MemPlace} (hv : Value.okWide Tryz.prog W r b0 38 v)
    (h : DataW.Trod enc Tryz.prog W 0 (fun _ => true) true 38 v d p) : ∃ x : MlA, v = mlV x ∧ RdM maxLen W x := by
  obtain ⟨v0, v1, v2, y0, y1, y2, q, rfl, rfl, rfl, t0, t1, t2⟩ := Joins.open_agg3 Tryz.underlying38 (by kernel_rfl) (by kernel_rfl) hv h
  obtain ⟨s0, e0, _, z0⟩ := DataW.trod_string Tryz.underlying9 t0
  injection e0 with e0 _
  subst e0
  obtain ⟨a1, k1, xs, rfl, r1, n1, l1⟩ := strs_sliceN t1
  obtain ⟨a2, k2, ys, rfl, r2, n2, l2⟩ := strs_sliceN t2
  exact ⟨⟨⟨s0.data.toList, xs, ys⟩, a1, k1, a2, k2⟩, by unfold mlV; dsimp only; rw [str_of], r1, r2, z0, n1, l1, n2, l2⟩
def SizedN (t : Int) (m : Ml) (w : World) (e : Ending) (w' : World) : Prop := ∃ r : Int, e = .returned (.int .i64 r) ∧ -1 ≤ r ∧ r ≤ t ∧ (0 ≤ r → SmallM 1048576 m) ∧ Below w.heap.size w w'
theorem sizedN_no {t : Int} {m : Ml} {w w' : World} (ht : 0 ≤ t) (hb : Below w.heap.size w w') : SizedN t m w (.returned (.int .i64 (-1))) w' := ⟨-1, rfl, by omega, by omega, fun h => by omega, hb⟩
set_option maxRecDepth 100000 in
set_option maxHeartbeats 2000000 in
theorem szMail_any (x : MlA) (t : Int) (w : World) (h1 : RdM maxLen w x) (ht0 : 0 ≤ t) (ht : t ≤ 1048576) :
    Calls Tryz.prog 21 #[mlV x, .int .i64 t] w (SizedN t x.m w) := by
  obtain ⟨⟨f1, t1, l1⟩, a1, c1, b1, d1⟩ := x
  obtain ⟨⟨p1, _, _⟩, ⟨p2, _, _⟩, p0, p3, p5, p4, p6⟩ := h1
  dsimp only at *
  unfold mlV
  dsimp only
  have P5 := Lib.hid p5
  have P6 := Lib.hid p6
  have HF := Lib.hid (str_size f1)
  have z0 : (str f1).size ≤ 9223372036854775807 := by rw [str_size]; unfold maxLen at p0; omega
  have hA : Below w.heap.size w (w.alloc (.cells #[.string (str f1), .slice a1 t1.length c1, .slice b1 l1.length d1] 38)) := (Below.refl _ _).alloc (Nat.le_refl _) _
  have HX := Lib.hid (MK3.new w (.string (str f1)) (.slice a1 t1.length c1) (.slice b1 l1.length d1) 38)
  have H1 : Hid (∀ (q : Int) u, 0 ≤ q → q ≤ 1048576 → Below w.heap.size w u → Calls Tryz.prog 38 #[.slice a1 t1.length c1, .int .i64 q] u (Sized q t1 u)) := fun q u h0 hq hb => szStringS_any a1 t1.length c1 t1 q u (p1.below hb) p3 h0 (by omega) (fun j h => P5.out _ (List.getElem_mem h))
  have H2 : Hid (∀ (q : Int) u, 0 ≤ q → q ≤ 1048576 → Below w.heap.size w u → Calls Tryz.prog 38 #[.slice b1 l1.length d1, .int .i64 q] u (Sized q l1 u)) := fun q u h0 hq hb => szStringS_any b1 l1.length d1 l1 q u (p2.below hb) p4 h0 (by omega) (fun j h => P6.out _ (List.getElem_mem h))
  have HN1 := Lib.hid (rfl : t1.length = t1.length)
  clear p1 p2 p3 p4 p5 p6 p0
  generalize str f1 = s1 at *
  by_cases k0 : t - s1.size < 0
  · go_enter Tryz.func21, Tryz.ntmps21
    go_wp2
    go_ret
    exact sizedN_no ht0 hA
  · go_enter Tryz.func21, Tryz.ntmps21
    go_wp2_with fail
    refine (H1.out _ _ (by omega) (by omega) hA).mono ?_
    rintro e w1 ⟨r1, rfl, hr1, hr2, hsz1, rfl⟩
    have HS1 := Lib.hid hsz1
    clear hsz1
    obtain ⟨y0, y1, y2⟩ := HX.out
    by_cases k1 : r1 < 0
    · go_wp2
      go_ret
      exact sizedN_no ht0 hA
    · go_wp2_with fail
      refine (H2.out _ _ (by omega) (by omega) hA).mono ?_
      rintro e w2 ⟨r2, rfl, hr3, hr4, hsz2, rfl⟩
      have HS2 := Lib.hid hsz2
      clear hsz2
      by_cases k2 : r2 < 0
      · go_wp2
        go_ret
        exact sizedN_no ht0 hA
      · go_wp2
        go_ret
        exact ⟨r2, rfl, by omega, by omega, fun h => ⟨by show f1.length ≤ _; have := HF.out; omega, by show t1.length ≤ _; have := (HS1.out (by omega)).1; omega, fun x hx => by have := (HS1.out (by omega)).2 x hx; omega, by show l1.length ≤ _; have := (HS2.out (by omega)).1; omega, fun x hx => by have := (HS2.out (by omega)).2 x hx; omega⟩, hA⟩
set_option maxRecDepth 100000 in
set_option maxHeartbeats 4000000 in
theorem toMail_any (x : MlA) (w : World) (h : RdM 1048576 w x) :
    Calls Tryz.prog 23 #[mlV x] w (MalRet x.m w) := by
  obtain ⟨⟨f1, xs, ys⟩, a, c, b, d⟩ := x
  obtain ⟨⟨p1, _, _⟩, ⟨p2, _, _⟩, p0, p3, p5, p4, p6⟩ := h
  dsimp only at *
  unfold mlV
  dsimp only
  have P1 := Lib.hid p1
  have P2 := Lib.hid p2
  have HD : Hid (∀ (a1 : Option Addr) (c1 : Nat) (a2 : Option Addr) (c2 : Nat) (w' : World), OwnL w.heap.size (.slice a1 xs.length c1) xs w' → OwnL w.heap.size (.slice a2 ys.length c2) ys w' → (∀ g, (Value.slice a1 xs.length c1).ownBlock = some g → (Value.slice a2 ys.length c2).ownBlock ≠ some g) → Below w.heap.size w w' → MalRet ⟨f1, xs, ys⟩ w (.returned (.agg #[.string (str f1), .slice a1 xs.length c1, .slice a2 ys.length c2])) w') :=
    fun a1 c1 a2 c2 w' h1 h2 h3 h4 => ⟨⟨⟨f1, xs, ys⟩, a1, c1, a2, c2⟩, rfl, rfl, ⟨h1, h2, h3⟩, h4⟩
  have hbP : Below w.heap.size w (w.alloc (.cells #[.string (str f1), .slice a xs.length c, .slice b ys.length d] 38)) := (Below.refl _ _).alloc (Nat.le_refl _) _
  have hbZ : Below (w.alloc (.cells #[.string (str f1), .slice a xs.length c, .slice b ys.length d] 38)).heap.size (w.alloc (.cells #[.string (str f1), .slice a xs.length c, .slice b ys.length d] 38)) ((w.alloc (.cells #[.string (str f1), .slice a xs.length c, .slice b ys.length d] 38)).alloc (.cells #[.string ⟨#[]⟩, .slice none 0 0, .slice none 0 0] 33)) := (Below.refl _ _).alloc (Nat.le_refl _) _
  have hbO : Below ((w.alloc (.cells #[.string (str f1), .slice a xs.length c, .slice b ys.length d] 38)).alloc (.cells #[.string ⟨#[]⟩, .slice none 0 0, .slice none 0 0] 33)).heap.size ((w.alloc (.cells #[.string (str f1), .slice a xs.length c, .slice b ys.length d] 38)).alloc (.cells #[.string ⟨#[]⟩, .slice none 0 0, .slice none 0 0] 33)) (((w.alloc (.cells #[.string (str f1), .slice a xs.length c, .slice b ys.length d] 38)).alloc (.cells #[.string ⟨#[]⟩, .slice none 0 0, .slice none 0 0] 33)).alloc (.cells #[.string (str f1), .slice none 0 0, .slice none 0 0] 33)) := (Below.refl _ _).alloc (Nat.le_refl _) _
  have HP : Hid (MK3 (((w.alloc (.cells #[.string (str f1), .slice a xs.length c, .slice b ys.length d] 38)).alloc (.cells #[.string ⟨#[]⟩, .slice none 0 0, .slice none 0 0] 33)).alloc (.cells #[.string (str f1), .slice none 0 0, .slice none 0 0] 33)) w.heap.size (.string (str f1)) (.slice a xs.length c) (.slice b ys.length d)) := ((MK3.new w _ _ _ _).below hbZ).below hbO
  have HZ : Hid (MF3 (((w.alloc (.cells #[.string (str f1), .slice a xs.length c, .slice b ys.length d] 38)).alloc (.cells #[.string ⟨#[]⟩, .slice none 0 0, .slice none 0 0] 33)).alloc (.cells #[.string (str f1), .slice none 0 0, .slice none 0 0] 33)) (w.heap.size + 1) (.string ⟨#[]⟩) (.slice none 0 0) (.slice none 0 0)) := by
    have := (MF3.new (w.alloc (.cells #[.string (str f1), .slice a xs.length c, .slice b ys.length d] 38)) (.string ⟨#[]⟩) (.slice none 0 0) (.slice none 0 0) 33).below hbO
    have e : (w.alloc (.cells #[.string (str f1), .slice a xs.length c, .slice b ys.length d] 38)).heap.size = w.heap.size + 1 := by simp
    rw [e] at this; exact this
  have HO : Hid (MF3 (((w.alloc (.cells #[.string (str f1), .slice a xs.length c, .slice b ys.length d] 38)).alloc (.cells #[.string ⟨#[]⟩, .slice none 0 0, .slice none 0 0] 33)).alloc (.cells #[.string (str f1), .slice none 0 0, .slice none 0 0] 33)) (w.heap.size + 1 + 1) (.string (str f1)) (.slice none 0 0) (.slice none 0 0)) := by
    have := MF3.new ((w.alloc (.cells #[.string (str f1), .slice a xs.length c, .slice b ys.length d] 38)).alloc (.cells #[.string ⟨#[]⟩, .slice none 0 0, .slice none 0 0] 33)) (.string (str f1)) (.slice none 0 0) (.slice none 0 0) 33
    have e : ((w.alloc (.cells #[.string (str f1), .slice a xs.length c, .slice b ys.length d] 38)).alloc (.cells #[.string ⟨#[]⟩, .slice none 0 0, .slice none 0 0] 33)).heap.size = w.heap.size + 1 + 1 := by simp
    rw [e] at this; exact this
  have hb0 := nx hbP (nx hbZ hbO)
  have hsz : w.heap.size + 1 + 1 < (((w.alloc (.cells #[.string (str f1), .slice a xs.length c, .slice b ys.length d] 38)).alloc (.cells #[.string ⟨#[]⟩, .slice none 0 0, .slice none 0 0] 33)).alloc (.cells #[.string (str f1), .slice none 0 0, .slice none 0 0] 33)).heap.size := by simp
  have hl1 : xs.length ≤ 1073741824 := by omega
  have hl2 : ys.length ≤ 1073741824 := by omega
  clear p1 p2 p0 p3 p5 p4 p6 hbP hbZ hbO
  go_enter Tryz.func23, Tryz.ntmps23
  go_wp2_with fail
  generalize (((w.alloc (.cells #[.string (str f1), .slice a xs.length c, .slice b ys.length d] 38)).alloc (.cells #[.string ⟨#[]⟩, .slice none 0 0, .slice none 0 0] 33)).alloc (.cells #[.string (str f1), .slice none 0 0, .slice none 0 0] 33)) = W0 at *
  refine (toStringS_any a xs.length c xs W0 (P1.out.below hb0) hl1).mono ?_
  rintro e w1 ⟨a1, c1, rfl, ho1, hr1, hb1⟩
  have hs1 := hb1.size
  have HP1 := Lib.hid (HP.out.below hb1)
  have HZ1 := Lib.hid (HZ.out.below hb1)
  have HO1 := Lib.hid (HO.out.below hb1)
  have HW1 := Lib.hid ho1
  have hb01 := nx hb0 hb1
  clear hr1 ho1
  obtain ⟨y0, y1, y2⟩ := HP1.out
  obtain ⟨⟨o0, o1, o2⟩, of⟩ := HO1.out
  go_upto_region 4 with fail
  clear y0 y1 y2 o0 o1 o2 of
  have HP2 := Lib.hid (HP1.out.off (h := w.heap.size + 1 + 1) (i := 1) (by omega) (.slice a1 xs.length c1))
  have HZ2 := Lib.hid (HZ1.out.off (h := w.heap.size + 1 + 1) (i := 1) (by omega) (.slice a1 xs.length c1))
  have HO2 := Lib.hid (HO1.out.set1 (.slice a1 xs.length c1))
  have HW2 := Lib.hid (HW1.out.off (g := w.heap.size + 1 + 1) (i := 1) (by omega) (.slice a1 xs.length c1))
  have hb2 : Below w.heap.size w (w1.setCell ⟨w.heap.size + 1 + 1, 1, none⟩ (.slice a1 xs.length c1)) := hb01.setCell (by show w.heap.size ≤ w.heap.size + 1 + 1; omega) _
  have hs2 : W0.heap.size ≤ (w1.setCell ⟨w.heap.size + 1 + 1, 1, none⟩ (.slice a1 xs.length c1)).heap.size := by simpa [World.setCell] using hs1
  generalize w1.setCell ⟨w.heap.size + 1 + 1, 1, none⟩ (.slice a1 xs.length c1) = w2 at *
  clear HP1 HZ1 HO1 HW1 hb1 hb01 hs1
  obtain ⟨y0, y1, y2⟩ := HP2.out
  obtain ⟨⟨o0, o1, o2⟩, of⟩ := HO2.out
  go_wp2_with fail
  refine (toStringS_any b ys.length d ys w2 (P2.out.below hb2) hl2).mono ?_
  rintro e w3 ⟨a2, c2, rfl, ho3, hr3, hb3⟩
  have hs3 := hb3.size
  have HZ3 := Lib.hid (HZ2.out.below hb3)
  have HO3 := Lib.hid (HO2.out.below hb3)
  have HW3 := Lib.hid (HW2.out.keep hb3)
  have HA : Hid (∀ g, (Value.slice a1 xs.length c1).ownBlock = some g → (Value.slice a2 ys.length c2).ownBlock ≠ some g) := own_apart HW2.out ho3 (Nat.le_refl _)
  have HV3 : Hid (OwnL W0.heap.size (.slice a2 ys.length c2) ys w3) := ho3.base hs2
  have hb03 := nx hb2 hb3
  clear hr3 ho3 y0 y1 y2 o0 o1 o2 of HP2 HZ2 HO2 HW2
  obtain ⟨⟨o0, o1, o2⟩, of⟩ := HO3.out
  obtain ⟨⟨q0, q1, q2⟩, qf⟩ := HZ3.out
  go_wp2
  refine bodyPost_ret (v := .agg #[.string (str f1), .slice a1 xs.length c1, .slice a2 ys.length c2]) (by simp [results, Tryz.results23, go_sem, q0, q1, q2]) rfl ?_
  exact HD.out a1 c1 a2 c2 _ (((((HW3.out.off (g := w.heap.size + 1 + 1) (i := 2) (by omega) _).off (g := w.heap.size + 1) (i := 0) (by omega) _).off (g := w.heap.size + 1) (i := 1) (by omega) _).off (g := w.heap.size + 1) (i := 2) (by omega) _).base (by omega)) (((((HV3.out.off (g := w.heap.size + 1 + 1) (i := 2) (by omega) _).off (g := w.heap.size + 1) (i := 0) (by omega) _).off (g := w.heap.size + 1) (i := 1) (by omega) _).off (g := w.heap.size + 1) (i := 2) (by omega) _).base (by omega)) HA.out ((((hb03.setCell (by show w.heap.size ≤ w.heap.size + 1 + 1; omega) _).setCell (by show w.heap.size ≤ w.heap.size + 1; omega) _).setCell (by show w.heap.size ≤ w.heap.size + 1; omega) _).setCell (by show w.heap.size ≤ w.heap.size + 1; omega) _)
end Go.Proofs.YtombejhpfobehaaGreatDoor
end

section
namespace Go.Proofs.YtombejhpfobehaaGreatDoor
open Go.RowKit

section
variable {M N : Nat} {w : World} {s s' : ByteArray} {a b a' b' : Option Addr} {n c k d n' c' k' d' : Nat} {m m' : Ml}
theorem szMail_v {t : Int} (h : RdV maxLen w s a n c b k d m) (h0 : 0 ≤ t) (h1 : t ≤ 1048576) : Calls Tryz.prog 21 #[.agg #[.string s, .slice a n c, .slice b k d], .int .i64 t] w (SizedN t m w) :=
  h.calls [.int .i64 t] (fun x hx hr => hx ▸ szMail_any x t w hr h0 h1)
theorem eqMail_v (h : RdV 1048576 w s a n c b k d m) (h' : RdV 1048576 w s' a' n' c' b' k' d' m) : Calls Tryz.prog 18 #[.agg #[.string s, .slice a n c, .slice b k d], .agg #[.string s', .slice a' n' c', .slice b' k' d']] w fun e w' => e = .returned (.bool true) ∧ Below w.heap.size w w' :=
  h.calls2 h' (fun x y hx hy h1 h2 => by
    have := eqMail_any 1048576 x y w h1 h2 (by unfold maxLen; omega)
    rw [hx, hy, decide_eq_true rfl] at this; exact this)
def MalRetV (m : Ml) (w : World) (e : Ending) (w' : World) : Prop := ∃ (s : ByteArray) (a : Option Addr) (n c : Nat) (b : Option Addr) (k d : Nat), e = .returned (.agg #[.string s, .slice a n c, .slice b k d]) ∧ RdV 1048576 w' s a n c b k d m ∧ Below w.heap.size w w'
theorem toMail_v (h : RdV 1048576 w s a n c b k d m) : Calls Tryz.prog 23 #[.agg #[.string s, .slice a n c, .slice b k d]] w (MalRetV m w) :=
  h.calls [] (fun x hx hr => (toMail_any x w hr).mono (fun e w' ⟨y, hy, he, ho, hb⟩ => ⟨_, _, _, _, _, _, _, he, (by
    have hs : SmallM 1048576 y.m := by rw [hy]; exact hr.2.2
    have := RdV.of (ho.rd hs)
    rw [hy, hx] at this ⊢; exact this), hb⟩))
end
end Go.Proofs.YtombejhpfobehaaGreatDoor
end

section
namespace Go.Proofs.YtombejhpfobehaaGreatDoor
open Go.RowKit

def MarkedO (B k : Nat) (a : Option Addr) (n c : Nat) (w : World) (e : Ending) (w' : World) : Prop := e = .returned (.int .i64 ((k + n : Nat) : Int)) ∧ OwnL B (.slice a n c) (marksFrom k n) w' ∧ Only (Value.slice a n c).ownBlock w w'
theorem markedO_mk {B k : Nat} {a : Option Addr} {n c : Nat} {w w' : World} {q : Int} (hq : q = ((k + n : Nat) : Int)) (ho : OwnL B (.slice a n c) (marksFrom k n) w') (hb : Only (Value.slice a n c).ownBlock w w') : MarkedO B k a n c w (.returned (.int .i64 q)) w' := ⟨by rw [hq], ho, hb⟩
set_option maxRecDepth 100000 in
set_option maxHeartbeats 2000000 in
theorem markStringS_only (B : Nat) (a : Option Addr) (n c : Nat) (xs : List (List UInt8)) (k : Nat) (w : World) (ho : OwnL B (.slice a n c) xs w) (hn : xs.length = n) (hk0 : 0 < k) (hk : k + n ≤ 1073741824) :
    Calls Tryz.prog 43 #[.slice a n c, .int .i64 k] w (MarkedO B k a n c w) := by
  unfold OwnL at ho
  rw [hn] at ho
  rcases ho.2 with ⟨hv, h0⟩ | ⟨g, cap, cur, hv, hBg, _⟩
  · subst h0
    have HO : Hid (OwnL B (.slice a 0 c) (marksFrom k 0) w) := by show OwnL _ _ _ _; rw [hv]; exact OwnL.nil B w
    clear hv ho
    go_enter Tryz.func43, Tryz.ntmps43
    go_wp2_with fail
    go_loop [1, 5] (fun q i => q = .int .i64 k ∧ i = .int .i64 0) (fun _ _ => 0)
    case atStart => exact ⟨rfl, rfl⟩
    case round =>
      obtain ⟨rfl, rfl⟩ := hrel
      go_wp2
      go_ret
      exact markedO_mk (by omega) HO.out (Only.refl _ _)
  · injection hv with h1 h2 h3
    subst h1 h3
    go_enter Tryz.func43, Tryz.ntmps43
    go_wp2_with fail
    go_loopw [1, 5] (fun q i wr => ∃ (j : Nat) (L : List Value), j ≤ n ∧ i = .int .i64 j ∧ q = .int .i64 ((k + j : Nat) : Int) ∧ Only (some g) w wr ∧ wr.ownsRow B 9 1 (.slice (some ⟨g, 0, none⟩) n c) n L ∧ g < wr.heap.size ∧ ∀ u, u < j → L[u]? = some (strV (mT (k + u)))) (fun _ i _ => n - (intOf i).toNat)
    case atStart => exact ⟨0, _, Nat.zero_le _, rfl, rfl, Only.refl _ _, ho, (ho.lt g rfl).2, fun j h => by omega⟩
    case round =>
      obtain ⟨j, L, hj, rfl, rfl, hb, hO, hg, hL⟩ := hrel
      have HL := Lib.hid hL
      clear hL
      by_cases hlt : j < n
      · go_wp2_with fail
        refine (markText_any (k + j) _ (by omega) (by omega)).mono ?_
        rintro e w1 ⟨rfl, hb1⟩
        rw [mT_eq]
        have hO1 : w1.ownsRow B 9 1 (.slice (some ⟨g, 0, none⟩) n c) n L := by
          refine ⟨hO.1, ?_⟩
          rcases hO.2 with hn | ⟨g', cap', cur', hv', hg1, hg2, rest⟩
          · exact .inl hn
          · refine .inr ⟨g', cap', cur', hv', hg1, ?_, rest⟩
            injection hv' with e1 _ _
            injection e1 with e1
            injection e1 with e1 _ _
            rw [← e1] at hg2 ⊢
            rw [hb1.block g hg, hg2]
        have hlL : L.length = n := by have := hO.1; omega
        obtain ⟨v0, hv0⟩ : ∃ v0, L[j]? = some v0 := ⟨L[j]'(by omega), List.getElem?_eq_getElem (by omega)⟩
        have hc2 : w1.cell? ⟨g, j, none⟩ = some v0 := by
          have := hO1.cells (g := g) rfl j v0 hv0
          rw [add0] at this; exact this
        have hf2 : w1.frozen? ⟨g, j, none⟩ = false := hO1.frozenAt j
        have HST := Lib.hid (hO1.stored j (.string (str (mT (k + j)))))
        have HLL := Lib.hid hlL
        have hb2 : Only (some g) w w1 := hb.ext hb1
        have hg1' : g < w1.heap.size := Nat.lt_of_lt_of_le hg hb1.size
        clear hlL hv0 hO1 hO
        go_wp2
        go_roundw
        case rel => exact ⟨j + 1, _, by omega, by go_num, by go_num, hb2.setCell _, HST.out.1, by simpa using hg1', fun u hu => by
          by_cases e : u = j
          · subst e; rw [List.getElem?_set_self (by rw [HLL.out]; omega)]; rfl
          · rw [List.getElem?_set_ne (fun h => e h.symm)]; exact HL.out u (by omega)⟩
        case measure => simp [intOf]; omega
      · have hjn : j = n := by omega
        have hlL : L.length = n := by have := hO.1; omega
        have hLe : L = (marksFrom k n).map strV := by
          apply List.ext_getElem?
          intro u
          by_cases hu : u < n
          · rw [HL.out u (by omega)]
            rw [List.getElem?_map, List.getElem?_eq_getElem (by rw [marksFrom_len]; exact hu), marksFrom_at]; rfl
          · rw [List.getElem?_eq_none (by omega), List.getElem?_eq_none (by rw [List.length_map, marksFrom_len]; omega)]
        have HO : Hid (OwnL B (.slice (some ⟨g, 0, none⟩) n c) (marksFrom k n) wr) := by show OwnL _ _ _ _; unfold OwnL; rw [marksFrom_len, ← hLe]; exact hO
        clear hlL hLe hO
        subst hjn
        go_wp2
        go_ret
        exact markedO_mk (by omega) HO.out hb
set_option maxRecDepth 100000 in
set_option maxHeartbeats 2000000 in
/-- A size is what is left, or below 0 where it does not fit. -/
def SizedT (m : Int) (xs : List (List UInt8)) (w : World) (e : Ending) (w' : World) : Prop := ∃ r : Int, e = .returned (.int .i64 r) ∧ -1 ≤ r ∧ r ≤ m ∧ (0 ≤ r → (xs.length : Int) + (xs.flatten.length : Int) ≤ m) ∧ w = w'
theorem szStringS_sum (a : Option Addr) (n c : Nat) (xs : List (List UInt8)) (m : Int) (w : World) (hr : RdL w a n xs) (hn : n ≤ maxLen) (hm0 : 0 ≤ m) (hm : m ≤ 1073741824) (hx : ∀ j, (h : j < xs.length) → xs[j].length ≤ maxLen) :
    Calls Tryz.prog 38 #[.slice a n c, .int .i64 m] w (SizedT m xs w) := by
  unfold maxLen at hn hx
  obtain ⟨hl, hr2⟩ := hr
  have HLEN := Lib.hid hl
  have HR2 := Lib.hid hr2
  have HXX := Lib.hid hx
  clear hl hr2 hx
  by_cases hbig : m < n
  · have d1 : (m - n : Int) < 0 := by omega
    go_enter Tryz.func38, Tryz.ntmps38
    go_wp2
    go_ret
    exact ⟨-1, rfl, by omega, by omega, fun h => by omega, rfl⟩
  · go_enter Tryz.func38, Tryz.ntmps38
    go_wp2_with fail
    go_loop [1, 5] (fun l i => ∃ (k : Nat) (r : Int), k ≤ n ∧ i = .int .i64 k ∧ l = .int .i64 r ∧ 0 ≤ r ∧ r ≤ m ∧ r + (n : Int) + ((xs.take k).flatten.length : Int) = m) (fun _ i => n - (intOf i).toNat)
    case atStart => exact ⟨0, m - n, Nat.zero_le _, rfl, rfl, by omega, by omega, by simp⟩
    case round =>
      obtain ⟨k, r, hk, rfl, rfl, hr0, hrm, hall⟩ := hrel
      have HA := Lib.hid hall
      clear hall
      by_cases hlt : k < n
      · have hkx : k < xs.length := by rw [HLEN.out]; exact hlt
        obtain ⟨b, off, rfl, hbl, hcell⟩ := HR2.out.resolve_left (by omega)
        have hc1 : w.cell? ⟨b, off + k, none⟩ = some (.string (str xs[k])) := hcell k hkx
        have hxl := HXX.out k hkx
        have HSZ := Lib.hid (str_size xs[k])
        have hsz : (str xs[k]).size ≤ 9223372036854775807 := by rw [HSZ.out]; omega
        clear hcell
        by_cases hs : r < (str xs[k]).size
        · go_wp2
          go_ret
          exact ⟨-1, rfl, by omega, by omega, fun h => by omega, rfl⟩
        · have HN : Hid (((xs.take (k + 1)).flatten.length : Int) = ((xs.take k).flatten.length : Int) + ((str xs[k]).size : Int)) := by
            show _ = _
            rw [List.take_succ_eq_append_getElem hkx, List.flatten_append, List.length_append, HSZ.out]; simp
          go_wp2
          go_round
          case rel => exact ⟨k + 1, r - (str xs[k]).size, by omega, by go_num, rfl, by omega, by omega, by have := HN.out; have := HA.out; omega⟩
          case measure => simp [intOf]; omega
      · go_wp2
        go_ret
        exact ⟨r, rfl, by omega, hrm, fun _ => by
          have h1 := HA.out
          rw [List.take_of_length_le (by rw [HLEN.out]; omega)] at h1
          have h2 := HLEN.out
          omega, rfl⟩
end Go.Proofs.YtombejhpfobehaaGreatDoor
end

section
namespace Go.Proofs.YtombejhpfobehaaGreatDoor
open Go.RowKit

/-- Blocks below G, and those from E on, stay. -/
structure MkS (G E : Nat) (w w' : World) : Prop where
  low : Below G w w'
  high : ∀ k, E ≤ k → k < w.heap.size → w'.heap[k]? = w.heap[k]?
theorem MkS.trans {G E : Nat} {a b c : World} (h : MkS G E a b) (k : MkS G E b c) : MkS G E a c :=
  ⟨h.low.trans k.low, fun i he hi => (k.high i he (Nat.lt_of_lt_of_le hi h.low.size)).trans (h.high i he hi)⟩
theorem MkS.below {G E : Nat} {w w' : World} (h : Below w.heap.size w w') (hG : G ≤ w.heap.size) : MkS G E w w' := ⟨h.mono hG, fun k _ hk => h.block k hk⟩
theorem MkS.own {G E : Nat} {w w' : World} (k : MkS G E w w') {v : Value} {xs : List (List UInt8)} (h : OwnL E v xs w) : OwnL E v xs w' := by
  refine ⟨h.1, ?_⟩
  rcases h.2 with hn | ⟨g, cap, cur, hv, hg1, hg2, rest⟩
  · exact .inl hn
  · exact .inr ⟨g, cap, cur, hv, hg1, by rw [k.high g hg1 (lt_of_block hg2), hg2], rest⟩
theorem MkS.only {G E : Nat} {w w' : World} {v : Value} (h : Only v.ownBlock w w') (hl : ∀ g, v.ownBlock = some g → G ≤ g ∧ g < E) (hG : G ≤ w.heap.size) : MkS G E w w' := by
  refine ⟨h.below (fun g hg => (hl g hg).1) hG, fun k he hk => h.block k hk (fun e => ?_)⟩
  have := (hl k e.symm).2
  omega
/-- A mail whose rows lie in blocks from G on and ahead of E, apart from each other. -/
def ShV (G E : Nat) (w : World) (a : Option Addr) (n c : Nat) (b : Option Addr) (k d : Nat) (m : Ml) : Prop :=
  n = m.to.length ∧ k = m.lines.length ∧ OwnL G (.slice a n c) m.to w ∧ OwnL G (.slice b k d) m.lines w ∧ (∀ g, (Value.slice a n c).ownBlock = some g → (Value.slice b k d).ownBlock ≠ some g) ∧
  (∀ g, (Value.slice a n c).ownBlock = some g → g < E) ∧ ∀ g, (Value.slice b k d).ownBlock = some g → g < E
theorem ShV.below {G E : Nat} {w w' : World} {a b : Option Addr} {n c k d : Nat} {m : Ml} (h : ShV G E w a n c b k d m) (hb : Below w.heap.size w w') : ShV G E w' a n c b k d m :=
  ⟨h.1, h.2.1, h.2.2.1.keep hb, h.2.2.2.1.keep hb, h.2.2.2.2⟩
theorem toMail_w {w : World} {s : ByteArray} {a b : Option Addr} {n c k d : Nat} {m : Ml} (h : RdV 1048576 w s a n c b k d m) : Calls Tryz.prog 23 #[.agg #[.string s, .slice a n c, .slice b k d]] w fun e w' =>
    ∃ (s : ByteArray) (a : Option Addr) (n c : Nat) (b : Option Addr) (k d : Nat), e = .returned (.agg #[.string s, .slice a n c, .slice b k d]) ∧ RdV 1048576 w' s a n c b k d m ∧ ShV w.heap.size w'.heap.size w' a n c b k d m ∧ Below w.heap.size w w' :=
  h.calls [] (fun x hx hr => (toMail_any x w hr).mono (fun e w' ⟨y, hy, he, ho, hb⟩ => ⟨_, _, _, _, _, _, _, he, (by
    have hs : SmallM 1048576 y.m := by rw [hy]; exact hr.2.2
    have := RdV.of (ho.rd hs)
    rw [hy, hx] at this ⊢; exact this), (by
    obtain ⟨h1, h2, h3⟩ := ho
    rw [hy, hx] at *
    exact ⟨rfl, rfl, h1, h2, h3, fun g hg => (h1.lt g hg).2, fun g hg => (h2.lt g hg).2⟩), hb⟩))
set_option maxRecDepth 100000 in
set_option maxHeartbeats 2000000 in
theorem markMail_v {G E : Nat} {w : World} {s : ByteArray} {a b : Option Addr} {n c k d : Nat} {m : Ml} (q : Nat) (h : ShV G E w a n c b k d m) (hG : G ≤ w.heap.size) (hq : 0 < q) (hk : q + (n + k) ≤ 1073741824) :
    Calls Tryz.prog 19 #[.agg #[.string s, .slice a n c, .slice b k d], .int .i64 q] w fun e w' => e = .returned (.int .i64 ((q + (n + k) : Nat) : Int)) ∧ MkS G E w w' := by
  obtain ⟨hn, hk', h1, h2, h3, h4, h5⟩ := h
  have hA : Below w.heap.size w (w.alloc (.cells #[.string s, .slice a n c, .slice b k d] 33)) := (Below.refl _ _).alloc (Nat.le_refl _) _
  have HX := Lib.hid (MK3.new w (.string s) (.slice a n c) (.slice b k d) 33)
  have H1 := Lib.hid (h1.keep hA)
  have H2 := Lib.hid (h2.keep hA)
  have L1 : Hid (∀ g, (Value.slice a n c).ownBlock = some g → G ≤ g ∧ g < E ∧ g < w.heap.size) := fun g hg => ⟨(h1.lt g hg).1, h4 g hg, (h1.lt g hg).2⟩
  have L2 : Hid (∀ g, (Value.slice b k d).ownBlock = some g → G ≤ g ∧ g < E ∧ g < w.heap.size) := fun g hg => ⟨(h2.lt g hg).1, h5 g hg, (h2.lt g hg).2⟩
  have H3 := Lib.hid h3
  have HN := Lib.hid hn.symm
  have HK := Lib.hid hk'.symm
  clear h1 h2 h3 h4 h5 hn hk'
  have hA0 : MkS G E w (w.alloc (.cells #[.string s, .slice a n c, .slice b k d] 33)) := MkS.below hA hG
  have hG1 : G ≤ (w.alloc (.cells #[.string s, .slice a n c, .slice b k d] 33)).heap.size := Nat.le_trans hG hA.size
  go_enter Tryz.func19, Tryz.ntmps19
  go_wp2_with fail
  generalize w.alloc (.cells #[.string s, .slice a n c, .slice b k d] 33) = W0 at *
  refine (markStringS_only G a n c m.to q W0 H1.out HN.out hq (by omega)).mono ?_
  rintro e w1 ⟨rfl, _, ho1⟩
  have hM1 : MkS G E W0 w1 := MkS.only ho1 (fun g hg => ⟨(L1.out g hg).1, (L1.out g hg).2.1⟩) hG1
  have HX1 : Hid (MK3 w1 w.heap.size (.string s) (.slice a n c) (.slice b k d)) := by
    have hne : some w.heap.size ≠ (Value.slice a n c).ownBlock := fun e => by have := (L1.out _ e.symm).2.2; omega
    have hl := lt_of_cell HX.out.1
    have hbk := ho1.block w.heap.size hl hne
    have hc : ∀ o, w1.cell? ⟨w.heap.size, o, none⟩ = W0.cell? ⟨w.heap.size, o, none⟩ := fun o => by unfold World.cell?; rw [hbk]
    exact ⟨(hc 0).trans HX.out.1, (hc 1).trans HX.out.2.1, (hc 2).trans HX.out.2.2⟩
  have H21 : Hid (OwnL G (.slice b k d) m.lines w1) := by
    show OwnL _ _ _ _
    refine ⟨H2.out.1, ?_⟩
    rcases H2.out.2 with hn | ⟨g, cap, cur, hv, hg1, hg2, rest⟩
    · exact .inl hn
    · refine .inr ⟨g, cap, cur, hv, hg1, ?_, rest⟩
      rw [ho1.block g (lt_of_block hg2) (fun e => H3.out g e.symm (by rw [hv]; rfl)), hg2]
  have hz1 : G ≤ w1.heap.size := Nat.le_trans hG1 hM1.low.size
  clear ho1
  obtain ⟨y0, y1, y2⟩ := HX1.out
  go_wp2_with fail
  refine (markStringS_only G b k d m.lines (q + n) w1 H21.out HK.out (by omega) (by omega)).mono ?_
  rintro e w2 ⟨rfl, _, ho2⟩
  have hM2 : MkS G E w1 w2 := MkS.only ho2 (fun g hg => ⟨(L2.out g hg).1, (L2.out g hg).2.1⟩) hz1
  go_wp2
  go_ret
  exact ⟨ret_int (by omega), hA0.trans (hM1.trans hM2)⟩
end Go.Proofs.YtombejhpfobehaaGreatDoor
end

section
namespace Go.Proofs.YtombejhpfobehaaGreatDoor
open Go.RowKit

theorem rdL_slc {B : Nat} {a : Option Addr} {n c : Nat} {xs : List (List UInt8)} {w : World} (h : OwnL B (.slice a n c) xs w) : RdL w a n xs := by
  obtain ⟨a', c', e, hr, _⟩ := h.read
  injection e with e1 e2 e3
  subst e1 e2
  exact hr
theorem OwnL.len_mk {B k n c : Nat} {a : Option Addr} {w : World} (h : OwnL B (.slice a n c) (marksFrom k n) w) : RdL w a n (marksFrom k n) := rdL_slc h
set_option maxRecDepth 100000 in
set_option maxHeartbeats 2000000 in
/-- What a mail's rows hold behind the marks, and what stays. -/
theorem markMail_h {G E : Nat} {w : World} {s : ByteArray} {a b : Option Addr} {n c k d : Nat} {m : Ml} (q : Nat) (h : ShV G E w a n c b k d m) (hG : G ≤ w.heap.size) (hq : 0 < q) (hk : q + (n + k) ≤ 1073741824) :
    Calls Tryz.prog 19 #[.agg #[.string s, .slice a n c, .slice b k d], .int .i64 q] w fun e w' => e = .returned (.int .i64 ((q + (n + k) : Nat) : Int)) ∧ RdL w' a n (marksFrom q n) ∧ RdL w' b k (marksFrom (q + n) k) ∧ MkS G E w w' := by
  obtain ⟨hn, hk', h1, h2, h3, h4, h5⟩ := h
  have hA : Below w.heap.size w (w.alloc (.cells #[.string s, .slice a n c, .slice b k d] 33)) := (Below.refl _ _).alloc (Nat.le_refl _) _
  have HX := Lib.hid (MK3.new w (.string s) (.slice a n c) (.slice b k d) 33)
  have H1 := Lib.hid (h1.keep hA)
  have H2 := Lib.hid (h2.keep hA)
  have L1 : Hid (∀ g, (Value.slice a n c).ownBlock = some g → G ≤ g ∧ g < E ∧ g < w.heap.size) := fun g hg => ⟨(h1.lt g hg).1, h4 g hg, (h1.lt g hg).2⟩
  have L2 : Hid (∀ g, (Value.slice b k d).ownBlock = some g → G ≤ g ∧ g < E ∧ g < w.heap.size) := fun g hg => ⟨(h2.lt g hg).1, h5 g hg, (h2.lt g hg).2⟩
  have H3 := Lib.hid h3
  have HN := Lib.hid hn.symm
  have HK := Lib.hid hk'.symm
  clear h1 h2 h3 h4 h5 hn hk'
  have hA0 : MkS G E w (w.alloc (.cells #[.string s, .slice a n c, .slice b k d] 33)) := MkS.below hA hG
  have hG1 : G ≤ (w.alloc (.cells #[.string s, .slice a n c, .slice b k d] 33)).heap.size := Nat.le_trans hG hA.size
  go_enter Tryz.func19, Tryz.ntmps19
  go_wp2_with fail
  generalize w.alloc (.cells #[.string s, .slice a n c, .slice b k d] 33) = W0 at *
  refine (markStringS_only G a n c m.to q W0 H1.out HN.out hq (by omega)).mono ?_
  rintro e w1 ⟨rfl, hm1, ho1⟩
  have hM1 : MkS G E W0 w1 := MkS.only ho1 (fun g hg => ⟨(L1.out g hg).1, (L1.out g hg).2.1⟩) hG1
  have HX1 : Hid (MK3 w1 w.heap.size (.string s) (.slice a n c) (.slice b k d)) := by
    have hne : some w.heap.size ≠ (Value.slice a n c).ownBlock := fun e => by have := (L1.out _ e.symm).2.2; omega
    have hl := lt_of_cell HX.out.1
    have hbk := ho1.block w.heap.size hl hne
    have hc : ∀ o, w1.cell? ⟨w.heap.size, o, none⟩ = W0.cell? ⟨w.heap.size, o, none⟩ := fun o => by unfold World.cell?; rw [hbk]
    exact ⟨(hc 0).trans HX.out.1, (hc 1).trans HX.out.2.1, (hc 2).trans HX.out.2.2⟩
  have H21 : Hid (OwnL G (.slice b k d) m.lines w1) := by
    show OwnL _ _ _ _
    refine ⟨H2.out.1, ?_⟩
    rcases H2.out.2 with hn | ⟨g, cap, cur, hv, hg1, hg2, rest⟩
    · exact .inl hn
    · refine .inr ⟨g, cap, cur, hv, hg1, ?_, rest⟩
      rw [ho1.block g (lt_of_block hg2) (fun e => H3.out g e.symm (by rw [hv]; rfl)), hg2]
  have hz1 : G ≤ w1.heap.size := Nat.le_trans hG1 hM1.low.size
  have HM1 := Lib.hid hm1
  clear ho1 hm1
  obtain ⟨y0, y1, y2⟩ := HX1.out
  go_wp2_with fail
  refine (markStringS_only G b k d m.lines (q + n) w1 H21.out HK.out (by omega) (by omega)).mono ?_
  rintro e w2 ⟨rfl, hm2, ho2⟩
  have hM2 : MkS G E w1 w2 := MkS.only ho2 (fun g hg => ⟨(L2.out g hg).1, (L2.out g hg).2.1⟩) hz1
  have HM2 := Lib.hid (rdL_slc hm2)
  have HM12 : Hid (RdL w2 a n (marksFrom q n)) := by
    have hk : OwnL G (.slice a n c) (marksFrom q n) w2 := by
      refine ⟨HM1.out.1, ?_⟩
      rcases HM1.out.2 with hn | ⟨g, cap, cur, hv, hg1, hg2, rest⟩
      · exact .inl hn
      · refine .inr ⟨g, cap, cur, hv, hg1, ?_, rest⟩
        rw [ho2.block g (lt_of_block hg2) (fun e => H3.out g (by rw [hv]; rfl) e.symm), hg2]
    exact rdL_slc hk
  clear ho2 hm2
  go_wp2
  go_ret
  exact ⟨ret_int (by omega), HM12.out, HM2.out, hA0.trans (hM1.trans hM2)⟩
set_option maxRecDepth 100000 in
set_option maxHeartbeats 2000000 in
theorem heldMail_h {w : World} {s : ByteArray} {a b : Option Addr} {n c k d : Nat} (q : Nat) (h1 : RdL w a n (marksFrom q n)) (h2 : RdL w b k (marksFrom (q + n) k)) (hq : 0 < q) (hk : q + (n + k) ≤ 1073741824) :
    Calls Tryz.prog 20 #[.agg #[.string s, .slice a n c, .slice b k d], .int .i64 q] w fun e w' => e = .returned (.int .i64 ((q + (n + k) : Nat) : Int)) ∧ Below w.heap.size w w' := by
  have hA : Below w.heap.size w (w.alloc (.cells #[.string s, .slice a n c, .slice b k d] 33)) := (Below.refl _ _).alloc (Nat.le_refl _) _
  have HX := Lib.hid (MK3.new w (.string s) (.slice a n c) (.slice b k d) 33)
  have H1 : Hid (∀ u, Below w.heap.size w u → Calls Tryz.prog 60 #[.slice a n c, .int .i64 q] u fun e w' => e = .returned (.int .i64 ((q + n : Nat) : Int)) ∧ Below u.heap.size u w') := fun u hu => heldStringS_any a n c q u (h1.below hu) hq (by omega)
  have H2 : Hid (∀ u, Below w.heap.size w u → Calls Tryz.prog 60 #[.slice b k d, .int .i64 ((q + n : Nat) : Int)] u fun e w' => e = .returned (.int .i64 ((q + n + k : Nat) : Int)) ∧ Below u.heap.size u w') := fun u hu => heldStringS_any b k d (q + n) u (h2.below hu) (by omega) (by omega)
  clear h1 h2
  obtain ⟨K1, hK1⟩ : ∃ K : Int, K = ((q + n : Nat) : Int) := ⟨_, rfl⟩
  obtain ⟨K2, hK2⟩ : ∃ K : Int, K = ((q + n + k : Nat) : Int) := ⟨_, rfl⟩
  have e3 : ((q + (n + k) : Nat) : Int) = K2 := by rw [hK2]; omega
  rw [← hK1] at H1 H2
  rw [← hK2] at H2
  rw [e3]
  have n1 : ¬ (K1 < 0) := by omega
  have n2 : ¬ (K2 < 0) := by omega
  clear hK1 hK2 e3
  go_enter Tryz.func20, Tryz.ntmps20
  go_wp2_with fail
  refine (H1.out _ hA).mono ?_
  rintro e w1 ⟨rfl, hb1⟩
  obtain ⟨y0, y1, y2⟩ := HX.out.below hb1
  have hb01 := nx hA hb1
  go_wp2_with fail
  refine (H2.out _ hb01).mono ?_
  rintro e w2 ⟨rfl, hb2⟩
  go_wp2
  go_ret
  exact ⟨rfl, nx hb01 hb2⟩
end Go.Proofs.YtombejhpfobehaaGreatDoor
end

section
namespace Go.Proofs.YtombejhpfobehaaGreatDoor
open Go.RowKit

theorem MlA.ap_same {x y x' y' : MlA} (h : ApM x y) (e1 : x'.a1 = x.a1) (e2 : x'.c1 = x.c1) (e3 : x'.m.to.length = x.m.to.length) (e4 : x'.a2 = x.a2) (e5 : x'.c2 = x.c2) (e6 : x'.m.lines.length = x.m.lines.length)
    (f1 : y'.a1 = y.a1) (f2 : y'.c1 = y.c1) (f3 : y'.m.to.length = y.m.to.length) (f4 : y'.a2 = y.a2) (f5 : y'.c2 = y.c2) (f6 : y'.m.lines.length = y.m.lines.length) : ApM x' y' := by
  unfold ApM at *
  rw [e1, e2, e3, e4, e5, e6, f1, f2, f3, f4, f5, f6]; exact h
/-- Two mails with the same rows in memory, as far as places go. -/
def SameP (x y : MlA) : Prop := x.a1 = y.a1 ∧ x.c1 = y.c1 ∧ x.m.to.length = y.m.to.length ∧ x.a2 = y.a2 ∧ x.c2 = y.c2 ∧ x.m.lines.length = y.m.lines.length
theorem SameP.ap {x y x' y' : MlA} (h : ApM x y) (hx : SameP x' x) (hy : SameP y' y) : ApM x' y' :=
  MlA.ap_same h hx.1 hx.2.1 hx.2.2.1 hx.2.2.2.1 hx.2.2.2.2.1 hx.2.2.2.2.2 hy.1 hy.2.1 hy.2.2.1 hy.2.2.2.1 hy.2.2.2.2.1 hy.2.2.2.2.2
theorem SameP.refl (x : MlA) : SameP x x := ⟨rfl, rfl, rfl, rfl, rfl, rfl⟩
theorem pair_set {xs : List MlA} {k : Nat} {x' : MlA} (h : xs.Pairwise ApM) (hk : k < xs.length) (hs : SameP x' xs[k]) : (xs.set k x').Pairwise ApM := by
  rw [List.pairwise_iff_getElem] at h ⊢
  intro i j hi hj hij
  have hi' : i < xs.length := by simpa using hi
  have hj' : j < xs.length := by simpa using hj
  have key : ∀ (t : Nat) (ht : t < xs.length) (ht' : t < (xs.set k x').length), SameP (xs.set k x')[t] xs[t] := fun t ht ht' => by
    by_cases e : k = t
    · subst e
      rw [List.getElem_set_self]; exact hs
    · rw [List.getElem_set_ne e]; exact SameP.refl _
  exact SameP.ap (h i j hi' hj' hij) (key i hi' hi) (key j hj' hj)
theorem flat_set {xs : List MlA} {k : Nat} {x' : MlA} (hk : k < xs.length) : (xs.set k x').flatMap mlC = (((xs.flatMap mlC).set (k * 3) (.string (str x'.m.frm))).set (k * 3 + 1) (.slice x'.a1 x'.m.to.length x'.c1)).set (k * 3 + 2) (.slice x'.a2 x'.m.lines.length x'.c2) := by
  induction xs generalizing k with
  | nil => simp at hk
  | cons x xs ih =>
    cases k with
    | zero => simp [mlC]
    | succ k =>
      have h := ih (k := k) (by simpa using hk)
      have e0 : (k + 1) * 3 = k * 3 + 3 := by omega
      simp only [List.set_cons_succ, List.flatMap_cons, h, e0]
      simp [mlC]
theorem set_self3 {L : List Value} {i : Nat} {v : Value} (h : L[i]? = some v) : L.set i v = L := by
  obtain ⟨hi, h⟩ := List.getElem?_eq_some_iff.1 h
  rw [← h]; exact List.set_getElem_self hi
theorem flat_cells {xs : List MlA} {k : Nat} (hk : k < xs.length) : (xs.flatMap mlC)[k * 3]? = some (.string (str xs[k].m.frm)) ∧ (xs.flatMap mlC)[k * 3 + 1]? = some (.slice xs[k].a1 xs[k].m.to.length xs[k].c1) ∧ (xs.flatMap mlC)[k * 3 + 2]? = some (.slice xs[k].a2 xs[k].m.lines.length xs[k].c2) :=
  ⟨(flat_at mlC 3 mlC_len xs k 0 (by omega) hk).trans rfl, (flat_at mlC 3 mlC_len xs k 1 (by omega) hk).trans rfl, (flat_at mlC 3 mlC_len xs k 2 (by omega) hk).trans rfl⟩
/-- A mail with another sender, at its places. -/
def MlA.frm' (x : MlA) (s : List UInt8) : MlA := ⟨⟨s, x.m.to, x.m.lines⟩, x.a1, x.c1, x.a2, x.c2⟩
theorem awayL {B g i : Nat} {w : World} {v : Value} {xs : List (List UInt8)} (h : OwnL B v xs w) (hv : ∀ q, v.ownBlock = some q → q ≠ g) (z : Value) : OwnL B v xs (w.setCell ⟨g, i, none⟩ z) :=
  ((⟨h, OwnL.nil B w, fun g _ e => by cases e⟩ : St2 B w v xs (.slice none 0 0) []).off hv (fun q hq => by cases hq) z).a
theorem OwnM.away {B g i : Nat} {w : World} {x : MlA} (h : OwnM B w x) (h1 : ∀ q, (Value.slice x.a1 x.m.to.length x.c1).ownBlock = some q → q ≠ g) (h2 : ∀ q, (Value.slice x.a2 x.m.lines.length x.c2).ownBlock = some q → q ≠ g) (z : Value) : OwnM B (w.setCell ⟨g, i, none⟩ z) x := ⟨awayL h.1 h1 z, awayL h.2.1 h2 z, h.2.2⟩
theorem OwnMs.setFrm {B g c n k : Nat} {xs : List MlA} {w : World} (h : OwnMs B (.slice (some ⟨g, 0, none⟩) n c) xs w) (hn : xs.length = n) (hk : k < xs.length) (s : List UInt8) : OwnMs B (.slice (some ⟨g, 0, none⟩) n c) (xs.set k (xs[k].frm' s)) (w.setCell ⟨g, k * 3, none⟩ (.string (str s))) := by
  subst hn
  have hr := h.1
  unfold OwnR at hr
  have hne : ∀ x ∈ xs, (∀ q, (Value.slice x.a1 x.m.to.length x.c1).ownBlock = some q → q ≠ g) ∧ ∀ q, (Value.slice x.a2 x.m.lines.length x.c2).ownBlock = some q → q ≠ g := fun x hx =>
    ⟨fun q hq e => strs_mails h.1 (h.2.1 x hx).1 q hq (by rw [e]; rfl), fun q hq e => strs_mails h.1 (h.2.1 x hx).2.1 q hq (by rw [e]; rfl)⟩
  have key : ∀ x ∈ xs, OwnM B (w.setCell ⟨g, k * 3, none⟩ (.string (str s))) x := fun x hx => (h.2.1 x hx).away (hne x hx).1 (hne x hx).2 _
  refine ⟨?_, fun x hx => ?_, pair_set h.2.2 hk ⟨rfl, rfl, rfl, rfl, rfl, rfl⟩⟩
  · unfold OwnR
    have h3 := (hr.stored (k * 3) (.string (str s))).1
    obtain ⟨_, c1, c2⟩ := flat_cells hk
    have e : (xs.set k (xs[k].frm' s)).flatMap mlC = (xs.flatMap mlC).set (k * 3) (.string (str s)) := by
      rw [flat_set hk]
      have e1 : ((xs.flatMap mlC).set (k * 3) (.string (str s)))[k * 3 + 1]? = some (.slice xs[k].a1 xs[k].m.to.length xs[k].c1) := by rw [List.getElem?_set_ne (by omega)]; exact c1
      have e2 : ((xs.flatMap mlC).set (k * 3) (.string (str s)))[k * 3 + 2]? = some (.slice xs[k].a2 xs[k].m.lines.length xs[k].c2) := by rw [List.getElem?_set_ne (by omega)]; exact c2
      show (((xs.flatMap mlC).set (k * 3) (.string (str s))).set (k * 3 + 1) (.slice xs[k].a1 xs[k].m.to.length xs[k].c1)).set (k * 3 + 2) (.slice xs[k].a2 xs[k].m.lines.length xs[k].c2) = _
      rw [set_self3 e1, set_self3 e2]
    rw [e, List.length_set]; exact h3
  · rcases List.mem_or_eq_of_mem_set hx with hx | rfl
    · exact key x hx
    · have hk' := key xs[k] (List.getElem_mem hk)
      exact ⟨hk'.1, hk'.2.1, hk'.2.2⟩
theorem ApM.symm {x y : MlA} (h : ApM x y) : ApM y x := fun g hy hx => h g hx hy
theorem onlyL {B : Nat} {v : Value} {xs : List (List UInt8)} {w w' : World} {o : Option Nat} (h : OwnL B v xs w) (t : Only o w w') (hne : ∀ q, v.ownBlock = some q → o ≠ some q) : OwnL B v xs w' := by
  refine ⟨h.1, ?_⟩
  rcases h.2 with hn | ⟨g, cap, cur, hv, hg1, hg2, rest⟩
  · exact .inl hn
  · exact .inr ⟨g, cap, cur, hv, hg1, by rw [t.block g (lt_of_block hg2) (fun e => hne g (by rw [hv]; rfl) e.symm), hg2], rest⟩
theorem onlyR {B : Nat} {v : Value} {xs : List MlA} {w w' : World} {o : Option Nat} (h : OwnR 33 3 mlC B v xs w) (t : Only o w w') (hne : ∀ q, v.ownBlock = some q → o ≠ some q) : OwnR 33 3 mlC B v xs w' := by
  refine ⟨h.1, ?_⟩
  rcases h.2 with hn | ⟨g, cap, cur, hv, hg1, hg2, rest⟩
  · exact .inl hn
  · exact .inr ⟨g, cap, cur, hv, hg1, by rw [t.block g (lt_of_block hg2) (fun e => hne g (by rw [hv]; rfl) e.symm), hg2], rest⟩
/-- A mail with other rows of the same length, at its places. -/
def MlA.to' (x : MlA) (ys : List (List UInt8)) : MlA := ⟨⟨x.m.frm, ys, x.m.lines⟩, x.a1, x.c1, x.a2, x.c2⟩
def MlA.ln' (x : MlA) (ys : List (List UInt8)) : MlA := ⟨⟨x.m.frm, x.m.to, ys⟩, x.a1, x.c1, x.a2, x.c2⟩
/-- One row of one mail is turned, and nothing else. -/
theorem OwnMs.turn {B k : Nat} {v : Value} {xs : List MlA} {w w' : World} {o : Option Nat} {x' : MlA} (h : OwnMs B v xs w) (hk : k < xs.length) (t : Only o w w') (ho : ∀ q, o = some q → (Value.slice xs[k].a1 xs[k].m.to.length xs[k].c1).ownBlock = some q ∨ (Value.slice xs[k].a2 xs[k].m.lines.length xs[k].c2).ownBlock = some q)
    (hs : SameP x' xs[k]) (hf : x'.m.frm = xs[k].m.frm) (hx : OwnM B w' x') : OwnMs B v (xs.set k x') w' := by
  have hno : ∀ q, v.ownBlock = some q → o ≠ some q := fun q hv e => by
    rcases ho q e with h1 | h1
    · exact strs_mails h.1 (h.2.1 _ (List.getElem_mem hk)).1 q h1 hv
    · exact strs_mails h.1 (h.2.1 _ (List.getElem_mem hk)).2.1 q h1 hv
  refine ⟨?_, fun y hy => ?_, pair_set h.2.2 hk hs⟩
  · have hr := onlyR h.1 t hno
    unfold OwnR at hr ⊢
    obtain ⟨c0, c1, c2⟩ := flat_cells hk
    have e : (xs.set k x').flatMap mlC = xs.flatMap mlC := by
      rw [flat_set hk, hf, hs.1, hs.2.1, hs.2.2.1, hs.2.2.2.1, hs.2.2.2.2.1, hs.2.2.2.2.2, set_self3 c0, set_self3 c1, set_self3 c2]
    rw [e, List.length_set]; exact hr
  · obtain ⟨i, hi, rfl⟩ := List.getElem_of_mem hy
    have hi' : i < xs.length := by simpa using hi
    by_cases e : k = i
    · subst e
      rw [List.getElem_set_self]; exact hx
    · rw [List.getElem_set_ne e]
      have hap : ApM xs[k] xs[i] := by
        have hp := List.pairwise_iff_getElem.1 h.2.2
        rcases Nat.lt_or_ge k i with h1 | h1
        · exact hp k i hk hi' h1
        · exact (hp i k hi' hk (by omega)).symm
      have hxi := h.2.1 _ (List.getElem_mem hi')
      exact ⟨onlyL hxi.1 t (fun q hq e => hap q (ho q e) (.inl hq)), onlyL hxi.2.1 t (fun q hq e => hap q (ho q e) (.inr hq)), hxi.2.2⟩
theorem OwnMs.setTo {B k : Nat} {v : Value} {xs : List MlA} {w w' : World} {ys : List (List UInt8)} (h : OwnMs B v xs w) (hk : k < xs.length) (hl : ys.length = xs[k].m.to.length) (hy : OwnL B (.slice xs[k].a1 xs[k].m.to.length xs[k].c1) ys w') (t : Only (Value.slice xs[k].a1 xs[k].m.to.length xs[k].c1).ownBlock w w') : OwnMs B v (xs.set k (xs[k].to' ys)) w' := by
  have hx := h.2.1 _ (List.getElem_mem hk)
  refine h.turn hk t (fun q hq => .inl hq) ⟨rfl, rfl, hl, rfl, rfl, rfl⟩ rfl ⟨?_, ?_, ?_⟩
  · show OwnL B (.slice xs[k].a1 ys.length xs[k].c1) ys w'
    rw [hl]; exact hy
  · exact onlyL hx.2.1 t (fun q hq e => hx.2.2 q e hq)
  · show ∀ g, (Value.slice xs[k].a1 ys.length xs[k].c1).ownBlock = some g → _
    rw [hl]; exact hx.2.2
theorem OwnMs.setLn {B k : Nat} {v : Value} {xs : List MlA} {w w' : World} {ys : List (List UInt8)} (h : OwnMs B v xs w) (hk : k < xs.length) (hl : ys.length = xs[k].m.lines.length) (hy : OwnL B (.slice xs[k].a2 xs[k].m.lines.length xs[k].c2) ys w') (t : Only (Value.slice xs[k].a2 xs[k].m.lines.length xs[k].c2).ownBlock w w') : OwnMs B v (xs.set k (xs[k].ln' ys)) w' := by
  have hx := h.2.1 _ (List.getElem_mem hk)
  refine h.turn hk t (fun q hq => .inr hq) ⟨rfl, rfl, rfl, rfl, rfl, hl⟩ rfl ⟨onlyL hx.1 t (fun q hq e => hx.2.2 q hq e), ?_, ?_⟩
  · show OwnL B (.slice xs[k].a2 ys.length xs[k].c2) ys w'
    rw [hl]; exact hy
  · show ∀ g, _ → (Value.slice xs[k].a2 ys.length xs[k].c2).ownBlock ≠ some g
    rw [hl]; exact hx.2.2
end Go.Proofs.YtombejhpfobehaaGreatDoor
end

section
namespace Go.Proofs.YtombejhpfobehaaGreatDoor
open Go.RowKit

def stM (x : MlA) : Nat := 1 + (x.m.to.length + x.m.lines.length)
def mkM (q : Nat) (x : MlA) : MlA := ((x.frm' (mT q)).to' (marksFrom (q + 1) x.m.to.length)).ln' (marksFrom (q + 1 + x.m.to.length) x.m.lines.length)
def mkMs (q : Nat) : List MlA → List MlA
  | [] => []
  | x :: xs => mkM q x :: mkMs (q + stM x) xs
def smM (xs : List MlA) : Nat := (xs.map stM).sum
theorem mkMs_len : ∀ (xs : List MlA) (q : Nat), (mkMs q xs).length = xs.length
  | [], _ => rfl
  | x :: xs, q => by rw [mkMs, List.length_cons, mkMs_len xs, List.length_cons]
theorem mkMs_app : ∀ (xs ys : List MlA) (q : Nat), mkMs q (xs ++ ys) = mkMs q xs ++ mkMs (q + smM xs) ys
  | [], ys, q => by simp [mkMs, smM]
  | x :: xs, ys, q => by
    rw [List.cons_append, mkMs, mkMs, mkMs_app xs, List.cons_append]
    simp [smM, Nat.add_assoc]
/-- The row in which the first k are marked. -/
def mix (q : Nat) (xs : List MlA) (k : Nat) : List MlA := mkMs q (xs.take k) ++ xs.drop k
theorem mix_len {q k : Nat} {xs : List MlA} (h : k ≤ xs.length) : (mix q xs k).length = xs.length := by
  unfold mix; rw [List.length_append, mkMs_len, List.length_take, List.length_drop]; omega
theorem mix_at {q k : Nat} {xs : List MlA} (h : k < xs.length) (h' : k < (mix q xs k).length) : (mix q xs k)[k] = xs[k] := by
  have hl : (mkMs q (xs.take k)).length = k := by rw [mkMs_len, List.length_take]; omega
  have e : (mix q xs k)[k]? = some xs[k] := by
    unfold mix
    rw [List.getElem?_append_right (by omega), hl, Nat.sub_self, List.getElem?_drop, Nat.add_zero, List.getElem?_eq_getElem h]
  rw [List.getElem?_eq_getElem h'] at e
  injection e
theorem set_mid {α : Type} : ∀ (ps : List α) (b c : α) (bs : List α), (ps ++ b :: bs).set ps.length c = ps ++ c :: bs
  | [], _, _, _ => rfl
  | p :: ps, b, c, bs => by
    rw [List.cons_append, List.length_cons, List.set_cons_succ, set_mid ps]; rfl
theorem mix_step {q k : Nat} {xs : List MlA} (h : k < xs.length) : mix q xs (k + 1) = (mix q xs k).set k (mkM (q + smM (xs.take k)) xs[k]) := by
  have hl : (mkMs q (xs.take k)).length = k := by rw [mkMs_len, List.length_take]; omega
  have h2 := set_mid (mkMs q (xs.take k)) xs[k] (mkM (q + smM (xs.take k)) xs[k]) (xs.drop (k + 1))
  rw [hl] at h2
  unfold mix
  rw [List.drop_eq_getElem_cons h, h2, List.take_succ_eq_append_getElem h, mkMs_app, List.append_assoc]
  rfl
theorem smM_step {k : Nat} {xs : List MlA} (h : k < xs.length) : smM (xs.take (k + 1)) = smM (xs.take k) + stM xs[k] := by
  unfold smM; rw [List.take_succ_eq_append_getElem h, List.map_append, List.sum_append]; simp
theorem smM_len : ∀ xs : List MlA, xs.length ≤ smM xs
  | [] => Nat.zero_le _
  | x :: xs => by
    have := smM_len xs
    unfold smM at *
    rw [List.map_cons, List.sum_cons, List.length_cons]
    unfold stM at *
    omega
theorem mix_end {q k : Nat} {xs : List MlA} (h : xs.length ≤ k) : mix q xs k = mkMs q xs := by
  unfold mix; rw [List.take_of_length_le h, List.drop_eq_nil_of_le h, List.append_nil]
/-- What a mail of a row has: its cells, its rows, and how it may be turned. -/
theorem OwnMs.cellsK {B g n c k : Nat} {L : List MlA} {w : World} {y : MlA} (h : OwnMs B (.slice (some ⟨g, 0, none⟩) n c) L w) (hk : k < L.length) (hy : L[k] = y) :
    (w.cell? ⟨g, k * 3, none⟩ = some (.string (str y.m.frm)) ∧ w.cell? ⟨g, k * 3 + 1, none⟩ = some (.slice y.a1 y.m.to.length y.c1) ∧ w.cell? ⟨g, k * 3 + 2, none⟩ = some (.slice y.a2 y.m.lines.length y.c2)) ∧ w.frozen? ⟨g, k * 3, none⟩ = false ∧ OwnM B w y := by
  subst hy
  have hr := h.1
  unfold OwnR at hr
  have hn : L.length = n := by
    rcases hr.2 with ⟨e, h0⟩ | ⟨g1, cap1, cur1, e1, _⟩
    · cases e
    · injection e1 with _ e1 _; exact e1.symm
  subst hn
  obtain ⟨c0, c1, c2⟩ := flat_cells hk
  have C : ∀ j z, (L.flatMap mlC)[j]? = some z → w.cell? ⟨g, j, none⟩ = some z := fun j z hz => by
    have := hr.cells (g := g) rfl j z hz
    rw [add0] at this; exact this
  exact ⟨⟨C _ _ c0, C _ _ c1, C _ _ c2⟩, hr.frozenAt _, h.2.1 _ (List.getElem_mem hk)⟩
theorem OwnMs.setFrm' {B g n c k : Nat} {L : List MlA} {w : World} {y : MlA} (h : OwnMs B (.slice (some ⟨g, 0, none⟩) n c) L w) (hn : L.length = n) (hk : k < L.length) (hy : L[k] = y) (s : List UInt8) : OwnMs B (.slice (some ⟨g, 0, none⟩) n c) (L.set k (y.frm' s)) (w.setCell ⟨g, k * 3, none⟩ (.string (str s))) := by
  subst hy; exact h.setFrm hn hk s
theorem OwnMs.setTo' {B k : Nat} {v : Value} {L : List MlA} {w w' : World} {ys : List (List UInt8)} {y : MlA} (h : OwnMs B v L w) (hk : k < L.length) (hy : L[k] = y) (hl : ys.length = y.m.to.length) (ho : OwnL B (.slice y.a1 y.m.to.length y.c1) ys w') (t : Only (Value.slice y.a1 y.m.to.length y.c1).ownBlock w w') : OwnMs B v (L.set k (y.to' ys)) w' := by
  subst hy; exact h.setTo hk hl ho t
theorem OwnMs.setLn' {B k : Nat} {v : Value} {L : List MlA} {w w' : World} {ys : List (List UInt8)} {y : MlA} (h : OwnMs B v L w) (hk : k < L.length) (hy : L[k] = y) (hl : ys.length = y.m.lines.length) (ho : OwnL B (.slice y.a2 y.m.lines.length y.c2) ys w') (t : Only (Value.slice y.a2 y.m.lines.length y.c2).ownBlock w w') : OwnMs B v (L.set k (y.ln' ys)) w' := by
  subst hy; exact h.setLn hk hl ho t
def MkMRet (B q : Nat) (v : Value) (xs : List MlA) (w : World) (e : Ending) (w' : World) : Prop := e = .returned (.int .i64 ((q + smM xs : Nat) : Int)) ∧ OwnMs B v (mkMs q xs) w' ∧ Turn (blkM v xs) w w'
set_option maxRecDepth 100000 in
set_option maxHeartbeats 4000000 in
theorem markMailS_any (B : Nat) (a : Option Addr) (n c : Nat) (xs : List MlA) (q : Nat) (w : World) (h : OwnMs B (.slice a n c) xs w) (hn : xs.length = n) (hq : 0 < q) (hk : q + smM xs ≤ 1073741824) :
    Calls Tryz.prog 55 #[.slice a n c, .int .i64 q] w (MkMRet B q (.slice a n c) xs w) := by
  have hnb : n ≤ 1073741824 := by have := smM_len xs; omega
  have HN := Lib.hid hn
  have HH := Lib.hid h
  have HSM : Hid (∀ k (h : k < xs.length), smM (xs.take k) + stM xs[k] ≤ smM xs) := fun k h => by
    have h1 := smM_step h
    have h2 : smM (xs.take (k + 1)) ≤ smM xs := by
      have e : smM xs = smM (xs.take (k + 1)) + smM (xs.drop (k + 1)) := by
        unfold smM; rw [← List.sum_append, ← List.map_append, List.take_append_drop]
      omega
    omega
  have HKK := Lib.hid hk
  obtain ⟨P, hP⟩ : ∃ P, P = blkM (.slice a n c) xs := ⟨_, rfl⟩
  have HP0 : Hid (∀ g, a = some ⟨g, 0, none⟩ → P g) := fun g e => by rw [hP, e]; exact .inl rfl
  have HP1 : Hid (∀ k (h : k < xs.length) g, blk1 xs[k] g → P g) := fun k h g hg => by rw [hP]; exact .inr ⟨_, List.getElem_mem h, hg⟩
  have HPE : Hid (∀ e w', e = .returned (.int .i64 ((q + smM xs : Nat) : Int)) → OwnMs B (.slice a n c) (mkMs q xs) w' → Turn P w w' → MkMRet B q (.slice a n c) xs w e w') := fun e w' h1 h2 h3 => ⟨h1, h2, hP ▸ h3⟩
  clear hP
  have HEND : Hid (∀ (k : Nat) (Q : Int) (wr : World), xs.length ≤ k → Q = ((q + smM (xs.take k) : Nat) : Int) → OwnMs B (.slice a n c) (mix q xs k) wr → Turn P w wr → MkMRet B q (.slice a n c) xs w (.returned (.int .i64 Q)) wr) := fun k Q wr h1 h2 h3 h4 => HPE.out _ _ (by rw [h2, List.take_of_length_le h1]) (by rw [mix_end h1] at h3; exact h3) h4
  have H0 : Hid (OwnMs B (.slice a n c) (mix q xs 0) w) := by show OwnMs _ _ _ _; unfold mix; simpa [mkMs] using h
  clear h hn hk HPE
  go_enter Tryz.func55, Tryz.ntmps55
  go_wp2_with fail
  go_loopw [1, 5] (fun v i wr => ∃ k : Nat, k ≤ n ∧ i = .int .i64 k ∧ v = .int .i64 ((q + smM (xs.take k) : Nat) : Int) ∧ OwnMs B (.slice a n c) (mix q xs k) wr ∧ Turn P w wr) (fun _ i _ => n - (intOf i).toNat)
  case atStart => exact ⟨0, Nat.zero_le _, rfl, by simp [smM], H0.out, Turn.refl _ _⟩
  case round =>
    obtain ⟨k, hkn', rfl, rfl, ho, hb⟩ := hrel
    have HO := Lib.hid ho
    clear ho
    by_cases hlt : k < n
    · have hkx : k < xs.length := by rw [HN.out]; exact hlt
      have hml := mix_len (q := q) (xs := xs) (k := k) (by omega)
      have hmk : k < (mix q xs k).length := by omega
      have hat := mix_at (q := q) hkx hmk
      have hst := HSM.out k hkx
      have hstep := mix_step (q := q) hkx
      have hsum := smM_step hkx
      have hq9 := HKK.out
      obtain ⟨g, rfl⟩ : ∃ g, a = some ⟨g, 0, none⟩ := by
        rcases HO.out.1.2 with ⟨_, h0⟩ | ⟨g, cap, cur, hv, _⟩
        · exfalso; omega
        · injection hv with e1 _ _; exact ⟨g, e1⟩
      have hgP : P g := HP0.out g rfl
      have HPX : Hid (∀ o, blk1 xs[k] o → P o) := fun o ho => HP1.out k hkx o ho
      generalize hx : xs[k] = x at *
      generalize hQ : q + smM (xs.take k) = Q at *
      generalize mix q xs k = L at *
      have HAT := Lib.hid hat
      have HML : Hid (L.length = n) := by show _ = _; rw [hml]; exact HN.out
      have HMK := Lib.hid hmk
      have hQ1 : Q + (1 + (x.m.to.length + x.m.lines.length)) ≤ 1073741824 := by unfold stM at hst; omega
      have HSTEP : Hid (∀ w', OwnMs B (.slice (some ⟨g, 0, none⟩) n c) (L.set k (mkM Q x)) w' → OwnMs B (.slice (some ⟨g, 0, none⟩) n c) (mix q xs (k + 1)) w') := fun w' h => by rw [hstep]; exact h
      have HSUM : Hid (q + smM (xs.take (k + 1)) = Q + (1 + (x.m.to.length + x.m.lines.length))) := by show _ = _; rw [hsum]; unfold stM; omega
      have hq0 : 0 < Q := by omega
      clear hat hml hstep hsum hst hx hQ hq9 HEND H0 HH HP0 HP1
      obtain ⟨⟨p0, p1, p2⟩, f0, _⟩ := HO.out.cellsK HMK.out HAT.out
      have hkn : (k : Int) < (n : Int) := by omega
      have hk0 : (0 : Int) ≤ (k : Int) := by omega
      go_wp2_with fail
      refine (markText_any Q wr hq0 (by omega)).mono ?_
      rintro e w1 ⟨rfl, hb1⟩
      have HO1 := Lib.hid (HO.out.keep hb1)
      have hb01 := hb.ext hb1
      clear p0 p1 p2 f0
      obtain ⟨⟨p0, p1, p2⟩, f0, _⟩ := HO1.out.cellsK HMK.out HAT.out
      go_upto_region 5 with fail
      clear p0 p1 p2 f0
      have HO2 : Hid (OwnMs B (.slice (some ⟨g, 0, none⟩) n c) (L.set k (x.frm' (mT Q))) (w1.setCell ⟨g, k * 3, none⟩ (.string (str (mT Q))))) := HO1.out.setFrm' HML.out HMK.out HAT.out (mT Q)
      have hb02 : Turn P w (w1.setCell ⟨g, k * 3, none⟩ (.string (str (mT Q)))) := hb01.setCell hgP _
      have e2 : markT Q = str (mT Q) := rfl
      rw [e2]
      generalize w1.setCell ⟨g, k * 3, none⟩ (.string (str (mT Q))) = w2 at *
      clear HO1 hb01 hb1 e2
      have hmk2 : k < (L.set k (x.frm' (mT Q))).length := by rw [List.length_set]; exact HMK.out
      have HAT2 : Hid ((L.set k (x.frm' (mT Q)))[k] = x.frm' (mT Q)) := List.getElem_set_self _
      have hc2 := HO2.out.cellsK hmk2 HAT2.out
      obtain ⟨⟨p0, p1, p2⟩, _, hom2⟩ := hc2
      have HM2 : Hid (OwnL B (.slice x.a1 x.m.to.length x.c1) x.m.to w2) := hom2.1
      have p1' : w2.cell? ⟨g, k * 3 + 1, none⟩ = some (.slice x.a1 x.m.to.length x.c1) := p1
      clear p0 p1 p2 hom2
      have HMS : Hid (Calls Tryz.prog 43 #[.slice x.a1 x.m.to.length x.c1, .int .i64 ((Q : Int) + 1)] w2 (MarkedO B (Q + 1) x.a1 x.m.to.length x.c1 w2)) := markStringS_only B x.a1 x.m.to.length x.c1 x.m.to (Q + 1) w2 HM2.out rfl (by omega) (by omega)
      go_wp2_with fail
      refine HMS.out.mono ?_
      rintro e w3 ⟨rfl, hom3, ht3⟩
      have hb23 : Turn P w2 w3 := Turn.only ht3 (fun o ho => HPX.out o (.inl ho))
      have HO3 : Hid (OwnMs B (.slice (some ⟨g, 0, none⟩) n c) ((L.set k (x.frm' (mT Q))).set k ((x.frm' (mT Q)).to' (marksFrom (Q + 1) x.m.to.length))) w3) := HO2.out.setTo' hmk2 HAT2.out (marksFrom_len _ _) hom3 ht3
      have hb03 := hb02.trans hb23
      clear p1' hom3 ht3 HMS HM2 HO2
      have hmk3 : k < ((L.set k (x.frm' (mT Q))).set k ((x.frm' (mT Q)).to' (marksFrom (Q + 1) x.m.to.length))).length := by rw [List.length_set]; exact hmk2
      have HAT3 : Hid (((L.set k (x.frm' (mT Q))).set k ((x.frm' (mT Q)).to' (marksFrom (Q + 1) x.m.to.length)))[k] = (x.frm' (mT Q)).to' (marksFrom (Q + 1) x.m.to.length)) := List.getElem_set_self _
      obtain ⟨⟨p0, p1, p2⟩, _, hom4⟩ := HO3.out.cellsK hmk3 HAT3.out
      have HM3 : Hid (OwnL B (.slice x.a2 x.m.lines.length x.c2) x.m.lines w3) := hom4.2.1
      have p2' : w3.cell? ⟨g, k * 3 + 2, none⟩ = some (.slice x.a2 x.m.lines.length x.c2) := p2
      clear p0 p1 p2 hom4
      have HMS : Hid (Calls Tryz.prog 43 #[.slice x.a2 x.m.lines.length x.c2, .int .i64 ((Q + 1 + x.m.to.length : Nat) : Int)] w3 (MarkedO B (Q + 1 + x.m.to.length) x.a2 x.m.lines.length x.c2 w3)) := markStringS_only B x.a2 x.m.lines.length x.c2 x.m.lines (Q + 1 + x.m.to.length) w3 HM3.out rfl (by omega) (by omega)
      have HFIN : Hid (∀ w4, OwnL B (.slice x.a2 x.m.lines.length x.c2) (marksFrom (Q + 1 + x.m.to.length) x.m.lines.length) w4 → Only (Value.slice x.a2 x.m.lines.length x.c2).ownBlock w3 w4 → OwnMs B (.slice (some ⟨g, 0, none⟩) n c) (mix q xs (k + 1)) w4) := fun w4 h1 h2 => HSTEP.out w4 (by
        have h := HO3.out.setLn' hmk3 HAT3.out (marksFrom_len _ _) h1 h2
        rw [List.set_set, List.set_set] at h
        exact h)
      go_wp2_with fail
      refine HMS.out.mono ?_
      rintro e w4 ⟨rfl, hom5, ht5⟩
      have HO5 := Lib.hid (HFIN.out w4 hom5 ht5)
      have hb04 := hb03.trans (Turn.only ht5 (fun o ho => HPX.out o (.inr ho)))
      clear p2' hom5 ht5 HMS HM3 HO3 HFIN
      have HQE : Hid (((Q + 1 + x.m.to.length + x.m.lines.length : Nat) : Int) = ((q + smM (xs.take (k + 1)) : Nat) : Int)) := by show _ = _; rw [HSUM.out]; omega
      generalize ((Q + 1 + x.m.to.length + x.m.lines.length : Nat) : Int) = QE at *
      go_wp2
      go_roundw
      case rel => exact ⟨k + 1, by omega, by go_num, by rw [HQE.out], HO5.out, hb04⟩
      case measure => simp [intOf]; omega
    · have HE := Lib.hid (HEND.out k _ wr (by have := HN.out; omega) rfl HO.out hb)
      clear HEND
      generalize ((q + smM (xs.take k) : Nat) : Int) = QQ at *
      go_wp2
      go_ret
      exact HE.out
end Go.Proofs.YtombejhpfobehaaGreatDoor
end

section
namespace Go.Proofs.YtombejhpfobehaaGreatDoor
open Go.RowKit

theorem mkMs_at {q : Nat} : ∀ {xs : List MlA} {k : Nat} (h : k < xs.length) (h' : k < (mkMs q xs).length), (mkMs q xs)[k] = mkM (q + smM (xs.take k)) xs[k] := fun {xs} {k} h h' => by
  have e : mkMs q xs = mkMs q (xs.take k) ++ mkMs (q + smM (xs.take k)) (xs.drop k) := by rw [← mkMs_app, List.take_append_drop]
  have hl : (mkMs q (xs.take k)).length = k := by rw [mkMs_len, List.length_take]; omega
  have h2 : (mkMs q xs)[k]? = some (mkM (q + smM (xs.take k)) xs[k]) := by
    rw [e, List.getElem?_append_right (by omega), hl, Nat.sub_self, List.drop_eq_getElem_cons h]; rfl
  rw [List.getElem?_eq_getElem h'] at h2
  injection h2
set_option maxRecDepth 100000 in
set_option maxHeartbeats 4000000 in
theorem heldMailS_any (M : Nat) (a : Option Addr) (n c : Nat) (xs : List MlA) (q : Nat) (w : World) (h : RdMs M w a (mkMs q xs)) (hn : xs.length = n) (hq : 0 < q) (hk : q + smM xs ≤ 1073741824) :
    Calls Tryz.prog 56 #[.slice a n c, .int .i64 q] w fun e w' => e = .returned (.int .i64 ((q + smM xs : Nat) : Int)) ∧ Below w.heap.size w w' := by
  have hnb : n ≤ 1073741824 := by have := smM_len xs; omega
  have HN := Lib.hid hn
  have HH := Lib.hid h
  have HSM : Hid (∀ k (h : k < xs.length), smM (xs.take k) + stM xs[k] ≤ smM xs) := fun k h => by
    have h1 := smM_step h
    have h2 : smM (xs.take (k + 1)) ≤ smM xs := by
      have e : smM xs = smM (xs.take (k + 1)) + smM (xs.drop (k + 1)) := by
        unfold smM; rw [← List.sum_append, ← List.map_append, List.take_append_drop]
      omega
    omega
  have HKK := Lib.hid hk
  clear h hn hk
  go_enter Tryz.func56, Tryz.ntmps56
  go_wp2_with fail
  go_loopw [1, 5] (fun v i wr => ∃ k : Nat, k ≤ n ∧ i = .int .i64 k ∧ v = .int .i64 ((q + smM (xs.take k) : Nat) : Int) ∧ Below w.heap.size w wr) (fun _ i _ => n - (intOf i).toNat)
  case atStart => exact ⟨0, Nat.zero_le _, rfl, by simp [smM], Below.refl _ _⟩
  case round =>
    obtain ⟨k, hkn', rfl, rfl, hb⟩ := hrel
    by_cases hlt : k < n
    · have hkx : k < xs.length := by rw [HN.out]; exact hlt
      have hk2 : k < (mkMs q xs).length := by rw [mkMs_len]; exact hkx
      obtain ⟨b1, o1, rfl, hl1, p0, p1, p2, p3⟩ := (HH.out.below hb).at hk2
      have hat := mkMs_at (q := q) hkx hk2
      have hst := HSM.out k hkx
      have hsum := smM_step hkx
      have hq9 := HKK.out
      rw [hat] at p0 p1 p2 p3
      clear hat
      generalize hx : xs[k] = x at *
      generalize hQ : q + smM (xs.take k) = Q at *
      have hQ1 : Q + (1 + (x.m.to.length + x.m.lines.length)) ≤ 1073741824 := by unfold stM at hst; omega
      have HSUM : Hid (q + smM (xs.take (k + 1)) = Q + (1 + (x.m.to.length + x.m.lines.length))) := by show _ = _; rw [hsum]; unfold stM; omega
      have hq0 : 0 < Q := by omega
      have z0 : wr.cell? ⟨b1, o1 + k * 3, none⟩ = some (.string (str (mT Q))) := p0
      have z1 : wr.cell? ⟨b1, o1 + k * 3 + 1, none⟩ = some (.slice x.a1 x.m.to.length x.c1) := by
        have e : (mkM Q x).m.to.length = x.m.to.length := marksFrom_len _ _
        rw [e] at p1; exact p1
      have z2 : wr.cell? ⟨b1, o1 + k * 3 + 2, none⟩ = some (.slice x.a2 x.m.lines.length x.c2) := by
        have e : (mkM Q x).m.lines.length = x.m.lines.length := marksFrom_len _ _
        rw [e] at p2; exact p2
      have HT : Hid (RdL wr x.a1 x.m.to.length (marksFrom (Q + 1) x.m.to.length)) := by
        have h := p3.1.1
        have e : (mkM Q x).m.to.length = x.m.to.length := marksFrom_len _ _
        rw [e] at h; exact h
      have HL : Hid (RdL wr x.a2 x.m.lines.length (marksFrom (Q + 1 + x.m.to.length) x.m.lines.length)) := by
        have h := p3.2.1.1
        have e : (mkM Q x).m.lines.length = x.m.lines.length := marksFrom_len _ _
        rw [e] at h; exact h
      have HCL : Hid (∀ u, Below wr.heap.size wr u → u.cell? ⟨b1, o1 + k * 3 + 1, none⟩ = some (.slice x.a1 x.m.to.length x.c1) ∧ u.cell? ⟨b1, o1 + k * 3 + 2, none⟩ = some (.slice x.a2 x.m.lines.length x.c2)) := fun u hu => ⟨(below_at hu hl1).trans z1, (below_at hu hl1).trans z2⟩
      have zc0 : ∀ y : BelowT wr, y.val.cell? ⟨b1, o1 + k * 3, none⟩ = some (.string (str (mT Q))) := fun y => (below_at y.below hl1).trans z0
      have HMT : Hid (∀ y : BelowT wr, Calls Tryz.prog 54 #[.int .i64 Q] y.val fun e w' => e = .returned (.string (str (mT Q))) ∧ Below y.val.heap.size y.val w') := fun y => markText_any Q y.val hq0 (by omega)
      have hss : ((str (mT Q)).toList == (str (mT Q)).toList) = true := by simp
      have hss2 : ((str (mT Q)).toList != (str (mT Q)).toList) = false := by simp
      have hkn : (k : Int) < (n : Int) := by omega
      have hk0 : (0 : Int) ≤ (k : Int) := by omega
      clear p0 p1 p2 p3 z0 z1 z2 hsum hst hx hQ hq9 hk2
      generalize str (mT Q) = S at *
      go_wp2_with fail
      refine wp_region_quietB (W := wr) (by kernel_rfl) (by kernel_rfl) (Below.refl _ _) ?_
      repeat (go_big_quiet_step (first
        | (go_at_call 54; exact calls_belowT (HMT.out _))))
      refine wpQuiet_nil ?_
      intro wz hwz
      obtain ⟨x9, rfl⟩ := hwz
      have hb9 := x9.below
      clear zc0
      generalize x9.val = w9 at *
      obtain ⟨z1, z2⟩ := HCL.out _ hb9
      have H1 : Hid (Calls Tryz.prog 60 #[.slice x.a1 x.m.to.length x.c1, .int .i64 ((Q : Int) + 1)] w9 fun e w' => e = .returned (.int .i64 ((Q + 1 + x.m.to.length : Nat) : Int)) ∧ Below w9.heap.size w9 w') := heldStringS_any x.a1 x.m.to.length x.c1 (Q + 1) w9 (HT.out.below hb9) (by omega) (by omega)
      have H2 : Hid (∀ u, Below w9.heap.size w9 u → Calls Tryz.prog 60 #[.slice x.a2 x.m.lines.length x.c2, .int .i64 ((Q + 1 + x.m.to.length : Nat) : Int)] u fun e w' => e = .returned (.int .i64 ((Q + 1 + x.m.to.length + x.m.lines.length : Nat) : Int)) ∧ Below u.heap.size u w') := fun u hu => heldStringS_any x.a2 x.m.lines.length x.c2 (Q + 1 + x.m.to.length) u (HL.out.below (nx hb9 hu)) (by omega) (by omega)
      have HQE : Hid (((Q + 1 + x.m.to.length + x.m.lines.length : Nat) : Int) = ((q + smM (xs.take (k + 1)) : Nat) : Int)) := by show _ = _; rw [HSUM.out]; omega
      have n1 : ¬ (((Q + 1 + x.m.to.length : Nat) : Int) < 0) := by omega
      have n2 : ¬ (((Q + 1 + x.m.to.length + x.m.lines.length : Nat) : Int) < 0) := by omega
      generalize ((Q + 1 + x.m.to.length + x.m.lines.length : Nat) : Int) = QE at *
      generalize ((Q + 1 + x.m.to.length : Nat) : Int) = QF at *
      go_wp2_with fail
      refine H1.out.mono ?_
      rintro e w10 ⟨rfl, hb10⟩
      obtain ⟨_, z2⟩ := HCL.out _ (nx hb9 hb10)
      clear z1
      go_wp2_with fail
      refine (H2.out _ hb10).mono ?_
      rintro e w11 ⟨rfl, hb11⟩
      have hb0 := nx hb (nx hb9 (nx hb10 hb11))
      clear z2
      go_wp2
      go_roundw
      case rel => exact ⟨k + 1, by omega, by go_num, by rw [HQE.out], hb0⟩
      case measure => simp [intOf]; omega
    · have HE : Hid (((q + smM (xs.take k) : Nat) : Int) = ((q + smM xs : Nat) : Int)) := by show _ = _; rw [List.take_of_length_le (by have := HN.out; omega)]
      rw [HE.out]
      go_wp2
      go_ret
      exact ⟨rfl, hb⟩
end Go.Proofs.YtombejhpfobehaaGreatDoor
end

section
namespace Go.Proofs.YtombejhpfobehaaGreatDoor
open Go.RowKit

theorem blk1_mk (q : Nat) (x : MlA) (g : Nat) : blk1 (mkM q x) g ↔ blk1 x g := by
  have e1 : (mkM q x).m.to.length = x.m.to.length := marksFrom_len _ _
  have e2 : (mkM q x).m.lines.length = x.m.lines.length := marksFrom_len _ _
  unfold blk1
  rw [e1, e2]
  exact Iff.rfl
theorem blk_mkMs (g : Nat) : ∀ (xs : List MlA) (q : Nat), (∃ m ∈ mkMs q xs, blk1 m g) → ∃ m ∈ xs, blk1 m g
  | [], _, ⟨_, hm, _⟩ => by cases hm
  | x :: xs, q, ⟨m, hm, hg⟩ => by
    rw [mkMs] at hm
    rcases List.mem_cons.1 hm with rfl | hm
    · exact ⟨x, List.mem_cons_self, (blk1_mk q x g).1 hg⟩
    · obtain ⟨m', h1, h2⟩ := blk_mkMs g xs _ ⟨m, hm, hg⟩
      exact ⟨m', List.mem_cons_of_mem _ h1, h2⟩
def stB (x : BxA) : Nat := 1 + smM x.xs
def mkB (q : Nat) (x : BxA) : BxA := (x.path' (mT q)).mails' (mkMs (q + 1) x.xs)
def mkBs (q : Nat) : List BxA → List BxA
  | [] => []
  | x :: xs => mkB q x :: mkBs (q + stB x) xs
def smB (xs : List BxA) : Nat := (xs.map stB).sum
theorem mkBs_len : ∀ (xs : List BxA) (q : Nat), (mkBs q xs).length = xs.length
  | [], _ => rfl
  | x :: xs, q => by rw [mkBs, List.length_cons, mkBs_len xs, List.length_cons]
theorem mkBs_app : ∀ (xs ys : List BxA) (q : Nat), mkBs q (xs ++ ys) = mkBs q xs ++ mkBs (q + smB xs) ys
  | [], ys, q => by simp [mkBs, smB]
  | x :: xs, ys, q => by
    rw [List.cons_append, mkBs, mkBs, mkBs_app xs, List.cons_append]
    simp [smB, Nat.add_assoc]
/-- The row in which the first k are marked. -/
def mixB (q : Nat) (xs : List BxA) (k : Nat) : List BxA := mkBs q (xs.take k) ++ xs.drop k
theorem mixB_len {q k : Nat} {xs : List BxA} (h : k ≤ xs.length) : (mixB q xs k).length = xs.length := by
  unfold mixB; rw [List.length_append, mkBs_len, List.length_take, List.length_drop]; omega
theorem mixB_at {q k : Nat} {xs : List BxA} (h : k < xs.length) (h' : k < (mixB q xs k).length) : (mixB q xs k)[k] = xs[k] := by
  have hl : (mkBs q (xs.take k)).length = k := by rw [mkBs_len, List.length_take]; omega
  have e : (mixB q xs k)[k]? = some xs[k] := by
    unfold mixB
    rw [List.getElem?_append_right (by omega), hl, Nat.sub_self, List.getElem?_drop, Nat.add_zero, List.getElem?_eq_getElem h]
  rw [List.getElem?_eq_getElem h'] at e
  injection e
theorem mixB_step {q k : Nat} {xs : List BxA} (h : k < xs.length) : mixB q xs (k + 1) = (mixB q xs k).set k (mkB (q + smB (xs.take k)) xs[k]) := by
  have hl : (mkBs q (xs.take k)).length = k := by rw [mkBs_len, List.length_take]; omega
  have h2 := set_mid (mkBs q (xs.take k)) xs[k] (mkB (q + smB (xs.take k)) xs[k]) (xs.drop (k + 1))
  rw [hl] at h2
  unfold mixB
  rw [List.drop_eq_getElem_cons h, h2, List.take_succ_eq_append_getElem h, mkBs_app, List.append_assoc]
  rfl
theorem smB_step {k : Nat} {xs : List BxA} (h : k < xs.length) : smB (xs.take (k + 1)) = smB (xs.take k) + stB xs[k] := by
  unfold smB; rw [List.take_succ_eq_append_getElem h, List.map_append, List.sum_append]; simp
theorem smB_take (xs : List BxA) (k : Nat) : smB (xs.take k) ≤ smB xs := by
  have e : smB xs = smB (xs.take k) + smB (xs.drop k) := by
    unfold smB; rw [← List.sum_append, ← List.map_append, List.take_append_drop]
  omega
theorem smB_len : ∀ xs : List BxA, xs.length ≤ smB xs
  | [] => Nat.zero_le _
  | x :: xs => by
    have := smB_len xs
    unfold smB at *
    rw [List.map_cons, List.sum_cons, List.length_cons]
    unfold stB at *
    omega
theorem mixB_end {q k : Nat} {xs : List BxA} (h : xs.length ≤ k) : mixB q xs k = mkBs q xs := by
  unfold mixB; rw [List.take_of_length_le h, List.drop_eq_nil_of_le h, List.append_nil]
theorem mkBs_at {q : Nat} : ∀ {xs : List BxA} {k : Nat} (h : k < xs.length) (h' : k < (mkBs q xs).length), (mkBs q xs)[k] = mkB (q + smB (xs.take k)) xs[k] := fun {xs} {k} h h' => by
  have e : mkBs q xs = mkBs q (xs.take k) ++ mkBs (q + smB (xs.take k)) (xs.drop k) := by rw [← mkBs_app, List.take_append_drop]
  have hl : (mkBs q (xs.take k)).length = k := by rw [mkBs_len, List.length_take]; omega
  have h2 : (mkBs q xs)[k]? = some (mkB (q + smB (xs.take k)) xs[k]) := by
    rw [e, List.getElem?_append_right (by omega), hl, Nat.sub_self, List.drop_eq_getElem_cons h]; rfl
  rw [List.getElem?_eq_getElem h'] at h2
  injection h2
/-- What a box of a row has: its cells, its row, and how it may be turned. -/
theorem OwnBs.cellsK {B g n c k : Nat} {L : List BxA} {w : World} {y : BxA} (h : OwnBs B (.slice (some ⟨g, 0, none⟩) n c) L w) (hk : k < L.length) (hy : L[k] = y) :
    (w.cell? ⟨g, k * 2, none⟩ = some (.string (str y.path)) ∧ w.cell? ⟨g, k * 2 + 1, none⟩ = some (.slice y.a y.xs.length y.c)) ∧ w.frozen? ⟨g, k * 2, none⟩ = false ∧ OwnMs B (.slice y.a y.xs.length y.c) y.xs w := by
  subst hy
  have hr := h.1
  unfold OwnR at hr
  have hn : L.length = n := by
    rcases hr.2 with ⟨e, h0⟩ | ⟨g1, cap1, cur1, e1, _⟩
    · cases e
    · injection e1 with _ e1 _; exact e1.symm
  subst hn
  obtain ⟨c0, c1⟩ := flat_cellsB hk
  have C : ∀ j z, (L.flatMap bxC)[j]? = some z → w.cell? ⟨g, j, none⟩ = some z := fun j z hz => by
    have := hr.cells (g := g) rfl j z hz
    rw [add0] at this; exact this
  exact ⟨⟨C _ _ c0, C _ _ c1⟩, hr.frozenAt _, h.2.1 _ (List.getElem_mem hk)⟩
def MkBRet (B q : Nat) (v : Value) (xs : List BxA) (w : World) (e : Ending) (w' : World) : Prop := e = .returned (.int .i64 ((q + smB xs : Nat) : Int)) ∧ OwnBs B v (mkBs q xs) w' ∧ Turn (blkB v xs) w w'
set_option maxRecDepth 100000 in
set_option maxHeartbeats 4000000 in
theorem markBoxS_any (B : Nat) (a : Option Addr) (n c : Nat) (xs : List BxA) (q : Nat) (w : World) (h : OwnBs B (.slice a n c) xs w) (hn : xs.length = n) (hq : 0 < q) (hk : q + smB xs ≤ 1073741824) :
    Calls Tryz.prog 14 #[.slice a n c, .int .i64 q] w (MkBRet B q (.slice a n c) xs w) := by
  have hnb : n ≤ 1073741824 := by have := smB_len xs; omega
  have HN := Lib.hid hn
  have HH := Lib.hid h
  have HSM : Hid (∀ k (h : k < xs.length), smB (xs.take k) + stB xs[k] ≤ smB xs) := fun k h => by
    have h1 := smB_step h
    have h2 := smB_take xs (k + 1)
    omega
  have HKK := Lib.hid hk
  obtain ⟨P, hP⟩ : ∃ P, P = blkB (.slice a n c) xs := ⟨_, rfl⟩
  have HP0 : Hid (∀ g, a = some ⟨g, 0, none⟩ → P g) := fun g e => by rw [hP, e]; exact .inl rfl
  have HP1 : Hid (∀ k (h : k < xs.length) g, blkX xs[k] g → P g) := fun k h g hg => by rw [hP]; exact .inr ⟨_, List.getElem_mem h, hg⟩
  have HPE : Hid (∀ e w', e = .returned (.int .i64 ((q + smB xs : Nat) : Int)) → OwnBs B (.slice a n c) (mkBs q xs) w' → Turn P w w' → MkBRet B q (.slice a n c) xs w e w') := fun e w' h1 h2 h3 => ⟨h1, h2, hP ▸ h3⟩
  clear hP
  have HEND : Hid (∀ (k : Nat) (Q : Int) (wr : World), xs.length ≤ k → Q = ((q + smB (xs.take k) : Nat) : Int) → OwnBs B (.slice a n c) (mixB q xs k) wr → Turn P w wr → MkBRet B q (.slice a n c) xs w (.returned (.int .i64 Q)) wr) := fun k Q wr h1 h2 h3 h4 => HPE.out _ _ (by rw [h2, List.take_of_length_le h1]) (by rw [mixB_end h1] at h3; exact h3) h4
  have H0 : Hid (OwnBs B (.slice a n c) (mixB q xs 0) w) := by show OwnBs _ _ _ _; unfold mixB; simpa [mkBs] using h
  clear h hn hk HPE
  go_enter Tryz.func14, Tryz.ntmps14
  go_wp2_with fail
  go_loopw [1, 5] (fun v i wr => ∃ k : Nat, k ≤ n ∧ i = .int .i64 k ∧ v = .int .i64 ((q + smB (xs.take k) : Nat) : Int) ∧ OwnBs B (.slice a n c) (mixB q xs k) wr ∧ Turn P w wr) (fun _ i _ => n - (intOf i).toNat)
  case atStart => exact ⟨0, Nat.zero_le _, rfl, by simp [smB], H0.out, Turn.refl _ _⟩
  case round =>
    obtain ⟨k, hkn', rfl, rfl, ho, hb⟩ := hrel
    have HO := Lib.hid ho
    clear ho
    by_cases hlt : k < n
    · have hkx : k < xs.length := by rw [HN.out]; exact hlt
      have hml := mixB_len (q := q) (xs := xs) (k := k) (by omega)
      have hmk : k < (mixB q xs k).length := by omega
      have hat := mixB_at (q := q) hkx hmk
      have hst := HSM.out k hkx
      have hstep := mixB_step (q := q) hkx
      have hsum := smB_step hkx
      have hq9 := HKK.out
      obtain ⟨g, rfl⟩ : ∃ g, a = some ⟨g, 0, none⟩ := by
        rcases HO.out.1.2 with ⟨_, h0⟩ | ⟨g, cap, cur, hv, _⟩
        · exfalso; omega
        · injection hv with e1 _ _; exact ⟨g, e1⟩
      have hgP : P g := HP0.out g rfl
      have HPX : Hid (∀ o, blkX xs[k] o → P o) := fun o ho => HP1.out k hkx o ho
      generalize hx : xs[k] = x at *
      generalize hQ : q + smB (xs.take k) = Q at *
      generalize mixB q xs k = L at *
      have HAT := Lib.hid hat
      have HMK := Lib.hid hmk
      have hQ1 : Q + (1 + smM x.xs) ≤ 1073741824 := by unfold stB at hst; omega
      have HSTEP : Hid (∀ w', OwnBs B (.slice (some ⟨g, 0, none⟩) n c) (L.set k (mkB Q x)) w' → OwnBs B (.slice (some ⟨g, 0, none⟩) n c) (mixB q xs (k + 1)) w') := fun w' h => by rw [hstep]; exact h
      have HSUM : Hid (q + smB (xs.take (k + 1)) = Q + (1 + smM x.xs)) := by show _ = _; rw [hsum]; unfold stB; omega
      have hq0 : 0 < Q := by omega
      clear hat hml hstep hsum hst hx hQ hq9 HEND H0 HH HP0 HP1
      obtain ⟨⟨p0, p1⟩, f0, _⟩ := HO.out.cellsK HMK.out HAT.out
      have hkn : (k : Int) < (n : Int) := by omega
      have hk0 : (0 : Int) ≤ (k : Int) := by omega
      go_wp2_with fail
      refine (markText_any Q wr hq0 (by omega)).mono ?_
      rintro e w1 ⟨rfl, hb1⟩
      have HO1 := Lib.hid (HO.out.keep hb1)
      have hb01 := hb.ext hb1
      clear p0 p1 f0
      obtain ⟨⟨p0, p1⟩, f0, _⟩ := HO1.out.cellsK HMK.out HAT.out
      go_upto_region 5 with fail
      clear p0 p1 f0
      have HO2 : Hid (OwnBs B (.slice (some ⟨g, 0, none⟩) n c) (L.set k (x.path' (mT Q))) (w1.setCell ⟨g, k * 2, none⟩ (.string (str (mT Q))))) := HO1.out.setPath HMK.out HAT.out (mT Q)
      have hb02 : Turn P w (w1.setCell ⟨g, k * 2, none⟩ (.string (str (mT Q)))) := hb01.setCell hgP _
      have e2 : markT Q = str (mT Q) := rfl
      rw [e2]
      generalize w1.setCell ⟨g, k * 2, none⟩ (.string (str (mT Q))) = w2 at *
      clear HO1 hb01 hb1 e2
      have hmk2 : k < (L.set k (x.path' (mT Q))).length := by rw [List.length_set]; exact HMK.out
      have HAT2 : Hid ((L.set k (x.path' (mT Q)))[k] = x.path' (mT Q)) := List.getElem_set_self _
      have hc2 := HO2.out.cellsK hmk2 HAT2.out
      obtain ⟨⟨p0, p1⟩, _, hom2⟩ := hc2
      have HM2 : Hid (OwnMs B (.slice x.a x.xs.length x.c) x.xs w2) := hom2
      have p1' : w2.cell? ⟨g, k * 2 + 1, none⟩ = some (.slice x.a x.xs.length x.c) := p1
      clear p0 p1 hom2
      have HMS : Hid (Calls Tryz.prog 55 #[.slice x.a x.xs.length x.c, .int .i64 ((Q : Int) + 1)] w2 (MkMRet B (Q + 1) (.slice x.a x.xs.length x.c) x.xs w2)) := markMailS_any B x.a x.xs.length x.c x.xs (Q + 1) w2 HM2.out rfl (by omega) (by omega)
      have HFIN : Hid (∀ w4, OwnMs B (.slice x.a x.xs.length x.c) (mkMs (Q + 1) x.xs) w4 → Turn (blkX x) w2 w4 → OwnBs B (.slice (some ⟨g, 0, none⟩) n c) (mixB q xs (k + 1)) w4) := fun w4 h1 h2 => HSTEP.out w4 (by
        have h := HO2.out.setMails hmk2 HAT2.out (ys := mkMs (Q + 1) x.xs) h2 (mkMs_len _ _) h1 (fun g' hg' => blk_mkMs g' _ _ hg')
        rw [List.set_set] at h
        exact h)
      have HQE : Hid (((Q + 1 + smM x.xs : Nat) : Int) = ((q + smB (xs.take (k + 1)) : Nat) : Int)) := by show _ = _; rw [HSUM.out]; omega
      have HMK' : Hid (Calls Tryz.prog 55 #[.slice x.a x.xs.length x.c, .int .i64 ((Q : Int) + 1)] w2 fun e w4 => e = .returned (.int .i64 ((Q + 1 + smM x.xs : Nat) : Int)) ∧ OwnBs B (.slice (some ⟨g, 0, none⟩) n c) (mixB q xs (k + 1)) w4 ∧ Turn P w w4) := HMS.out.mono (fun e w4 ⟨h1, h2, h3⟩ => ⟨h1, HFIN.out w4 h2 h3, hb02.trans (h3.mono HPX.out)⟩)
      clear HMS HFIN HM2 HPX HSTEP HO2 HAT2 HAT hmk2
      generalize ((Q + 1 + smM x.xs : Nat) : Int) = QE at *
      go_wp2_with fail
      refine HMK'.out.mono ?_
      rintro e w4 ⟨rfl, ho5, hb04⟩
      have HO5 := Lib.hid ho5
      clear p1' ho5
      go_wp2
      go_roundw
      case rel => exact ⟨k + 1, by omega, by go_num, by rw [HQE.out], HO5.out, hb04⟩
      case measure => simp [intOf]; omega
    · have HE := Lib.hid (HEND.out k _ wr (by have := HN.out; omega) rfl HO.out hb)
      clear HEND
      generalize ((q + smB (xs.take k) : Nat) : Int) = QQ at *
      go_wp2
      go_ret
      exact HE.out
set_option maxRecDepth 100000 in
set_option maxHeartbeats 4000000 in
theorem heldBoxS_any (M : Nat) (a : Option Addr) (n c : Nat) (xs : List BxA) (q : Nat) (w : World) (h : RdBs M w a (mkBs q xs)) (hn : xs.length = n) (hq : 0 < q) (hk : q + smB xs ≤ 1073741824) :
    Calls Tryz.prog 15 #[.slice a n c, .int .i64 q] w fun e w' => e = .returned (.int .i64 ((q + smB xs : Nat) : Int)) ∧ Below w.heap.size w w' := by
  have hnb : n ≤ 1073741824 := by have := smB_len xs; omega
  have HN := Lib.hid hn
  have HH := Lib.hid h
  have HSM : Hid (∀ k (h : k < xs.length), smB (xs.take k) + stB xs[k] ≤ smB xs) := fun k h => by
    have h1 := smB_step h
    have h2 := smB_take xs (k + 1)
    omega
  have HKK := Lib.hid hk
  clear h hn hk
  go_enter Tryz.func15, Tryz.ntmps15
  go_wp2_with fail
  go_loopw [1, 5] (fun v i wr => ∃ k : Nat, k ≤ n ∧ i = .int .i64 k ∧ v = .int .i64 ((q + smB (xs.take k) : Nat) : Int) ∧ Below w.heap.size w wr) (fun _ i _ => n - (intOf i).toNat)
  case atStart => exact ⟨0, Nat.zero_le _, rfl, by simp [smB], Below.refl _ _⟩
  case round =>
    obtain ⟨k, hkn', rfl, rfl, hb⟩ := hrel
    by_cases hlt : k < n
    · have hkx : k < xs.length := by rw [HN.out]; exact hlt
      have hk2 : k < (mkBs q xs).length := by rw [mkBs_len]; exact hkx
      obtain ⟨b1, o1, rfl, hl1, p0, p1, p3⟩ := (HH.out.below hb).at hk2
      have hat := mkBs_at (q := q) hkx hk2
      have hst := HSM.out k hkx
      have hsum := smB_step hkx
      have hq9 := HKK.out
      rw [hat] at p0 p1 p3
      clear hat
      generalize hx : xs[k] = x at *
      generalize hQ : q + smB (xs.take k) = Q at *
      have hQ1 : Q + (1 + smM x.xs) ≤ 1073741824 := by unfold stB at hst; omega
      have HSUM : Hid (q + smB (xs.take (k + 1)) = Q + (1 + smM x.xs)) := by show _ = _; rw [hsum]; unfold stB; omega
      have hq0 : 0 < Q := by omega
      have z0 : wr.cell? ⟨b1, o1 + k * 2, none⟩ = some (.string (str (mT Q))) := p0
      have z1 : wr.cell? ⟨b1, o1 + k * 2 + 1, none⟩ = some (.slice x.a x.xs.length x.c) := by
        have e : (mkB Q x).xs.length = x.xs.length := mkMs_len _ _
        rw [e] at p1; exact p1
      have HT : Hid (RdMs M wr x.a (mkMs (Q + 1) x.xs)) := p3.1
      have HCL : Hid (∀ u, Below wr.heap.size wr u → u.cell? ⟨b1, o1 + k * 2 + 1, none⟩ = some (.slice x.a x.xs.length x.c)) := fun u hu => (below_at hu hl1).trans z1
      have zc0 : ∀ y : BelowT wr, y.val.cell? ⟨b1, o1 + k * 2, none⟩ = some (.string (str (mT Q))) := fun y => (below_at y.below hl1).trans z0
      have HMT : Hid (∀ y : BelowT wr, Calls Tryz.prog 54 #[.int .i64 Q] y.val fun e w' => e = .returned (.string (str (mT Q))) ∧ Below y.val.heap.size y.val w') := fun y => markText_any Q y.val hq0 (by omega)
      have hss : ((str (mT Q)).toList == (str (mT Q)).toList) = true := by simp
      have hss2 : ((str (mT Q)).toList != (str (mT Q)).toList) = false := by simp
      have hkn : (k : Int) < (n : Int) := by omega
      have hk0 : (0 : Int) ≤ (k : Int) := by omega
      clear p0 p1 p3 z0 z1 hsum hst hx hQ hq9 hk2
      generalize str (mT Q) = S at *
      go_wp2_with fail
      refine wp_region_quietB (W := wr) (by kernel_rfl) (by kernel_rfl) (Below.refl _ _) ?_
      repeat (go_big_quiet_step (first
        | (go_at_call 54; exact calls_belowT (HMT.out _))))
      refine wpQuiet_nil ?_
      intro wz hwz
      obtain ⟨x9, rfl⟩ := hwz
      have hb9 := x9.below
      clear zc0
      generalize x9.val = w9 at *
      have z1 := HCL.out _ hb9
      have H1 : Hid (Calls Tryz.prog 56 #[.slice x.a x.xs.length x.c, .int .i64 ((Q : Int) + 1)] w9 fun e w' => e = .returned (.int .i64 ((Q + 1 + smM x.xs : Nat) : Int)) ∧ Below w9.heap.size w9 w') := heldMailS_any M x.a x.xs.length x.c x.xs (Q + 1) w9 (HT.out.below hb9) rfl (by omega) (by omega)
      have HQE : Hid (((Q + 1 + smM x.xs : Nat) : Int) = ((q + smB (xs.take (k + 1)) : Nat) : Int)) := by show _ = _; rw [HSUM.out]; omega
      have n1 : ¬ (((Q + 1 + smM x.xs : Nat) : Int) < 0) := by omega
      generalize ((Q + 1 + smM x.xs : Nat) : Int) = QE at *
      go_wp2_with fail
      refine H1.out.mono ?_
      rintro e w10 ⟨rfl, hb10⟩
      have hb0 := nx hb (nx hb9 hb10)
      clear z1
      go_wp2
      go_roundw
      case rel => exact ⟨k + 1, by omega, by go_num, by rw [HQE.out], hb0⟩
      case measure => simp [intOf]; omega
    · have HE : Hid (((q + smB (xs.take k) : Nat) : Int) = ((q + smB xs : Nat) : Int)) := by show _ = _; rw [List.take_of_length_le (by have := HN.out; omega)]
      rw [HE.out]
      go_wp2
      go_ret
      exact ⟨rfl, hb⟩
end Go.Proofs.YtombejhpfobehaaGreatDoor
end

section
namespace Go.Proofs.YtombejhpfobehaaGreatDoor
open Go.RowKit

theorem cntP_before {p : List UInt8} : ∀ {ps : List (List UInt8)} {j : Nat} (_ : j < cntP p ps) (h : j < ps.length), ltP ps[j] p = true
  | [], j, _, h => by simp at h
  | q :: ps, j, hj, h => by
    unfold cntP at hj
    cases hq : ltP q p with
    | false => rw [List.takeWhile_cons_of_neg (p := fun q => ltP q p) (by rw [hq]; decide)] at hj; simp at hj
    | true =>
      rw [List.takeWhile_cons_of_pos (p := fun q => ltP q p) hq, List.length_cons] at hj
      cases j with
      | zero => exact hq
      | succ j =>
        have := cntP_before (p := p) (ps := ps) (j := j) (by unfold cntP; omega) (by simpa using h)
        simpa using this
theorem cntP_at {p : List UInt8} : ∀ {ps : List (List UInt8)} (h : cntP p ps < ps.length), ltP ps[cntP p ps] p = false
  | [], h => by simp at h
  | q :: ps, h => by
    cases hq : ltP q p with
    | false =>
      have e : cntP p (q :: ps) = 0 := by unfold cntP; rw [List.takeWhile_cons_of_neg (p := fun q => ltP q p) (by rw [hq]; decide)]; rfl
      simp only [e, List.getElem_cons_zero]; exact hq
    | true =>
      have e : cntP p (q :: ps) = cntP p ps + 1 := by unfold cntP; rw [List.takeWhile_cons_of_pos (p := fun q => ltP q p) hq, List.length_cons]
      have := cntP_at (p := p) (ps := ps) (by rw [e] at h; simpa using h)
      simp only [e, List.getElem_cons_succ]; exact this
theorem own_rdBx {B M : Nat} {x : BxA} {w : World} (h : OwnMs B (.slice x.a x.xs.length x.c) x.xs w) (hs : SmallBx M x.b) : RdBx M w x := by
  refine ⟨(h.rd (fun y hy => hs.2.2 y.m (List.mem_map_of_mem hy))).1, hs.1, ?_, ?_, ?_⟩
  · have := hs.2.1; unfold BxA.b at this; rw [List.length_map] at this; exact this
  · rcases h.1.2 with ⟨_, h0⟩ | ⟨g, cap, cur, hv, _, _, hnc, _⟩
    · omega
    · injection hv with _ _ e3; omega
  · intro e
    rcases h.1.2 with ⟨h0, _⟩ | ⟨g, cap, cur, hv, _⟩
    · injection h0
    · injection hv with e1 _ _; rw [e] at e1; cases e1
theorem OwnBs.rd {B M : Nat} {a : Option Addr} {n c : Nat} {xs : List BxA} {w : World} (h : OwnBs B (.slice a n c) xs w) (hs : ∀ x ∈ xs, SmallBx M x.b) : RdBs M w a xs ∧ xs.length = n := by
  obtain ⟨a', c', e, h1, _⟩ := h.1.read bxC_len
  injection e with e1 e2 e3
  subst e1
  refine ⟨⟨h1, fun x hx => ?_⟩, e2.symm⟩
  exact own_rdBx (h.2.1 x hx) (hs x hx)
set_option maxRecDepth 100000 in
set_option maxHeartbeats 400000 in
/-- One box behind a row of the call's own, whose boxes may share rows. -/
theorem wpList_append_BR {ops : Array Oper} {rest : List Oper} {o : Oper} {Q : Exit → Act → World → Prop} {a : Act} {w : World} (hg : Region.wanted o (yielded ops a.tmps) = true) (s x : Operand)
    (ho : o.op = .call { callee := .builtin .append, args := #[s, x], argTypes := #[24, 24] })
    (B : Nat) (v : Value) (xs : List BxA) (y : BxA) (b : Nat) (hs : a.eval s = v) (hx : a.eval x = .slice (some ⟨b, 0, none⟩) 1 1) (hown1 : OwnR 78 2 bxC B v xs w) (hc : MK2 w b (.string (str y.path)) (.slice y.a y.xs.length y.c)) (hB : B ≤ w.heap.size) (hl : xs.length ≤ 1000000)
    (h : ∀ v' w', OwnR 78 2 bxC B v' (xs ++ [y]) w' → Only v.ownBlock w w' → (v'.ownBlock = v.ownBlock ∨ v'.ownBlock = some w.heap.size) → wpList Tryz.prog ops Q rest (a.put o.dst v') w') : wpList Tryz.prog ops Q (o :: rest) a w := by
  obtain ⟨i0, hi, hz0, hz1, hz2⟩ := info_parts bxInfoC
  refine wpList_unguardL hg ?_
  unfold OwnR at hown1
  refine wpList_append_own_at w rfl s x 24 ho B 78 i0 (.agg #[.string ⟨#[]⟩, .slice none 0 0]) 2 40 Tryz.underlying24 hi hz0 hz1 hz2 rfl (by decide) v xs.length (xs.flatMap bxC) hs hown1 ⟨b, 0, none⟩ 1 1 (bxC y) hx (bxC_len y) ?_ ?_ ?_ ?_ hB ?_
  · intro j z hj
    rw [addr_add]
    match j, hj with
    | 0, hj => injection hj with hj; subst hj; exact hc.1
    | 1, hj => injection hj with hj; subst hj; exact hc.2
    | j + 2, hj => cases hj
  · exact bxC_one y
  · unfold maxLen; omega
  · omega
  · intro v' w' ho' hgr _ hat
    exact h v' w' (OwnR.snoc ho') (Only.of_grown hgr) hat
/-- A new box. -/
def newA (p : List UInt8) : BxA := ⟨p, [], none, 0⟩
/-- The row that is being made: k boxes of zs, the new one among them at its place. -/
def insA (p : List UInt8) (c0 : Nat) (zs : List BxA) (k : Nat) : List BxA := if k ≤ c0 then zs.take k else zs.take c0 ++ newA p :: (zs.take k).drop c0
theorem insA_len {p : List UInt8} {c0 k : Nat} {zs : List BxA} (hk : k ≤ zs.length) : (insA p c0 zs k).length ≤ k + 1 := by
  unfold insA
  split
  · rw [List.length_take]; omega
  · rw [List.length_append, List.length_cons, List.length_drop, List.length_take, List.length_take]; omega
theorem insA_mem {p : List UInt8} {c0 k : Nat} {zs : List BxA} : ∀ y ∈ insA p c0 zs k, y = newA p ∨ y ∈ zs := fun y hy => by
  unfold insA at hy
  split at hy
  · exact .inr (List.mem_of_mem_take hy)
  · rcases List.mem_append.1 hy with hy | hy
    · exact .inr (List.mem_of_mem_take hy)
    · rcases List.mem_cons.1 hy with hy | hy
      · exact .inl hy
      · exact .inr (List.mem_of_mem_take (List.mem_of_mem_drop hy))
theorem insA_step {p : List UInt8} {c0 k : Nat} {zs : List BxA} (hk : k < zs.length) (hne : k ≠ c0) : insA p c0 zs (k + 1) = insA p c0 zs k ++ [zs[k]] := by
  unfold insA
  by_cases h : k < c0
  · rw [if_pos (by omega), if_pos (by omega), List.take_succ_eq_append_getElem hk]
  · rw [if_neg (by omega), if_neg (by omega), List.take_succ_eq_append_getElem hk, List.drop_append_of_le_length (by rw [List.length_take]; omega), List.append_assoc, List.cons_append]
theorem insA_at {p : List UInt8} {c0 : Nat} {zs : List BxA} (hk : c0 < zs.length) : insA p c0 zs (c0 + 1) = (insA p c0 zs c0 ++ [newA p]) ++ [zs[c0]] := by
  unfold insA
  rw [if_neg (by omega), if_pos (Nat.le_refl _), List.take_succ_eq_append_getElem hk, List.drop_append_of_le_length (by rw [List.length_take]; omega), List.drop_of_length_le (l := zs.take c0) (by rw [List.length_take]; omega), List.nil_append, List.append_assoc]
  rfl
theorem insA_end {p : List UInt8} {c0 k : Nat} {zs : List BxA} (hk : zs.length ≤ k) (hc : c0 < k) : insA p c0 zs k = zs.take c0 ++ newA p :: zs.drop c0 := by
  unfold insA
  rw [if_neg (by omega), List.take_of_length_le hk]
theorem insA_last {p : List UInt8} {c0 k : Nat} {zs : List BxA} (hk : zs.length ≤ k) (hc : c0 = zs.length) (hc2 : k ≤ c0) : insA p c0 zs k ++ [newA p] = zs.take c0 ++ newA p :: zs.drop c0 := by
  unfold insA
  rw [if_pos hc2, List.take_of_length_le hk, List.take_of_length_le (by omega), List.drop_of_length_le (by omega)]
/-- A row of boxes to be copied once more. -/
def AddRaw (bs : List Bx) (ok : Bool) (w : World) (e : Ending) (w' : World) : Prop := ∃ (a : Option Addr) (n c : Nat) (ys : List BxA), e = .returned (.tuple #[.slice a n c, .bool ok]) ∧ ys.map BxA.b = bs ∧ ys.length = n ∧ n ≤ 1000000 ∧ RdBs 1000000 w' a ys ∧ Below w.heap.size w w'
/-- A row that is being made of the boxes of another row, which stays. -/
structure AddSt (L E : Nat) (w3 : World) (v5 : Value) (zs ys : List BxA) (v6 : Value) (wr : World) : Prop where
  row : OwnR 78 2 bxC L v6 ys wr
  at' : ∀ g, v6.ownBlock = some g → g = L ∨ E ≤ g
  src : OwnBs (L + 1) v5 zs wr
  low : Below L w3 wr
  size : E ≤ wr.heap.size
  ord : L ≤ E
  sp : ∀ g, blkB v5 zs g → L + 1 ≤ g ∧ g < E
theorem AddSt.keep {L E : Nat} {w3 wr u : World} {v5 v6 : Value} {zs ys : List BxA} (h : AddSt L E w3 v5 zs ys v6 wr) (hb : Below wr.heap.size wr u) : AddSt L E w3 v5 zs ys v6 u :=
  ⟨h.row.keep hb, h.at', h.src.keep hb, h.low.trans (hb.mono (Nat.le_trans h.ord h.size)), Nat.le_trans h.size hb.size, h.ord, h.sp⟩
theorem AddSt.app {L E : Nat} {w3 wr u : World} {v5 v6 v' : Value} {zs ys : List BxA} {y : BxA} (h : AddSt L E w3 v5 zs ys v6 wr) (hr : OwnR 78 2 bxC L v' (ys ++ [y]) u) (ho : Only v6.ownBlock wr u) (hat : v'.ownBlock = v6.ownBlock ∨ v'.ownBlock = some wr.heap.size) : AddSt L E w3 v5 zs (ys ++ [y]) v' u := by
  have hsz := ho.size
  have h1 := h.size
  have h2 := h.ord
  refine ⟨hr, fun g hg => ?_, h.src.turned (Turn.only (P := fun g => v6.ownBlock = some g) ho (fun _ e => e)) (fun g hg e => ?_), h.low.trans (ho.below (fun g hg => ?_) (by omega)), by omega, h2, h.sp⟩
  · rcases hat with e | e
    · rw [e] at hg; exact h.at' g hg
    · rw [e] at hg; injection hg with hg; omega
  · have := h.sp g hg
    rcases h.at' g e with e1 | e1 <;> omega
  · rcases h.at' g hg with e1 | e1 <;> omega
theorem AddSt.len {L E : Nat} {w3 wr : World} {v5 v6 : Value} {zs ys : List BxA} (h : AddSt L E w3 v5 zs ys v6 wr) {M : Nat} (hs : ∀ y ∈ ys, SmallBx M y.b) (hm : ∀ y ∈ ys, y.xs = [] ∧ y.a = none ∧ y.c = 0 ∨ y ∈ zs) : ∃ a c, v6 = .slice a ys.length c ∧ RdBs M wr a ys := by
  obtain ⟨a, c, e, h1, _⟩ := h.row.read bxC_len
  refine ⟨a, c, e, h1, fun y hy => ?_⟩
  rcases hm y hy with ⟨e1, e2, e3⟩ | hz
  · refine own_rdBx (B := 0) ?_ (hs y hy)
    rw [e1, e2, e3]; exact OwnMs.nil _ _
  · exact own_rdBx (h.src.2.1 y hz) (hs y hy)
theorem fndI_no {o : Option Nat} (h : o ≠ none) : decide ((0:Int) ≤ fndI o) = true := by
  cases o with
  | none => exact absurd rfl h
  | some k => exact decide_eq_true (by show (0:Int) ≤ (k : Int); omega)
theorem rawAddRet_no {p : List UInt8} {bs : List Bx} {w w1 : World} (h : addOk p bs = false) (hb : Below w.heap.size w w1) : AddRaw (addO p bs) (addOk p bs) w (.returned (.tuple #[.slice (some ⟨w1.heap.size, 0, none⟩) 0 0, .bool false])) (w1.alloc (.cells #[] 78)) :=
  ⟨some ⟨w1.heap.size, 0, none⟩, 0, 0, [], by rw [h], by rw [addO_no h]; rfl, rfl, by omega, ⟨⟨rfl, .inl rfl⟩, fun x hx => by cases hx⟩, hb.alloc hb.size _⟩
set_option maxRecDepth 100000 in
set_option maxHeartbeats 4000000 in
theorem rawAddBox_any (M : Nat) (a : Option Addr) (n c : Nat) (xs : List BxA) (p : List UInt8) (w : World) (hx : xs.length = n) (h1 : RdBs M w a xs) (hM : M ≤ 1073741000) (hn : n ≤ 1073741000) (hp : p.length ≤ 1073741000) :
    Calls Tryz.prog 45 #[.slice a n c, .string (str p)] w (AddRaw (addO p (xs.map BxA.b)) (addOk p (xs.map BxA.b)) w) := by
  have HV : Hid (Calls Tryz.prog 86 #[.slice a n c] w fun e w' => e = .returned (.bool (isBxs (xs.map BxA.b))) ∧ Below w.heap.size w w') := boxesValidS_any M a n c xs w hx h1 hM hn
  have HP : Hid (∀ u, Below w.heap.size w u → Calls Tryz.prog 87 #[.string (str p)] u fun e w' => e = .returned (.bool (isPath p)) ∧ Below u.heap.size u w') := fun u hb => by
    have := l10Box_any (str p) u (by rw [str_size]; omega)
    rw [str_list] at this; exact this
  have HF : Hid (∀ u, Below w.heap.size w u → Calls Tryz.prog 88 #[.slice a n c, .string (str p)] u fun e w' => e = .returned (.int .i64 (fndI (fndP p ((xs.map BxA.b).map (·.path))))) ∧ Below u.heap.size u w') := fun u hb => by
    have := l11Find_any M a n c xs p u hx (h1.below hb) hn
    rw [show (xs.map BxA.b).map (·.path) = xs.map (·.path) by rw [List.map_map]; rfl]; exact this
  have HC : Hid (isBxs (xs.map BxA.b) = true → ∀ u, Below w.heap.size w u → Calls Tryz.prog 89 #[.slice a n c] u (BxsRet (xs.map BxA.b) u)) := fun hq u hb => by
    have h8 := (isBxs_upBx hq).2.1
    rw [List.length_map] at h8
    exact l11Copy_any a n c xs u hx ((h1.below hb).up (fun x hx => (isBxs_small hq x.b (List.mem_map_of_mem hx)).up (by omega))) (by omega)
  have HL : Hid ((xs.map BxA.b).length = n) := by show _ = _; rw [List.length_map]; exact hx
  clear h1 hM hx
  obtain ⟨bs, hbs⟩ : ∃ bs, bs = xs.map BxA.b := ⟨_, rfl⟩
  rw [← hbs] at HV HF HC HL ⊢
  clear hbs
  have HNO := Lib.hid (fun (h : addOk p bs = false) (w1 : World) (hb : Below w.heap.size w w1) => rawAddRet_no h hb)
  have N1 := Lib.hid (@addOk_no1 p bs)
  have N2 := Lib.hid (@addOk_no2 p bs)
  have N3 := Lib.hid (@addOk_no3 p bs)
  have N4 := Lib.hid (@addOk_no4 p bs)
  obtain ⟨S, hS⟩ : ∃ S, S = str p := ⟨_, rfl⟩
  have HS := Lib.hid hS
  rw [← hS] at HP HF ⊢
  clear hS
  cases hq : isBxs bs with
  | false =>
    have HN := Lib.hid (HNO.out (N1.out hq))
    rw [hq] at HV
    clear hq HNO N1 N2 N3 N4 HF HC
    generalize addO p bs = AO at *
    generalize addOk p bs = ok at *
    go_enter Tryz.func45, Tryz.ntmps45
    go_wp2_with fail
    refine HV.out.mono ?_
    rintro e w1 ⟨rfl, hb1⟩
    have HE := Lib.hid (HN.out w1 hb1)
    go_wp2
    go_ret2
    exact HE.out
  | true =>
    have HC1 := Lib.hid (HC.out hq)
    rw [hq] at HV
    cases hp' : isPath p with
    | false =>
      have HN := Lib.hid (HNO.out (N2.out hp'))
      rw [hp'] at HP
      clear hq HNO N1 N2 N3 N4 HF HC HC1 hp'
      generalize addO p bs = AO at *
      generalize addOk p bs = ok at *
      go_enter Tryz.func45, Tryz.ntmps45
      go_wp2_with fail
      refine HV.out.mono ?_
      rintro e w1 ⟨rfl, hb1⟩
      go_wp2_with fail
      refine (HP.out _ hb1).mono ?_
      rintro e w2 ⟨rfl, hb2⟩
      have HE := Lib.hid (HN.out w2 (nx hb1 hb2))
      go_wp2
      go_ret2
      exact HE.out
    | true =>
      rw [hp'] at HP
      by_cases hf : fndP p (bs.map (·.path)) = none
      · have hI : fndI (fndP p (bs.map (·.path))) = -1 := by rw [hf]; rfl
        rw [hI] at HF
        by_cases h8 : n = 8
        · have HN := Lib.hid (HNO.out (N3.out (HL.out.trans h8)))
          have e8 : ((n : Int) == 8) = true := by rw [h8]; rfl
          clear hq HNO N1 N2 N3 N4 HC HC1 hp' h8 hf hI
          generalize addO p bs = AO at *
          generalize addOk p bs = ok at *
          go_enter Tryz.func45, Tryz.ntmps45
          go_wp2_with fail
          refine HV.out.mono ?_
          rintro e w1 ⟨rfl, hb1⟩
          go_wp2_with fail
          refine (HP.out _ hb1).mono ?_
          rintro e w2 ⟨rfl, hb2⟩
          have hb02 := nx hb1 hb2
          go_wp2_with fail
          refine (HF.out _ hb02).mono ?_
          rintro e w3 ⟨rfl, hb3⟩
          have HE := Lib.hid (HN.out w3 (nx hb02 hb3))
          go_wp2
          go_ret2
          exact HE.out
        · have e8 : ((n : Int) == 8) = false := by rw [beq_eq_false_iff_ne]; omega
          have hok : addOk p bs = true := addOk_yes hq hp' (by rw [HL.out]; exact h8) hf
          have hn8 : n ≤ 8 := by have := (isBxs_upBx hq).2.1; have := HL.out; omega
          obtain ⟨c0, hc0⟩ : ∃ c0, c0 = cntP p (bs.map (·.path)) := ⟨_, rfl⟩
          have hc0n : c0 ≤ n := by rw [hc0]; have := cntP_le p (bs.map (·.path)); rw [List.length_map, HL.out] at this; exact this
          have HLT : Hid (∀ k (h : k < bs.length), k < c0 → ltP p bs[k].path = false) := fun k h hk => by
            have := cntP_before (p := p) (ps := bs.map (·.path)) (j := k) (by omega) (by simpa using h)
            rw [List.getElem_map] at this
            exact ltP_asym this
          have HAT : Hid (∀ k (h : k < bs.length), k = c0 → ltP p bs[k].path = true) := fun k h hk => by
            subst hk
            have e : cntP p (bs.map (·.path)) < (bs.map (·.path)).length := by rw [← hc0]; simpa using h
            have h2 := cntP_at e
            simp only [← hc0, List.getElem_map] at h2
            exact ltP_tri h2 (fndP_none hf _ (List.mem_map.2 ⟨_, List.getElem_mem h, rfl⟩))
          have HE : Hid (∀ (a6 : Option Addr) (c6 : Nat) (ys zs : List BxA) (w' : World) (m : Nat), zs.map BxA.b = bs → ys = zs.take c0 ++ newA p :: zs.drop c0 → ys.length = m → m ≤ 1000000 → RdBs 1000000 w' a6 ys → Below w.heap.size w w' → AddRaw (addO p bs) (addOk p bs) w (.returned (.tuple #[.slice a6 m c6, .bool true])) w') := fun a6 c6 ys zs w' m k1 k2 k3 k4 k5 k6 => ⟨a6, m, c6, ys, by rw [hok], by
            rw [addO_yes hok, k2, List.map_append, List.map_cons, List.map_take, List.map_drop, k1, hc0]; rfl, k3, k4, k5, k6⟩
          have HSB : Hid (∀ zs : List BxA, zs.map BxA.b = bs → ∀ y, y = newA p ∨ y ∈ zs → SmallBx 1000000 y.b) := fun zs hz y hy => by
            rcases hy with rfl | hy
            · refine ⟨?_, by simp [newA, BxA.b], fun m hm => by simp [newA, BxA.b] at hm⟩
              have := isSend_len (l := p) (by unfold isSend; rw [hp']; simp)
              show p.length ≤ _
              omega
            · exact (isBxs_small hq y.b (hz ▸ List.mem_map_of_mem hy)).up (by omega)
          clear hq HNO N1 N2 N3 N4 HC hp' h8 hf hI hc0 hok
          generalize addO p bs = AO at *
          generalize addOk p bs = ok at *
          go_enter Tryz.func45, Tryz.ntmps45
          go_wp2_with fail
          refine HV.out.mono ?_
          rintro e w1 ⟨rfl, hb1⟩
          go_wp2_with fail
          refine (HP.out _ hb1).mono ?_
          rintro e w2 ⟨rfl, hb2⟩
          have hb02 := nx hb1 hb2
          go_wp2_with fail
          refine (HF.out _ hb02).mono ?_
          rintro e w3 ⟨rfl, hb3⟩
          have hb03 := nx hb02 hb3
          go_wp2_with fail
          have hA4 : Below w3.heap.size w3 (w3.alloc (.cells #[] 78)) := (Below.refl _ _).alloc (Nat.le_refl _) _
          have HO4 := Lib.hid (OwnR.empty 78 2 bxC w3)
          have hz4 : (w3.alloc (.cells #[] 78)).heap.size = w3.heap.size + 1 := by simp
          have hb04 := nx hb03 hA4
          generalize w3.alloc (.cells #[] 78) = w4 at *
          refine (HC1.out _ hb04).mono ?_
          rintro e w5 ⟨v5, zs, rfl, hzs, hO, hb5⟩
          obtain ⟨a5, c5, hv5, _⟩ := hO.1.read bxC_len
          have hzl : zs.length = n := by rw [← HL.out, ← hzs, List.length_map]
          rw [hzl] at hv5
          subst hv5
          have HZL := Lib.hid hzl
          have HZ5 := Lib.hid hO
          have HZG : Hid (∀ g, blkB (.slice a5 n c5) zs g → w3.heap.size + 1 ≤ g ∧ g < w5.heap.size) := fun g hg => by
            have := hO.lt hg
            omega
          have HO5 := Lib.hid (HO4.out.keep hb5)
          have hb05 := nx hb04 hb5
          have hs45 := hb5.size
          have hb35 : Below w3.heap.size w3 w5 := nx hA4 hb5
          have HLT1 : Hid (∀ k (h : k < zs.length), k < c0 → ltP p zs[k].path = false) := fun k h hk => by
            have := HLT.out k (by rw [HL.out]; omega) hk
            simp only [← hzs, List.getElem_map] at this; exact this
          have HAT1 : Hid (∀ k (h : k < zs.length), k = c0 → ltP p zs[k].path = true) := fun k h hk => by
            have := HAT.out k (by rw [HL.out]; omega) hk
            simp only [← hzs, List.getElem_map] at this; exact this
          have HE1 : Hid (∀ (a6 : Option Addr) (c6 : Nat) (ys : List BxA) (w' : World) (m : Nat), ys = zs.take c0 ++ newA p :: zs.drop c0 → ys.length = m → m ≤ 1000000 → RdBs 1000000 w' a6 ys → Below w.heap.size w w' → AddRaw AO ok w (.returned (.tuple #[.slice a6 m c6, .bool true])) w') := fun a6 c6 ys w' m k2 k3 k4 k5 k6 => HE.out a6 c6 ys zs w' m hzs k2 k3 k4 k5 k6
          have HSB1 := Lib.hid (HSB.out zs hzs)
          clear hO hzs hzl HLT HAT HE HSB HC1 HF HP HV HL HO4 hA4 hb5
          go_wp2_with fail
          go_loopw [6, 7, 9] (fun s6 s7 s9 wr => ∃ (k : Nat), k ≤ n ∧ s9 = .int .i64 k ∧ s7 = .bool (decide (c0 < k)) ∧ AddSt w3.heap.size w5.heap.size w3 (.slice a5 n c5) zs (insA p c0 zs k) s6 wr) (fun _ _ s9 _ => n - (intOf s9).toNat)
          case atStart => exact ⟨0, Nat.zero_le _, rfl, by rw [decide_eq_false (Nat.not_lt_zero _)], ⟨by rw [show insA p c0 zs 0 = [] by unfold insA; rw [if_pos (Nat.zero_le _)]; rfl]; exact HO5.out, fun g hg => by injection hg with hg; exact .inl hg.symm, hz4 ▸ HZ5.out, hb35, Nat.le_refl _, by omega, HZG.out⟩⟩
          case round =>
            obtain ⟨k, hkn, rfl, rfl, hst⟩ := hrel
            have HST := Lib.hid hst
            clear hst
            by_cases hlt : k < n
            · have hkz : k < zs.length := by rw [HZL.out]; exact hlt
              have hkn' : (k : Int) < (n : Int) := by omega
              have hk0 : (0 : Int) ≤ (k : Int) := by omega
              obtain ⟨g5, rfl⟩ : ∃ g, a5 = some ⟨g, 0, none⟩ := by
                rcases HST.out.src.1.2 with ⟨_, h0⟩ | ⟨g, cap, cur, hv, _⟩
                · exfalso; have := HZL.out; omega
                · injection hv with e1 _ _; exact ⟨g, e1⟩
              obtain ⟨z, hz⟩ : ∃ z, zs[k] = z := ⟨_, rfl⟩
              have HCELL : Hid (∀ u, AddSt w3.heap.size w5.heap.size w3 (.slice (some ⟨g5, 0, none⟩) n c5) zs (insA p c0 zs k) (.slice none 0 0) u ∨ OwnBs (w3.heap.size + 1) (.slice (some ⟨g5, 0, none⟩) n c5) zs u → u.cell? ⟨g5, k * 2, none⟩ = some (.string (str z.path)) ∧ u.cell? ⟨g5, k * 2 + 1, none⟩ = some (.slice z.a z.xs.length z.c)) := fun u hu => by
                have h : OwnBs (w3.heap.size + 1) (.slice (some ⟨g5, 0, none⟩) n c5) zs u := hu.elim (·.src) id
                exact (h.cellsK hkz hz).1
              obtain ⟨p0, p1⟩ := HCELL.out wr (.inr HST.out.src)
              have hl5 := lt_of_cell p0
              have HC5 : Hid (∀ u, OwnBs (w3.heap.size + 1) (.slice (some ⟨g5, 0, none⟩) n c5) zs u → u.cell? ⟨g5, k * 2, none⟩ = some (.string (str z.path)) ∧ u.cell? ⟨g5, k * 2 + 1, none⟩ = some (.slice z.a z.xs.length z.c)) := fun u hu => HCELL.out u (.inr hu)
              have HI8 : Hid ((insA p c0 zs k).length ≤ 1000000) := by
                have := insA_len (p := p) (c0 := c0) (k := k) (zs := zs) (by omega)
                show _ ≤ _
                omega
              have hLw : w3.heap.size ≤ wr.heap.size := Nat.le_trans HST.out.ord HST.out.size
              clear HCELL
              by_cases hke : k = c0
              · have hd : decide (c0 < k) = false := decide_eq_false (by omega)
                have HD1 : Hid (decide (c0 < k + 1) = true) := decide_eq_true (by omega)
                have hbl : Op.bytesLess S.toList (str z.path).toList = true := by
                  have h := HAT1.out k hkz hke
                  rw [hz] at h
                  rw [HS.out]; exact h
                have HIN : Hid (insA p c0 zs (k + 1) = (insA p c0 zs k ++ [newA p]) ++ [z]) := by
                  show _ = _
                  subst hke
                  rw [insA_at hkz, hz]
                rw [hd]
                have HKN : Hid (∀ u : World, MK2 (u.alloc (.cells #[.string S, .slice none 0 0] 78)) u.heap.size (.string (str (newA p).path)) (.slice (newA p).a (newA p).xs.length (newA p).c)) := fun u => by
                  have := MK2.new u (.string S) (.slice none 0 0) 78
                  rw [HS.out] at this ⊢; exact this
                have hAa : Below wr.heap.size wr (wr.alloc (.cells #[.string S, .slice none 0 0] 78)) := (Below.refl _ _).alloc (Nat.le_refl _) _
                have HSTa := Lib.hid (HST.out.keep hAa)
                have HLa := hLw
                have hLa2 := hAa.size
                have HIL : Hid ((insA p c0 zs k).length ≤ 100) := by
                  have := insA_len (p := p) (c0 := c0) (k := k) (zs := zs) (by omega)
                  show _ ≤ _
                  omega
                clear hz hd hke
                generalize insA p c0 zs k = IK at *
                go_wp2_with (at_builtin; refine wpList_append_BR rfl _ _ rfl w3.heap.size _ IK (newA p) wr.heap.size rfl rfl HSTa.out.row (HKN.out wr) (by omega) HI8.out ?_)
                intro v6 wA hOa hoa hata
                have HSTb := Lib.hid (HSTa.out.app hOa hoa (by simpa using hata))
                have HI9 : Hid ((IK ++ [newA p]).length ≤ 1000000) := by show _ ≤ _; rw [List.length_append]; have := HI8.out; have := HIL.out; show _ + 1 ≤ _; omega
                clear hOa hoa hata p0 p1 HSTa hLa2 hAa
                obtain ⟨IN, hINe⟩ : ∃ IN, IN = IK ++ [newA p] := ⟨_, rfl⟩
                rw [← hINe] at HSTb HI9 HIN
                clear hINe
                obtain ⟨p0, p1⟩ := HC5.out wA HSTb.out.src
                have hAb : Below wA.heap.size wA (wA.alloc (.cells #[.string (str z.path), .slice z.a z.xs.length z.c] 78)) := (Below.refl _ _).alloc (Nat.le_refl _) _
                have HSTc := Lib.hid (HSTb.out.keep hAb)
                have HKZ := Lib.hid (MK2.new wA (.string (str z.path)) (.slice z.a z.xs.length z.c) 78)
                have hLb : w3.heap.size ≤ wA.heap.size := Nat.le_trans HSTb.out.ord HSTb.out.size
                have hLb2 := hAb.size
                go_wp2_with (at_builtin; refine wpList_append_BR rfl _ _ rfl w3.heap.size _ IN z wA.heap.size rfl rfl HSTc.out.row HKZ.out (by omega) HI9.out ?_)
                intro v7 w7 hO7 ho7 hat7
                have HST7 := Lib.hid (HSTc.out.app hO7 ho7 (by simpa using hat7))
                rw [← HIN.out] at HST7
                clear hO7 ho7 hat7 p0 p1
                go_wp2
                go_roundw
                case rel => exact ⟨k + 1, by omega, by go_num, by rw [HD1.out], HST7.out⟩
                case measure => simp [intOf]; omega
              · have HIN : Hid (insA p c0 zs (k + 1) = insA p c0 zs k ++ [z]) := by show _ = _; rw [insA_step hkz hke, hz]
                by_cases hkc : c0 < k
                · have hd : decide (c0 < k) = true := decide_eq_true hkc
                  have HD1 : Hid (decide (c0 < k + 1) = true) := decide_eq_true (by omega)
                  rw [hd]
                  clear hz hd hke hkc p0 p1
                  generalize insA p c0 zs k = IK at *
                  obtain ⟨p0, p1⟩ := HC5.out wr HST.out.src
                  have hAb : Below wr.heap.size wr (wr.alloc (.cells #[.string (str z.path), .slice z.a z.xs.length z.c] 78)) := (Below.refl _ _).alloc (Nat.le_refl _) _
                  have HSTc := Lib.hid (HST.out.keep hAb)
                  have HKZ := Lib.hid (MK2.new wr (.string (str z.path)) (.slice z.a z.xs.length z.c) 78)
                  have hLb : w3.heap.size ≤ wr.heap.size := Nat.le_trans HST.out.ord HST.out.size
                  have hLb2 := hAb.size
                  go_wp2_with (at_builtin; refine wpList_append_BR rfl _ _ rfl w3.heap.size _ IK z wr.heap.size rfl rfl HSTc.out.row HKZ.out (by omega) HI8.out ?_)
                  intro v7 w7 hO7 ho7 hat7
                  have HST7 := Lib.hid (HSTc.out.app hO7 ho7 (by simpa using hat7))
                  rw [← HIN.out] at HST7
                  clear hO7 ho7 hat7 p0 p1
                  go_wp2
                  go_roundw
                  case rel => exact ⟨k + 1, by omega, by go_num, by rw [HD1.out], HST7.out⟩
                  case measure => simp [intOf]; omega
                · have hd : decide (c0 < k) = false := decide_eq_false hkc
                  have HD1 : Hid (decide (c0 < k + 1) = false) := decide_eq_false (by omega)
                  have hbl : Op.bytesLess S.toList (str z.path).toList = false := by
                    have h := HLT1.out k hkz (by omega)
                    rw [hz] at h
                    rw [HS.out]; exact h
                  rw [hd]
                  clear hz hd hke hkc p0 p1
                  generalize insA p c0 zs k = IK at *
                  obtain ⟨p0, p1⟩ := HC5.out wr HST.out.src
                  have hAb : Below wr.heap.size wr (wr.alloc (.cells #[.string (str z.path), .slice z.a z.xs.length z.c] 78)) := (Below.refl _ _).alloc (Nat.le_refl _) _
                  have HSTc := Lib.hid (HST.out.keep hAb)
                  have HKZ := Lib.hid (MK2.new wr (.string (str z.path)) (.slice z.a z.xs.length z.c) 78)
                  have hLb : w3.heap.size ≤ wr.heap.size := Nat.le_trans HST.out.ord HST.out.size
                  have hLb2 := hAb.size
                  go_wp2_with (at_builtin; refine wpList_append_BR rfl _ _ rfl w3.heap.size _ IK z wr.heap.size rfl rfl HSTc.out.row HKZ.out (by omega) HI8.out ?_)
                  intro v7 w7 hO7 ho7 hat7
                  have HST7 := Lib.hid (HSTc.out.app hO7 ho7 (by simpa using hat7))
                  rw [← HIN.out] at HST7
                  clear hO7 ho7 hat7 p0 p1
                  go_wp2
                  go_roundw
                  case rel => exact ⟨k + 1, by omega, by go_num, by rw [HD1.out], HST7.out⟩
                  case measure => simp [intOf]; omega
            · have hkn1 : k = n := by omega
              subst hkn1
              have HSM : Hid (∀ y ∈ insA p c0 zs k, SmallBx 1000000 y.b) := fun y hy => HSB1.out y (insA_mem y hy)
              have HMM : Hid (∀ y ∈ insA p c0 zs k, y.xs = [] ∧ y.a = none ∧ y.c = 0 ∨ y ∈ zs) := fun y hy => (insA_mem y hy).elim (fun e => .inl (by subst e; exact ⟨rfl, rfl, rfl⟩)) .inr
              have hI8 : (insA p c0 zs k).length ≤ 1000000 := by
                have := insA_len (p := p) (c0 := c0) (k := k) (zs := zs) (by have := HZL.out; omega)
                omega
              by_cases hkc : c0 < k
              · have hd : decide (c0 < k) = true := decide_eq_true hkc
                rw [hd]
                obtain ⟨a6, c6, hv6, hrd⟩ := HST.out.len HSM.out HMM.out
                have HF := Lib.hid (HE1.out a6 c6 _ wr _ (insA_end (by have := HZL.out; omega) hkc) rfl hI8 hrd (hb03.trans (HST.out.low.mono hb03.size)))
                rw [← hv6] at HF
                clear hd hrd hv6
                go_wp2
                go_ret2
                exact HF.out
              · have hd : decide (c0 < k) = false := decide_eq_false hkc
                rw [hd]
                have HIN : Hid (insA p c0 zs k ++ [newA p] = zs.take c0 ++ newA p :: zs.drop c0) := insA_last (by have := HZL.out; omega) (by have := HZL.out; omega) (by omega)
                have hI9 : (insA p c0 zs k ++ [newA p]).length ≤ 1000000 := by
                  have := insA_len (p := p) (c0 := c0) (k := k) (zs := zs) (by have := HZL.out; omega)
                  rw [List.length_append]; show _ + 1 ≤ _; omega
                have HKN : Hid (MK2 (wr.alloc (.cells #[.string S, .slice none 0 0] 78)) wr.heap.size (.string (str (newA p).path)) (.slice (newA p).a (newA p).xs.length (newA p).c)) := by
                  have := MK2.new wr (.string S) (.slice none 0 0) 78
                  show MK2 _ _ _ _
                  rw [HS.out] at this ⊢; exact this
                have hAa : Below wr.heap.size wr (wr.alloc (.cells #[.string S, .slice none 0 0] 78)) := (Below.refl _ _).alloc (Nat.le_refl _) _
                have HSTa := Lib.hid (HST.out.keep hAa)
                have hLw : w3.heap.size ≤ wr.heap.size := Nat.le_trans HST.out.ord HST.out.size
                have hLa2 := hAa.size
                have HI8 : Hid ((insA p c0 zs k).length ≤ 1000000) := hI8
                have HI9 : Hid ((insA p c0 zs k ++ [newA p]).length ≤ 1000000) := hI9
                clear hd hI8 hI9
                generalize insA p c0 zs k = IK at *
                go_wp2_with (at_builtin; refine wpList_append_BR rfl _ _ rfl w3.heap.size _ IK (newA p) wr.heap.size rfl rfl HSTa.out.row HKN.out (by omega) HI8.out ?_)
                intro v6 wA hOa hoa hata
                have HSTb := HSTa.out.app hOa hoa (by simpa using hata)
                obtain ⟨a6, c6, hv6, hrd⟩ := HSTb.len (M := 1000000) (fun y hy => (List.mem_append.1 hy).elim (HSM.out y) (fun h => HSB1.out y (.inl (List.mem_singleton.1 h)))) (fun y hy => (List.mem_append.1 hy).elim (HMM.out y) (fun h => .inl (by rw [List.mem_singleton.1 h]; exact ⟨rfl, rfl, rfl⟩)))
                have HF := Lib.hid (HE1.out a6 c6 _ wA _ HIN.out rfl HI9.out hrd (hb03.trans (HSTb.low.mono hb03.size)))
                rw [← hv6] at HF
                clear hOa hoa hata HSTb hrd hv6
                go_wp2
                go_ret2
                exact HF.out
      · have hI := fndI_no hf
        have HN := Lib.hid (HNO.out (N4.out hf))
        clear hq HNO N1 N2 N3 N4 HC HC1 hp' hf
        generalize fndI (fndP p (bs.map (·.path))) = K at *
        generalize addO p bs = AO at *
        generalize addOk p bs = ok at *
        go_enter Tryz.func45, Tryz.ntmps45
        go_wp2_with fail
        refine HV.out.mono ?_
        rintro e w1 ⟨rfl, hb1⟩
        go_wp2_with fail
        refine (HP.out _ hb1).mono ?_
        rintro e w2 ⟨rfl, hb2⟩
        have hb02 := nx hb1 hb2
        go_wp2_with fail
        refine (HF.out _ hb02).mono ?_
        rintro e w3 ⟨rfl, hb3⟩
        have HE := Lib.hid (HN.out w3 (nx hb02 hb3))
        go_wp2
        go_ret2
        exact HE.out
set_option maxRecDepth 100000 in
set_option maxHeartbeats 1000000 in
theorem addBoxS_any (M : Nat) (a : Option Addr) (n c : Nat) (xs : List BxA) (p : List UInt8) (w : World) (hx : xs.length = n) (h1 : RdBs M w a xs) (hM : M ≤ 1073741000) (hn : n ≤ 1073741000) (hp : p.length ≤ 1073741000) :
    Calls Tryz.prog 10 #[.slice a n c, .string (str p)] w (AddRet (addO p (xs.map BxA.b)) (addOk p (xs.map BxA.b)) w) := by
  have HR := Lib.hid (rawAddBox_any M a n c xs p w hx h1 hM hn hp)
  clear h1 hx
  generalize addO p (xs.map BxA.b) = AO at *
  generalize addOk p (xs.map BxA.b) = ok at *
  go_enter Tryz.func10, Tryz.ntmps10
  go_wp2_with fail
  refine HR.out.mono ?_
  rintro e w1 ⟨a1, n1, c1, ys, rfl, hys, hyl, hn1, hrd, hb1⟩
  have HC := Lib.hid (ownListBox_any a1 n1 c1 ys w1 hyl hrd hn1)
  clear hrd
  go_wp2_with fail
  refine HC.out.mono ?_
  rintro e w2 ⟨v2, zs, rfl, hzs, hO, hb2⟩
  have HE : Hid (AddRet AO ok w (.returned (.tuple #[v2, .bool ok])) w2) := ⟨v2, zs, rfl, hzs.trans hys, hO.base hb1.size, nx hb1 hb2⟩
  clear hO hzs
  go_wp2
  go_ret2
  exact HE.out
end Go.Proofs.YtombejhpfobehaaGreatDoor
end

section
namespace Go.Proofs.YtombejhpfobehaaGreatDoor
open Go.ChangeShapes Go.WideShapes Go.ChangeAt Go.RowKit
open Go.ChangeMaps (open_string shut_string)
open Go.Deep

def SizedNs (t : Int) (ms : List Ml) (w : World) (e : Ending) (w' : World) : Prop := ∃ r : Int, e = .returned (.int .i64 r) ∧ -1 ≤ r ∧ r ≤ t ∧ (0 ≤ r → ms.length ≤ 1048576 ∧ ∀ m ∈ ms, SmallM 1048576 m) ∧ Below w.heap.size w w'
theorem sizedNs_no {t : Int} {ms : List Ml} {w w' : World} (ht : 0 ≤ t) (hb : Below w.heap.size w w') : SizedNs t ms w (.returned (.int .i64 (-1))) w' := ⟨-1, rfl, by omega, by omega, fun h => by omega, hb⟩
set_option maxRecDepth 100000 in
set_option maxHeartbeats 4000000 in
theorem szMailS_any (a : Option Addr) (n c : Nat) (xs : List MlA) (t : Int) (w : World) (hx : xs.length = n) (h1 : RdMs maxLen w a xs) (hn : n ≤ maxLen) (ht0 : 0 ≤ t) (ht : t ≤ 1048576) :
    Calls Tryz.prog 76 #[.slice a n c, .int .i64 t] w (SizedNs t (xs.map (·.m)) w) := by
  unfold maxLen at hn
  have X1 := Lib.hid h1
  have L1 := Lib.hid hx
  clear h1 hx
  by_cases hbig : t - n < 0
  · go_enter Tryz.func76, Tryz.ntmps76
    go_wp2
    go_ret
    exact sizedNs_no ht0 (Below.refl _ _)
  · go_enter Tryz.func76, Tryz.ntmps76
    go_wp2_with fail
    go_loopw [1, 5] (fun l i wr => ∃ (k : Nat) (r : Int), k ≤ n ∧ i = .int .i64 k ∧ l = .int .i64 r ∧ 0 ≤ r ∧ r ≤ t ∧ Below w.heap.size w wr ∧ ∀ j, j < k → (hj : j < xs.length) → SmallM 1048576 xs[j].m) (fun _ i _ => n - (intOf i).toNat)
    case atStart => exact ⟨0, t - n, Nat.zero_le _, rfl, rfl, by omega, by omega, Below.refl _ _, fun j h => by omega⟩
    case round =>
      obtain ⟨k, r, hk, rfl, rfl, hr0, hrt, hb, hall⟩ := hrel
      have HALL := Lib.hid hall
      clear hall
      by_cases hlt : k < n
      · have j1 : k < xs.length := by rw [L1.out]; exact hlt
        obtain ⟨b1, o1, rfl, hb1, p0, p1, p2, p3⟩ := (X1.out.below hb).at j1
        have hkn : (k : Int) < (n : Int) := by omega
        have hk0 : (0 : Int) ≤ (k : Int) := by omega
        have HC : Hid (Calls Tryz.prog 21 #[.agg #[.string (str xs[k].m.frm), .slice xs[k].a1 xs[k].m.to.length xs[k].c1, .slice xs[k].a2 xs[k].m.lines.length xs[k].c2], .int .i64 r] wr (SizedN r xs[k].m wr)) := szMail_any xs[k] r wr p3 hr0 (by omega)
        clear p3
        obtain ⟨q, hq⟩ : ∃ q, q = xs[k].m := ⟨_, rfl⟩
        have HQ := Lib.hid hq
        rw [← hq] at HC p0 p1 p2
        clear hq
        generalize xs[k].a1 = aa1 at *
        generalize xs[k].a2 = aa2 at *
        generalize xs[k].c1 = cc1 at *
        generalize xs[k].c2 = cc2 at *
        go_wp2_with fail
        refine HC.out.mono ?_
        rintro e w5 ⟨r2, rfl, hr1, hr2, hsm, hb5⟩
        have HSM := Lib.hid hsm
        have hbx := nx hb hb5
        clear hsm p0 p1 p2
        by_cases hneg : r2 < 0
        · go_wp2
          go_ret
          exact sizedNs_no ht0 hbx
        · go_wp2
          go_roundw
          case rel => exact ⟨k + 1, r2, by omega, by go_num, rfl, by omega, by omega, hbx, fun j hj hjx => by
            by_cases e : j = k
            · subst e; rw [← HQ.out]; exact HSM.out (by omega)
            · exact HALL.out j (by omega) hjx⟩
          case measure => simp [intOf]; omega
      · go_wp2
        go_ret
        exact ⟨r, rfl, by omega, hrt, fun _ => ⟨by rw [List.length_map, L1.out]; omega, fun m hm => by
          obtain ⟨x, hx, rfl⟩ := List.mem_map.1 hm
          obtain ⟨j, hj, rfl⟩ := List.getElem_of_mem hx
          exact HALL.out j (by have := L1.out; omega) hj⟩, hb⟩
def SizedZ (t : Int) (S : Ssn) (w : World) (e : Ending) (w' : World) : Prop := ∃ r : Int, e = .returned (.int .i64 r) ∧ -1 ≤ r ∧ r ≤ t ∧ (0 ≤ r → SmallS 1048576 S) ∧ Below w.heap.size w w'
theorem sizedZ_no {t : Int} {S : Ssn} {w w' : World} (ht : 0 ≤ t) (hb : Below w.heap.size w w') : SizedZ t S w (.returned (.int .i64 (-1))) w' := ⟨-1, rfl, by omega, by omega, fun h => by omega, hb⟩
set_option maxRecDepth 100000 in
set_option maxHeartbeats 4000000 in
theorem szSession_any (z : SsV) (S : Ssn) (t : Int) (w : World) (h1 : RdZ maxLen w z S) (ht0 : 0 ≤ t) (ht : t ≤ 1048576) :
    Calls Tryz.prog 31 #[ssVal z, .int .i64 t] w (SizedZ t S w) := by
  obtain ⟨st1, hh, s1, a1, n1, c1, b1, k1, d1, e1, r1, q1⟩ := z
  obtain ⟨f1, f2, f3, f4, f5, f6, f7, xs, f8, f9, f10⟩ := h1
  dsimp only at f1 f2 f3 f4 f5 f6 f7 f9 f10
  unfold ssVal
  dsimp only
  have HM : Hid (∀ (q : Int) u, Below w.heap.size w u → 0 ≤ q → q ≤ 1048576 → Calls Tryz.prog 21 #[.agg #[.string s1, .slice a1 n1 c1, .slice b1 k1 d1], .int .i64 q] u (SizedN q S.draft u)) := fun q u hu h0 hq => szMail_v (f3.below hu) h0 hq
  have HD : Hid (∀ (q : Int) u, Below w.heap.size w u → 0 ≤ q → q ≤ 1048576 → Calls Tryz.prog 76 #[.slice e1 r1 q1, .int .i64 q] u (SizedNs q S.done u)) := fun q u hu h0 hq => by
    rw [← f8]; exact szMailS_any e1 r1 q1 xs q u f9 (f10.below hu) f5 h0 hq
  have HH : Hid (hh.size = S.host.length) := by show _ = _; rw [f2, str_size]
  have z0 : hh.size ≤ 9223372036854775807 := by rw [HH.out]; unfold maxLen at f4; omega
  clear f1 f2 f3 f4 f5 f6 f7 f8 f9 f10
  have hA : Below w.heap.size w (w.alloc (.cells #[.int .i64 st1, .string hh, .string s1, .slice a1 n1 c1, .slice b1 k1 d1, .slice e1 r1 q1] 56)) := (Below.refl _ _).alloc (Nat.le_refl _) _
  have HX := Lib.hid (SK6.new w (.int .i64 st1) (.string hh) (.string s1) (.slice a1 n1 c1) (.slice b1 k1 d1) (.slice e1 r1 q1) 56)
  by_cases k0 : t - hh.size < 0
  · go_enter Tryz.func31, Tryz.ntmps31
    go_wp2
    go_ret
    exact sizedZ_no ht0 hA
  · go_enter Tryz.func31, Tryz.ntmps31
    go_wp2_with fail
    refine (HM.out _ _ hA (by omega) (by omega)).mono ?_
    rintro e w1 ⟨r2, rfl, hr1, hr2, hsm, hb1⟩
    have HSM := Lib.hid hsm
    have hb01 := nx hA hb1
    obtain ⟨y0, y1, y2, y3, y4, y5⟩ := HX.out.below hb1
    clear hsm
    by_cases k1 : r2 < 0
    · go_wp2
      go_ret
      exact sizedZ_no ht0 hb01
    · go_wp2_with fail
      refine (HD.out _ _ hb01 (by omega) (by omega)).mono ?_
      rintro e w2 ⟨r3, rfl, hr3, hr4, hsn, hb2⟩
      have HSN := Lib.hid hsn
      have hb02 := nx hb01 hb2
      clear hsn y0 y1 y2 y3 y4 y5
      by_cases k2 : r3 < 0
      · go_wp2
        go_ret
        exact sizedZ_no ht0 hb02
      · go_wp2
        go_ret
        exact ⟨r3, rfl, by omega, by omega, fun h => ⟨by have := HH.out; omega, HSM.out (by omega), (HSN.out (by omega)).1, (HSN.out (by omega)).2⟩, hb02⟩
theorem mlInfo : (Tryz.prog.info? 33).map (fun i => (i.zero, i.size, i.bytes)) = some (some (.agg #[.string ⟨#[]⟩, .slice none 0 0, .slice none 0 0]), 3, 64) := by kernel_rfl
theorem row_keepM {T : TypeId} {k B n : Nat} {v : Value} {L : List Value} {w w' : World} (h : w.ownsRow B T k v n L) (b : Below w.heap.size w w') : w'.ownsRow B T k v n L := by
  refine ⟨h.1, ?_⟩
  rcases h.2 with hn | ⟨g, cap, cur, hv, hg1, hg2, rest⟩
  · exact .inl hn
  · exact .inr ⟨g, cap, cur, hv, hg1, by rw [b.block g (lt_of_block hg2), hg2], rest⟩
theorem row_cellM {T : TypeId} {k B n g c : Nat} {L : List Value} {w : World} (h : w.ownsRow B T k (.slice (some ⟨g, 0, none⟩) n c) n L) (j : Nat) (hj : j < L.length) : ∃ v, w.cell? ⟨g, j, none⟩ = some v := by
  have := h.cells (g := g) rfl j _ (List.getElem?_eq_getElem hj)
  rw [add0] at this; exact ⟨_, this⟩
theorem set3_getM {L : List Value} {k : Nat} (h : k * 3 + 2 < L.length) (s0 s1 s2 : Value) : (((L.set (k * 3) s0).set (k * 3 + 1) s1).set (k * 3 + 2) s2)[k * 3]? = some s0 ∧ (((L.set (k * 3) s0).set (k * 3 + 1) s1).set (k * 3 + 2) s2)[k * 3 + 1]? = some s1 ∧ (((L.set (k * 3) s0).set (k * 3 + 1) s1).set (k * 3 + 2) s2)[k * 3 + 2]? = some s2 ∧
    ∀ i, i < k * 3 → (((L.set (k * 3) s0).set (k * 3 + 1) s1).set (k * 3 + 2) s2)[i]? = L[i]? := by
  refine ⟨?_, ?_, ?_, fun i hi => ?_⟩
  · rw [List.getElem?_set_ne (by omega), List.getElem?_set_ne (by omega), List.getElem?_set_self (by omega)]
  · rw [List.getElem?_set_ne (by omega), List.getElem?_set_self (by simp; omega)]
  · rw [List.getElem?_set_self (by simp; omega)]
  · rw [List.getElem?_set_ne (by omega), List.getElem?_set_ne (by omega), List.getElem?_set_ne (by omega)]
/-- The row's k-th mail, in a row that is being made. -/
def mrow (B : Nat) (w : World) (L : List Value) (m : Ml) (j : Nat) : Prop := ∃ x : MlA, x.m = m ∧ L[j * 3]? = some (.string (str x.m.frm)) ∧ L[j * 3 + 1]? = some (.slice x.a1 x.m.to.length x.c1) ∧ L[j * 3 + 2]? = some (.slice x.a2 x.m.lines.length x.c2) ∧ OwnM B w x
theorem OwnM.low {B g i : Nat} {w : World} {x : MlA} (h : OwnM B w x) (hg : g < B) (z : Value) : OwnM B (w.setCell ⟨g, i, none⟩ z) x := ⟨h.1.off hg z, h.2.1.off hg z, h.2.2⟩
/-- A row of mails, all in blocks from B on. -/
def HiMs (B : Nat) (w : World) (a : Option Addr) (ys : List MlA) : Prop := (ys.length = 0 ∨ ∃ b, a = some ⟨b, 0, none⟩ ∧ B ≤ b ∧ b < w.heap.size ∧ ∀ i, (h : i < ys.length) → ∀ d v, (mlC ys[i])[d]? = some v → w.cell? ⟨b, 0 + i * 3 + d, none⟩ = some v) ∧ ∀ y ∈ ys, OwnM B w y
theorem HiMs.keep {B : Nat} {w w' : World} {a : Option Addr} {ys : List MlA} (h : HiMs B w a ys) (k : Below w.heap.size w w') : HiMs B w' a ys := by
  refine ⟨?_, fun y hy => (h.2 y hy).keep k⟩
  rcases h.1 with e | ⟨b, e, hB, hl, hc⟩
  · exact .inl e
  · exact .inr ⟨b, e, hB, Nat.lt_of_lt_of_le hl k.size, fun i hi d v hd => (below_at k hl).trans (hc i hi d v hd)⟩
theorem HiMs.low {B g i : Nat} {w : World} {a : Option Addr} {ys : List MlA} (h : HiMs B w a ys) (hg : g < B) (z : Value) : HiMs B (w.setCell ⟨g, i, none⟩ z) a ys := by
  refine ⟨?_, fun y hy => (h.2 y hy).low hg z⟩
  rcases h.1 with e | ⟨b, e, hB, hl, hc⟩
  · exact .inl e
  · exact .inr ⟨b, e, hB, by simpa [World.setCell] using hl, fun j hj d v hd => (cell_blk (by omega) _).trans (hc j hj d v hd)⟩
theorem HiMs.base {B C : Nat} {w : World} {a : Option Addr} {ys : List MlA} (h : HiMs B w a ys) (k : C ≤ B) : HiMs C w a ys := by
  refine ⟨?_, fun y hy => (h.2 y hy).base k⟩
  rcases h.1 with e | ⟨b, e, hB, hl, hc⟩
  · exact .inl e
  · exact .inr ⟨b, e, by omega, hl, hc⟩
theorem HiMs.rd {B M : Nat} {w : World} {a : Option Addr} {ys : List MlA} (h : HiMs B w a ys) (hs : ∀ y ∈ ys, SmallM M y.m) : RdMs M w a ys := by
  refine ⟨⟨rfl, ?_⟩, fun y hy => (h.2 y hy).rd (hs y hy)⟩
  rcases h.1 with e | ⟨b, e, hB, hl, hc⟩
  · exact .inl e
  · exact .inr ⟨b, 0, e, hl, hc⟩
/-- A row of mails of the call's own is returned. -/
def MsRet (ms : List Ml) (n : Nat) (w : World) (e : Ending) (w' : World) : Prop := ∃ (a : Option Addr) (ys : List MlA), e = .returned (.slice a n n) ∧ ys.map (·.m) = ms ∧ ys.length = n ∧ HiMs w.heap.size w' a ys ∧ (a = none → n = 0) ∧ Below w.heap.size w w'
set_option maxRecDepth 100000 in
set_option maxHeartbeats 4000000 in
theorem toMailS_any (a : Option Addr) (n c : Nat) (xs : List MlA) (w : World) (hx : xs.length = n) (h1 : RdMs 1048576 w a xs) (hn : n ≤ 1048576) :
    Calls Tryz.prog 79 #[.slice a n c] w (MsRet (xs.map (·.m)) n w) := by
  obtain ⟨i0, hi, hz0, hz1, hz2⟩ := info_parts mlInfo
  have HLEN := Lib.hid hx
  have HR := Lib.hid h1
  clear hx h1
  go_enter Tryz.func79, Tryz.ntmps79
  go_wp2_with (at_make; refine wpList_make_full _ rfl _ _ 58 rfl w.heap.size 33 i0 (.agg #[.string ⟨#[]⟩, .slice none 0 0, .slice none 0 0]) 3 Tryz.underlying58 hi hz0 hz1 _ _ (n : Int) (n : Int) n rfl rfl rfl rfl ?c1 ?c2 ?c3 ?_)
  case c1 => rw [hz2]; omega
  case c2 => unfold maxLen; omega
  case c3 => exact Nat.le_refl _
  intro w1 hown hgrow
  have hb1 : Below w.heap.size w w1 := (Below.refl _ _).grown hgrow (Nat.le_refl _) (fun k hk => by cases hk)
  have hsz1 := (hown.lt w.heap.size rfl).2
  go_wp2_with fail
  go_loopw [4] (fun i wr => ∃ (k : Nat) (L : List Value), k ≤ n ∧ i = .int .i64 k ∧ Below w.heap.size w wr ∧ wr.ownsRow w.heap.size 33 3 (.slice (some ⟨w.heap.size, 0, none⟩) n n) n L ∧ w.heap.size < wr.heap.size ∧ ∀ j, j < k → (hj : j < xs.length) → mrow (w.heap.size + 1) wr L xs[j].m j) (fun i _ => n - (intOf i).toNat)
  case atStart => exact ⟨0, _, Nat.zero_le _, rfl, hb1, hown, hsz1, fun j h => by omega⟩
  case round =>
    obtain ⟨k, L, hk, rfl, hb, hO, hzr, hL⟩ := hrel
    have HL := Lib.hid hL
    clear hL
    by_cases hlt : k < n
    · have dk : decide ((k : Int) < n) = true := decide_eq_true (by omega)
      have hkx : k < xs.length := by rw [HLEN.out]; exact hlt
      obtain ⟨b, off, rfl, hbl, q0, q1, q2, q3⟩ := (HR.out.below hb).at hkx
      have HC : Hid (Calls Tryz.prog 23 #[.agg #[.string (str xs[k].m.frm), .slice xs[k].a1 xs[k].m.to.length xs[k].c1, .slice xs[k].a2 xs[k].m.lines.length xs[k].c2]] wr (MalRet xs[k].m wr)) := toMail_any xs[k] wr q3
      have hlL : L.length = n * 3 := hO.1
      have h3 : k * 3 + 2 < L.length := by rw [hlL]; omega
      have HS3 := Lib.hid (set3_getM h3)
      clear q3
      obtain ⟨q, hq⟩ : ∃ q, q = xs[k].m := ⟨_, rfl⟩
      have HQ := Lib.hid hq
      rw [← hq] at HC q0 q1 q2
      clear hq
      generalize xs[k].a1 = aa1 at *
      generalize xs[k].a2 = aa2 at *
      generalize xs[k].c1 = cc1 at *
      generalize xs[k].c2 = cc2 at *
      go_wp2_with fail
      refine HC.out.mono ?_
      rintro e w2 ⟨x, hxq, rfl, hox, hb2⟩
      have HOX := Lib.hid hox
      have HXQ := Lib.hid hxq
      have hO2 := row_keepM hO hb2
      have hb02 := nx hb hb2
      have hz2' : w.heap.size < w2.heap.size := Nat.lt_of_lt_of_le hzr hb2.size
      obtain ⟨v0, hv0⟩ := row_cellM hO2 (k * 3) (by omega)
      obtain ⟨v1, hv1⟩ := row_cellM hO2 (k * 3 + 1) (by omega)
      obtain ⟨v2, hv2⟩ := row_cellM hO2 (k * 3 + 2) (by omega)
      have f0 : w2.frozen? ⟨w.heap.size, k * 3, none⟩ = false := hO2.frozenAt _
      have f1 : w2.frozen? ⟨w.heap.size, k * 3 + 1, none⟩ = false := hO2.frozenAt _
      have f2 : w2.frozen? ⟨w.heap.size, k * 3 + 2, none⟩ = false := hO2.frozenAt _
      have hmV : mlV x = .agg #[.string (str x.m.frm), .slice x.a1 x.m.to.length x.c1, .slice x.a2 x.m.lines.length x.c2] := rfl
      rw [hmV]
      have HST := Lib.hid (((hO2.stored (k * 3) (.string (str x.m.frm))).1.stored (k * 3 + 1) (.slice x.a1 x.m.to.length x.c1)).1.stored (k * 3 + 2) (.slice x.a2 x.m.lines.length x.c2)).1
      have HNX : Hid (∀ j, j < k + 1 → (hj : j < xs.length) → mrow (w.heap.size + 1) (((w2.setCell ⟨w.heap.size, k * 3, none⟩ (.string (str x.m.frm))).setCell ⟨w.heap.size, k * 3 + 1, none⟩ (.slice x.a1 x.m.to.length x.c1)).setCell ⟨w.heap.size, k * 3 + 2, none⟩ (.slice x.a2 x.m.lines.length x.c2)) (((L.set (k * 3) (.string (str x.m.frm))).set (k * 3 + 1) (.slice x.a1 x.m.to.length x.c1)).set (k * 3 + 2) (.slice x.a2 x.m.lines.length x.c2)) xs[j].m j) := fun j hj hjx => by
        obtain ⟨e0, e1, e2, e3⟩ := HS3.out (.string (str x.m.frm)) (.slice x.a1 x.m.to.length x.c1) (.slice x.a2 x.m.lines.length x.c2)
        by_cases e : j = k
        · subst e
          exact ⟨x, by rw [HXQ.out, HQ.out], e0, e1, e2, (((OwnM.base HOX.out (by omega)).low (Nat.lt_succ_self _) _).low (Nat.lt_succ_self _) _).low (Nat.lt_succ_self _) _⟩
        · obtain ⟨x0, k0, k1, k2, k3, k4⟩ := HL.out j (by omega) hjx
          exact ⟨x0, k0, by rw [e3 _ (by omega), k1], by rw [e3 _ (by omega), k2], by rw [e3 _ (by omega), k3], (((k4.keep hb2).low (Nat.lt_succ_self _) _).low (Nat.lt_succ_self _) _).low (Nat.lt_succ_self _) _⟩
      clear hlL h3 hO hO2 hox hxq hmV
      generalize str x.m.frm = xs0 at *
      generalize x.m.to.length = xn at *
      generalize x.m.lines.length = xk at *
      generalize x.a1 = xa at *
      generalize x.a2 = xb at *
      generalize x.c1 = xc at *
      generalize x.c2 = xd at *
      go_wp2
      go_roundw
      case rel => exact ⟨k + 1, _, by omega, by go_num, (((hb02.setCell (by simp) _).setCell (by simp) _).setCell (by simp) _), HST.out, by simpa using hz2', HNX.out⟩
      case measure => simp [intOf]; omega
    · have dk : decide ((k : Int) < n) = false := decide_eq_false (by omega)
      have hex : ∀ i, (h : i < xs.length) → ∃ x : MlA, x.m = xs[i].m ∧ L[i * 3]? = some (.string (str x.m.frm)) ∧ L[i * 3 + 1]? = some (.slice x.a1 x.m.to.length x.c1) ∧ L[i * 3 + 2]? = some (.slice x.a2 x.m.lines.length x.c2) ∧ OwnM (w.heap.size + 1) wr x := fun i h => HL.out i (by have := HLEN.out; omega) h
      have HYS : Hid (∃ ys : List MlA, ys.map (·.m) = xs.map (·.m) ∧ ys.length = n ∧ HiMs w.heap.size wr (some ⟨w.heap.size, 0, none⟩) ys) := by
        refine ⟨(List.range xs.length).map (fun i => if h : i < xs.length then Classical.choose (hex i h) else ⟨ml0, none, 0, none, 0⟩), ?_, by simp [HLEN.out], ?_⟩
        · apply List.ext_getElem (by simp)
          intro i h1 h2
          have hix : i < xs.length := by simpa using h2
          simp only [List.getElem_map, List.getElem_range]
          rw [dif_pos hix]
          exact (Classical.choose_spec (hex i hix)).1
        · have C : ∀ j z, L[j]? = some z → wr.cell? ⟨w.heap.size, 0 + j, none⟩ = some z := fun j z hz => by
            have := hO.cells (g := w.heap.size) rfl j z hz
            rw [add0] at this
            rw [Nat.zero_add]; exact this
          refine ⟨.inr ⟨w.heap.size, rfl, Nat.le_refl _, hzr, fun i hi d v hd => ?_⟩, fun x hx => ?_⟩
          · have hix : i < xs.length := by simpa using hi
            rw [List.getElem_map, List.getElem_range, dif_pos hix] at hd
            obtain ⟨_, k1, k2, k3, _⟩ := Classical.choose_spec (hex i hix)
            match d, hd with
            | 0, hd => injection hd with hd; subst hd; exact C _ _ k1
            | 1, hd => injection hd with hd; subst hd; rw [Nat.add_assoc]; exact C _ _ k2
            | 2, hd => injection hd with hd; subst hd; rw [Nat.add_assoc]; exact C _ _ k3
            | d + 3, hd => cases hd
          · obtain ⟨i, hi, rfl⟩ := List.mem_map.1 hx
            have hix : i < xs.length := List.mem_range.1 hi
            rw [dif_pos hix]
            obtain ⟨k0, _, _, _, k4⟩ := Classical.choose_spec (hex i hix)
            exact k4.base (Nat.le_succ _)
      clear hO hex
      go_wp2
      go_ret
      obtain ⟨ys, y1, y2, y3⟩ := HYS.out
      exact ⟨_, ys, rfl, y1, y2, y3, (fun h => by cases h), hb⟩
/-- Six cells that can be written. -/
def SF6 (w : World) (g : Nat) (v0 v1 v2 v3 v4 v5 : Value) : Prop := SK6 w g v0 v1 v2 v3 v4 v5 ∧ ∀ i, w.frozen? ⟨g, i, none⟩ = false
theorem SF6.new (w : World) (v0 v1 v2 v3 v4 v5 : Value) (t : TypeId) : SF6 (w.alloc (.cells #[v0, v1, v2, v3, v4, v5] t)) w.heap.size v0 v1 v2 v3 v4 v5 := ⟨SK6.new w v0 v1 v2 v3 v4 v5 t, fun i => by rw [World.frozen?_alloc_at _ _ _ _ rfl]⟩
theorem SF6.below {w w' : World} {g : Nat} {v0 v1 v2 v3 v4 v5 : Value} (h : SF6 w g v0 v1 v2 v3 v4 v5) (hb : Below w.heap.size w w') : SF6 w' g v0 v1 v2 v3 v4 v5 := by
  have hl := lt_of_cell h.1.1
  exact ⟨h.1.below hb, fun i => (below_fz hb hl).trans (h.2 i)⟩
theorem SF6.off {w : World} {g h i : Nat} {v0 v1 v2 v3 v4 v5 : Value} (k : SF6 w g v0 v1 v2 v3 v4 v5) (hne : h ≠ g) (u : Value) : SF6 (w.setCell ⟨h, i, none⟩ u) g v0 v1 v2 v3 v4 v5 :=
  ⟨⟨(cell_blk hne _).trans k.1.1, (cell_blk hne _).trans k.1.2.1, (cell_blk hne _).trans k.1.2.2.1, (cell_blk hne _).trans k.1.2.2.2.1, (cell_blk hne _).trans k.1.2.2.2.2.1, (cell_blk hne _).trans k.1.2.2.2.2.2⟩, fun j => (World.frozen?_setCell _ _ _ _).trans (k.2 j)⟩
theorem SK6.off {w : World} {g h i : Nat} {v0 v1 v2 v3 v4 v5 : Value} (k : SK6 w g v0 v1 v2 v3 v4 v5) (hne : h ≠ g) (u : Value) : SK6 (w.setCell ⟨h, i, none⟩ u) g v0 v1 v2 v3 v4 v5 :=
  ⟨(cell_blk hne _).trans k.1, (cell_blk hne _).trans k.2.1, (cell_blk hne _).trans k.2.2.1, (cell_blk hne _).trans k.2.2.2.1, (cell_blk hne _).trans k.2.2.2.2.1, (cell_blk hne _).trans k.2.2.2.2.2⟩
theorem SF6.mid {w : World} {g : Nat} {v0 v1 v2 v3 v4 v5 : Value} (h : SF6 w g v0 v1 v2 v3 v4 v5) (u2 u3 u4 : Value) : SF6 (((w.setCell ⟨g, 2, none⟩ u2).setCell ⟨g, 3, none⟩ u3).setCell ⟨g, 4, none⟩ u4) g v0 v1 u2 u3 u4 v5 := by
  obtain ⟨⟨h0, h1, h2, h3, h4, h5⟩, hf⟩ := h
  refine ⟨⟨?_, ?_, ?_, ?_, ?_, ?_⟩, fun i => ?_⟩
  · rw [cell_off (by omega), cell_off (by omega), cell_off (by omega)]; exact h0
  · rw [cell_off (by omega), cell_off (by omega), cell_off (by omega)]; exact h1
  · rw [cell_off (by omega), cell_off (by omega)]; exact cell_same h2 _
  · rw [cell_off (by omega)]; exact cell_same ((cell_off (by omega) _).trans h3) _
  · exact cell_same ((cell_off (by omega) _).trans ((cell_off (by omega) _).trans h4)) _
  · rw [cell_off (by omega), cell_off (by omega), cell_off (by omega)]; exact h5
  · rw [World.frozen?_setCell, World.frozen?_setCell, World.frozen?_setCell]; exact hf i
def SsRet (S : Ssn) (w : World) (e : Ending) (w' : World) : Prop := ∃ z : SsV, e = .returned (ssVal z) ∧ RdZ 1048576 w' z S ∧ Below w.heap.size w w'
theorem ssRet_mk {S : Ssn} {w w' : World} {st : Int} {hh : ByteArray} {x : MlA} {e : Option Addr} {r q B C : Nat} {ys : List MlA} (h1 : st = S.state) (h2 : hh = str S.host) (h3 : OwnM B w' x) (h4 : x.m = S.draft) (h5 : HiMs C w' e ys) (h6 : ys.map (·.m) = S.done) (h7 : ys.length = r) (h8 : r ≤ q) (h9 : e = none → q = 0) (hs : SmallS 1048576 S) (hb : Below w.heap.size w w') :
    SsRet S w (.returned (.agg #[.int .i64 st, .string hh, .string (str x.m.frm), .slice x.a1 x.m.to.length x.c1, .slice x.a2 x.m.lines.length x.c2, .slice e r q])) w' := by
  refine ⟨⟨st, hh, str x.m.frm, x.a1, x.m.to.length, x.c1, x.a2, x.m.lines.length, x.c2, e, r, q⟩, rfl, ⟨h1, h2, ?_, hs.1, ?_, h8, h9, ys, h6, h7, h5.rd (fun y hy => hs.2.2.2 y.m (by rw [← h6]; exact List.mem_map.2 ⟨y, hy, rfl⟩))⟩, hb⟩
  · have := RdV.of (h3.rd (M := 1048576) (by rw [h4]; exact hs.2.1))
    rw [h4] at this ⊢; exact this
  · have := hs.2.2.1
    rw [← h6, List.length_map, h7] at this; exact this
set_option maxRecDepth 100000 in
set_option maxHeartbeats 4000000 in
theorem toSession_any (z : SsV) (S : Ssn) (w : World) (h1 : RdZ 1048576 w z S) (hs : SmallS 1048576 S) :
    Calls Tryz.prog 33 #[ssVal z] w (SsRet S w) := by
  obtain ⟨st1, hh, s1, a1, n1, c1, b1, k1, d1, e1, r1, q1⟩ := z
  obtain ⟨f1, f2, f3, f4, f5, f6, f7, xs, f8, f9, f10⟩ := h1
  dsimp only at f1 f2 f3 f4 f5 f6 f7 f9 f10
  unfold ssVal
  dsimp only
  have HM : Hid (∀ u, Below w.heap.size w u → Calls Tryz.prog 23 #[.agg #[.string s1, .slice a1 n1 c1, .slice b1 k1 d1]] u (MalRet S.draft u)) := fun u hu => (f3.below hu).calls [] (fun x hx hr => hx ▸ toMail_any x u hr)
  have HD : Hid (∀ u, Below w.heap.size w u → Calls Tryz.prog 79 #[.slice e1 r1 q1] u (MsRet S.done r1 u)) := fun u hu => by
    rw [← f8]; exact toMailS_any e1 r1 q1 xs u f9 (f10.below hu) f5
  have F1 := Lib.hid f1
  have F2 := Lib.hid f2
  have HS := Lib.hid hs
  clear f1 f2 f3 f4 f5 f6 f7 f8 f9 f10 hs
  have hbA : Below w.heap.size w (w.alloc (.cells #[.int .i64 st1, .string hh, .string s1, .slice a1 n1 c1, .slice b1 k1 d1, .slice e1 r1 q1] 56)) := (Below.refl _ _).alloc (Nat.le_refl _) _
  have hbB : Below (w.alloc (.cells #[.int .i64 st1, .string hh, .string s1, .slice a1 n1 c1, .slice b1 k1 d1, .slice e1 r1 q1] 56)).heap.size (w.alloc (.cells #[.int .i64 st1, .string hh, .string s1, .slice a1 n1 c1, .slice b1 k1 d1, .slice e1 r1 q1] 56)) ((w.alloc (.cells #[.int .i64 st1, .string hh, .string s1, .slice a1 n1 c1, .slice b1 k1 d1, .slice e1 r1 q1] 56)).alloc (.cells #[.int .i64 0, .string ⟨#[]⟩, .string ⟨#[]⟩, .slice none 0 0, .slice none 0 0, .slice none 0 0] 60)) := (Below.refl _ _).alloc (Nat.le_refl _) _
  have hbC : Below ((w.alloc (.cells #[.int .i64 st1, .string hh, .string s1, .slice a1 n1 c1, .slice b1 k1 d1, .slice e1 r1 q1] 56)).alloc (.cells #[.int .i64 0, .string ⟨#[]⟩, .string ⟨#[]⟩, .slice none 0 0, .slice none 0 0, .slice none 0 0] 60)).heap.size ((w.alloc (.cells #[.int .i64 st1, .string hh, .string s1, .slice a1 n1 c1, .slice b1 k1 d1, .slice e1 r1 q1] 56)).alloc (.cells #[.int .i64 0, .string ⟨#[]⟩, .string ⟨#[]⟩, .slice none 0 0, .slice none 0 0, .slice none 0 0] 60)) (((w.alloc (.cells #[.int .i64 st1, .string hh, .string s1, .slice a1 n1 c1, .slice b1 k1 d1, .slice e1 r1 q1] 56)).alloc (.cells #[.int .i64 0, .string ⟨#[]⟩, .string ⟨#[]⟩, .slice none 0 0, .slice none 0 0, .slice none 0 0] 60)).alloc (.cells #[.int .i64 st1, .string hh, .string ⟨#[]⟩, .slice none 0 0, .slice none 0 0, .slice none 0 0] 60)) := (Below.refl _ _).alloc (Nat.le_refl _) _
  have hz1 : (w.alloc (.cells #[.int .i64 st1, .string hh, .string s1, .slice a1 n1 c1, .slice b1 k1 d1, .slice e1 r1 q1] 56)).heap.size = w.heap.size + 1 := by simp
  have hz2 : ((w.alloc (.cells #[.int .i64 st1, .string hh, .string s1, .slice a1 n1 c1, .slice b1 k1 d1, .slice e1 r1 q1] 56)).alloc (.cells #[.int .i64 0, .string ⟨#[]⟩, .string ⟨#[]⟩, .slice none 0 0, .slice none 0 0, .slice none 0 0] 60)).heap.size = w.heap.size + 1 + 1 := by simp
  have HP : Hid (SK6 (((w.alloc (.cells #[.int .i64 st1, .string hh, .string s1, .slice a1 n1 c1, .slice b1 k1 d1, .slice e1 r1 q1] 56)).alloc (.cells #[.int .i64 0, .string ⟨#[]⟩, .string ⟨#[]⟩, .slice none 0 0, .slice none 0 0, .slice none 0 0] 60)).alloc (.cells #[.int .i64 st1, .string hh, .string ⟨#[]⟩, .slice none 0 0, .slice none 0 0, .slice none 0 0] 60)) w.heap.size (.int .i64 st1) (.string hh) (.string s1) (.slice a1 n1 c1) (.slice b1 k1 d1) (.slice e1 r1 q1)) := ((SK6.new w _ _ _ _ _ _ _).below hbB).below hbC
  have HZ : Hid (SF6 (((w.alloc (.cells #[.int .i64 st1, .string hh, .string s1, .slice a1 n1 c1, .slice b1 k1 d1, .slice e1 r1 q1] 56)).alloc (.cells #[.int .i64 0, .string ⟨#[]⟩, .string ⟨#[]⟩, .slice none 0 0, .slice none 0 0, .slice none 0 0] 60)).alloc (.cells #[.int .i64 st1, .string hh, .string ⟨#[]⟩, .slice none 0 0, .slice none 0 0, .slice none 0 0] 60)) (w.heap.size + 1) (.int .i64 0) (.string ⟨#[]⟩) (.string ⟨#[]⟩) (.slice none 0 0) (.slice none 0 0) (.slice none 0 0)) := by
    have := (SF6.new (w.alloc (.cells #[.int .i64 st1, .string hh, .string s1, .slice a1 n1 c1, .slice b1 k1 d1, .slice e1 r1 q1] 56)) (.int .i64 0) (.string ⟨#[]⟩) (.string ⟨#[]⟩) (.slice none 0 0) (.slice none 0 0) (.slice none 0 0) 60).below hbC
    rw [hz1] at this; exact this
  have HO : Hid (SF6 (((w.alloc (.cells #[.int .i64 st1, .string hh, .string s1, .slice a1 n1 c1, .slice b1 k1 d1, .slice e1 r1 q1] 56)).alloc (.cells #[.int .i64 0, .string ⟨#[]⟩, .string ⟨#[]⟩, .slice none 0 0, .slice none 0 0, .slice none 0 0] 60)).alloc (.cells #[.int .i64 st1, .string hh, .string ⟨#[]⟩, .slice none 0 0, .slice none 0 0, .slice none 0 0] 60)) (w.heap.size + 1 + 1) (.int .i64 st1) (.string hh) (.string ⟨#[]⟩) (.slice none 0 0) (.slice none 0 0) (.slice none 0 0)) := by
    have := SF6.new ((w.alloc (.cells #[.int .i64 st1, .string hh, .string s1, .slice a1 n1 c1, .slice b1 k1 d1, .slice e1 r1 q1] 56)).alloc (.cells #[.int .i64 0, .string ⟨#[]⟩, .string ⟨#[]⟩, .slice none 0 0, .slice none 0 0, .slice none 0 0] 60)) (.int .i64 st1) (.string hh) (.string ⟨#[]⟩) (.slice none 0 0) (.slice none 0 0) (.slice none 0 0) 60
    rw [hz2] at this; exact this
  have hb0 := nx hbA (nx hbB hbC)
  have hsz : w.heap.size + 1 + 1 < (((w.alloc (.cells #[.int .i64 st1, .string hh, .string s1, .slice a1 n1 c1, .slice b1 k1 d1, .slice e1 r1 q1] 56)).alloc (.cells #[.int .i64 0, .string ⟨#[]⟩, .string ⟨#[]⟩, .slice none 0 0, .slice none 0 0, .slice none 0 0] 60)).alloc (.cells #[.int .i64 st1, .string hh, .string ⟨#[]⟩, .slice none 0 0, .slice none 0 0, .slice none 0 0] 60)).heap.size := by simp
  clear hbA hbB hbC hz1 hz2
  go_enter Tryz.func33, Tryz.ntmps33
  go_wp2_with fail
  generalize (((w.alloc (.cells #[.int .i64 st1, .string hh, .string s1, .slice a1 n1 c1, .slice b1 k1 d1, .slice e1 r1 q1] 56)).alloc (.cells #[.int .i64 0, .string ⟨#[]⟩, .string ⟨#[]⟩, .slice none 0 0, .slice none 0 0, .slice none 0 0] 60)).alloc (.cells #[.int .i64 st1, .string hh, .string ⟨#[]⟩, .slice none 0 0, .slice none 0 0, .slice none 0 0] 60)) = W0 at *
  refine (HM.out W0 hb0).mono ?_
  rintro e w1 ⟨x, hxm, rfl, ho1, hb1⟩
  have hs1 := hb1.size
  have hmV : mlV x = .agg #[.string (str x.m.frm), .slice x.a1 x.m.to.length x.c1, .slice x.a2 x.m.lines.length x.c2] := rfl
  rw [hmV]
  have HXM := Lib.hid hxm
  have HP1 := Lib.hid (HP.out.below hb1)
  have HZ1 := Lib.hid (HZ.out.below hb1)
  have HO1 := Lib.hid (HO.out.below hb1)
  have HW1 := Lib.hid ho1
  have hb01 := nx hb0 hb1
  clear ho1 hxm hmV
  obtain ⟨y0, y1, y2, y3, y4, y5⟩ := HP1.out
  obtain ⟨⟨o0, o1, o2, o3, o4, o5⟩, of⟩ := HO1.out
  obtain ⟨xs0, hxs0⟩ : ∃ v, v = str x.m.frm := ⟨_, rfl⟩
  obtain ⟨xn, hxn⟩ : ∃ v, v = x.m.to.length := ⟨_, rfl⟩
  obtain ⟨xk, hxk⟩ : ∃ v, v = x.m.lines.length := ⟨_, rfl⟩
  obtain ⟨xa, hxa⟩ : ∃ v, v = x.a1 := ⟨_, rfl⟩
  obtain ⟨xc, hxc⟩ : ∃ v, v = x.c1 := ⟨_, rfl⟩
  obtain ⟨xb, hxb⟩ : ∃ v, v = x.a2 := ⟨_, rfl⟩
  obtain ⟨xd, hxd⟩ : ∃ v, v = x.c2 := ⟨_, rfl⟩
  rw [← hxs0, ← hxn, ← hxk, ← hxa, ← hxc, ← hxb, ← hxd]
  have HXE : Hid (∀ v : Value, v = .agg #[.int .i64 st1, .string hh, .string xs0, .slice xa xn xc, .slice xb xk xd] → v = .agg #[.int .i64 st1, .string hh, .string (str x.m.frm), .slice x.a1 x.m.to.length x.c1, .slice x.a2 x.m.lines.length x.c2]) := fun v hv => by rw [hv, hxs0, hxn, hxk, hxa, hxc, hxb, hxd]
  have HRT : Hid (∀ (e : Option Addr) (r q B C : Nat) (ys : List MlA) (w' : World), OwnM B w' x → HiMs C w' e ys → ys.map (·.m) = S.done → ys.length = r → r ≤ q → (e = none → q = 0) → Below w.heap.size w w' → SsRet S w (.returned (.agg #[.int .i64 st1, .string hh, .string xs0, .slice xa xn xc, .slice xb xk xd, .slice e r q])) w') := fun e r q B C ys w' p1 p2 p3 p4 p5 p6 p7 => by
    rw [hxs0, hxn, hxk, hxa, hxc, hxb, hxd]
    exact ssRet_mk F1.out F2.out p1 HXM.out p2 p3 p4 p5 p6 HS.out p7
  clear hxs0 hxn hxk hxa hxc hxb hxd HXE
  go_upto_region 5 with fail
  clear y0 y1 y2 y3 y4 y5 o0 o1 o2 o3 o4 o5 of
  have hne : w.heap.size + 1 + 1 ≠ w.heap.size := by omega
  have hne2 : w.heap.size + 1 + 1 ≠ w.heap.size + 1 := by omega
  have HP2 := Lib.hid (((HP1.out.off (i := 2) hne (.string xs0)).off (i := 3) hne (.slice xa xn xc)).off (i := 4) hne (.slice xb xk xd))
  have HZ2 := Lib.hid (((HZ1.out.off (i := 2) hne2 (.string xs0)).off (i := 3) hne2 (.slice xa xn xc)).off (i := 4) hne2 (.slice xb xk xd))
  have HO2 := Lib.hid (HO1.out.mid (.string xs0) (.slice xa xn xc) (.slice xb xk xd))
  have HW2 := Lib.hid (((HW1.out.low (g := w.heap.size + 1 + 1) (i := 2) (by omega) (.string xs0)).low (g := w.heap.size + 1 + 1) (i := 3) (by omega) (.slice xa xn xc)).low (g := w.heap.size + 1 + 1) (i := 4) (by omega) (.slice xb xk xd))
  have hb2 : Below w.heap.size w (((w1.setCell ⟨w.heap.size + 1 + 1, 2, none⟩ (.string xs0)).setCell ⟨w.heap.size + 1 + 1, 3, none⟩ (.slice xa xn xc)).setCell ⟨w.heap.size + 1 + 1, 4, none⟩ (.slice xb xk xd)) := ((hb01.setCell (by show w.heap.size ≤ w.heap.size + 1 + 1; omega) _).setCell (by show w.heap.size ≤ w.heap.size + 1 + 1; omega) _).setCell (by show w.heap.size ≤ w.heap.size + 1 + 1; omega) _
  have hs2 : W0.heap.size ≤ (((w1.setCell ⟨w.heap.size + 1 + 1, 2, none⟩ (.string xs0)).setCell ⟨w.heap.size + 1 + 1, 3, none⟩ (.slice xa xn xc)).setCell ⟨w.heap.size + 1 + 1, 4, none⟩ (.slice xb xk xd)).heap.size := by simpa [World.setCell] using hs1
  generalize ((w1.setCell ⟨w.heap.size + 1 + 1, 2, none⟩ (.string xs0)).setCell ⟨w.heap.size + 1 + 1, 3, none⟩ (.slice xa xn xc)).setCell ⟨w.heap.size + 1 + 1, 4, none⟩ (.slice xb xk xd) = w2 at *
  clear HP1 HZ1 HO1 HW1 hb1 hb01 hs1 hne hne2
  obtain ⟨y0, y1, y2, y3, y4, y5⟩ := HP2.out
  go_wp2_with fail
  refine (HD.out w2 hb2).mono ?_
  rintro e w3 ⟨e3, ys, rfl, hy1, hy2, hy3, hy4, hb3⟩
  have hs3 := hb3.size
  have HZ3 := Lib.hid (HZ2.out.below hb3)
  have HO3 := Lib.hid (HO2.out.below hb3)
  have HW3 := Lib.hid (HW2.out.keep hb3)
  have HY3 := Lib.hid hy3
  have HYA := Lib.hid hy1
  have HYB := Lib.hid hy2
  have HYC := Lib.hid hy4
  have hb03 := nx hb2 hb3
  clear hy1 hy2 hy3 hy4 y0 y1 y2 y3 y4 y5 HP2 HZ2 HO2 HW2
  obtain ⟨⟨o0, o1, o2, o3, o4, o5⟩, of⟩ := HO3.out
  obtain ⟨⟨q0, q1', q2, q3, q4, q5⟩, qf⟩ := HZ3.out
  go_wp2
  refine bodyPost_ret (v := .agg #[.int .i64 st1, .string hh, .string xs0, .slice xa xn xc, .slice xb xk xd, .slice e3 r1 r1]) (by simp [results, Tryz.results33, go_sem, q0, q1', q2, q3, q4, q5]) rfl ?_
  exact HRT.out e3 r1 r1 W0.heap.size w2.heap.size ys _ (((((((HW3.out.low (g := w.heap.size + 1 + 1) (i := 5) (by omega) _).low (g := w.heap.size + 1) (i := 0) (by omega) _).low (g := w.heap.size + 1) (i := 1) (by omega) _).low (g := w.heap.size + 1) (i := 2) (by omega) _).low (g := w.heap.size + 1) (i := 3) (by omega) _).low (g := w.heap.size + 1) (i := 4) (by omega) _).low (g := w.heap.size + 1) (i := 5) (by omega) _) (((((((HY3.out.low (g := w.heap.size + 1 + 1) (i := 5) (by omega) _).low (g := w.heap.size + 1) (i := 0) (by omega) _).low (g := w.heap.size + 1) (i := 1) (by omega) _).low (g := w.heap.size + 1) (i := 2) (by omega) _).low (g := w.heap.size + 1) (i := 3) (by omega) _).low (g := w.heap.size + 1) (i := 4) (by omega) _).low (g := w.heap.size + 1) (i := 5) (by omega) _) HYA.out HYB.out (Nat.le_refl _) HYC.out (((((((hb03.setCell (by show w.heap.size ≤ w.heap.size + 1 + 1; omega) _).setCell (by show w.heap.size ≤ w.heap.size + 1; omega) _).setCell (by show w.heap.size ≤ w.heap.size + 1; omega) _).setCell (by show w.heap.size ≤ w.heap.size + 1; omega) _).setCell (by show w.heap.size ≤ w.heap.size + 1; omega) _).setCell (by show w.heap.size ≤ w.heap.size + 1; omega) _).setCell (by show w.heap.size ≤ w.heap.size + 1; omega) _)
end Go.Proofs.YtombejhpfobehaaGreatDoor
end

section
namespace Go.Proofs.YtombejhpfobehaaGreatDoor
open Go.ChangeShapes Go.WideShapes Go.ChangeAt Go.RowKit
open Go.ChangeMaps (open_string shut_string)
open Go.Deep

theorem cells3m {H : Type} {enc : TypeId × Value → H} {P : Program} {W : World} {base : Nat} {spare : Nat → Bool} {held : Bool} {T : TypeId} {f0 f1 f2 : Field} {f : Nat} {cs : List Value} {x : DataW H × List MemPlace} (hs : P.underlying T = some (.struct #[f0, f1, f2])) (hone : oneCellFields P #[f0, f1, f2] = true)
    (h : DataW.trod enc P W base spare held f T cs = some x) (hl : cs.length = 3) :
    ∃ c0 c1 c2 y0 y1 y2 n, cs = [c0, c1, c2] ∧ DataW.trod enc P W base spare held n f0.type [c0] = some y0 ∧ DataW.trod enc P W base spare held n f1.type [c1] = some y1 ∧ DataW.trod enc P W base spare held n f2.type [c2] = some y2 := by
  obtain ⟨ys, n', hn', hy, hlen, hyl, hf⟩ := DataW.trod_struct hs h
  match cs, hl with
  | [c0, c1, c2], _ =>
    have g0 := hf 0 f0 rfl
    have g1 := hf 1 f1 rfl
    have g2 := hf 2 f2 rfl
    obtain ⟨o0, k0⟩ := hone_of hone 0 f0 rfl
    obtain ⟨o1, k1⟩ := hone_of hone 1 f1 rfl
    obtain ⟨o2, k2⟩ := hone_of hone 2 f2 rfl
    rw [o0, k0] at g0
    rw [o1, k1] at g1
    rw [o2, k2] at g2
    match ys, hyl with
    | [y0, y1, y2], _ => exact ⟨c0, c1, c2, y0, y1, y2, n', rfl, g0, g1, g2⟩
set_option maxRecDepth 100000 in
theorem mail_cells {H : Type} {enc : TypeId × Value → H} {W : World} {m : Nat} {cs : List Value} {x : DataW H × List MemPlace} (hl : cs.length = 3) (h : DataW.trod enc Tryz.prog W 0 (fun _ => true) true m 38 cs = some x) :
    ∃ y : MlA, cs = mlC y ∧ RdM maxLen W y := by
  obtain ⟨c0, c1, c2, y0, y1, y2, n, rfl, g0, g1, g2⟩ := cells3m Tryz.underlying38 (by kernel_rfl) h hl
  obtain ⟨s0, e0, _, z0⟩ := DataW.trod_string Tryz.underlying9 g0
  injection e0 with e0 _
  subst e0
  obtain ⟨a1, k1, xs, rfl, r1, n1, l1⟩ := strs_sliceN g1
  obtain ⟨a2, k2, ys, rfl, r2, n2, l2⟩ := strs_sliceN g2
  exact ⟨⟨⟨s0.data.toList, xs, ys⟩, a1, k1, a2, k2⟩, by unfold mlC; dsimp only; rw [str_of], r1, r2, z0, n1, l1, n2, l2⟩
theorem addr_noneM (b o j : Nat) : (⟨b, o, none⟩ : Addr).add j = ⟨b, o + j, none⟩ := by unfold Addr.add; split <;> simp_all
set_option maxRecDepth 100000 in
theorem mails_slice {H : Type} {enc : TypeId × Value → H} {W : World} {m : Nat} {c : Value} {y : DataW H × List MemPlace} (h : DataW.trod enc Tryz.prog W 0 (fun _ => true) true m 54 [c] = some y) :
    ∃ (a : Option Addr) (n k : Nat) (xs : List MlA), c = .slice a n k ∧ xs.length = n ∧ n ≤ maxLen ∧ n ≤ k ∧ (a = none → k = 0) ∧ RdMs maxLen W a xs := by
  have hC : Tryz.prog.cellsOf 38 = 3 := by kernel_rfl
  rcases DataW.trod_slice Tryz.underlying54 h with ⟨e, _⟩ | ⟨g, len, cap, elems, rest, n, hn, e, _, _, hlc, hcm, hel, hi, _⟩
  · injection e with e _
    subst e
    exact ⟨none, 0, 0, [], rfl, rfl, Nat.zero_le _, Nat.le_refl _, fun _ => rfl, ⟨rfl, .inl rfl⟩, fun x hx => by cases hx⟩
  · injection e with e _
    subst e
    have hq : ∀ i, i < len → ∃ (x : MlA), W.cell? (g.add (i * 3)) = some (.string (str x.m.frm)) ∧ W.cell? (g.add (i * 3 + 1)) = some (.slice x.a1 x.m.to.length x.c1) ∧ W.cell? (g.add (i * 3 + 2)) = some (.slice x.a2 x.m.lines.length x.c2) ∧ RdM maxLen W x := by
      intro i hil
      have := hi i hil
      rw [List.getElem?_eq_getElem (by omega)] at this
      obtain ⟨cs, hc, ht⟩ := Option.bind_eq_some_iff.1 this
      rw [hC] at hc
      obtain ⟨_, hcl, hat⟩ := World.cells?_some hc
      obtain ⟨x, rfl, hp⟩ := mail_cells hcl ht
      have a0 := hat 0 (by omega)
      have a1 := hat 1 (by omega)
      have a2 := hat 2 (by omega)
      rw [Go.Deep.add_add] at a0 a1 a2
      exact ⟨x, a0, a1, a2, hp⟩
    obtain ⟨b, off, spot⟩ := g
    refine ⟨_, len, cap, (List.range len).map (fun i => if h : i < len then Classical.choose (hq i h) else ⟨ml0, none, 0, none, 0⟩), rfl, by simp, by omega, hlc, (fun e => by cases e), ⟨by simp, ?_⟩, fun x hx => ?_⟩
    · by_cases h0 : len = 0
      · exact .inl (by simp [h0])
      · obtain ⟨_, c0, _⟩ := hq 0 (by omega)
        have hspot : spot = none := by simpa [Addr.add] using World.cell?_spot c0
        subst hspot
        rw [addr_noneM] at c0
        refine .inr ⟨b, off, rfl, lt_of_cell c0, fun i hi' d v hd => ?_⟩
        have hil : i < len := by simpa using hi'
        obtain ⟨a0, a1, a2, _⟩ := Classical.choose_spec (hq i hil)
        have E : ∀ j, W.cell? ⟨b, off + j, none⟩ = W.cell? ((⟨b, off, none⟩ : Addr).add j) := fun j => by rw [addr_noneM]
        rw [List.getElem_map, List.getElem_range, dif_pos hil] at hd
        match d, hd with
        | 0, hd => injection hd with hd; subst hd; exact (E _).trans a0
        | 1, hd => injection hd with hd; subst hd; rw [Nat.add_assoc]; exact (E _).trans a1
        | 2, hd => injection hd with hd; subst hd; rw [Nat.add_assoc]; exact (E _).trans a2
        | d + 3, hd => cases hd
    · obtain ⟨i, hi, rfl⟩ := List.mem_map.1 hx
      have hil : i < len := List.mem_range.1 hi
      rw [dif_pos hil]
      exact (Classical.choose_spec (hq i hil)).2.2.2
set_option maxRecDepth 100000 in
theorem open_ssnV {H : Type} {enc : TypeId × Value → H} {W : World} {r : Reach} {b0 : Nat} {v : Value} {d : DataW H} {p : List MemPlace} (hv : Value.okWide Tryz.prog W r b0 56 v)
    (h : DataW.Trod enc Tryz.prog W 0 (fun _ => true) true 56 v d p) : ∃ (z : SsV) (S : Ssn), v = ssVal z ∧ RdZ maxLen W z S := by
  obtain ⟨cs, rfl, hsz⟩ := okWide_struct Tryz.underlying56 hv
  have hC : Tryz.prog.cellsOf 56 = 6 := by kernel_rfl
  rw [hC] at hsz
  obtain ⟨fuel, hf⟩ := h
  obtain ⟨ys, n, hn, hy, hlen, hyl, hfs⟩ := DataW.trod_struct Tryz.underlying56 hf
  obtain ⟨c0, c1, c2, c3, c4, c5, rfl⟩ : ∃ c0 c1 c2 c3 c4 c5, cs = #[c0, c1, c2, c3, c4, c5] := by
    obtain ⟨l⟩ := cs
    match l, hsz with
    | [c0, c1, c2, c3, c4, c5], _ => exact ⟨c0, c1, c2, c3, c4, c5, rfl⟩
  match ys, hyl with
  | [y0, y1, y2, y3], _ =>
    have g0 := hfs 0 _ rfl
    have g1 := hfs 1 _ rfl
    have g2 := hfs 2 _ rfl
    have g3 := hfs 3 _ rfl
    simp only [Value.cells] at g0 g1 g2 g3
    have g0' : DataW.trod enc Tryz.prog W 0 (fun _ => true) true n 3 [c0] = some y0 := g0
    have g1' : DataW.trod enc Tryz.prog W 0 (fun _ => true) true n 9 [c1] = some y1 := g1
    have g2' : DataW.trod enc Tryz.prog W 0 (fun _ => true) true n 38 [c2, c3, c4] = some y2 := g2
    have g3' : DataW.trod enc Tryz.prog W 0 (fun _ => true) true n 54 [c5] = some y3 := g3
    obtain ⟨n0, e0, _⟩ := DataW.trod_int Tryz.underlying3 g0'
    injection e0 with e0 _
    subst e0
    obtain ⟨s1, e1, _, z1⟩ := DataW.trod_string Tryz.underlying9 g1'
    injection e1 with e1 _
    subst e1
    obtain ⟨x, ex, hx⟩ := mail_cells rfl g2'
    injection ex with e2 ex
    injection ex with e3 ex
    injection ex with e4 _
    subst e2 e3 e4
    obtain ⟨a, nn, k, xs, rfl, hl, hm, hk, hak, hr⟩ := mails_slice g3'
    exact ⟨⟨n0, s1, str x.m.frm, x.a1, x.m.to.length, x.c1, x.a2, x.m.lines.length, x.c2, a, nn, k⟩, ⟨n0, s1.data.toList, x.m, xs.map (·.m)⟩, rfl, ⟨rfl, (str_of s1).symm, RdV.of hx, z1, hm, hk, hak, xs, rfl, hl, hr⟩⟩
end Go.Proofs.YtombejhpfobehaaGreatDoor
end

section
namespace Go.Proofs.YtombejhpfobehaaGreatDoor
open Go.ChangeShapes Go.WideShapes Go.ChangeAt Go.RowKit
open Go.ChangeMaps (open_string shut_string)
open Go.Deep

theorem cells2m {H : Type} {enc : TypeId × Value → H} {P : Program} {W : World} {base : Nat} {spare : Nat → Bool} {held : Bool} {T : TypeId} {f0 f1 : Field} {f : Nat} {cs : List Value} {x : DataW H × List MemPlace} (hs : P.underlying T = some (.struct #[f0, f1])) (hone : oneCellFields P #[f0, f1] = true)
    (h : DataW.trod enc P W base spare held f T cs = some x) (hl : cs.length = 2) :
    ∃ c0 c1 y0 y1 n, cs = [c0, c1] ∧ DataW.trod enc P W base spare held n f0.type [c0] = some y0 ∧ DataW.trod enc P W base spare held n f1.type [c1] = some y1 := by
  obtain ⟨ys, n', hn', hy, hlen, hyl, hf⟩ := DataW.trod_struct hs h
  match cs, hl with
  | [c0, c1], _ =>
    have g0 := hf 0 f0 rfl
    have g1 := hf 1 f1 rfl
    obtain ⟨o0, k0⟩ := hone_of hone 0 f0 rfl
    obtain ⟨o1, k1⟩ := hone_of hone 1 f1 rfl
    rw [o0, k0] at g0
    rw [o1, k1] at g1
    match ys, hyl with
    | [y0, y1], _ => exact ⟨c0, c1, y0, y1, n', rfl, g0, g1⟩
set_option maxRecDepth 100000 in
theorem box_cells {H : Type} {enc : TypeId × Value → H} {W : World} {m : Nat} {cs : List Value} {x : DataW H × List MemPlace} (hl : cs.length = 2) (h : DataW.trod enc Tryz.prog W 0 (fun _ => true) true m 75 cs = some x) :
    ∃ y : BxA, cs = bxC y ∧ RdBx maxLen W y := by
  obtain ⟨c0, c1, y0, y1, n, rfl, g0, g1⟩ := cells2m Tryz.underlying75 (by kernel_rfl) h hl
  obtain ⟨s0, e0, _, z0⟩ := DataW.trod_string Tryz.underlying9 g0
  injection e0 with e0 _
  subst e0
  obtain ⟨a, nn, k, xs, rfl, hl', hm, hk, hak, hr⟩ := mails_slice g1
  subst hl'
  exact ⟨⟨s0.data.toList, xs, a, k⟩, by unfold bxC; dsimp only; rw [str_of], hr, z0, hm, hk, hak⟩
set_option maxRecDepth 100000 in
theorem boxes_slice {H : Type} {enc : TypeId × Value → H} {W : World} {m : Nat} {c : Value} {y : DataW H × List MemPlace} (h : DataW.trod enc Tryz.prog W 0 (fun _ => true) true m 22 [c] = some y) :
    ∃ (a : Option Addr) (n k : Nat) (xs : List BxA), c = .slice a n k ∧ xs.length = n ∧ n ≤ maxLen ∧ n ≤ k ∧ (a = none → k = 0) ∧ RdBs maxLen W a xs := by
  have hC : Tryz.prog.cellsOf 75 = 2 := by kernel_rfl
  rcases DataW.trod_slice Tryz.underlying22 h with ⟨e, _⟩ | ⟨g, len, cap, elems, rest, n, hn, e, _, _, hlc, hcm, hel, hi, _⟩
  · injection e with e _
    subst e
    exact ⟨none, 0, 0, [], rfl, rfl, Nat.zero_le _, Nat.le_refl _, fun _ => rfl, ⟨rfl, .inl rfl⟩, fun x hx => by cases hx⟩
  · injection e with e _
    subst e
    have hq : ∀ i, i < len → ∃ (x : BxA), W.cell? (g.add (i * 2)) = some (.string (str x.path)) ∧ W.cell? (g.add (i * 2 + 1)) = some (.slice x.a x.xs.length x.c) ∧ RdBx maxLen W x := by
      intro i hil
      have := hi i hil
      rw [List.getElem?_eq_getElem (by omega)] at this
      obtain ⟨cs, hc, ht⟩ := Option.bind_eq_some_iff.1 this
      rw [hC] at hc
      obtain ⟨_, hcl, hat⟩ := World.cells?_some hc
      obtain ⟨x, rfl, hp⟩ := box_cells hcl ht
      have a0 := hat 0 (by omega)
      have a1 := hat 1 (by omega)
      rw [Go.Deep.add_add] at a0 a1
      exact ⟨x, a0, a1, hp⟩
    obtain ⟨b, off, spot⟩ := g
    refine ⟨_, len, cap, (List.range len).map (fun i => if h : i < len then Classical.choose (hq i h) else ⟨[], [], none, 0⟩), rfl, by simp, by omega, hlc, (fun e => by cases e), ⟨by simp, ?_⟩, fun x hx => ?_⟩
    · by_cases h0 : len = 0
      · exact .inl (by simp [h0])
      · obtain ⟨_, c0, _⟩ := hq 0 (by omega)
        have hspot : spot = none := by simpa [Addr.add] using World.cell?_spot c0
        subst hspot
        rw [addr_noneM] at c0
        refine .inr ⟨b, off, rfl, lt_of_cell c0, fun i hi' d v hd => ?_⟩
        have hil : i < len := by simpa using hi'
        obtain ⟨a0, a1, _⟩ := Classical.choose_spec (hq i hil)
        have E : ∀ j, W.cell? ⟨b, off + j, none⟩ = W.cell? ((⟨b, off, none⟩ : Addr).add j) := fun j => by rw [addr_noneM]
        rw [List.getElem_map, List.getElem_range, dif_pos hil] at hd
        match d, hd with
        | 0, hd => injection hd with hd; subst hd; exact (E _).trans a0
        | 1, hd => injection hd with hd; subst hd; rw [Nat.add_assoc]; exact (E _).trans a1
        | d + 2, hd => cases hd
    · obtain ⟨i, hi, rfl⟩ := List.mem_map.1 hx
      have hil : i < len := List.mem_range.1 hi
      rw [dif_pos hil]
      exact (Classical.choose_spec (hq i hil)).2.2
set_option maxRecDepth 100000 in
theorem open_bxs {H : Type} {enc : TypeId × Value → H} {W : World} {r : Reach} {b0 : Nat} {v : Value} {d : DataW H} {p : List MemPlace} (hv : Value.okWide Tryz.prog W r b0 22 v)
    (h : DataW.Trod enc Tryz.prog W 0 (fun _ => true) true 22 v d p) : ∃ (a : Option Addr) (n c : Nat) (xs : List BxA), v = .slice a n c ∧ (xs.length = n ∧ n ≤ maxLen ∧ n ≤ c ∧ (a = none → c = 0) ∧ RdBs maxLen W a xs) := by
  obtain ⟨a, n, c, rfl⟩ := okWide_slice Tryz.underlying22 hv
  obtain ⟨m, hm⟩ := h
  obtain ⟨a', n', c', xs, e, h1⟩ := boxes_slice (c := .slice a n c) hm
  injection e with e1 e2 e3
  subst e1 e2 e3
  exact ⟨a, n, c, xs, rfl, h1⟩
def SizedB (t : Int) (b : Bx) (w : World) (e : Ending) (w' : World) : Prop := ∃ r : Int, e = .returned (.int .i64 r) ∧ -1 ≤ r ∧ r ≤ t ∧ (0 ≤ r → SmallBx 1048576 b) ∧ Below w.heap.size w w'
theorem sizedB_no {t : Int} {b : Bx} {w w' : World} (ht : 0 ≤ t) (hb : Below w.heap.size w w') : SizedB t b w (.returned (.int .i64 (-1))) w' := ⟨-1, rfl, by omega, by omega, fun h => by omega, hb⟩
set_option maxRecDepth 100000 in
set_option maxHeartbeats 2000000 in
theorem szBox_any (x : BxA) (t : Int) (w : World) (h1 : RdBx maxLen w x) (ht0 : 0 ≤ t) (ht : t ≤ 1048576) :
    Calls Tryz.prog 44 #[.agg #[.string (str x.path), .slice x.a x.xs.length x.c], .int .i64 t] w (SizedB t x.b w) := by
  have HF := Lib.hid (str_size x.path)
  have z0 : (str x.path).size ≤ 9223372036854775807 := by rw [str_size]; have := h1.2.1; unfold maxLen at this; omega
  have HB : Hid (x.b.path = x.path ∧ x.b.mails = x.xs.map (·.m) ∧ x.b.mails.length = x.xs.length) := ⟨rfl, rfl, by unfold BxA.b; simp⟩
  have H1 : Hid (∀ (q : Int) u, 0 ≤ q → q ≤ 1048576 → Below w.heap.size w u → Calls Tryz.prog 76 #[.slice x.a x.xs.length x.c, .int .i64 q] u (SizedNs q x.b.mails u)) := fun q u h0 hq hb => szMailS_any x.a x.xs.length x.c x.xs q u rfl (h1.1.below hb) h1.2.2.1 h0 (by omega)
  clear h1
  generalize x.b = bb at *
  generalize str x.path = s1 at *
  generalize x.xs.length = n1 at *
  generalize x.a = a1 at *
  generalize x.c = c1 at *
  have hA : Below w.heap.size w (w.alloc (.cells #[.string s1, .slice a1 n1 c1] 75)) := (Below.refl _ _).alloc (Nat.le_refl _) _
  by_cases k0 : t - s1.size < 0
  · go_enter Tryz.func44, Tryz.ntmps44
    go_wp2
    go_ret
    exact sizedB_no ht0 hA
  · go_enter Tryz.func44, Tryz.ntmps44
    go_wp2_with fail
    refine (H1.out _ _ (by omega) (by omega) hA).mono ?_
    rintro e w1 ⟨r1, rfl, hr1, hr2, hsz1, hb1⟩
    have HS1 := Lib.hid hsz1
    have hb01 := nx hA hb1
    clear hsz1
    by_cases k1 : r1 < 0
    · go_wp2
      go_ret
      exact sizedB_no ht0 hb01
    · go_wp2
      go_ret
      exact ⟨r1, rfl, by omega, by omega, fun h => ⟨by rw [HB.out.1]; have := HF.out; omega, (HS1.out (by omega)).1, (HS1.out (by omega)).2⟩, hb01⟩
def SizedBs (t : Int) (bs : List Bx) (w : World) (e : Ending) (w' : World) : Prop := ∃ r : Int, e = .returned (.int .i64 r) ∧ -1 ≤ r ∧ r ≤ t ∧ (0 ≤ r → bs.length ≤ 1048576 ∧ ∀ b ∈ bs, SmallBx 1048576 b) ∧ Below w.heap.size w w'
theorem sizedBs_no {t : Int} {bs : List Bx} {w w' : World} (ht : 0 ≤ t) (hb : Below w.heap.size w w') : SizedBs t bs w (.returned (.int .i64 (-1))) w' := ⟨-1, rfl, by omega, by omega, fun h => by omega, hb⟩
set_option maxRecDepth 100000 in
set_option maxHeartbeats 4000000 in
theorem szBoxS_any (a : Option Addr) (n c : Nat) (xs : List BxA) (t : Int) (w : World) (hx : xs.length = n) (h1 : RdBs maxLen w a xs) (hn : n ≤ maxLen) (ht0 : 0 ≤ t) (ht : t ≤ 1048576) :
    Calls Tryz.prog 9 #[.slice a n c, .int .i64 t] w (SizedBs t (xs.map BxA.b) w) := by
  unfold maxLen at hn
  have X1 := Lib.hid h1
  have L1 := Lib.hid hx
  clear h1 hx
  by_cases hbig : t - n < 0
  · go_enter Tryz.func9, Tryz.ntmps9
    go_wp2
    go_ret
    exact sizedBs_no ht0 (Below.refl _ _)
  · go_enter Tryz.func9, Tryz.ntmps9
    go_wp2_with fail
    go_loopw [1, 5] (fun l i wr => ∃ (k : Nat) (r : Int), k ≤ n ∧ i = .int .i64 k ∧ l = .int .i64 r ∧ 0 ≤ r ∧ r ≤ t ∧ Below w.heap.size w wr ∧ ∀ j, j < k → (hj : j < xs.length) → SmallBx 1048576 xs[j].b) (fun _ i _ => n - (intOf i).toNat)
    case atStart => exact ⟨0, t - n, Nat.zero_le _, rfl, rfl, by omega, by omega, Below.refl _ _, fun j h => by omega⟩
    case round =>
      obtain ⟨k, r, hk, rfl, rfl, hr0, hrt, hb, hall⟩ := hrel
      have HALL := Lib.hid hall
      clear hall
      by_cases hlt : k < n
      · have j1 : k < xs.length := by rw [L1.out]; exact hlt
        obtain ⟨b1, o1, rfl, hb1, p0, p1, p3⟩ := (X1.out.below hb).at j1
        have hkn : (k : Int) < (n : Int) := by omega
        have hk0 : (0 : Int) ≤ (k : Int) := by omega
        have HC : Hid (Calls Tryz.prog 44 #[.agg #[.string (str xs[k].path), .slice xs[k].a xs[k].xs.length xs[k].c], .int .i64 r] wr (SizedB r xs[k].b wr)) := szBox_any xs[k] r wr p3 hr0 (by omega)
        clear p3
        obtain ⟨q, hq⟩ : ∃ q, q = xs[k].b := ⟨_, rfl⟩
        have HQ := Lib.hid hq
        rw [← hq] at HC
        clear hq
        generalize str xs[k].path = ss1 at *
        generalize xs[k].a = aa1 at *
        generalize xs[k].xs.length = nn1 at *
        generalize xs[k].c = cc1 at *
        go_wp2_with fail
        refine HC.out.mono ?_
        rintro e w5 ⟨r2, rfl, hr1, hr2, hsm, hb5⟩
        have HSM := Lib.hid hsm
        have hbx := nx hb hb5
        clear hsm p0 p1
        by_cases hneg : r2 < 0
        · go_wp2
          go_ret
          exact sizedBs_no ht0 hbx
        · go_wp2
          go_roundw
          case rel => exact ⟨k + 1, r2, by omega, by go_num, rfl, by omega, by omega, hbx, fun j hj hjx => by
            by_cases e : j = k
            · subst e; rw [← HQ.out]; exact HSM.out (by omega)
            · exact HALL.out j (by omega) hjx⟩
          case measure => simp [intOf]; omega
      · go_wp2
        go_ret
        exact ⟨r, rfl, by omega, hrt, fun _ => ⟨by rw [List.length_map, L1.out]; omega, fun m hm => by
          obtain ⟨x, hx, rfl⟩ := List.mem_map.1 hm
          obtain ⟨j, hj, rfl⟩ := List.getElem_of_mem hx
          exact HALL.out j (by have := L1.out; omega) hj⟩, hb⟩
set_option maxRecDepth 100000 in
set_option maxHeartbeats 4000000 in
theorem eqBoxS_any (M : Nat) (a1 a2 : Option Addr) (n1 c1 n2 c2 : Nat) (xs ys : List BxA) (w : World) (hx : xs.length = n1) (hy : ys.length = n2) (h1 : RdBs M w a1 xs) (h2 : RdBs M w a2 ys) (hM : M ≤ maxLen) (hn1 : n1 ≤ maxLen) (hn2 : n2 ≤ maxLen) :
    Calls Tryz.prog 13 #[.slice a1 n1 c1, .slice a2 n2 c2] w fun e w' => e = .returned (.bool (decide (xs.map BxA.b = ys.map BxA.b))) ∧ Below w.heap.size w w' := by
  unfold maxLen at hn1 hn2
  have X1 := Lib.hid h1
  have X2 := Lib.hid h2
  have L1 := Lib.hid hx
  have L2 := Lib.hid hy
  clear h1 h2 hx hy
  by_cases hn : n1 = n2
  · subst hn
    have e1 : ((n1 : Int) != (n1 : Int)) = false := by simp
    go_enter Tryz.func13, Tryz.ntmps13
    go_wp2_with fail
    go_loopw [5] (fun i wr => ∃ k : Nat, k ≤ n1 ∧ i = .int .i64 k ∧ Below w.heap.size w wr ∧ (xs.take k).map BxA.b = (ys.take k).map BxA.b) (fun i _ => n1 - (intOf i).toNat)
    case atStart => exact ⟨0, Nat.zero_le _, rfl, Below.refl _ _, rfl⟩
    case round =>
      obtain ⟨k, hk, rfl, hb, htk⟩ := hrel
      have HTK := Lib.hid htk
      clear htk
      by_cases hlt : k < n1
      · have k1 : k < xs.length := by rw [L1.out]; exact hlt
        have k2 : k < ys.length := by rw [L2.out]; exact hlt
        obtain ⟨b1, o1, rfl, hb1, p0, p1, p3⟩ := (X1.out.below hb).at k1
        obtain ⟨b2, o2, rfl, hb2, q0, q1, q3⟩ := (X2.out.below hb).at k2
        have hkn : (k : Int) < (n1 : Int) := by omega
        have hk0 : (0 : Int) ≤ (k : Int) := by omega
        have HC : Hid (∀ y : BelowT wr, Calls Tryz.prog 53 #[.agg #[.string (str xs[k].path), .slice xs[k].a xs[k].xs.length xs[k].c], .agg #[.string (str ys[k].path), .slice ys[k].a ys[k].xs.length ys[k].c]] y.val fun e w' => e = .returned (.bool (decide (xs[k].b = ys[k].b))) ∧ Below y.val.heap.size y.val w') := fun y => eqBox_any M xs[k] ys[k] y.val (p3.below y.below) (q3.below y.below) hM
        have z0 : ∀ y : BelowT wr, y.val.cell? ⟨b1, o1 + k * 2, none⟩ = _ := fun y => by rw [below_at y.below hb1, p0]
        have z1 : ∀ y : BelowT wr, y.val.cell? ⟨b1, o1 + k * 2 + 1, none⟩ = _ := fun y => by rw [below_at y.below hb1, p1]
        have z3 : ∀ y : BelowT wr, y.val.cell? ⟨b2, o2 + k * 2, none⟩ = _ := fun y => by rw [below_at y.below hb2, q0]
        have z4 : ∀ y : BelowT wr, y.val.cell? ⟨b2, o2 + k * 2 + 1, none⟩ = _ := fun y => by rw [below_at y.below hb2, q1]
        have HBB := Lib.hid hb
        have HT1 := Lib.hid (take_bxs k1)
        have HT2 := Lib.hid (take_bxs k2)
        have HNE := Lib.hid (bxs_ne k1 k2)
        clear p0 p1 p3 q0 q1 q3 hb
        by_cases hq : xs[k].b = ys[k].b
        · have HN : Hid ((xs.take (k + 1)).map BxA.b = (ys.take (k + 1)).map BxA.b) := by show _ = _; rw [HT1.out, HT2.out, HTK.out, hq]
          rw [decide_eq_true hq] at HC
          clear hq HT1 HT2 HNE
          generalize xs[k] = x at *
          generalize ys[k] = y at *
          go_wp2_with fail
          refine wp_region_quietB (W := wr) (by kernel_rfl) (by kernel_rfl) (Below.refl _ _) ?_
          repeat (go_big_quiet_step (first
            | (go_at_call 53; exact calls_belowT (HC.out _))))
          refine wpQuiet_nil ?_
          intro wz hwz
          obtain ⟨x9, rfl⟩ := hwz
          have hbx := nx HBB.out x9.below
          clear z0 z1 z3 z4
          generalize x9.val = w9 at *
          go_wp2
          go_roundw
          case rel => exact ⟨k + 1, by omega, by go_num, hbx, HN.out⟩
          case measure => simp [intOf]; omega
        · have HN : Hid (xs.map BxA.b ≠ ys.map BxA.b) := HNE.out hq
          rw [decide_eq_false hq] at HC
          clear hq HT1 HT2 HNE
          generalize xs[k] = x at *
          generalize ys[k] = y at *
          go_wp2_with fail
          refine wp_region_quietB (W := wr) (by kernel_rfl) (by kernel_rfl) (Below.refl _ _) ?_
          repeat (go_big_quiet_step (first
            | (go_at_call 53; exact calls_belowT (HC.out _))))
          refine wpQuiet_nil ?_
          intro wz hwz
          obtain ⟨x9, rfl⟩ := hwz
          have hbx := nx HBB.out x9.below
          clear z0 z1 z3 z4
          generalize x9.val = w9 at *
          go_wp2
          go_ret
          exact ⟨ret_bool (decide_eq_false HN.out).symm, hbx⟩
      · have HN : Hid (xs.map BxA.b = ys.map BxA.b) := bxs_all L1.out L2.out (by omega) HTK.out
        go_wp2
        go_ret
        exact ⟨ret_bool (decide_eq_true HN.out).symm, hb⟩
  · have e1 : ((n1 : Int) != (n2 : Int)) = true := by rw [bne_iff_ne]; omega
    have HN : Hid (xs.map BxA.b ≠ ys.map BxA.b) := by show _ ≠ _; intro e; have := congrArg List.length e; rw [List.length_map, List.length_map, L1.out, L2.out] at this; exact hn this
    go_enter Tryz.func13, Tryz.ntmps13
    go_wp2
    go_ret
    exact ⟨ret_bool (decide_eq_false HN.out).symm, Below.refl _ _⟩
/-- A box of the call's own. -/
def OwnBx (B : Nat) (w : World) (x : BxA) : Prop := HiMs B w x.a x.xs ∧ x.xs.length ≤ x.c ∧ (x.a = none → x.c = 0)
theorem OwnBx.keep {B : Nat} {w w' : World} {x : BxA} (h : OwnBx B w x) (k : Below w.heap.size w w') : OwnBx B w' x := ⟨h.1.keep k, h.2⟩
theorem OwnBx.low {B g i : Nat} {w : World} {x : BxA} (h : OwnBx B w x) (hg : g < B) (z : Value) : OwnBx B (w.setCell ⟨g, i, none⟩ z) x := ⟨h.1.low hg z, h.2⟩
theorem OwnBx.base {B C : Nat} {w : World} {x : BxA} (h : OwnBx B w x) (k : C ≤ B) : OwnBx C w x := ⟨h.1.base k, h.2⟩
theorem OwnBx.rd {B M : Nat} {w : World} {x : BxA} (h : OwnBx B w x) (hs : SmallBx M x.b) : RdBx M w x :=
  ⟨h.1.rd (fun y hy => hs.2.2 y.m (List.mem_map_of_mem hy)), hs.1, by have := hs.2.1; unfold BxA.b at this; rw [List.length_map] at this; exact this, h.2⟩
def BxRet (b : Bx) (w : World) (e : Ending) (w' : World) : Prop := ∃ x : BxA, x.b = b ∧ e = .returned (.agg #[.string (str x.path), .slice x.a x.xs.length x.c]) ∧ OwnBx w.heap.size w' x ∧ Below w.heap.size w w'
def MF2 (w : World) (g : Nat) (v0 v1 : Value) : Prop := MK2 w g v0 v1 ∧ ∀ i, w.frozen? ⟨g, i, none⟩ = false
theorem MF2.new (w : World) (v0 v1 : Value) (t : TypeId) : MF2 (w.alloc (.cells #[v0, v1] t)) w.heap.size v0 v1 :=
  ⟨MK2.new w v0 v1 t, fun i => by rw [World.frozen?_alloc_at _ _ _ _ rfl]⟩
theorem MF2.below {w w' : World} {g : Nat} {v0 v1 : Value} (h : MF2 w g v0 v1) (hb : Below w.heap.size w w') : MF2 w' g v0 v1 := by
  have hl := lt_of_cell h.1.1
  exact ⟨h.1.below hb, fun i => (below_fz hb hl).trans (h.2 i)⟩
set_option maxRecDepth 100000 in
set_option maxHeartbeats 4000000 in
theorem toBox_any (x : BxA) (w : World) (h : RdBx 1048576 w x) :
    Calls Tryz.prog 47 #[.agg #[.string (str x.path), .slice x.a x.xs.length x.c]] w (BxRet x.b w) := by
  have hn : x.xs.length ≤ 1048576 := h.2.2.1
  have HD : Hid (∀ (a' : Option Addr) (ys : List MlA) (w' : World), ys.map (·.m) = x.xs.map (·.m) → ys.length = x.xs.length → HiMs w.heap.size w' a' ys → (a' = none → x.xs.length = 0) → Below w.heap.size w w' → BxRet x.b w (.returned (.agg #[.string (str x.path), .slice a' x.xs.length x.xs.length])) w') :=
    fun a' ys w' h1 h2 h3 h4 h5 => ⟨⟨x.path, ys, a', x.xs.length⟩, by unfold BxA.b; dsimp only; rw [h1], by dsimp only; rw [h2], ⟨h3, by rw [h2]; exact Nat.le_refl _, h4⟩, h5⟩
  have HM : Hid (∀ u, Below w.heap.size w u → Calls Tryz.prog 79 #[.slice x.a x.xs.length x.c] u (MsRet (x.xs.map (·.m)) x.xs.length u)) := fun u hb => toMailS_any x.a x.xs.length x.c x.xs u rfl (h.1.below hb) hn
  clear h
  generalize x.b = bb at *
  generalize x.xs.map (·.m) = ms at *
  generalize x.xs.length = n1 at *
  generalize str x.path = s1 at *
  generalize x.a = a1 at *
  generalize x.c = c1 at *
  have hbP : Below w.heap.size w (w.alloc (.cells #[.string s1, .slice a1 n1 c1] 75)) := (Below.refl _ _).alloc (Nat.le_refl _) _
  have hz1 : (w.alloc (.cells #[.string s1, .slice a1 n1 c1] 75)).heap.size = w.heap.size + 1 := by simp
  have hbZ : Below (w.alloc (.cells #[.string s1, .slice a1 n1 c1] 75)).heap.size (w.alloc (.cells #[.string s1, .slice a1 n1 c1] 75)) ((w.alloc (.cells #[.string s1, .slice a1 n1 c1] 75)).alloc (.cells #[.string ⟨#[]⟩, .slice none 0 0] 78)) := (Below.refl _ _).alloc (Nat.le_refl _) _
  have hz2 : ((w.alloc (.cells #[.string s1, .slice a1 n1 c1] 75)).alloc (.cells #[.string ⟨#[]⟩, .slice none 0 0] 78)).heap.size = w.heap.size + 1 + 1 := by simp
  have hbO : Below ((w.alloc (.cells #[.string s1, .slice a1 n1 c1] 75)).alloc (.cells #[.string ⟨#[]⟩, .slice none 0 0] 78)).heap.size ((w.alloc (.cells #[.string s1, .slice a1 n1 c1] 75)).alloc (.cells #[.string ⟨#[]⟩, .slice none 0 0] 78)) (((w.alloc (.cells #[.string s1, .slice a1 n1 c1] 75)).alloc (.cells #[.string ⟨#[]⟩, .slice none 0 0] 78)).alloc (.cells #[.string s1, .slice none 0 0] 78)) := (Below.refl _ _).alloc (Nat.le_refl _) _
  have HZ : Hid (MF2 (((w.alloc (.cells #[.string s1, .slice a1 n1 c1] 75)).alloc (.cells #[.string ⟨#[]⟩, .slice none 0 0] 78)).alloc (.cells #[.string s1, .slice none 0 0] 78)) (w.heap.size + 1) (.string ⟨#[]⟩) (.slice none 0 0)) := by
    have := (MF2.new (w.alloc (.cells #[.string s1, .slice a1 n1 c1] 75)) (.string ⟨#[]⟩) (.slice none 0 0) 78).below hbO
    rw [hz1] at this; exact this
  have HO : Hid (MF2 (((w.alloc (.cells #[.string s1, .slice a1 n1 c1] 75)).alloc (.cells #[.string ⟨#[]⟩, .slice none 0 0] 78)).alloc (.cells #[.string s1, .slice none 0 0] 78)) (w.heap.size + 1 + 1) (.string s1) (.slice none 0 0)) := by
    have := MF2.new ((w.alloc (.cells #[.string s1, .slice a1 n1 c1] 75)).alloc (.cells #[.string ⟨#[]⟩, .slice none 0 0] 78)) (.string s1) (.slice none 0 0) 78
    rw [hz2] at this; exact this
  have hb0 := nx hbP (nx hbZ hbO)
  have hsz : w.heap.size + 1 + 1 < (((w.alloc (.cells #[.string s1, .slice a1 n1 c1] 75)).alloc (.cells #[.string ⟨#[]⟩, .slice none 0 0] 78)).alloc (.cells #[.string s1, .slice none 0 0] 78)).heap.size := by simp
  clear hbP hbZ hbO hz1 hz2
  go_enter Tryz.func47, Tryz.ntmps47
  go_wp2_with fail
  generalize (((w.alloc (.cells #[.string s1, .slice a1 n1 c1] 75)).alloc (.cells #[.string ⟨#[]⟩, .slice none 0 0] 78)).alloc (.cells #[.string s1, .slice none 0 0] 78)) = W0 at *
  refine (HM.out W0 hb0).mono ?_
  rintro e w1 ⟨a2, ys, rfl, hy1, hy2, hy3, hy4, hb1⟩
  have HY1 := Lib.hid hy1
  have HY2 := Lib.hid hy2
  have HY3 := Lib.hid hy3
  have HY4 := Lib.hid hy4
  have HZ1 := Lib.hid (HZ.out.below hb1)
  have HO1 := Lib.hid (HO.out.below hb1)
  have hb01 := nx hb0 hb1
  clear hy1 hy2 hy3 hy4 hb1
  obtain ⟨⟨o0, o1⟩, of⟩ := HO1.out
  obtain ⟨⟨q0, q1⟩, qf⟩ := HZ1.out
  go_wp2
  refine bodyPost_ret (v := .agg #[.string s1, .slice a2 n1 n1]) (by simp [results, Tryz.results47, go_sem, q0, q1]) rfl ?_
  exact HD.out a2 ys _ HY1.out HY2.out ((((HY3.out.low (g := w.heap.size + 1 + 1) (i := 1) (by omega) _).low (g := w.heap.size + 1) (i := 0) (by omega) _).low (g := w.heap.size + 1) (i := 1) (by omega) _).base (by omega)) HY4.out (((hb01.setCell (by show w.heap.size ≤ w.heap.size + 1 + 1; omega) _).setCell (by show w.heap.size ≤ w.heap.size + 1; omega) _).setCell (by show w.heap.size ≤ w.heap.size + 1; omega) _)
theorem bxInfo : (Tryz.prog.info? 78).map (fun i => (i.zero, i.size, i.bytes)) = some (some (.agg #[.string ⟨#[]⟩, .slice none 0 0]), 2, 40) := by kernel_rfl
theorem set2_getM {L : List Value} {k : Nat} (h : k * 2 + 1 < L.length) (s0 s1 : Value) : ((L.set (k * 2) s0).set (k * 2 + 1) s1)[k * 2]? = some s0 ∧ ((L.set (k * 2) s0).set (k * 2 + 1) s1)[k * 2 + 1]? = some s1 ∧
    ∀ i, i < k * 2 → ((L.set (k * 2) s0).set (k * 2 + 1) s1)[i]? = L[i]? := by
  refine ⟨?_, ?_, fun i hi => ?_⟩
  · rw [List.getElem?_set_ne (by omega), List.getElem?_set_self (by omega)]
  · rw [List.getElem?_set_self (by simp; omega)]
  · rw [List.getElem?_set_ne (by omega), List.getElem?_set_ne (by omega)]
def brow (B : Nat) (w : World) (L : List Value) (b : Bx) (j : Nat) : Prop := ∃ x : BxA, x.b = b ∧ L[j * 2]? = some (.string (str x.path)) ∧ L[j * 2 + 1]? = some (.slice x.a x.xs.length x.c) ∧ OwnBx B w x
/-- A row of boxes, all in blocks from B on. -/
def HiBs (B : Nat) (w : World) (a : Option Addr) (ys : List BxA) : Prop := (ys.length = 0 ∨ ∃ b, a = some ⟨b, 0, none⟩ ∧ B ≤ b ∧ b < w.heap.size ∧ ∀ i, (h : i < ys.length) → ∀ d v, (bxC ys[i])[d]? = some v → w.cell? ⟨b, 0 + i * 2 + d, none⟩ = some v) ∧ ∀ y ∈ ys, OwnBx B w y
theorem HiBs.rd {B M : Nat} {w : World} {a : Option Addr} {ys : List BxA} (h : HiBs B w a ys) (hs : ∀ y ∈ ys, SmallBx M y.b) : RdBs M w a ys := by
  refine ⟨⟨rfl, ?_⟩, fun y hy => (h.2 y hy).rd (hs y hy)⟩
  rcases h.1 with e | ⟨b, e, hB, hl, hc⟩
  · exact .inl e
  · exact .inr ⟨b, 0, e, hl, hc⟩
def BsRet (bs : List Bx) (n : Nat) (w : World) (e : Ending) (w' : World) : Prop := ∃ (a : Option Addr) (ys : List BxA), e = .returned (.slice a n n) ∧ ys.map BxA.b = bs ∧ ys.length = n ∧ HiBs w.heap.size w' a ys ∧ (a = none → n = 0) ∧ Below w.heap.size w w'
set_option maxRecDepth 100000 in
set_option maxHeartbeats 4000000 in
theorem toBoxS_any (a : Option Addr) (n c : Nat) (xs : List BxA) (w : World) (hx : xs.length = n) (h1 : RdBs 1048576 w a xs) (hn : n ≤ 1048576) :
    Calls Tryz.prog 11 #[.slice a n c] w (BsRet (xs.map BxA.b) n w) := by
  obtain ⟨i0, hi, hz0, hz1, hz2⟩ := info_parts bxInfo
  have HLEN := Lib.hid hx
  have HR := Lib.hid h1
  clear hx h1
  go_enter Tryz.func11, Tryz.ntmps11
  go_wp2_with (at_make; refine wpList_make_full _ rfl _ _ 24 rfl w.heap.size 78 i0 (.agg #[.string ⟨#[]⟩, .slice none 0 0]) 2 Tryz.underlying24 hi hz0 hz1 _ _ (n : Int) (n : Int) n rfl rfl rfl rfl ?c1 ?c2 ?c3 ?_)
  case c1 => rw [hz2]; omega
  case c2 => unfold maxLen; omega
  case c3 => exact Nat.le_refl _
  intro w1 hown hgrow
  have hb1 : Below w.heap.size w w1 := (Below.refl _ _).grown hgrow (Nat.le_refl _) (fun k hk => by cases hk)
  have hsz1 := (hown.lt w.heap.size rfl).2
  go_wp2_with fail
  go_loopw [4] (fun i wr => ∃ (k : Nat) (L : List Value), k ≤ n ∧ i = .int .i64 k ∧ Below w.heap.size w wr ∧ wr.ownsRow w.heap.size 78 2 (.slice (some ⟨w.heap.size, 0, none⟩) n n) n L ∧ w.heap.size < wr.heap.size ∧ ∀ j, j < k → (hj : j < xs.length) → brow (w.heap.size + 1) wr L xs[j].b j) (fun i _ => n - (intOf i).toNat)
  case atStart => exact ⟨0, _, Nat.zero_le _, rfl, hb1, hown, hsz1, fun j h => by omega⟩
  case round =>
    obtain ⟨k, L, hk, rfl, hb, hO, hzr, hL⟩ := hrel
    have HL := Lib.hid hL
    clear hL
    by_cases hlt : k < n
    · have dk : decide ((k : Int) < n) = true := decide_eq_true (by omega)
      have hkx : k < xs.length := by rw [HLEN.out]; exact hlt
      obtain ⟨b, off, rfl, hbl, q0, q1, q3⟩ := (HR.out.below hb).at hkx
      have HC : Hid (Calls Tryz.prog 47 #[.agg #[.string (str xs[k].path), .slice xs[k].a xs[k].xs.length xs[k].c]] wr (BxRet xs[k].b wr)) := toBox_any xs[k] wr q3
      have hlL : L.length = n * 2 := hO.1
      have h3 : k * 2 + 1 < L.length := by rw [hlL]; omega
      have HS3 := Lib.hid (set2_getM h3)
      clear q3
      obtain ⟨q, hq⟩ : ∃ q, q = xs[k].b := ⟨_, rfl⟩
      have HQ := Lib.hid hq
      rw [← hq] at HC
      clear hq
      generalize str xs[k].path = ss1 at *
      generalize xs[k].a = aa1 at *
      generalize xs[k].xs.length = nn1 at *
      generalize xs[k].c = cc1 at *
      go_wp2_with fail
      refine HC.out.mono ?_
      rintro e w2 ⟨x, hxq, rfl, hox, hb2⟩
      have HOX := Lib.hid hox
      have HXQ := Lib.hid hxq
      have hO2 := row_keepM hO hb2
      have hb02 := nx hb hb2
      have hz2' : w.heap.size < w2.heap.size := Nat.lt_of_lt_of_le hzr hb2.size
      obtain ⟨v0, hv0⟩ := row_cellM hO2 (k * 2) (by omega)
      obtain ⟨v1, hv1⟩ := row_cellM hO2 (k * 2 + 1) (by omega)
      have f0 : w2.frozen? ⟨w.heap.size, k * 2, none⟩ = false := hO2.frozenAt _
      have f1 : w2.frozen? ⟨w.heap.size, k * 2 + 1, none⟩ = false := hO2.frozenAt _
      have HST := Lib.hid ((hO2.stored (k * 2) (.string (str x.path))).1.stored (k * 2 + 1) (.slice x.a x.xs.length x.c)).1
      have HNX : Hid (∀ j, j < k + 1 → (hj : j < xs.length) → brow (w.heap.size + 1) ((w2.setCell ⟨w.heap.size, k * 2, none⟩ (.string (str x.path))).setCell ⟨w.heap.size, k * 2 + 1, none⟩ (.slice x.a x.xs.length x.c)) ((L.set (k * 2) (.string (str x.path))).set (k * 2 + 1) (.slice x.a x.xs.length x.c)) xs[j].b j) := fun j hj hjx => by
        obtain ⟨e0, e1, e3⟩ := HS3.out (.string (str x.path)) (.slice x.a x.xs.length x.c)
        by_cases e : j = k
        · subst e
          exact ⟨x, by rw [HXQ.out, HQ.out], e0, e1, ((OwnBx.base HOX.out (by omega)).low (Nat.lt_succ_self _) _).low (Nat.lt_succ_self _) _⟩
        · obtain ⟨x0, k0, k1, k2, k4⟩ := HL.out j (by omega) hjx
          exact ⟨x0, k0, by rw [e3 _ (by omega), k1], by rw [e3 _ (by omega), k2], ((k4.keep hb2).low (Nat.lt_succ_self _) _).low (Nat.lt_succ_self _) _⟩
      clear hlL h3 hO hO2 hox hxq
      generalize str x.path = xs0 at *
      generalize x.xs.length = xn at *
      generalize x.a = xa at *
      generalize x.c = xc at *
      go_wp2
      go_roundw
      case rel => exact ⟨k + 1, _, by omega, by go_num, ((hb02.setCell (by simp) _).setCell (by simp) _), HST.out, by simpa using hz2', HNX.out⟩
      case measure => simp [intOf]; omega
    · have dk : decide ((k : Int) < n) = false := decide_eq_false (by omega)
      have hex : ∀ i, (h : i < xs.length) → ∃ x : BxA, x.b = xs[i].b ∧ L[i * 2]? = some (.string (str x.path)) ∧ L[i * 2 + 1]? = some (.slice x.a x.xs.length x.c) ∧ OwnBx (w.heap.size + 1) wr x := fun i h => HL.out i (by have := HLEN.out; omega) h
      have HYS : Hid (∃ ys : List BxA, ys.map BxA.b = xs.map BxA.b ∧ ys.length = n ∧ HiBs w.heap.size wr (some ⟨w.heap.size, 0, none⟩) ys) := by
        refine ⟨(List.range xs.length).map (fun i => if h : i < xs.length then Classical.choose (hex i h) else ⟨[], [], none, 0⟩), ?_, by simp [HLEN.out], ?_⟩
        · apply List.ext_getElem (by simp)
          intro i h1 h2
          have hix : i < xs.length := by simpa using h2
          simp only [List.getElem_map, List.getElem_range]
          rw [dif_pos hix]
          exact (Classical.choose_spec (hex i hix)).1
        · have C : ∀ j z, L[j]? = some z → wr.cell? ⟨w.heap.size, 0 + j, none⟩ = some z := fun j z hz => by
            have := hO.cells (g := w.heap.size) rfl j z hz
            rw [add0] at this
            rw [Nat.zero_add]; exact this
          refine ⟨.inr ⟨w.heap.size, rfl, Nat.le_refl _, hzr, fun i hi d v hd => ?_⟩, fun x hx => ?_⟩
          · have hix : i < xs.length := by simpa using hi
            rw [List.getElem_map, List.getElem_range, dif_pos hix] at hd
            obtain ⟨_, k1, k2, _⟩ := Classical.choose_spec (hex i hix)
            match d, hd with
            | 0, hd => injection hd with hd; subst hd; exact C _ _ k1
            | 1, hd => injection hd with hd; subst hd; rw [Nat.add_assoc]; exact C _ _ k2
            | d + 2, hd => cases hd
          · obtain ⟨i, hi, rfl⟩ := List.mem_map.1 hx
            have hix : i < xs.length := List.mem_range.1 hi
            rw [dif_pos hix]
            obtain ⟨k0, _, _, k4⟩ := Classical.choose_spec (hex i hix)
            exact k4.base (Nat.le_succ _)
      clear hO hex
      go_wp2
      go_ret
      obtain ⟨ys, y1, y2, y3⟩ := HYS.out
      exact ⟨_, ys, rfl, y1, y2, y3, (fun h => by cases h), hb⟩
end Go.Proofs.YtombejhpfobehaaGreatDoor
end

section
namespace Go.Proofs.YtombejhpfobehaaGreatDoor
open Go.RowKit

def SizedC (t : Int) (cnt : Nat) (w : World) (e : Ending) (w' : World) : Prop := ∃ r : Int, e = .returned (.int .i64 r) ∧ -1 ≤ r ∧ r ≤ t ∧ (0 ≤ r → (cnt : Int) ≤ t - r) ∧ Below w.heap.size w w'
theorem sizedC_no {t : Int} {cnt : Nat} {w w' : World} (ht : 0 ≤ t) (hb : Below w.heap.size w w') : SizedC t cnt w (.returned (.int .i64 (-1))) w' := ⟨-1, rfl, by omega, by omega, fun h => by omega, hb⟩
theorem mem_sum {n : Nat} : ∀ {ns : List Nat}, n ∈ ns → n ≤ ns.sum
  | m :: ns, h => by
    rw [List.sum_cons]
    rcases List.mem_cons.1 h with rfl | h
    · omega
    · have := mem_sum h; omega
def wL (xs : List (List UInt8)) : Nat := (xs.map (·.length)).sum
theorem wL_step {k : Nat} {xs : List (List UInt8)} (h : k < xs.length) : wL (xs.take (k + 1)) = wL (xs.take k) + xs[k].length := by
  unfold wL; rw [List.take_succ_eq_append_getElem h, List.map_append, List.sum_append]; simp
theorem wL_mem {xs : List (List UInt8)} : ∀ x ∈ xs, x.length ≤ wL xs := by
  intro x hx
  unfold wL
  exact mem_sum (List.mem_map.2 ⟨x, hx, rfl⟩)
def wgM (m : Ml) : Nat := m.frm.length + (m.to.length + wL m.to) + (m.lines.length + wL m.lines)
def wgMs (ms : List Ml) : Nat := ms.length + (ms.map wgM).sum
def wgB (b : Bx) : Nat := b.path.length + wgMs b.mails
def wgBs (bs : List Bx) : Nat := bs.length + (bs.map wgB).sum
def scM (xs : List MlA) : Nat := (xs.map fun x => wgM x.m).sum
theorem scM_step {k : Nat} {xs : List MlA} (h : k < xs.length) : scM (xs.take (k + 1)) = scM (xs.take k) + wgM xs[k].m := by
  unfold scM; rw [List.take_succ_eq_append_getElem h, List.map_append, List.sum_append]; simp
theorem wgMs_sc (xs : List MlA) : wgMs (xs.map (·.m)) = xs.length + scM xs := by
  unfold wgMs scM; rw [List.length_map, List.map_map]; rfl
def scB (xs : List BxA) : Nat := (xs.map fun x => wgB x.b).sum
theorem scB_step {k : Nat} {xs : List BxA} (h : k < xs.length) : scB (xs.take (k + 1)) = scB (xs.take k) + wgB xs[k].b := by
  unfold scB; rw [List.take_succ_eq_append_getElem h, List.map_append, List.sum_append]; simp
theorem wgBs_sc (xs : List BxA) : wgBs (xs.map BxA.b) = xs.length + scB xs := by
  unfold wgBs scB; rw [List.length_map, List.map_map]; rfl
theorem wgM_small {m : Ml} {K : Nat} (h : wgM m ≤ K) : SmallM K m := by
  unfold wgM at h
  exact ⟨by omega, by omega, fun x hx => by have := wL_mem x hx; omega, by omega, fun x hx => by have := wL_mem x hx; omega⟩
theorem wgMs_mem {ms : List Ml} : ∀ m ∈ ms, wgM m ≤ wgMs ms := fun m hm => by
  have : wgM m ≤ (ms.map wgM).sum := mem_sum (List.mem_map.2 ⟨m, hm, rfl⟩)
  unfold wgMs; omega
theorem wgBs_mem {bs : List Bx} : ∀ b ∈ bs, wgB b ≤ wgBs bs := fun b hb => by
  have : wgB b ≤ (bs.map wgB).sum := mem_sum (List.mem_map.2 ⟨b, hb, rfl⟩)
  unfold wgBs; omega
theorem wgB_small {b : Bx} {K : Nat} (h : wgB b ≤ K) : SmallBx K b := by
  unfold wgB at h
  refine ⟨by omega, by unfold wgMs at h; omega, fun m hm => wgM_small (by have := wgMs_mem m hm; omega)⟩
theorem wgBs_small {bs : List Bx} {K : Nat} (h : wgBs bs ≤ K) : bs.length ≤ K ∧ ∀ b ∈ bs, SmallBx K b :=
  ⟨by unfold wgBs at h; omega, fun b hb => wgB_small (Nat.le_trans (wgBs_mem b hb) h)⟩
/-- How many marks mails and boxes take, told of what they are. -/
def cntMs (ms : List Ml) : Nat := (ms.map fun m => 1 + (m.to.length + m.lines.length)).sum
theorem cntMs_le : ∀ ms : List Ml, cntMs ms ≤ wgMs ms
  | [] => Nat.zero_le _
  | m :: ms => by
    have := cntMs_le ms
    unfold cntMs wgMs at *
    rw [List.map_cons, List.sum_cons, List.map_cons, List.sum_cons, List.length_cons]
    unfold wgM at *
    omega
def cntBs (bs : List Bx) : Nat := (bs.map fun b => 1 + cntMs b.mails).sum
theorem cntBs_le : ∀ bs : List Bx, cntBs bs ≤ wgBs bs
  | [] => Nat.zero_le _
  | b :: bs => by
    have h1 := cntBs_le bs
    have h2 := cntMs_le b.mails
    unfold cntBs wgBs at *
    rw [List.map_cons, List.sum_cons, List.map_cons, List.sum_cons, List.length_cons]
    unfold wgB at *
    omega
theorem smM_cnt (xs : List MlA) : smM xs = cntMs (xs.map (·.m)) := by unfold smM cntMs; rw [List.map_map]; rfl
theorem smB_cnt (xs : List BxA) : smB xs = cntBs (xs.map BxA.b) := by
  unfold smB cntBs
  rw [List.map_map]
  congr 1
  apply List.map_congr_left
  intro x _
  show stB x = 1 + cntMs x.b.mails
  unfold stB BxA.b; rw [smM_cnt]
set_option maxRecDepth 100000 in
set_option maxHeartbeats 4000000 in
theorem szStringS_c (a : Option Addr) (n c : Nat) (xs : List (List UInt8)) (m : Int) (w : World) (hr : RdL w a n xs) (hn : n ≤ maxLen) (hm0 : 0 ≤ m) (hm : m ≤ 1073741824) (hx : ∀ j, (h : j < xs.length) → xs[j].length ≤ maxLen) :
    Calls Tryz.prog 38 #[.slice a n c, .int .i64 m] w (SizedC m (xs.length + wL xs) w) := by
  unfold maxLen at hn hx
  obtain ⟨hl, hr2⟩ := hr
  have HLEN := Lib.hid hl
  have HR2 := Lib.hid hr2
  have HXX := Lib.hid hx
  clear hl hr2 hx
  by_cases hbig : m < n
  · have d1 : (m - n : Int) < 0 := by omega
    go_enter Tryz.func38, Tryz.ntmps38
    go_wp2
    go_ret
    exact ⟨-1, rfl, by omega, by omega, fun h => by omega, Below.refl _ _⟩
  · go_enter Tryz.func38, Tryz.ntmps38
    go_wp2_with fail
    go_loop [1, 5] (fun l i => ∃ (k : Nat) (r : Int), k ≤ n ∧ i = .int .i64 k ∧ l = .int .i64 r ∧ 0 ≤ r ∧ r ≤ m ∧ (wL (xs.take k) : Int) ≤ m - n - r) (fun _ i => n - (intOf i).toNat)
    case atStart => exact ⟨0, m - n, Nat.zero_le _, rfl, rfl, by omega, by omega, by simp [wL]⟩
    case round =>
      obtain ⟨k, r, hk, rfl, rfl, hr0, hrm, hall⟩ := hrel
      have HA := Lib.hid hall
      clear hall
      by_cases hlt : k < n
      · have hkx : k < xs.length := by rw [HLEN.out]; exact hlt
        obtain ⟨b, off, rfl, hbl, hcell⟩ := HR2.out.resolve_left (by omega)
        have hc1 : w.cell? ⟨b, off + k, none⟩ = some (.string (str xs[k])) := hcell k hkx
        have hxl := HXX.out k hkx
        have HSZ := Lib.hid (str_size xs[k])
        have HTL := Lib.hid (wL_step hkx)
        have hsz : (str xs[k]).size ≤ 9223372036854775807 := by rw [HSZ.out]; omega
        clear hcell
        by_cases hs : r < (str xs[k]).size
        · go_wp2
          go_ret
          exact ⟨-1, rfl, by omega, by omega, fun h => by omega, Below.refl _ _⟩
        · have HN : Hid ((xs[k].length : Int) ≤ m) := by show _ ≤ _; rw [← HSZ.out]; omega
          go_wp2
          go_round
          case rel => exact ⟨k + 1, r - (str xs[k]).size, by omega, by go_num, rfl, by omega, by omega, by rw [HTL.out]; have := HSZ.out; have := HA.out; omega⟩
          case measure => simp [intOf]; omega
      · go_wp2
        go_ret
        exact ⟨r, rfl, by omega, hrm, fun _ => by have := HA.out; rw [List.take_of_length_le (by have := HLEN.out; omega)] at this; have := HLEN.out; omega, Below.refl _ _⟩
set_option maxRecDepth 100000 in
set_option maxHeartbeats 4000000 in
theorem szMail_c (x : MlA) (t : Int) (w : World) (h1 : RdM maxLen w x) (ht0 : 0 ≤ t) (ht : t ≤ 1048576) :
    Calls Tryz.prog 21 #[mlV x, .int .i64 t] w (SizedC t (wgM x.m) w) := by
  obtain ⟨⟨f1, t1, l1⟩, a1, c1, b1, d1⟩ := x
  obtain ⟨⟨p1, _, _⟩, ⟨p2, _, _⟩, p0, p3, p5, p4, p6⟩ := h1
  dsimp only at *
  unfold mlV
  dsimp only
  have P5 := Lib.hid p5
  have P6 := Lib.hid p6
  have HF := Lib.hid (str_size f1)
  have z0 : (str f1).size ≤ 9223372036854775807 := by rw [str_size]; unfold maxLen at p0; omega
  have hA : Below w.heap.size w (w.alloc (.cells #[.string (str f1), .slice a1 t1.length c1, .slice b1 l1.length d1] 38)) := (Below.refl _ _).alloc (Nat.le_refl _) _
  have HX := Lib.hid (MK3.new w (.string (str f1)) (.slice a1 t1.length c1) (.slice b1 l1.length d1) 38)
  have H1 : Hid (∀ (q : Int) u, 0 ≤ q → q ≤ 1048576 → Below w.heap.size w u → Calls Tryz.prog 38 #[.slice a1 t1.length c1, .int .i64 q] u (SizedC q (t1.length + wL t1) u)) := fun q u h0 hq hb => szStringS_c a1 t1.length c1 t1 q u (p1.below hb) p3 h0 (by omega) (fun j h => P5.out _ (List.getElem_mem h))
  have H2 : Hid (∀ (q : Int) u, 0 ≤ q → q ≤ 1048576 → Below w.heap.size w u → Calls Tryz.prog 38 #[.slice b1 l1.length d1, .int .i64 q] u (SizedC q (l1.length + wL l1) u)) := fun q u h0 hq hb => szStringS_c b1 l1.length d1 l1 q u (p2.below hb) p4 h0 (by omega) (fun j h => P6.out _ (List.getElem_mem h))
  have HN1 := Lib.hid (rfl : t1.length = t1.length)
  clear p1 p2 p3 p4 p5 p6 p0
  generalize str f1 = s1 at *
  by_cases k0 : t - s1.size < 0
  · go_enter Tryz.func21, Tryz.ntmps21
    go_wp2
    go_ret
    exact sizedC_no ht0 hA
  · go_enter Tryz.func21, Tryz.ntmps21
    go_wp2_with fail
    refine (H1.out _ _ (by omega) (by omega) hA).mono ?_
    rintro e w1 ⟨r1, rfl, hr1, hr2, hsz1, hb1⟩
    have HS1 := Lib.hid hsz1
    clear hsz1
    have hb01 := nx hA hb1
    obtain ⟨y0, y1, y2⟩ := HX.out.below hb1
    by_cases k1 : r1 < 0
    · go_wp2
      go_ret
      exact sizedC_no ht0 hb01
    · go_wp2_with fail
      refine (H2.out _ _ (by omega) (by omega) hb01).mono ?_
      rintro e w2 ⟨r2, rfl, hr3, hr4, hsz2, hb2⟩
      have HS2 := Lib.hid hsz2
      clear hsz2
      have hb02 := nx hb01 hb2
      by_cases k2 : r2 < 0
      · go_wp2
        go_ret
        exact sizedC_no ht0 hb02
      · go_wp2
        go_ret
        exact ⟨r2, rfl, by omega, by omega, fun h => by have := HS1.out (by omega); have := HS2.out (by omega); have := HF.out; show ((f1.length + (t1.length + wL t1) + (l1.length + wL l1) : Nat) : Int) ≤ _; omega, hb02⟩
set_option maxRecDepth 100000 in
set_option maxHeartbeats 4000000 in
theorem szMailS_c (a : Option Addr) (n c : Nat) (xs : List MlA) (t : Int) (w : World) (hx : xs.length = n) (h1 : RdMs maxLen w a xs) (hn : n ≤ maxLen) (ht0 : 0 ≤ t) (ht : t ≤ 1048576) :
    Calls Tryz.prog 76 #[.slice a n c, .int .i64 t] w (SizedC t (wgMs (xs.map (·.m))) w) := by
  unfold maxLen at hn
  have X1 := Lib.hid h1
  have L1 := Lib.hid hx
  clear h1 hx
  by_cases hbig : t - n < 0
  · go_enter Tryz.func76, Tryz.ntmps76
    go_wp2
    go_ret
    exact sizedC_no ht0 (Below.refl _ _)
  · go_enter Tryz.func76, Tryz.ntmps76
    go_wp2_with fail
    go_loopw [1, 5] (fun l i wr => ∃ (k : Nat) (r : Int), k ≤ n ∧ i = .int .i64 k ∧ l = .int .i64 r ∧ 0 ≤ r ∧ r ≤ t ∧ Below w.heap.size w wr ∧ (scM (xs.take k) : Int) ≤ t - n - r) (fun _ i _ => n - (intOf i).toNat)
    case atStart => exact ⟨0, t - n, Nat.zero_le _, rfl, rfl, by omega, by omega, Below.refl _ _, by simp [scM]⟩
    case round =>
      obtain ⟨k, r, hk, rfl, rfl, hr0, hrt, hb, hall⟩ := hrel
      have HALL := Lib.hid hall
      clear hall
      by_cases hlt : k < n
      · have j1 : k < xs.length := by rw [L1.out]; exact hlt
        obtain ⟨b1, o1, rfl, hb1, p0, p1, p2, p3⟩ := (X1.out.below hb).at j1
        have hkn : (k : Int) < (n : Int) := by omega
        have hk0 : (0 : Int) ≤ (k : Int) := by omega
        have HC : Hid (Calls Tryz.prog 21 #[.agg #[.string (str xs[k].m.frm), .slice xs[k].a1 xs[k].m.to.length xs[k].c1, .slice xs[k].a2 xs[k].m.lines.length xs[k].c2], .int .i64 r] wr (SizedC r (wgM xs[k].m) wr)) := szMail_c xs[k] r wr p3 hr0 (by omega)
        clear p3
        have HT := Lib.hid (scM_step j1)
        obtain ⟨q, hq⟩ : ∃ q, q = xs[k].m := ⟨_, rfl⟩
        have HQ := Lib.hid hq
        rw [← hq] at HC p0 p1 p2 HT
        clear hq
        generalize xs[k].a1 = aa1 at *
        generalize xs[k].a2 = aa2 at *
        generalize xs[k].c1 = cc1 at *
        generalize xs[k].c2 = cc2 at *
        go_wp2_with fail
        refine HC.out.mono ?_
        rintro e w5 ⟨r2, rfl, hr1, hr2, hsm, hb5⟩
        have HSM := Lib.hid hsm
        have hbx := nx hb hb5
        clear hsm p0 p1 p2
        by_cases hneg : r2 < 0
        · go_wp2
          go_ret
          exact sizedC_no ht0 hbx
        · go_wp2
          go_roundw
          case rel => exact ⟨k + 1, r2, by omega, by go_num, rfl, by omega, by omega, hbx, by have := HSM.out (by omega); have := HALL.out; rw [HT.out]; omega⟩
          case measure => simp [intOf]; omega
      · go_wp2
        go_ret
        exact ⟨r, rfl, by omega, hrt, fun _ => by rw [wgMs_sc]; have := HALL.out; rw [List.take_of_length_le (by have := L1.out; omega)] at this; have := L1.out; omega, hb⟩
set_option maxRecDepth 100000 in
set_option maxHeartbeats 4000000 in
theorem szBox_c (x : BxA) (t : Int) (w : World) (h1 : RdBx maxLen w x) (ht0 : 0 ≤ t) (ht : t ≤ 1048576) :
    Calls Tryz.prog 44 #[.agg #[.string (str x.path), .slice x.a x.xs.length x.c], .int .i64 t] w (SizedC t (wgB x.b) w) := by
  have HF := Lib.hid (str_size x.path)
  have z0 : (str x.path).size ≤ 9223372036854775807 := by rw [str_size]; have := h1.2.1; unfold maxLen at this; omega
  have H1 : Hid (∀ (q : Int) u, 0 ≤ q → q ≤ 1048576 → Below w.heap.size w u → Calls Tryz.prog 76 #[.slice x.a x.xs.length x.c, .int .i64 q] u (SizedC q (wgMs (x.xs.map (·.m))) u)) := fun q u h0 hq hb => szMailS_c x.a x.xs.length x.c x.xs q u rfl (h1.1.below hb) h1.2.2.1 h0 (by omega)
  clear h1
  have HW : Hid (wgB x.b = x.path.length + wgMs (x.xs.map (·.m))) := rfl
  generalize wgB x.b = bb at *
  generalize wgMs (x.xs.map (·.m)) = ww at *
  generalize str x.path = s1 at *
  generalize x.xs.length = n1 at *
  generalize x.a = a1 at *
  generalize x.c = c1 at *
  have hA : Below w.heap.size w (w.alloc (.cells #[.string s1, .slice a1 n1 c1] 75)) := (Below.refl _ _).alloc (Nat.le_refl _) _
  by_cases k0 : t - s1.size < 0
  · go_enter Tryz.func44, Tryz.ntmps44
    go_wp2
    go_ret
    exact sizedC_no ht0 hA
  · go_enter Tryz.func44, Tryz.ntmps44
    go_wp2_with fail
    refine (H1.out _ _ (by omega) (by omega) hA).mono ?_
    rintro e w1 ⟨r1, rfl, hr1, hr2, hsz1, hb1⟩
    have HS1 := Lib.hid hsz1
    have hb01 := nx hA hb1
    clear hsz1
    by_cases k1 : r1 < 0
    · go_wp2
      go_ret
      exact sizedC_no ht0 hb01
    · go_wp2
      go_ret
      exact ⟨r1, rfl, by omega, by omega, fun h => by have := HS1.out (by omega); have := HF.out; have := HW.out; omega, hb01⟩
set_option maxRecDepth 100000 in
set_option maxHeartbeats 4000000 in
theorem szBoxS_c (a : Option Addr) (n c : Nat) (xs : List BxA) (t : Int) (w : World) (hx : xs.length = n) (h1 : RdBs maxLen w a xs) (hn : n ≤ maxLen) (ht0 : 0 ≤ t) (ht : t ≤ 1048576) :
    Calls Tryz.prog 9 #[.slice a n c, .int .i64 t] w (SizedC t (wgBs (xs.map BxA.b)) w) := by
  unfold maxLen at hn
  have X1 := Lib.hid h1
  have L1 := Lib.hid hx
  clear h1 hx
  by_cases hbig : t - n < 0
  · go_enter Tryz.func9, Tryz.ntmps9
    go_wp2
    go_ret
    exact sizedC_no ht0 (Below.refl _ _)
  · go_enter Tryz.func9, Tryz.ntmps9
    go_wp2_with fail
    go_loopw [1, 5] (fun l i wr => ∃ (k : Nat) (r : Int), k ≤ n ∧ i = .int .i64 k ∧ l = .int .i64 r ∧ 0 ≤ r ∧ r ≤ t ∧ Below w.heap.size w wr ∧ (scB (xs.take k) : Int) ≤ t - n - r) (fun _ i _ => n - (intOf i).toNat)
    case atStart => exact ⟨0, t - n, Nat.zero_le _, rfl, rfl, by omega, by omega, Below.refl _ _, by simp [scB]⟩
    case round =>
      obtain ⟨k, r, hk, rfl, rfl, hr0, hrt, hb, hall⟩ := hrel
      have HALL := Lib.hid hall
      clear hall
      by_cases hlt : k < n
      · have j1 : k < xs.length := by rw [L1.out]; exact hlt
        obtain ⟨b1, o1, rfl, hb1, p0, p1, p3⟩ := (X1.out.below hb).at j1
        have hkn : (k : Int) < (n : Int) := by omega
        have hk0 : (0 : Int) ≤ (k : Int) := by omega
        have HC : Hid (Calls Tryz.prog 44 #[.agg #[.string (str xs[k].path), .slice xs[k].a xs[k].xs.length xs[k].c], .int .i64 r] wr (SizedC r (wgB xs[k].b) wr)) := szBox_c xs[k] r wr p3 hr0 (by omega)
        clear p3
        have HT := Lib.hid (scB_step j1)
        generalize wgB xs[k].b = q at *
        generalize str xs[k].path = ss1 at *
        generalize xs[k].a = aa1 at *
        generalize xs[k].xs.length = nn1 at *
        generalize xs[k].c = cc1 at *
        go_wp2_with fail
        refine HC.out.mono ?_
        rintro e w5 ⟨r2, rfl, hr1, hr2, hsm, hb5⟩
        have HSM := Lib.hid hsm
        have hbx := nx hb hb5
        clear hsm p0 p1
        by_cases hneg : r2 < 0
        · go_wp2
          go_ret
          exact sizedC_no ht0 hbx
        · go_wp2
          go_roundw
          case rel => exact ⟨k + 1, r2, by omega, by go_num, rfl, by omega, by omega, hbx, by have := HSM.out (by omega); have := HALL.out; rw [HT.out]; omega⟩
          case measure => simp [intOf]; omega
      · go_wp2
        go_ret
        exact ⟨r, rfl, by omega, hrt, fun _ => by rw [wgBs_sc]; have := HALL.out; rw [List.take_of_length_le (by have := L1.out; omega)] at this; have := L1.out; omega, hb⟩
end Go.Proofs.YtombejhpfobehaaGreatDoor
end
