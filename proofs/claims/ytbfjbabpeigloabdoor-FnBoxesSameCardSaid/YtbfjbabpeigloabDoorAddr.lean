/-
  Addresses: what the program's functions on mailboxes, domains and names return. No statement is proved here.
-/
import Derived.Test.YtbfjbabpeigloabDoorAddrM
import Derived.Test.YtbfjbabpeigloabDoorSplit
import Derived.Lib.SplitLaws
import Derived.Test.YtbfjbabpeigloabDoorShelf
namespace Go.Proofs.YtbfjbabpeigloabDoor
open Go.RowKit

/-! Small lemmas on texts as strings. -/
theorem str_at (l : List UInt8) (k : Nat) (h : k < (str l).size) : (str l)[k] = l[k]'(by rw [str_size] at h; exact h) := by
  rw [← getElem_list (str l) k h]; simp [str]
theorem str_inj {a b : List UInt8} (h : str a = str b) : a = b := by rw [← str_list a, h, str_list]
theorem str_eq_iff (a b : List UInt8) : (str a = str b) ↔ a = b := ⟨str_inj, fun h => by rw [h]⟩
theorem ext_take (s : ByteArray) (k : Nat) : s.extract 0 k = str (s.data.toList.take k) := by
  apply bytes_ext; rw [Lib.extract_data, str_list]; simp
theorem ext_drop (s : ByteArray) (k : Nat) : s.extract k s.size = str (s.data.toList.drop k) := by
  apply bytes_ext
  rw [Lib.extract_data, str_list, List.take_of_length_le (by rw [List.length_drop, size_list]; omega)]
theorem bneq_t {c d : UInt8} (h : c ≠ d) {n : Int} (hn : (d.toNat : Int) = n) : ((c.toNat : Int) != n) = true := by rw [bne, beq_f h hn]; rfl
theorem bneq_f {c d : UInt8} (h : c = d) {n : Int} (hn : (d.toNat : Int) = n) : ((c.toNat : Int) != n) = false := by rw [bne, beq_t h hn]; rfl
theorem own_snoc {B : Nat} {v : Value} {xs : List (List UInt8)} {w : World} {x : ByteArray} (h : w.ownsRow B 9 1 v (xs.length + 1) (xs.map strV ++ [.string x])) : OwnL B v (xs ++ [x.data.toList]) w := by
  have e : strV x.data.toList = .string x := by unfold strV; rw [str_of]
  unfold OwnL
  rw [List.length_append, List.map_append, List.map_cons, e]; exact h
theorem labC_45 {c : UInt8} : labC c = (smallB c || digB c || decide (c = 45)) := rfl
theorem isLab_bad (s : ByteArray) (k : Nat) (hk : k < s.size) (h : labC s[k] = false) : isLab s.data.toList = false := by
  have hm : s[k] ∈ s.data.toList := by simp [ByteArray.getElem_eq_getElem_data]
  have : s.data.toList.all labC = false := by rw [List.all_eq_false]; exact ⟨_, hm, by simp [h]⟩
  unfold isLab; rw [this]; simp
theorem isLab_good (s : ByteArray) (h0 : 0 < s.size) (h : ∀ j, (h' : j < s.size) → labC s[j] = true) : isLab s.data.toList = (decide (s[0] ≠ 45) && decide (s[s.size - 1] ≠ 45)) := by
  have hall : s.data.toList.all labC = true := by
    rw [List.all_eq_true]; intro x hx
    obtain ⟨j, hj, rfl⟩ := List.getElem_of_mem hx
    exact h j hj
  have hne : s.data.toList ≠ [] := fun e => by have := size_list s; rw [e] at this; simp at this; omega
  have hh : s.data.toList.head? = some s[0] := by
    rw [List.head?_eq_getElem?, List.getElem?_eq_getElem (by rw [size_list]; exact h0)]; rfl
  have hl : s.data.toList.getLast? = some s[s.size - 1] := by
    rw [List.getLast?_eq_getElem?, size_list, List.getElem?_eq_getElem (by rw [size_list]; omega)]; rfl
  unfold isLab
  rw [hall, hh, hl]
  simp [hne]
theorem isLab_nil (s : ByteArray) (h0 : s.size = 0) : isLab s.data.toList = false := by
  rw [empty_list h0]; rfl
set_option maxRecDepth 100000 in
set_option maxHeartbeats 2000000 in
theorem labelValid_any (s : ByteArray) (w : World) (hs : s.size ≤ 1073741824) :
    Calls Tryd.prog 83 #[.string s] w fun e w' => e = .returned (.bool (isLab s.data.toList)) ∧ w = w' := by
  go_enter Tryd.func83, Tryd.ntmps83
  go_wp2_with fail
  go_loop [3] (fun i => ∃ k : Nat, k ≤ s.size ∧ i = .int .i64 k ∧ ∀ j, (h : j < k) → (h' : j < s.size) → labC s[j] = true) (fun i => s.size - (intOf i).toNat)
  case atStart => exact ⟨0, Nat.zero_le _, rfl, fun j h => by omega⟩
  case round =>
    obtain ⟨k, hk, rfl, hall⟩ := hrel
    have H := Lib.hid hall
    clear hall
    by_cases hlt : k < s.size
    · cases h1 : smallB s[k]
      · cases h2 : digB s[k]
        · by_cases h3 : s[k] = 45
          · have HN : Hid (labC s[k] = true) := by show _ = _; rw [labC_45, h3]; decide
            have H1 := Lib.hid h1
            have H2 := Lib.hid h2
            have e3 := bneq_f h3 (n := 45) rfl
            clear h1 h2 h3
            go_wp2_with fail
            refine (isSmall_any _ _).mono ?_
            rintro e w1 ⟨rfl, rfl⟩
            rw [H1.out]
            go_wp2_with fail
            refine (isDigit_any _ _).mono ?_
            rintro e w1 ⟨rfl, rfl⟩
            rw [H2.out]
            go_wp2
            go_round
            case rel => exact ⟨k + 1, by omega, by go_num, fun j h h' => by
              by_cases e : j = k
              · subst e; exact HN.out
              · exact H.out j (by omega) h'⟩
            case measure => simp [intOf]; omega
          · have HN := Lib.hid (isLab_bad s k hlt (by rw [labC_45, h1, h2]; simp [h3]))
            have H1 := Lib.hid h1
            have H2 := Lib.hid h2
            have e3 := bneq_t h3 (n := 45) rfl
            clear h1 h2 h3
            go_wp2_with fail
            refine (isSmall_any _ _).mono ?_
            rintro e w1 ⟨rfl, rfl⟩
            rw [H1.out]
            go_wp2_with fail
            refine (isDigit_any _ _).mono ?_
            rintro e w1 ⟨rfl, rfl⟩
            rw [H2.out]
            go_wp2
            go_ret
            exact ⟨ret_bool HN.out.symm, rfl⟩
        · have HN : Hid (labC s[k] = true) := by show _ = _; rw [labC_45, h2]; simp
          have H1 := Lib.hid h1
          have H2 := Lib.hid h2
          clear h1 h2
          go_wp2_with fail
          refine (isSmall_any _ _).mono ?_
          rintro e w1 ⟨rfl, rfl⟩
          rw [H1.out]
          go_wp2_with fail
          refine (isDigit_any _ _).mono ?_
          rintro e w1 ⟨rfl, rfl⟩
          rw [H2.out]
          go_wp2
          go_round
          case rel => exact ⟨k + 1, by omega, by go_num, fun j h h' => by
            by_cases e : j = k
            · subst e; exact HN.out
            · exact H.out j (by omega) h'⟩
          case measure => simp [intOf]; omega
      · have HN : Hid (labC s[k] = true) := by show _ = _; rw [labC_45, h1]; simp
        have H1 := Lib.hid h1
        clear h1
        go_wp2_with fail
        refine (isSmall_any _ _).mono ?_
        rintro e w1 ⟨rfl, rfl⟩
        rw [H1.out]
        go_wp2
        go_round
        case rel => exact ⟨k + 1, by omega, by go_num, fun j h h' => by
          by_cases e : j = k
          · subst e; exact HN.out
          · exact H.out j (by omega) h'⟩
        case measure => simp [intOf]; omega
    · by_cases h0 : s.size = 0
      · have HN := Lib.hid (isLab_nil s h0)
        have he := empty_t h0
        have H0 := Lib.hid h0
        clear h0
        go_wp2
        go_ret
        exact ⟨ret_bool HN.out.symm, rfl⟩
      · have HN := Lib.hid (isLab_good s (by omega) (fun j h' => H.out j (by omega) h'))
        have he := empty_f (s := s) (by omega)
        have hp : 0 < s.size := by omega
        have hp2 : 1 ≤ s.size := by omega
        have h0' : s.size - 1 < s.size := by omega
        by_cases ha : s[0] = 45
        · have e1 := bneq_f ha (n := 45) rfl
          have HR : Hid (isLab s.data.toList = false) := by show _ = _; rw [HN.out, ha]; simp
          clear ha
          go_wp2
          go_ret
          exact ⟨ret_bool HR.out.symm, rfl⟩
        · have e1 := bneq_t ha (n := 45) rfl
          by_cases hb : s[s.size - 1] = 45
          · have e2 := bneq_f hb (n := 45) rfl
            have HR : Hid (isLab s.data.toList = false) := by show _ = _; rw [HN.out, hb]; simp
            clear ha hb
            go_wp2
            go_ret
            exact ⟨ret_bool HR.out.symm, rfl⟩
          · have e2 := bneq_t hb (n := 45) rfl
            have HR : Hid (isLab s.data.toList = true) := by show _ = _; rw [HN.out]; simp [ha, hb]
            clear ha hb
            go_wp2
            go_ret
            exact ⟨ret_bool HR.out.symm, rfl⟩
theorem splitK_C (c : UInt8) : ∀ l : List UInt8, Lib.splitK [c] 0 (l.count c) l = splitC c l
  | [] => rfl
  | b :: l => by
    have ih := splitK_C c l
    by_cases h : b = c
    · subst h
      rw [List.count_cons_self, splitC_hit, ← ih]
      have hix : Lib.index (b :: l) [b] = 0 := by rw [Lib.index]; simp [List.isPrefixOf]
      rw [Lib.splitK, hix]
      simp
    · have hp : ([c] : List UInt8).isPrefixOf (b :: l) = false := by simp [List.isPrefixOf]; exact fun e => h e.symm
      have hix : Lib.index (b :: l) [c] = if Lib.index l [c] == -1 then -1 else Lib.index l [c] + 1 := by rw [Lib.index, hp]; simp
      rw [List.count_cons_of_ne (fun e => h e), splitC_skip l h, ← ih]
      cases hk : l.count c with
      | zero => rfl
      | succ k =>
        rw [Lib.splitK, Lib.splitK, hix]
        by_cases hm : Lib.index l [c] = -1
        · rw [hm]; rfl
        · have hge := Lib.index_ge l [c]
          obtain ⟨i, hi⟩ := Int.eq_ofNat_of_zero_le (show 0 ≤ Lib.index l [c] by omega)
          rw [hi]
          have e1 : ((i : Int) == -1) = false := by rw [beq_eq_false_iff_ne]; omega
          rw [e1]
          simp only [Bool.false_eq_true, if_false]
          have e2 : (((i : Int) + 1) == -1) = false := by rw [beq_eq_false_iff_ne]; omega
          rw [e2]
          simp only [Bool.false_eq_true, if_false]
          have e3 : ((i : Int) + 1).toNat = i + 1 := by omega
          have e4 : ((i : Int)).toNat = i := by omega
          rw [e3, e4]
          simp [glue]
def CutsRet (xs : List (List UInt8)) (w : World) (e : Ending) (w' : World) : Prop := ∃ b, e = .returned (.slice (some ⟨b, 0, none⟩) xs.length xs.length) ∧ RdL w' (some ⟨b, 0, none⟩) xs.length xs ∧ Below w.heap.size w w'
theorem splitMx_any (s : ByteArray) (c : UInt8) (w : World) (hmx : ∃ m, w.cell? ⟨0, 0, none⟩ = some (.int .i64 m)) (hs : s.size ≤ 1073741824) :
    Calls Tryd.prog 95 #[.string s, .string ⟨#[c]⟩] w (CutsRet (splitC c s.data.toList) w) := by
  obtain ⟨m, hm⟩ := hmx
  refine (Tryd.strings_Split s ⟨#[c]⟩ m w (by omega) hm (Nat.le_refl 1)).mono ?_
  rintro e w' ⟨rfl, rfl⟩
  have hd : (Lib.splitB ⟨#[c]⟩ 0 (Lib.countB s ⟨#[c]⟩) s).map (·.data.toList) = splitC c s.data.toList := by
    rw [Lib.splitB_data]
    have : Lib.countB s ⟨#[c]⟩ = s.data.toList.count c := Lib.count_one c s.data.toList
    rw [this]; exact splitK_C c _
  have hl : (Lib.splitB ⟨#[c]⟩ 0 (Lib.countB s ⟨#[c]⟩) s).length = Lib.countB s ⟨#[c]⟩ + 1 := Lib.splitB_all ⟨#[c]⟩ (Nat.le_refl 1) 0 _ s rfl
  have hn : (splitC c s.data.toList).length = Lib.countB s ⟨#[c]⟩ + 1 := by rw [← hd, List.length_map, hl]
  refine ⟨w.heap.size, by rw [hn], ⟨rfl, .inr ⟨w.heap.size, 0, rfl, by simp, fun i hi => ?_⟩⟩, (Below.refl _ _).alloc (Nat.le_refl _) _⟩
  rw [World.cell?_alloc_at _ _ _ _ rfl, Nat.zero_add]
  have hi' : i < (Lib.splitB ⟨#[c]⟩ 0 (Lib.countB s ⟨#[c]⟩) s).length := by rw [hl, ← hn]; exact hi
  have e1 : (splitC c s.data.toList)[i] = ((Lib.splitB ⟨#[c]⟩ 0 (Lib.countB s ⟨#[c]⟩) s)[i]'hi').data.toList := by
    simp only [← hd, List.getElem_map]
  rw [e1, str_of]
  simp [List.getElem?_eq_getElem hi']
theorem splitC_small (c : UInt8) : ∀ (l : List UInt8), (splitC c l).length ≤ l.length + 1 ∧ ∀ p ∈ splitC c l, p.length ≤ l.length
  | [] => by simp [splitC]
  | x :: l => by
    have ih := splitC_small c l
    by_cases h : x = c
    · subst h; rw [splitC_hit]; refine ⟨by simp; exact ih.1, fun p hp => ?_⟩
      rcases List.mem_cons.1 hp with e | hp
      · subst e; simp
      · have := ih.2 p hp; simp; omega
    · rw [splitC_skip l h]
      cases hq : splitC c l with
      | nil => simp [glue]
      | cons q qs =>
        rw [hq] at ih
        refine ⟨by have := ih.1; simp [glue] at this ⊢; omega, fun p hp => ?_⟩
        simp only [glue, List.mem_cons] at hp
        rcases hp with e | hp
        · subst e; have := ih.2 q (by simp); simp; omega
        · have := ih.2 p (by simp [hp]); simp; omega
/-- What the functions read of the program's and the library's variables. -/
structure Env (w : World) : Prop where
  tab : Tab w
  mx : ∃ m, w.cell? ⟨0, 0, none⟩ = some (.int .i64 m)
theorem Env.below {w w' : World} (h : Env w) (b : Below w.heap.size w w') : Env w' :=
  ⟨h.tab.below b, by obtain ⟨m, hm⟩ := h.mx; exact ⟨m, by rw [below_at b (lt_of_cell hm)]; exact hm⟩⟩
theorem split_any (s : ByteArray) (c : UInt8) (w : World) (en : Env w) (hs : s.size ≤ 1073741824) :
    Calls Tryd.prog 95 #[.string s, .string ⟨#[c]⟩] w (CutsRet (splitC c s.data.toList) w) := splitMx_any s c w en.mx hs
theorem atomEnv (x : ByteArray) (w : World) (en : Env w) (hx : x.size ≤ 1073741824) : Calls Tryd.prog 82 #[.string x] w fun e w' => e = .returned (.bool (isAtom x.data.toList)) ∧ Below w.heap.size w w' :=
  atomValid_any x w en.tab (by unfold maxLen; omega)
theorem labEnv (x : ByteArray) (w : World) (_ : Env w) (hx : x.size ≤ 1073741824) : Calls Tryd.prog 83 #[.string x] w fun e w' => e = .returned (.bool (isLab x.data.toList)) ∧ Below w.heap.size w w' :=
  (labelValid_any x w hx).mono (fun _ _ ⟨he, hw⟩ => ⟨he, hw ▸ Below.refl _ _⟩)
set_option maxRecDepth 100000 in
set_option maxHeartbeats 2000000 in
theorem between_atom (s : ByteArray) (w : World) (en : Env w) (hs : s.size ≤ 1073741000) :
    Calls Tryd.prog 81 #[.string s, .func (.func 82) #[] #[]] w fun e w' => e = .returned (.bool ((splitC 46 s.data.toList).all isAtom)) ∧ Below w.heap.size w w' := by
  have HSM := Lib.hid (splitC_small 46 s.data.toList)
  go_enter Tryd.func81, Tryd.ntmps81
  go_wp2_with fail
  refine (split_any s 46 _ en (by omega)).mono ?_
  rintro e w1 ⟨b, rfl, hr, hb1⟩
  generalize hX : splitC 46 s.data.toList = xs at *
  have HX := Lib.hid hX
  have en1 := en.below hb1
  obtain ⟨_, hr2⟩ := hr
  have HR := Lib.hid hr2
  have hlen : xs.length ≤ 1073741824 := by have := HSM.out.1; rw [size_list] at this; omega
  clear hX hr2
  go_wp2_with fail
  go_loopw [10] (fun i wr => ∃ k : Nat, k ≤ xs.length ∧ i = .int .i64 k ∧ Below w1.heap.size w1 wr ∧ ∀ j, (h : j < k) → (h' : j < xs.length) → isAtom xs[j] = true) (fun i _ => xs.length - (intOf i).toNat)
  case atStart => exact ⟨0, Nat.zero_le _, rfl, Below.refl _ _, fun j h => by omega⟩
  case round =>
    obtain ⟨k, hk, rfl, hb, hall⟩ := hrel
    have HA := Lib.hid hall
    clear hall
    by_cases hlt : k < xs.length
    · obtain ⟨b', o', he, hbl, hcell⟩ := HR.out.resolve_left (by omega)
      injection he with he; injection he with he1 he2 _
      subst he1 he2
      have hc1 : wr.cell? ⟨b, k, none⟩ = some (.string (str xs[k])) := by rw [below_at hb hbl]; simpa using hcell k hlt
      have hsz : (str xs[k]).size ≤ 1073741824 := by rw [str_size]; have := HSM.out.2 _ (List.getElem_mem hlt); rw [size_list] at this; omega
      clear hcell
      cases hp : isAtom xs[k]
      · have HP : Hid (isAtom (str xs[k]).data.toList = false) := by show _ = _; rw [str_list]; exact hp
        have HE : Hid (xs.all isAtom = false) := by show _ = _; rw [List.all_eq_false]; exact ⟨_, List.getElem_mem hlt, by simp [hp]⟩
        generalize str xs[k] = x at *
        clear hp
        go_wp2_with fail
        refine (atomEnv x _ (en1.below hb) hsz).mono ?_
        rintro e w2 ⟨rfl, hb2⟩
        rw [HP.out]
        go_wp2
        go_ret
        exact ⟨ret_bool (by rw [HX.out, HE.out]), nx hb1 (nx hb hb2)⟩
      · have HP : Hid (isAtom (str xs[k]).data.toList = true) := by show _ = _; rw [str_list]; exact hp
        have HQ := Lib.hid hp
        generalize str xs[k] = x at *
        clear hp
        go_wp2_with fail
        refine (atomEnv x _ (en1.below hb) hsz).mono ?_
        rintro e w2 ⟨rfl, hb2⟩
        rw [HP.out]
        go_wp2
        go_roundw
        case rel => exact ⟨k + 1, by omega, by go_num, nx hb hb2, fun j h h' => by
          by_cases e : j = k
          · subst e; exact HQ.out
          · exact HA.out j (by omega) h'⟩
        case measure => simp [intOf]; omega
    · have HE : Hid (xs.all isAtom = true) := by
        show _ = _
        rw [List.all_eq_true]; intro x hx
        obtain ⟨j, hj, rfl⟩ := List.getElem_of_mem hx
        exact HA.out j (by omega) hj
      go_wp2
      go_ret
      exact ⟨ret_bool (by rw [HX.out, HE.out]), nx hb1 hb⟩
set_option maxRecDepth 100000 in
set_option maxHeartbeats 2000000 in
theorem between_lab (s : ByteArray) (w : World) (en : Env w) (hs : s.size ≤ 1073741000) :
    Calls Tryd.prog 81 #[.string s, .func (.func 83) #[] #[]] w fun e w' => e = .returned (.bool ((splitC 46 s.data.toList).all isLab)) ∧ Below w.heap.size w w' := by
  have HSM := Lib.hid (splitC_small 46 s.data.toList)
  go_enter Tryd.func81, Tryd.ntmps81
  go_wp2_with fail
  refine (split_any s 46 _ en (by omega)).mono ?_
  rintro e w1 ⟨b, rfl, hr, hb1⟩
  generalize hX : splitC 46 s.data.toList = xs at *
  have HX := Lib.hid hX
  have en1 := en.below hb1
  obtain ⟨_, hr2⟩ := hr
  have HR := Lib.hid hr2
  have hlen : xs.length ≤ 1073741824 := by have := HSM.out.1; rw [size_list] at this; omega
  clear hX hr2
  go_wp2_with fail
  go_loopw [10] (fun i wr => ∃ k : Nat, k ≤ xs.length ∧ i = .int .i64 k ∧ Below w1.heap.size w1 wr ∧ ∀ j, (h : j < k) → (h' : j < xs.length) → isLab xs[j] = true) (fun i _ => xs.length - (intOf i).toNat)
  case atStart => exact ⟨0, Nat.zero_le _, rfl, Below.refl _ _, fun j h => by omega⟩
  case round =>
    obtain ⟨k, hk, rfl, hb, hall⟩ := hrel
    have HA := Lib.hid hall
    clear hall
    by_cases hlt : k < xs.length
    · obtain ⟨b', o', he, hbl, hcell⟩ := HR.out.resolve_left (by omega)
      injection he with he; injection he with he1 he2 _
      subst he1 he2
      have hc1 : wr.cell? ⟨b, k, none⟩ = some (.string (str xs[k])) := by rw [below_at hb hbl]; simpa using hcell k hlt
      have hsz : (str xs[k]).size ≤ 1073741824 := by rw [str_size]; have := HSM.out.2 _ (List.getElem_mem hlt); rw [size_list] at this; omega
      clear hcell
      cases hp : isLab xs[k]
      · have HP : Hid (isLab (str xs[k]).data.toList = false) := by show _ = _; rw [str_list]; exact hp
        have HE : Hid (xs.all isLab = false) := by show _ = _; rw [List.all_eq_false]; exact ⟨_, List.getElem_mem hlt, by simp [hp]⟩
        generalize str xs[k] = x at *
        clear hp
        go_wp2_with fail
        refine (labEnv x _ (en1.below hb) hsz).mono ?_
        rintro e w2 ⟨rfl, hb2⟩
        rw [HP.out]
        go_wp2
        go_ret
        exact ⟨ret_bool (by rw [HX.out, HE.out]), nx hb1 (nx hb hb2)⟩
      · have HP : Hid (isLab (str xs[k]).data.toList = true) := by show _ = _; rw [str_list]; exact hp
        have HQ := Lib.hid hp
        generalize str xs[k] = x at *
        clear hp
        go_wp2_with fail
        refine (labEnv x _ (en1.below hb) hsz).mono ?_
        rintro e w2 ⟨rfl, hb2⟩
        rw [HP.out]
        go_wp2
        go_roundw
        case rel => exact ⟨k + 1, by omega, by go_num, nx hb hb2, fun j h h' => by
          by_cases e : j = k
          · subst e; exact HQ.out
          · exact HA.out j (by omega) h'⟩
        case measure => simp [intOf]; omega
    · have HE : Hid (xs.all isLab = true) := by
        show _ = _
        rw [List.all_eq_true]; intro x hx
        obtain ⟨j, hj, rfl⟩ := List.getElem_of_mem hx
        exact HA.out j (by omega) hj
      go_wp2
      go_ret
      exact ⟨ret_bool (by rw [HX.out, HE.out]), nx hb1 hb⟩
set_option maxRecDepth 100000 in
set_option maxHeartbeats 1000000 in
theorem localValid_any (s : ByteArray) (w : World) (en : Env w) (hs : s.size ≤ 1073741000) :
    Calls Tryd.prog 67 #[.string s] w fun e w' => e = .returned (.bool (isLocal s.data.toList)) ∧ Below w.heap.size w w' := by
  by_cases h : s.size ≤ 30
  · have d1 : decide ((s.size : Int) ≤ 30) = true := by simp; omega
    have HR : Hid (isLocal s.data.toList = (splitC 46 s.data.toList).all isAtom) := by show _ = _; unfold isLocal; rw [size_list, decide_eq_true h]; rfl
    go_enter Tryd.func67, Tryd.ntmps67
    go_wp2_with fail
    refine (between_atom s _ en hs).mono ?_
    rintro e w1 ⟨rfl, hb⟩
    go_wp2
    go_ret
    exact ⟨ret_bool HR.out.symm, hb⟩
  · have d1 : decide ((s.size : Int) ≤ 30) = false := by simp; omega
    have HR : Hid (isLocal s.data.toList = false) := by show _ = _; unfold isLocal; rw [size_list, decide_eq_false h]; rfl
    go_enter Tryd.func67, Tryd.ntmps67
    go_wp2
    go_ret
    exact ⟨ret_bool HR.out.symm, Below.refl _ _⟩
set_option maxRecDepth 100000 in
set_option maxHeartbeats 1000000 in
theorem domainValid_any (s : ByteArray) (w : World) (en : Env w) (hs : s.size ≤ 1073741000) :
    Calls Tryd.prog 68 #[.string s] w fun e w' => e = .returned (.bool (isDomain s.data.toList)) ∧ Below w.heap.size w w' := by
  by_cases h : s.size ≤ 40
  · have d1 : decide ((s.size : Int) ≤ 40) = true := by simp; omega
    have HR : Hid (isDomain s.data.toList = (splitC 46 s.data.toList).all isLab) := by show _ = _; unfold isDomain; rw [size_list, decide_eq_true h]; rfl
    go_enter Tryd.func68, Tryd.ntmps68
    go_wp2_with fail
    refine (between_lab s _ en hs).mono ?_
    rintro e w1 ⟨rfl, hb⟩
    go_wp2
    go_ret
    exact ⟨ret_bool HR.out.symm, hb⟩
  · have d1 : decide ((s.size : Int) ≤ 40) = false := by simp; omega
    have HR : Hid (isDomain s.data.toList = false) := by show _ = _; unfold isDomain; rw [size_list, decide_eq_false h]; rfl
    go_enter Tryd.func68, Tryd.ntmps68
    go_wp2
    go_ret
    exact ⟨ret_bool HR.out.symm, Below.refl _ _⟩
end Go.Proofs.YtbfjbabpeigloabDoor
