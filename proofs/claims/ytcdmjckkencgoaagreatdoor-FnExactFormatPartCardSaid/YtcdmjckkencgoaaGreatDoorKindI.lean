/-
  Kinds: what the program's functions on them return. No statement is proved here.
-/
import Derived.Test.YtcdmjckkencgoaaGreatDoorKindM
import Derived.Test.YtcdmjckkencgoaaGreatDoorGetF
import Derived.Test.YtcdmjckkencgoaaGreatDoorFld
import Derived.Test.YtcdmjckkencgoaaGreatDoorFldS
import Derived.Test.YtcdmjckkencgoaaGreatDoorQuote
import Derived.Test.YtcdmjckkencgoaaGreatDoorQuietB
namespace Go.Proofs.YtcdmjckkencgoaaGreatDoor
open Go.RowKit

def K2 (w : World) (g : Nat) (v0 v1 : Value) : Prop := w.cell? ⟨g, 0, none⟩ = some v0 ∧ w.cell? ⟨g, 1, none⟩ = some v1
theorem K2.below {w w' : World} {g : Nat} {v0 v1 : Value} (h : K2 w g v0 v1) (hb : Below w.heap.size w w') : K2 w' g v0 v1 := by
  have hl := lt_of_cell h.1
  exact ⟨by rw [below_at hb hl, h.1], by rw [below_at hb hl, h.2]⟩
theorem K2.new (w : World) (v0 v1 : Value) (t : TypeId) : K2 (w.alloc (.cells #[v0, v1] t)) w.heap.size v0 v1 :=
  ⟨by rw [World.cell?_alloc_at _ _ _ _ rfl]; rfl, by rw [World.cell?_alloc_at _ _ _ _ rfl]; rfl⟩
def KK3 (w : World) (g : Nat) (v0 v1 v2 : Value) : Prop := w.cell? ⟨g, 0, none⟩ = some v0 ∧ w.cell? ⟨g, 1, none⟩ = some v1 ∧ w.cell? ⟨g, 2, none⟩ = some v2
theorem KK3.below {w w' : World} {g : Nat} {v0 v1 v2 : Value} (h : KK3 w g v0 v1 v2) (hb : Below w.heap.size w w') : KK3 w' g v0 v1 v2 := by
  have hl := lt_of_cell h.1
  exact ⟨by rw [below_at hb hl, h.1], by rw [below_at hb hl, h.2.1], by rw [below_at hb hl, h.2.2]⟩
theorem KK3.new (w : World) (v0 v1 v2 : Value) (t : TypeId) : KK3 (w.alloc (.cells #[v0, v1, v2] t)) w.heap.size v0 v1 v2 :=
  ⟨by rw [World.cell?_alloc_at _ _ _ _ rfl]; rfl, by rw [World.cell?_alloc_at _ _ _ _ rfl]; rfl, by rw [World.cell?_alloc_at _ _ _ _ rfl]; rfl⟩
theorem low_eqS (s : ByteArray) : decide (lowS s = s) = decide (low s.data.toList = s.data.toList) := by
  refine decide_eq_decide.2 ⟨fun h => ?_, fun h => ?_⟩
  · have := congrArg (·.data.toList) h
    simpa [lowS, str_list] using this
  · unfold lowS; rw [h, str_of]
theorem isSmall_S (s : ByteArray) : isSmall s.data.toList = (isFName s.data.toList && decide (lowS s = s)) := by rw [low_eqS]; rfl
theorem dup_at {xs : List Fld} {i : Nat} (hi : i < xs.length) : (findN (xs.take i) xs[i].name).isNone = decide ((i : Int) ≤ idxI (findN xs xs[i].name)) := by
  rcases findN_cases xs xs[i].name with ⟨_, hall⟩ | ⟨j, hj, hq, h1, h2⟩
  · have := hall i hi
    rw [sameN_self] at this; cases this
  · rw [hq, idxI_some]
    by_cases hji : j < i
    · have h3 : findN (xs.take i) xs[i].name = some j := findN_at _ j (by rw [List.length_take]; omega) (by rw [List.getElem_take]; exact h1) (fun t ht hl => by rw [List.getElem_take]; exact h2 t ht (by rw [List.length_take] at hl; omega))
      rw [h3, decide_eq_false (by omega)]; rfl
    · have h3 : findN (xs.take i) xs[i].name = none := findN_none _ (fun t ht => by
        have ht' : t < i := by rw [List.length_take] at ht; omega
        rw [List.getElem_take]; exact h2 t (by omega) (by omega))
      rw [h3, decide_eq_true (by omega)]; rfl
theorem parAt_eq {xs : List Fld} {i : Nat} (hi : i < xs.length) : parAt xs i = (isSmall xs[i].name && (isText xs[i].val && decide (xs[i].val.length ≤ 40)) && decide ((i : Int) ≤ idxI (findN xs xs[i].name))) := by
  rw [parAt_at hi, dup_at hi]; rfl
set_option maxRecDepth 100000 in
set_option maxHeartbeats 400000 in
theorem smallNameValid_any (s : ByteArray) (w : World) (hs : s.size ≤ 1073741824) :
    Calls Tryz.prog 168 #[.string s] w fun e w' => e = .returned (.bool (isSmall s.data.toList)) ∧ Below w.heap.size w w' := by
  have HS := Lib.hid (isSmall_S s)
  have e1 := beq_dec (lowS s) s
  have HN := Lib.hid (fun u => nameValid_any s u hs)
  have HLW := Lib.hid (fun u => lowerText_any s u hs)
  generalize decide (lowS s = s) = q at *
  generalize isFName s.data.toList = p at *
  generalize lowS s = L at *
  cases p
  all_goals
    go_enter Tryz.func168, Tryz.ntmps168
    go_wp2_with fail
    refine (HN.out _).mono ?_
    rintro e w1 ⟨rfl, rfl⟩
    first
      | (go_wp2
         go_ret
         exact ⟨ret_bool (by rw [HS.out]; rfl), Below.refl _ _⟩)
      | (go_wp2_with fail
         refine (HLW.out _).mono ?_
         rintro e w2 ⟨rfl, hb2⟩
         go_wp2
         go_ret
         exact ⟨ret_bool (by rw [HS.out]; rfl), hb2⟩)
set_option maxRecDepth 100000 in
set_option maxHeartbeats 400000 in
theorem l7Word_any (s : ByteArray) (w : World) (hs : s.size ≤ 1073741824) :
    Calls Tryz.prog 151 #[.string s] w fun e w' => e = .returned (.bool (isSmall s.data.toList)) ∧ Below w.heap.size w w' := by
  have HS := Lib.hid (isSmall_S s)
  have e1 := beq_dec (lowS s) s
  have HN := Lib.hid (fun u => l3Name_any s u hs)
  have HLW := Lib.hid (fun u => lowerTextS_any s u hs)
  generalize decide (lowS s = s) = q at *
  generalize isFName s.data.toList = p at *
  generalize lowS s = L at *
  cases p
  all_goals
    go_enter Tryz.func151, Tryz.ntmps151
    go_wp2_with fail
    refine (HN.out _).mono ?_
    rintro e w1 ⟨rfl, rfl⟩
    first
      | (go_wp2
         go_ret
         exact ⟨ret_bool (by rw [HS.out]; rfl), Below.refl _ _⟩)
      | (go_wp2_with fail
         refine (HLW.out _).mono ?_
         rintro e w2 ⟨rfl, hb2⟩
         go_wp2
         go_ret
         exact ⟨ret_bool (by rw [HS.out]; rfl), hb2⟩)
set_option maxRecDepth 100000 in
set_option maxHeartbeats 1000000 in
theorem paramsValid_any (a : Option Addr) (n c : Nat) (xs : List Fld) (w : World) (hr : RdF w a n xs) (hn : n ≤ 1073741824) (hx : ∀ x ∈ xs, SmallF 1048576 x) :
    Calls Tryz.prog 169 #[.slice a n c] w fun e w' => e = .returned (.bool (decide (xs.length ≤ 4) && parsOk xs)) ∧ Below w.heap.size w w' := by
  have HR := Lib.hid hr
  have HLEN := Lib.hid hr.1
  have HX := Lib.hid hx
  clear hr hx
  by_cases h4 : 4 < n
  · have d4 : decide ((4 : Int) < (n : Int)) = true := by simp; omega
    have HV : Hid ((decide (xs.length ≤ 4) && parsOk xs) = false) := by show _ = _; rw [decide_eq_false (by have := HLEN.out; omega)]; rfl
    go_enter Tryz.func169, Tryz.ntmps169
    go_wp2
    go_ret
    exact ⟨ret_bool HV.out.symm, Below.refl _ _⟩
  · have d4 : decide ((4 : Int) < (n : Int)) = false := by simp; omega
    have HV : Hid ((decide (xs.length ≤ 4) && parsOk xs) = parsOk xs) := by show _ = _; rw [decide_eq_true (by have := HLEN.out; omega)]; rfl
    go_enter Tryz.func169, Tryz.ntmps169
    go_wp2_with fail
    go_loopw [10] (fun i wr => ∃ k : Nat, k ≤ n ∧ i = .int .i64 k ∧ Below w.heap.size w wr ∧ ∀ j, j < k → parAt xs j = true) (fun i _ => n - (intOf i).toNat)
    case atStart => exact ⟨0, Nat.zero_le _, rfl, Below.refl _ _, fun j hj => by omega⟩
    case round =>
      obtain ⟨k, hk, rfl, hb, hall⟩ := hrel
      have HA := Lib.hid hall
      clear hall
      by_cases hlt : k < n
      · have hkx : k < xs.length := by rw [HLEN.out]; exact hlt
        obtain ⟨b, off, rfl, hbl, hcell⟩ := HR.out.2.resolve_left (by omega)
        obtain ⟨q0, q1⟩ := RdR.fld hcell hkx
        rw [← below_at hb hbl] at q0 q1
        have HPA := Lib.hid (parAt_eq hkx)
        have HBAD : Hid (parAt xs k = false → parsOk xs = false) := fun h => parsOk_bad hkx h
        have hsz := HX.out _ (List.getElem_mem hkx)
        have hz0 : (str xs[k].name).size ≤ 1048576 := by rw [str_size]; exact hsz.1
        have hz1 : (str xs[k].val).size ≤ 1048576 := by rw [str_size]; exact hsz.2
        have HVS : Hid ((str xs[k].val).size = xs[k].val.length) := str_size _
        have HS1 : Hid (∀ u, Calls Tryz.prog 168 #[.string (str xs[k].name)] u fun e w' => e = .returned (.bool (isSmall xs[k].name)) ∧ Below u.heap.size u w') := fun u => by
          have := smallNameValid_any (str xs[k].name) u (by omega)
          rw [str_list] at this; exact this
        have HF1 : Hid (∀ u, Below wr.heap.size wr u → Calls Tryz.prog 103 #[.slice (some ⟨b, off, none⟩) n c, .string (str xs[k].name)] u fun e w' => e = .returned (.int .i64 (idxI (findN xs xs[k].name))) ∧ Below u.heap.size u w') := fun u h => by
          have := findField_any (some ⟨b, off, none⟩) n c xs (str xs[k].name) u ((HR.out.below hb).below h) hn (fun x hx => (HX.out x hx).up (by omega)) (by omega)
          rw [str_list] at this; exact this
        have HT1 : Hid (∀ u, Calls Tryz.prog 124 #[.string (str xs[k].val)] u fun e w' => e = .returned (.bool (isText xs[k].val)) ∧ u = w') := fun u => by
          have := textValid_any (str xs[k].val) u (by unfold maxLen; omega)
          rw [str_list] at this; exact this
        have hbA : Below wr.heap.size wr (wr.alloc (.cells #[.string (str xs[k].name), .string (str xs[k].val)] 78)) := (Below.refl _ _).alloc (Nat.le_refl _) _
        have HK0 := Lib.hid (K2.new wr (.string (str xs[k].name)) (.string (str xs[k].val)) 78)
        rw [← HVS.out] at HPA
        clear hcell hsz
        generalize idxI (findN xs xs[k].name) = J at *
        generalize str xs[k].name = N at *
        generalize str xs[k].val = V at *
        cases h1 : isSmall xs[k].name
        · have HP := Lib.hid (HBAD.out (by rw [HPA.out, h1]; rfl))
          rw [h1] at HS1
          clear h1
          go_wp2_with fail
          refine (HS1.out _).mono ?_
          rintro e w2 ⟨rfl, hb2⟩
          go_wp2
          go_ret
          exact ⟨ret_bool (by rw [HV.out, HP.out]), nx hb (nx hbA hb2)⟩
        · rw [h1] at HS1
          by_cases h2 : J < (k : Int)
          · have d2 : decide (J < (k : Int)) = true := by simpa using h2
            have HP := Lib.hid (HBAD.out (by rw [HPA.out, decide_eq_false (by omega : ¬ (k : Int) ≤ J)]; simp))
            clear h1 h2
            go_wp2_with fail
            refine (HS1.out _).mono ?_
            rintro e w2 ⟨rfl, hb2⟩
            obtain ⟨k0, k1⟩ := HK0.out.below hb2
            go_wp2_with fail
            refine (HF1.out _ (nx hbA hb2)).mono ?_
            rintro e w3 ⟨rfl, hb3⟩
            go_wp2
            go_ret
            exact ⟨ret_bool (by rw [HV.out, HP.out]), nx hb (nx (nx hbA hb2) hb3)⟩
          · have d2 : decide (J < (k : Int)) = false := by simpa using h2
            cases h3 : isText xs[k].val
            · have HP := Lib.hid (HBAD.out (by rw [HPA.out, h3]; simp))
              rw [h3] at HT1
              clear h1 h2 h3
              go_wp2_with fail
              refine (HS1.out _).mono ?_
              rintro e w2 ⟨rfl, hb2⟩
              have HK2 := Lib.hid (HK0.out.below hb2)
              obtain ⟨k0, k1⟩ := HK2.out
              go_wp2_with fail
              refine (HF1.out _ (nx hbA hb2)).mono ?_
              rintro e w3 ⟨rfl, hb3⟩
              clear k0 k1
              obtain ⟨k0, k1⟩ := HK2.out.below hb3
              go_wp2_with fail
              refine (HT1.out _).mono ?_
              rintro e w4 ⟨rfl, rfl⟩
              go_wp2
              go_ret
              exact ⟨ret_bool (by rw [HV.out, HP.out]), nx hb (nx (nx hbA hb2) hb3)⟩
            · rw [h3] at HT1
              by_cases h40 : 40 < V.size
              · have d5 : decide ((40 : Int) < (V.size : Int)) = true := by simp; omega
                have HP := Lib.hid (HBAD.out (by rw [HPA.out, decide_eq_false (by omega : ¬ V.size ≤ 40)]; simp))
                clear h1 h2 h3 h40
                go_wp2_with fail
                refine (HS1.out _).mono ?_
                rintro e w2 ⟨rfl, hb2⟩
                have HK2 := Lib.hid (HK0.out.below hb2)
                obtain ⟨k0, k1⟩ := HK2.out
                go_wp2_with fail
                refine (HF1.out _ (nx hbA hb2)).mono ?_
                rintro e w3 ⟨rfl, hb3⟩
                clear k0 k1
                obtain ⟨k0, k1⟩ := HK2.out.below hb3
                go_wp2_with fail
                refine (HT1.out _).mono ?_
                rintro e w4 ⟨rfl, rfl⟩
                go_wp2
                go_ret
                exact ⟨ret_bool (by rw [HV.out, HP.out]), nx hb (nx (nx hbA hb2) hb3)⟩
              · have d5 : decide ((40 : Int) < (V.size : Int)) = false := by simp; omega
                have HP : Hid (parAt xs k = true) := by show _ = _; rw [HPA.out, h1, h3, decide_eq_true (by omega : V.size ≤ 40), decide_eq_true (by omega : (k : Int) ≤ J)]; rfl
                clear h1 h2 h3 h40
                go_wp2_with fail
                refine (HS1.out _).mono ?_
                rintro e w2 ⟨rfl, hb2⟩
                have HK2 := Lib.hid (HK0.out.below hb2)
                obtain ⟨k0, k1⟩ := HK2.out
                go_wp2_with fail
                refine (HF1.out _ (nx hbA hb2)).mono ?_
                rintro e w3 ⟨rfl, hb3⟩
                clear k0 k1
                obtain ⟨k0, k1⟩ := HK2.out.below hb3
                go_wp2_with fail
                refine (HT1.out _).mono ?_
                rintro e w4 ⟨rfl, rfl⟩
                go_wp2
                go_roundw
                case rel => exact ⟨k + 1, by omega, by go_num, nx hb (nx (nx hbA hb2) hb3), fun j hj => by
                  by_cases e : j = k
                  · subst e; exact HP.out
                  · exact HA.out j (by omega)⟩
                case measure => simp [intOf]; omega
      · have HP := Lib.hid (parsOk_good (ps := xs) (fun j hj => HA.out j (by have := HLEN.out; omega)))
        go_wp2
        go_ret
        exact ⟨ret_bool (by rw [HV.out, HP.out]), hb⟩
theorem part_str (T N Q : ByteArray) (l : List UInt8) (f : Fld) (hT : T = str l) (hN : N = str f.name) (hQ : Q = str (quoteW f.val)) : T ++ ((⟨#[59, 32]⟩ : ByteArray) ++ N ++ ⟨#[61]⟩ ++ Q) = str (l ++ parT f) := by
  subst hT hN hQ
  apply bytes_ext
  rw [str_list]
  simp only [Joins.data_append, str_list]
  unfold parT; simp
theorem parT_len (f : Fld) (h : SmallF 1000 f) : (parT f).length ≤ 1405 := by
  have := quoteW_len f.val
  have := h.1
  unfold parT
  simp only [List.length_cons, List.length_append]; omega
set_option maxRecDepth 100000 in
set_option maxHeartbeats 1000000 in
theorem textOfKind_any (m s : ByteArray) (a : Option Addr) (n c : Nat) (xs : List Fld) (w : World) (tab : Tab w) (hm : m.size ≤ 1000) (hs : s.size ≤ 1000) (hr : RdF w a n xs) (hn : n ≤ 4) (hx : ∀ x ∈ xs, SmallF 1000 x) :
    Calls Tryz.prog 170 #[.agg #[.string m, .string s, .slice a n c]] w fun e w' => e = .returned (.string (str (textK ⟨m.data.toList, s.data.toList, xs⟩))) ∧ Below w.heap.size w w' := by
  have hb0 : Below w.heap.size w (w.alloc (.cells #[.string m, .string s, .slice a n c] 97)) := (Below.refl _ _).alloc (Nat.le_refl _) _
  have HR := Lib.hid (hr.below hb0)
  have HLEN := Lib.hid hr.1
  have HX := Lib.hid hx
  have HT0 := Lib.hid (tab.below hb0)
  have HD : Hid (m ++ ⟨#[47]⟩ ++ s = str (m.data.toList ++ 47 :: s.data.toList)) := by
    show _ = _
    apply bytes_ext
    rw [str_list]
    simp only [Joins.data_append]
    simp
  have HTX : Hid (textK ⟨m.data.toList, s.data.toList, xs⟩ = (m.data.toList ++ 47 :: s.data.toList) ++ parsT xs) := textK_split _
  have hz1 : (⟨#[47]⟩ : ByteArray).size = 1 := rfl
  have hz2 : (⟨#[59, 32]⟩ : ByteArray).size = 2 := rfl
  have hz3 : (⟨#[61]⟩ : ByteArray).size = 1 := rfl
  have HZ : Hid (m.data.toList.length = m.size ∧ s.data.toList.length = s.size) := ⟨size_list m, size_list s⟩
  clear hr hx tab
  have HL0 : Hid ((m.data.toList ++ 47 :: s.data.toList).length ≤ 2001) := by
    have h := HZ.out
    show _ ≤ _
    rw [List.length_append, List.length_cons]; omega
  generalize hl : m.data.toList ++ 47 :: s.data.toList = l0 at *
  have HLL := Lib.hid hl
  clear hl
  go_enter Tryz.func170, Tryz.ntmps170
  go_wp2_with fail
  generalize hW : w.alloc (.cells #[.string m, .string s, .slice a n c] 97) = W0 at *
  clear hW
  go_loopw [3, 15] (fun t i wr => ∃ (k : Nat) (T : ByteArray), k ≤ n ∧ i = .int .i64 k ∧ t = .string T ∧ T = str (l0 ++ parsT (xs.take k)) ∧ T.size ≤ 2001 + 1405 * k ∧ Below W0.heap.size W0 wr) (fun _ i _ => n - (intOf i).toNat)
  case atStart => exact ⟨0, _, Nat.zero_le _, rfl, rfl, by rw [List.take_zero]; show m ++ ⟨#[47]⟩ ++ s = str (l0 ++ []); rw [List.append_nil]; exact HD.out, by show (m ++ (⟨#[47]⟩ : ByteArray) ++ s).size ≤ _; rw [ByteArray.size_append, ByteArray.size_append, hz1]; omega, Below.refl _ _⟩
  case round =>
    obtain ⟨k, T, hk, rfl, rfl, hT, hTz, hb⟩ := hrel
    have HT := Lib.hid hT
    clear hT
    by_cases hlt : k < n
    · have hkx : k < xs.length := by rw [HLEN.out]; exact hlt
      obtain ⟨b, off, rfl, hbl, hcell⟩ := HR.out.2.resolve_left (by omega)
      obtain ⟨q0, q1⟩ := RdR.fld hcell hkx
      rw [← below_at hb hbl] at q0 q1
      have hsz := HX.out _ (List.getElem_mem hkx)
      have hpl := parT_len xs[k] hsz
      have hz0 : (str xs[k].name).size ≤ 1000 := by rw [str_size]; exact hsz.1
      have hzv : (str xs[k].val).size ≤ 1000 := by rw [str_size]; exact hsz.2
      have hql : (str (quoteW xs[k].val)).size ≤ 402 := by rw [str_size]; exact quoteW_len _
      have HNX : Hid (T ++ ((⟨#[59, 32]⟩ : ByteArray) ++ str xs[k].name ++ ⟨#[61]⟩ ++ str (quoteW xs[k].val)) = str (l0 ++ parsT (xs.take (k + 1)))) := by
        show _ = _
        rw [part_str T _ _ _ xs[k] HT.out rfl rfl, parsT_take xs k hkx, List.append_assoc]
      have HQ : Hid (∀ u, Below wr.heap.size wr u → Calls Tryz.prog 190 #[.string (str xs[k].val)] u fun e w' => e = .returned (.string (str (quoteW xs[k].val))) ∧ Below u.heap.size u w') := fun u h => by
        have := quoteWord_any (str xs[k].val) u ((HT0.out.below hb).below h) (by omega)
        rw [str_list] at this; exact this
      have hbA : Below wr.heap.size wr (wr.alloc (.cells #[.string (str xs[k].name), .string (str xs[k].val)] 78)) := (Below.refl _ _).alloc (Nat.le_refl _) _
      have HK0 := Lib.hid (K2.new wr (.string (str xs[k].name)) (.string (str xs[k].val)) 78)
      have hsum : (T ++ ((⟨#[59, 32]⟩ : ByteArray) ++ str xs[k].name ++ ⟨#[61]⟩ ++ str (quoteW xs[k].val))).size ≤ 2001 + 1405 * (k + 1) := by
        rw [ByteArray.size_append, ByteArray.size_append, ByteArray.size_append, ByteArray.size_append, hz2, hz3]; omega
      clear hcell hsz hpl
      generalize str (quoteW xs[k].val) = Q at *
      generalize str xs[k].name = N at *
      generalize str xs[k].val = V at *
      go_wp2_with fail
      generalize hW2 : wr.alloc (.cells #[.string N, .string V] 78) = W2 at *
      clear hW2
      obtain ⟨G, hG⟩ : ∃ G, G = wr.heap.size := ⟨_, rfl⟩
      have y0 := fun (y : BelowT W2) => (HK0.out.below y.below).1
      have y1 := fun (y : BelowT W2) => (HK0.out.below y.below).2
      have hk4 : k ≤ 4 := by omega
      refine wp_region_quietB (W := W2) (by kernel_rfl) (by kernel_rfl) (Below.refl _ _) ?_
      repeat (go_big_quiet_step (first
        | (go_at_call 190; exact calls_belowT (HQ.out _ (nx hbA (BelowT.below _))))))
      refine wpQuiet_nil ?_
      intro wz hwz
      obtain ⟨x9, rfl⟩ := hwz
      have hbx := nx hb (nx hbA x9.below)
      clear y0 y1
      generalize x9.val = w9 at *
      go_wp2
      go_roundw
      case rel => exact ⟨k + 1, _, by omega, by go_num, rfl, HNX.out, hsum, hbx⟩
      case measure => simp [intOf]; omega
    · have HF : Hid (T = str (textK ⟨m.data.toList, s.data.toList, xs⟩)) := by
        show _ = _
        rw [HT.out, HTX.out, List.take_of_length_le (by rw [HLEN.out]; omega)]
      go_wp2
      go_ret
      exact ⟨ret_str HF.out, nx hb0 hb⟩
theorem parsOk_small {xs : List Fld} (h : parsOk xs = true) : ∀ x ∈ xs, SmallF 1000 x := fun x hx => by
  obtain ⟨⟨h1, _⟩, _, h3⟩ := parOk_iff.1 (parsOk_mem h hx)
  have := (isFName_iff.1 h1).2.1
  exact ⟨by omega, by omega⟩
theorem small_size {s : ByteArray} (h : isSmall s.data.toList = true) : s.size ≤ 1000 := by
  have := (isFName_iff.1 (isSmall_iff.1 h).1).2.1
  rw [size_list] at this; omega
set_option maxRecDepth 100000 in
set_option maxHeartbeats 1000000 in
theorem kindValid_any (m s : ByteArray) (a : Option Addr) (n c : Nat) (xs : List Fld) (w : World) (tab : Tab w) (hm : m.size ≤ 1073741824) (hs : s.size ≤ 1073741824) (hr : RdF w a n xs) (hn : n ≤ 1073741824) (hx : ∀ x ∈ xs, SmallF 1048576 x) :
    Calls Tryz.prog 134 #[.agg #[.string m, .string s, .slice a n c]] w fun e w' => e = .returned (.bool (isKnd ⟨m.data.toList, s.data.toList, xs⟩)) ∧ Below w.heap.size w w' := by
  have hb0 : Below w.heap.size w (w.alloc (.cells #[.string m, .string s, .slice a n c] 97)) := (Below.refl _ _).alloc (Nat.le_refl _) _
  have HK0 := Lib.hid (KK3.new w (.string m) (.string s) (.slice a n c) 97)
  have HR := Lib.hid (hr.below hb0)
  have HT0 := Lib.hid (tab.below hb0)
  have HE : Hid (isKnd ⟨m.data.toList, s.data.toList, xs⟩ = (isSmall m.data.toList && (isSmall s.data.toList && ((decide (xs.length ≤ 4) && parsOk xs) && decide ((textK ⟨m.data.toList, s.data.toList, xs⟩).length ≤ 150))))) := by
    show _ = _
    unfold isKnd
    rw [Bool.and_assoc]
  have hl := hr.1
  have HLEN := Lib.hid hl
  have H1 := Lib.hid (fun u => smallNameValid_any m u hm)
  have H2 := Lib.hid (fun u => smallNameValid_any s u hs)
  have H3 : Hid (∀ u, Below (w.alloc (.cells #[.string m, .string s, .slice a n c] 97)).heap.size (w.alloc (.cells #[.string m, .string s, .slice a n c] 97)) u → Calls Tryz.prog 169 #[.slice a n c] u fun e w' => e = .returned (.bool (decide (xs.length ≤ 4) && parsOk xs)) ∧ Below u.heap.size u w') := fun u h => paramsValid_any a n c xs u (HR.out.below h) hn hx
  have H4 : Hid (isSmall m.data.toList = true → isSmall s.data.toList = true → (decide (xs.length ≤ 4) && parsOk xs) = true → ∀ u, Below (w.alloc (.cells #[.string m, .string s, .slice a n c] 97)).heap.size (w.alloc (.cells #[.string m, .string s, .slice a n c] 97)) u → Calls Tryz.prog 170 #[.agg #[.string m, .string s, .slice a n c]] u fun e w' => e = .returned (.string (str (textK ⟨m.data.toList, s.data.toList, xs⟩))) ∧ Below u.heap.size u w') := fun e1 e2 e3 u h => by
    rw [Bool.and_eq_true, decide_eq_true_iff] at e3
    exact textOfKind_any m s a n c xs u (HT0.out.below h) (small_size e1) (small_size e2) (HR.out.below h) (by omega) (parsOk_small e3.2)
  have HZ : Hid ((str (textK ⟨m.data.toList, s.data.toList, xs⟩)).size = (textK ⟨m.data.toList, s.data.toList, xs⟩).length) := str_size _
  rw [← HZ.out] at HE
  clear hr tab hn hx hl hm hs
  generalize (decide (xs.length ≤ 4) && parsOk xs) = b3 at *
  generalize isSmall m.data.toList = b1 at *
  generalize isSmall s.data.toList = b2 at *
  generalize isKnd ⟨m.data.toList, s.data.toList, xs⟩ = R at *
  generalize str (textK ⟨m.data.toList, s.data.toList, xs⟩) = TX at *
  obtain ⟨W0, hW⟩ : ∃ W0, W0 = w.alloc (.cells #[.string m, .string s, .slice a n c] 97) := ⟨_, rfl⟩
  rw [← hW] at hb0 HK0 H3 H4
  have HW := Lib.hid hW
  clear hW HZ HR HT0
  cases b1
  · go_enter Tryz.func134, Tryz.ntmps134
    go_wp2_with fail
    rw [← HW.out]
    refine (H1.out _).mono ?_
    rintro e w1 ⟨rfl, hb1⟩
    go_wp2
    go_ret
    exact ⟨ret_bool (by rw [HE.out]; rfl), nx hb0 hb1⟩
  · cases b2
    · go_enter Tryz.func134, Tryz.ntmps134
      go_wp2_with fail
      rw [← HW.out]
      refine (H1.out _).mono ?_
      rintro e w1 ⟨rfl, hb1⟩
      obtain ⟨k0, k1, k2⟩ := HK0.out.below hb1
      go_wp2_with fail
      refine (H2.out _).mono ?_
      rintro e w2 ⟨rfl, hb2⟩
      go_wp2
      go_ret
      exact ⟨ret_bool (by rw [HE.out]; rfl), nx hb0 (nx hb1 hb2)⟩
    · cases b3
      · go_enter Tryz.func134, Tryz.ntmps134
        go_wp2_with fail
        rw [← HW.out]
        refine (H1.out _).mono ?_
        rintro e w1 ⟨rfl, hb1⟩
        have HK1 := Lib.hid (HK0.out.below hb1)
        obtain ⟨k0, k1, k2⟩ := HK1.out
        go_wp2_with fail
        refine (H2.out _).mono ?_
        rintro e w2 ⟨rfl, hb2⟩
        clear k0 k1 k2
        obtain ⟨k0, k1, k2⟩ := HK1.out.below hb2
        go_wp2_with fail
        refine (H3.out _ (nx hb1 hb2)).mono ?_
        rintro e w3 ⟨rfl, hb3⟩
        go_wp2
        go_ret
        exact ⟨ret_bool (by rw [HE.out]; rfl), nx hb0 (nx (nx hb1 hb2) hb3)⟩
      · have H5 : Hid (∀ u, Below W0.heap.size W0 u → Calls Tryz.prog 170 #[.agg #[.string m, .string s, .slice a n c]] u fun e w' => e = .returned (.string TX) ∧ Below u.heap.size u w') := fun u h => H4.out (by rfl) (by rfl) (by rfl) u h
        clear H4
        go_enter Tryz.func134, Tryz.ntmps134
        go_wp2_with fail
        rw [← HW.out]
        refine (H1.out _).mono ?_
        rintro e w1 ⟨rfl, hb1⟩
        have HK1 := Lib.hid (HK0.out.below hb1)
        obtain ⟨k0, k1, k2⟩ := HK1.out
        go_wp2_with fail
        refine (H2.out _).mono ?_
        rintro e w2 ⟨rfl, hb2⟩
        clear k0 k1 k2
        have HK2 := Lib.hid (HK1.out.below hb2)
        obtain ⟨k0, k1, k2⟩ := HK2.out
        go_wp2_with fail
        refine (H3.out _ (nx hb1 hb2)).mono ?_
        rintro e w3 ⟨rfl, hb3⟩
        clear k0 k1 k2
        obtain ⟨k0, k1, k2⟩ := HK2.out.below hb3
        go_wp2_with fail
        refine (H5.out _ (nx (nx hb1 hb2) hb3)).mono ?_
        rintro e w4 ⟨rfl, hb4⟩
        go_wp2
        go_ret
        exact ⟨ret_bool (by rw [HE.out]; simp; omega), nx hb0 (nx (nx (nx hb1 hb2) hb3) hb4)⟩
end Go.Proofs.YtcdmjckkencgoaaGreatDoor
