/-
  The domains of a list of addresses: what the model's function returns. No statement is proved here.
-/
import Derived.Test.YthcmdmjijdafoaaDomM
import Derived.Test.YthcmdmjijdafoaaAdrV
import Derived.Test.YthcmdmjijdafoaaWords
import Derived.Test.YthcmdmjijdafoaaLists
import Derived.Sort.Walk0
import Derived.Maps.AppendAt
import Derived.Deep.RegionHeld3
namespace Go.Proofs.Ythcmdmjijdafoaa
open Go.RowKit

theorem ltT_bytes (a b : List UInt8) : Op.bytesLess (str a).toList (str b).toList = ltT a b := by
  rw [bytesLess_eq, ltT_decide, ByteArray.toList_eq, ByteArray.toList_eq, str_list, str_list]
theorem insD_at {d : List UInt8} : ∀ {l : List (List UInt8)} (j : Nat), j ≤ l.length → (∀ i, (h : i < l.length) → i < j → ltT l[i] d = true) → insD d l = l.take j ++ insD d (l.drop j)
  | l, 0, _, _ => by simp
  | [], j + 1, h, _ => by simp at h
  | x :: xs, j + 1, h, hl => by
    have h0 : ltT x d = true := hl 0 (by simp) (by omega)
    have ih := insD_at (d := d) (l := xs) j (by simpa using h) (fun i hi hij => hl (i + 1) (by simpa using hi) (by omega))
    show insD d (x :: xs) = x :: xs.take j ++ insD d (xs.drop j)
    rw [insD, if_pos h0, ih]; rfl
theorem insD_end {d : List UInt8} {l : List (List UInt8)} (hl : ∀ i, (h : i < l.length) → i < l.length → ltT l[i] d = true) : insD d l = (l ++ [d]) ++ l.drop l.length := by
  rw [insD_at l.length (Nat.le_refl _) hl]; simp [insD]
theorem insD_here {d : List UInt8} {l : List (List UInt8)} {j : Nat} (hj : j < l.length) (hl : ∀ i, (h : i < l.length) → i < j → ltT l[i] d = true) (h1 : ltT l[j] d = false) (h2 : l[j] ≠ d) : insD d l = (l.take j ++ [d]) ++ l.drop j := by
  rw [insD_at j (by omega) hl, List.drop_eq_getElem_cons hj, insD, if_neg (by rw [h1]; exact Bool.false_ne_true), if_neg h2]; simp
theorem insD_same {d : List UInt8} {l : List (List UInt8)} {j : Nat} (hj : j < l.length) (hl : ∀ i, (h : i < l.length) → i < j → ltT l[i] d = true) (h1 : ltT l[j] d = false) (h2 : l[j] = d) : insD d l = l := by
  rw [insD_at j (by omega) hl]
  conv => rhs; rw [← List.take_append_drop j l]
  rw [List.drop_eq_getElem_cons hj, insD, if_neg (by rw [h1]; exact Bool.false_ne_true), if_pos h2]
theorem doms_step {al : List Adr} {k : Nat} (h : k < al.length) : domsL (al.take (k + 1)) = insD (low al[k].dom) (domsL (al.take k)) := by
  unfold domsL
  rw [List.take_succ_eq_append_getElem h, List.foldl_append]; rfl
theorem own_form {B : Nat} {v : Value} {xs : List (List UInt8)} {w : World} (h : OwnL B v xs w) (hn : 0 < xs.length) : ∃ g c, v = .slice (some ⟨g, 0, none⟩) xs.length c ∧ B ≤ g ∧ g < w.heap.size ∧ xs.length ≤ c ∧ c ≤ maxLen := by
  rcases h.2 with ⟨_, h0⟩ | ⟨g, cap, cur, hv, hg, hw, hnc, hc, _⟩
  · omega
  · exact ⟨g, cap, hv, hg, lt_of_block hw, hnc, hc⟩
theorem own_cell {B g c : Nat} {xs : List (List UInt8)} {w : World} (h : OwnL B (.slice (some ⟨g, 0, none⟩) xs.length c) xs w) (j : Nat) (hj : j < xs.length) : w.cell? ⟨g, j, none⟩ = some (.string (str xs[j])) := by
  have := World.ownsRow.cellAt h j (by omega)
  rw [this, List.getElem?_map, List.getElem?_eq_getElem hj]; rfl
/-- Some texts appended to a row of the call's own. -/
theorem wp_append_P {o : Oper} {Q : Exit → Act → World → Prop} {K : Act → World → Prop} {a : Act} {w : World} (s x : Operand)
    (ho : o.op = .call { callee := .builtin .append, args := #[s, x], argTypes := #[31, 31] })
    (B : Nat) (v : Value) (xs ys : List (List UInt8)) (g off m c : Nat) (hs : a.eval s = v) (hx : a.eval x = .slice (some ⟨g, off, none⟩) m c) (hown : OwnL B v xs w) (hm : ys.length = m)
    (hy : ∀ i, (h : i < ys.length) → w.cell? ⟨g, off + i, none⟩ = some (.string (str ys[i]))) (hB : B ≤ w.heap.size) (hl : xs.length + m ≤ 100000000)
    (h : ∀ v' w', OwnL B v' (xs ++ ys) w' → Below B w w' → K (a.put o.dst v') w') : o.wp Try.prog a w K Q := by
  obtain ⟨i0, hi, hz0, hz1, hz2⟩ := info_parts sInfo
  subst hm
  unfold OwnL at hown
  obtain ⟨v', w', hr, h2, h3, _, h5⟩ := run_append_own_at (P := Try.prog) w B 31 o.type 9 i0 (.string ⟨#[]⟩) 1 16 Try.underlying31 hi hz0 hz1 hz2 rfl (by decide) v xs.length (xs.map strV) hown ⟨g, off, none⟩ ys.length c (ys.map strV) (by simp)
    (fun j u hu => by
      have hj : j < ys.length := by rcases Nat.lt_or_ge j ys.length with h | h; exact h; rw [List.getElem?_eq_none (by simpa using h)] at hu; cases hu
      rw [List.getElem?_map, List.getElem?_eq_getElem hj] at hu
      have : (⟨g, off, none⟩ : Addr).add j = ⟨g, off + j, none⟩ := by unfold Addr.add; split <;> simp_all
      rw [this, hy j hj]; simpa [strV] using hu)
    (fun z hz => by obtain ⟨q, _, rfl⟩ := List.mem_map.1 hz; rfl) (by unfold maxLen; omega) (by omega) hB
  unfold Oper.wp execOp
  simp only [ho, resolve, invoke, builtin, Sem.run_bind, Sem.run_pure, Result.andThen_ok, List.map_toArray, List.map_cons, List.map_nil, hs, hx, hr]
  refine h v' w' ?_ ((Below.refl _ _).grown h3 hB (fun k hk => (World.ownsRow.lt hown k hk).1))
  unfold OwnL; rw [List.length_append, List.map_append]; exact h2
theorem wpList_append_P {ops : Array Oper} {rest : List Oper} {o : Oper} {Q : Exit → Act → World → Prop} {a : Act} {w : World} (hgd : o.guard = none) (s x : Operand)
    (ho : o.op = .call { callee := .builtin .append, args := #[s, x], argTypes := #[31, 31] })
    (B : Nat) (v : Value) (xs ys : List (List UInt8)) (g off m c : Nat) (hs : a.eval s = v) (hx : a.eval x = .slice (some ⟨g, off, none⟩) m c) (hown : OwnL B v xs w) (hm : ys.length = m)
    (hy : ∀ i, (h : i < ys.length) → w.cell? ⟨g, off + i, none⟩ = some (.string (str ys[i]))) (hB : B ≤ w.heap.size) (hl : xs.length + m ≤ 100000000)
    (h : ∀ v' w', OwnL B v' (xs ++ ys) w' → Below B w w' → wpList Try.prog ops Q rest (a.put o.dst v') w') : wpList Try.prog ops Q (o :: rest) a w := by
  unfold wpList
  rw [if_pos (by simp [Region.wanted, hgd])]
  exact .inl (wp_append_P s x ho B v xs ys g off m c hs hx hown hm hy hB hl h)
theorem step_append_P {ops : Array Oper} {o : Oper} {Q : Exit → Act → World → Prop} {K : Act → World → Prop} {E : Prop} {a : Act} {w : World} (hgd : o.guard = none) (s x : Operand)
    (ho : o.op = .call { callee := .builtin .append, args := #[s, x], argTypes := #[31, 31] })
    (B : Nat) (v : Value) (xs ys : List (List UInt8)) (g off m c : Nat) (hs : a.eval s = v) (hx : a.eval x = .slice (some ⟨g, off, none⟩) m c) (hown : OwnL B v xs w) (hm : ys.length = m)
    (hy : ∀ i, (h : i < ys.length) → w.cell? ⟨g, off + i, none⟩ = some (.string (str ys[i]))) (hB : B ≤ w.heap.size) (hl : xs.length + m ≤ 100000000)
    (h : ∀ v' w', OwnL B v' (xs ++ ys) w' → Below B w w' → K (a.put o.dst v') w') : if Region.wanted o (yielded ops a.tmps) = true then Oper.wp Try.prog o a w K Q else E := by
  rw [if_pos (by simp [Region.wanted, hgd])]
  exact wp_append_P s x ho B v xs ys g off m c hs hx hown hm hy hB hl h
/-- A row of strings that the call has made. -/
def DomSRet (xs : List (List UInt8)) (w : World) (e : Ending) (w' : World) : Prop := ∃ v, e = .returned v ∧ OwnL w.heap.size v xs w' ∧ Below w.heap.size w w'
set_option maxRecDepth 100000 in
set_option maxHeartbeats 2000000 in
theorem domainsOfS_any (a : Option Addr) (n c : Nat) (xs : List Adr) (w : World) (hr : RdA w a n xs) (hn : n ≤ 1048576) (hx : ∀ x ∈ xs, SmallA 1073741000 x) :
    Calls Try.prog 16 #[.slice a n c] w (DomSRet (domsL xs) w) := by
  obtain ⟨hl, hr2⟩ := hr
  have HLEN := Lib.hid hl
  have HR := Lib.hid hr2
  have HX := Lib.hid hx
  clear hl hr2 hx
  go_enter Try.func16, Try.ntmps16
  go_wp2_with fail
  go_loopw [3, 4] (fun v i wr => ∃ (k : Nat) (acc : List (List UInt8)) (g c1 : Nat), k ≤ n ∧ i = .int .i64 k ∧ v = .slice (some ⟨g, 0, none⟩) acc.length c1 ∧ acc.length ≤ k ∧ acc.length ≤ c1 ∧ c1 ≤ maxLen ∧ g < wr.heap.size ∧ domsL (xs.take k) = acc ∧ OwnL w.heap.size v acc wr ∧ Below w.heap.size w wr) (fun _ i _ => n - (intOf i).toNat)
  case atStart => exact ⟨0, [], w.heap.size, 0, Nat.zero_le _, rfl, rfl, Nat.le_refl _, Nat.le_refl _, Nat.zero_le _, by simp, rfl, OwnL.empty w, (Below.refl _ _).alloc (Nat.le_refl _) _⟩
  case round =>
    obtain ⟨k, acc, g, c1, hk, rfl, rfl, hal, hac, hc1, hg, hacc, hown, hb⟩ := hrel
    have HACC := Lib.hid hacc
    have HAL := Lib.hid hal
    have HOWN := Lib.hid hown
    have HG := Lib.hid hg
    have HBW := Lib.hid hb
    unfold maxLen at hc1
    clear hacc hown hg
    by_cases hlt : k < n
    · have hkx : k < xs.length := by rw [HLEN.out]; exact hlt
      obtain ⟨b, off, rfl, hbl, hcell⟩ := HR.out.resolve_left (by omega)
      obtain ⟨q0, q1, q2⟩ := RdR.adr hcell hkx
      rw [← below_at hb hbl] at q0 q1 q2
      have hz := (HX.out _ (List.getElem_mem hkx)).2.2
      rw [← str_size] at hz
      have HNX := Lib.hid (doms_step hkx)
      have HLOW : Hid (lowS (str xs[k].dom) = str (low xs[k].dom)) := by show lowS _ = _; unfold lowS; rw [str_list]
      generalize xs[k] = x at *
      generalize str x.dom = s2 at *
      generalize low x.dom = t at *
      clear hcell q0 q1 hb
      have hkb : k ≤ 1048576 := by omega
      go_wp2_with fail
      refine (lowerTextS_any s2 _ (by omega)).mono ?_
      rintro e w1 ⟨rfl, hb1⟩
      rw [HLOW.out]
      have HO1 : Hid (OwnL w.heap.size (.slice (some ⟨g, 0, none⟩) acc.length c1) acc w1) := HOWN.out.keep hb1
      have HG1 : Hid (g < w1.heap.size) := Nat.lt_of_lt_of_le HG.out hb1.size
      have HB1 := Lib.hid (nx HBW.out hb1)
      clear q2 hb1
      go_wp2_with fail
      go_loop [6] (fun v6 => ∃ j : Nat, j ≤ acc.length ∧ v6 = .int .i64 j ∧ ∀ i, (h : i < acc.length) → i < j → ltT acc[i] t = true) (fun v6 => acc.length - (intOf v6).toNat)
      case atStart => exact ⟨0, Nat.zero_le _, rfl, fun i _ h => by omega⟩
      case round =>
        obtain ⟨j, hj, rfl, hlow⟩ := hrel
        have HLO := Lib.hid hlow
        clear hlow
        by_cases hlj : j < acc.length
        · have hcj := own_cell HO1.out j hlj
          have hlt2 := ltT_bytes acc[j] t
          have hj0 : (0 : Int) ≤ (j : Int) := by omega
          have hj1 : (j : Int) < (acc.length : Int) := by omega
          cases hb2 : ltT acc[j] t
          · by_cases heq : acc[j] = t
            · have HI : Hid (insD t acc = acc) := insD_same hlj HLO.out hb2 heq
              have e1 : ((str acc[j]).toList == (str t).toList) = true := by rw [heq]; simp
              rw [hb2] at hlt2
              clear hb2 heq
              generalize str acc[j] = s3 at *
              generalize str t = s4 at *
              go_wp2
              go_roundw
              case rel => exact ⟨k + 1, acc, g, c1, by omega, by go_num, rfl, by omega, hac, by unfold maxLen; omega, HG1.out, by rw [HNX.out, HACC.out, HI.out], HO1.out, HB1.out⟩
              case measure => simp [intOf]; omega
            · have HI : Hid (insD t acc = acc.take j ++ [t] ++ acc.drop j) := insD_here hlj HLO.out hb2 heq
              have e1 : ((str acc[j]).toList == (str t).toList) = false := by
                rw [beq_dec, decide_eq_false]
                intro e
                exact heq (by rw [← str_list acc[j], e, str_list])
              rw [hb2] at hlt2
              clear hb2 heq
              generalize str acc[j] = s3 at *
              have hs0 : (0 : Int) ≤ (j : Int) := by omega
              have hs1 : (j : Int) ≤ (c1 : Int) := by omega
              have hs2 : (j : Int) ≤ (acc.length : Int) := by omega
              have HTK : Hid ((acc.take j).length = j) := by show _ = _; rw [List.length_take]; omega
              have HDK : Hid ((acc.drop j).length = acc.length - j) := by show _ = _; rw [List.length_drop]
              have HC0 : Hid (∀ u, Below w1.heap.size w1 u → ∀ i, (h : i < acc.length) → u.cell? ⟨g, i, none⟩ = some (.string (str acc[i]))) := fun u hu i h => by rw [below_at hu HG1.out]; exact own_cell HO1.out i h
              have HBA : Hid (Below w1.heap.size w1 (w1.alloc (.cells #[] 9))) := (Below.refl _ _).alloc (Nat.le_refl _) _
              have HSZ : Hid (w1.heap.size ≤ (w1.alloc (.cells #[] 9)).heap.size) := HBA.out.size
              have HCT : Hid (∀ i, (h : i < (acc.take j).length) → (w1.alloc (.cells #[] 9)).cell? ⟨g, 0 + i, none⟩ = some (.string (str (acc.take j)[i]))) := fun i h => by
                rw [Nat.zero_add, HC0.out _ HBA.out i (by rw [List.length_take] at h; omega), List.getElem_take]
              have hjb : j ≤ 1048576 := by omega
              go_wp2_with (at_builtin; refine wpList_append_P rfl _ _ rfl w1.heap.size _ [] (acc.take j) g 0 j c1 rfl rfl (OwnL.empty w1) HTK.out HCT.out HSZ.out (by simp; omega) ?_)
              intro v7 w2 ho7 hb7
              try rw [List.nil_append] at ho7
              have HS2 : Hid (Below w1.heap.size w1 w2) := HBA.out.trans hb7
              have hs2z := HS2.out.size
              have HSD : Hid (Below w1.heap.size w1 (w2.drew.alloc (.cells #[.string (str t)] 9))) := (HS2.out.drew).alloc (by simpa using hs2z) _
              have HA1 : Hid (OwnL w1.heap.size v7 (acc.take j) (w2.drew.alloc (.cells #[.string (str t)] 9))) := ho7.keep (((Below.refl _ _).drew).alloc (Nat.le_refl _) _)
              have HCN : Hid (∀ i, (h : i < [t].length) → (w2.drew.alloc (.cells #[.string (str t)] 9)).cell? ⟨w2.heap.size, 0 + i, none⟩ = some (.string (str [t][i]))) := fun i h => by
                have : i = 0 := by simpa using h
                subst this
                exact World.cell?_alloc_at _ _ _ _ rfl
              clear ho7 hb7
              have HLN : Hid ((acc.take j ++ [t]).length + (acc.length - j) ≤ 100000000) := by show _ ≤ _; rw [List.length_append, HTK.out]; simp; omega
              by_cases hcz : c1 = j
              · have HCS : Hid (∀ u, Below w1.heap.size w1 u → ∀ i, (h : i < (acc.drop j).length) → u.cell? ⟨g, 0 + i, none⟩ = some (.string (str (acc.drop j)[i]))) := fun u _ i h => by rw [HDK.out] at h; omega
                have hcj : c1 - j = 0 := by omega
                go_wp2_with fail
                go_region_held3 (fun w' => Below w1.heap.size w1 w')
                  (first
                    | exact HS2.out.drew
                    | exact HSD.out
                    | exact hs9
                    | exact hs8)
                  (first
                    | (refine step_append_P (by rfl) _ _ (by rfl) w1.heap.size v7 (acc.take j) [t] w2.heap.size 0 1 1 (by rfl) (by rfl) HA1.out rfl HCN.out HSD.out.size (by rw [HTK.out]; omega) ?_
                       intro v8 w3 ho8 hb8
                       have hs8 := HSD.out.trans hb8)
                    | (refine step_append_P (by rfl) _ _ (by rfl) w1.heap.size v8 (acc.take j ++ [t]) (acc.drop j) g 0 _ _ (by rfl) (by exact rfl) ho8 (by rw [HDK.out]; first | done | omega) (HCS.out _ hs8) hs8.size (by have := HLN.out; omega) ?_
                       intro v9 w4 ho9 hb9
                       have hs9 := hs8.trans hb9))
                all_goals
                  have hpos : 0 < (acc.take j ++ [t] ++ acc.drop j).length := by simp; omega
                  obtain ⟨g9, c9, hv9, _, hg9, hl9, hm9⟩ := own_form ho9 hpos
                  have hlen9 : (acc.take j ++ [t] ++ acc.drop j).length = (acc.take j).length + 1 + (acc.drop j).length := by simp; omega
                  have HF := Lib.hid (And.intro ho9 hs9)
                  clear ho9 hs9 ho8 hb8 hb9
                  go_wp2
                  go_roundw
                  case rel => exact ⟨k + 1, _, g9, c9, by omega, by go_num, hv9, by rw [hlen9, HTK.out, HDK.out]; omega, hl9, hm9, hg9, by rw [HNX.out, HACC.out, HI.out], HF.out.1.base HB1.out.size, nx HB1.out HF.out.2⟩
                  case measure => simp [intOf]; omega
              · have HCS : Hid (∀ u, Below w1.heap.size w1 u → ∀ i, (h : i < (acc.drop j).length) → u.cell? ⟨g, j + i, none⟩ = some (.string (str (acc.drop j)[i]))) := fun u hu i h => by
                  rw [HC0.out u hu (j + i) (by rw [HDK.out] at h; omega), List.getElem_drop]
                have hcj : 0 < c1 - j := by omega
                go_wp2_with fail
                go_region_held3 (fun w' => Below w1.heap.size w1 w')
                  (first
                    | exact HS2.out.drew
                    | exact HSD.out
                    | exact hs9
                    | exact hs8)
                  (first
                    | (refine step_append_P (by rfl) _ _ (by rfl) w1.heap.size v7 (acc.take j) [t] w2.heap.size 0 1 1 (by rfl) (by rfl) HA1.out rfl HCN.out HSD.out.size (by rw [HTK.out]; omega) ?_
                       intro v8 w3 ho8 hb8
                       have hs8 := HSD.out.trans hb8)
                    | (refine step_append_P (by rfl) _ _ (by rfl) w1.heap.size v8 (acc.take j ++ [t]) (acc.drop j) g j (acc.length - j) (c1 - j) (by rfl) (by rfl) ho8 HDK.out (HCS.out _ hs8) hs8.size HLN.out ?_
                       intro v9 w4 ho9 hb9
                       have hs9 := hs8.trans hb9))
                all_goals
                  have hpos : 0 < (acc.take j ++ [t] ++ acc.drop j).length := by simp; omega
                  obtain ⟨g9, c9, hv9, _, hg9, hl9, hm9⟩ := own_form ho9 hpos
                  have hlen9 : (acc.take j ++ [t] ++ acc.drop j).length = (acc.take j).length + 1 + (acc.drop j).length := by simp; omega
                  have HF := Lib.hid (And.intro ho9 hs9)
                  clear ho9 hs9 ho8 hb8 hb9
                  go_wp2
                  go_roundw
                  case rel => exact ⟨k + 1, _, g9, c9, by omega, by go_num, hv9, by rw [hlen9, HTK.out, HDK.out]; omega, hl9, hm9, hg9, by rw [HNX.out, HACC.out, HI.out], HF.out.1.base HB1.out.size, nx HB1.out HF.out.2⟩
                  case measure => simp [intOf]; omega
          · have HN : Hid (∀ i, (h : i < acc.length) → i < j + 1 → ltT acc[i] t = true) := fun i h hi => by
              by_cases hij : i < j
              · exact HLO.out i h hij
              · obtain rfl : i = j := by omega
                exact hb2
            rw [hb2] at hlt2
            clear hb2
            generalize str acc[j] = s3 at *
            generalize str t = s4 at *
            go_wp2
            go_round
            case rel => exact ⟨j + 1, by omega, by go_num, HN.out⟩
            case measure => simp [intOf]; omega
        · have hjn : j = acc.length := by omega
          have HI : Hid (insD t acc = acc.take j ++ [t] ++ acc.drop j) := by
            show _ = _
            rw [insD_end (fun i h _ => HLO.out i h (by omega)), hjn, List.take_length]
          clear hjn
          have hs0 : (0 : Int) ≤ (j : Int) := by omega
          have hs1 : (j : Int) ≤ (c1 : Int) := by omega
          have hs2 : (j : Int) ≤ (acc.length : Int) := by omega
          have HTK : Hid ((acc.take j).length = j) := by show _ = _; rw [List.length_take]; omega
          have HDK : Hid ((acc.drop j).length = acc.length - j) := by show _ = _; rw [List.length_drop]
          have HC0 : Hid (∀ u, Below w1.heap.size w1 u → ∀ i, (h : i < acc.length) → u.cell? ⟨g, i, none⟩ = some (.string (str acc[i]))) := fun u hu i h => by rw [below_at hu HG1.out]; exact own_cell HO1.out i h
          have HBA : Hid (Below w1.heap.size w1 (w1.alloc (.cells #[] 9))) := (Below.refl _ _).alloc (Nat.le_refl _) _
          have HSZ : Hid (w1.heap.size ≤ (w1.alloc (.cells #[] 9)).heap.size) := HBA.out.size
          have HCT : Hid (∀ i, (h : i < (acc.take j).length) → (w1.alloc (.cells #[] 9)).cell? ⟨g, 0 + i, none⟩ = some (.string (str (acc.take j)[i]))) := fun i h => by
            rw [Nat.zero_add, HC0.out _ HBA.out i (by rw [List.length_take] at h; omega), List.getElem_take]
          have hjb : j ≤ 1048576 := by omega
          go_wp2_with (at_builtin; refine wpList_append_P rfl _ _ rfl w1.heap.size _ [] (acc.take j) g 0 j c1 rfl rfl (OwnL.empty w1) HTK.out HCT.out HSZ.out (by simp; omega) ?_)
          intro v7 w2 ho7 hb7
          try rw [List.nil_append] at ho7
          have HS2 : Hid (Below w1.heap.size w1 w2) := HBA.out.trans hb7
          have hs2z := HS2.out.size
          have HSD : Hid (Below w1.heap.size w1 (w2.drew.alloc (.cells #[.string (str t)] 9))) := (HS2.out.drew).alloc (by simpa using hs2z) _
          have HA1 : Hid (OwnL w1.heap.size v7 (acc.take j) (w2.drew.alloc (.cells #[.string (str t)] 9))) := ho7.keep (((Below.refl _ _).drew).alloc (Nat.le_refl _) _)
          have HCN : Hid (∀ i, (h : i < [t].length) → (w2.drew.alloc (.cells #[.string (str t)] 9)).cell? ⟨w2.heap.size, 0 + i, none⟩ = some (.string (str [t][i]))) := fun i h => by
            have : i = 0 := by simpa using h
            subst this
            exact World.cell?_alloc_at _ _ _ _ rfl
          clear ho7 hb7
          have HLN : Hid ((acc.take j ++ [t]).length + (acc.length - j) ≤ 100000000) := by show _ ≤ _; rw [List.length_append, HTK.out]; simp; omega
          by_cases hcz : c1 = j
          · have HCS : Hid (∀ u, Below w1.heap.size w1 u → ∀ i, (h : i < (acc.drop j).length) → u.cell? ⟨g, 0 + i, none⟩ = some (.string (str (acc.drop j)[i]))) := fun u _ i h => by rw [HDK.out] at h; omega
            have hcj : c1 - j = 0 := by omega
            go_wp2_with fail
            go_region_held3 (fun w' => Below w1.heap.size w1 w')
              (first
                | exact HS2.out.drew
                | exact HSD.out
                | exact hs9
                | exact hs8)
              (first
                | (refine step_append_P (by rfl) _ _ (by rfl) w1.heap.size v7 (acc.take j) [t] w2.heap.size 0 1 1 (by rfl) (by rfl) HA1.out rfl HCN.out HSD.out.size (by rw [HTK.out]; omega) ?_
                   intro v8 w3 ho8 hb8
                   have hs8 := HSD.out.trans hb8)
                | (refine step_append_P (by rfl) _ _ (by rfl) w1.heap.size v8 (acc.take j ++ [t]) (acc.drop j) g 0 _ _ (by rfl) (by exact rfl) ho8 (by rw [HDK.out]; first | done | omega) (HCS.out _ hs8) hs8.size (by have := HLN.out; omega) ?_
                   intro v9 w4 ho9 hb9
                   have hs9 := hs8.trans hb9))
            all_goals
              have hpos : 0 < (acc.take j ++ [t] ++ acc.drop j).length := by simp; omega
              obtain ⟨g9, c9, hv9, _, hg9, hl9, hm9⟩ := own_form ho9 hpos
              have hlen9 : (acc.take j ++ [t] ++ acc.drop j).length = (acc.take j).length + 1 + (acc.drop j).length := by simp; omega
              have HF := Lib.hid (And.intro ho9 hs9)
              clear ho9 hs9 ho8 hb8 hb9
              go_wp2
              go_roundw
              case rel => exact ⟨k + 1, _, g9, c9, by omega, by go_num, hv9, by rw [hlen9, HTK.out, HDK.out]; omega, hl9, hm9, hg9, by rw [HNX.out, HACC.out, HI.out], HF.out.1.base HB1.out.size, nx HB1.out HF.out.2⟩
              case measure => simp [intOf]; omega
          · have HCS : Hid (∀ u, Below w1.heap.size w1 u → ∀ i, (h : i < (acc.drop j).length) → u.cell? ⟨g, j + i, none⟩ = some (.string (str (acc.drop j)[i]))) := fun u hu i h => by
              rw [HC0.out u hu (j + i) (by rw [HDK.out] at h; omega), List.getElem_drop]
            have hcj : 0 < c1 - j := by omega
            go_wp2_with fail
            go_region_held3 (fun w' => Below w1.heap.size w1 w')
              (first
                | exact HS2.out.drew
                | exact HSD.out
                | exact hs9
                | exact hs8)
              (first
                | (refine step_append_P (by rfl) _ _ (by rfl) w1.heap.size v7 (acc.take j) [t] w2.heap.size 0 1 1 (by rfl) (by rfl) HA1.out rfl HCN.out HSD.out.size (by rw [HTK.out]; omega) ?_
                   intro v8 w3 ho8 hb8
                   have hs8 := HSD.out.trans hb8)
                | (refine step_append_P (by rfl) _ _ (by rfl) w1.heap.size v8 (acc.take j ++ [t]) (acc.drop j) g j (acc.length - j) (c1 - j) (by rfl) (by rfl) ho8 HDK.out (HCS.out _ hs8) hs8.size HLN.out ?_
                   intro v9 w4 ho9 hb9
                   have hs9 := hs8.trans hb9))
            all_goals
              have hpos : 0 < (acc.take j ++ [t] ++ acc.drop j).length := by simp; omega
              obtain ⟨g9, c9, hv9, _, hg9, hl9, hm9⟩ := own_form ho9 hpos
              have hlen9 : (acc.take j ++ [t] ++ acc.drop j).length = (acc.take j).length + 1 + (acc.drop j).length := by simp; omega
              have HF := Lib.hid (And.intro ho9 hs9)
              clear ho9 hs9 ho8 hb8 hb9
              go_wp2
              go_roundw
              case rel => exact ⟨k + 1, _, g9, c9, by omega, by go_num, hv9, by rw [hlen9, HTK.out, HDK.out]; omega, hl9, hm9, hg9, by rw [HNX.out, HACC.out, HI.out], HF.out.1.base HB1.out.size, nx HB1.out HF.out.2⟩
              case measure => simp [intOf]; omega
    · have HE : Hid (domsL xs = acc) := by show _ = _; rw [← HACC.out, List.take_of_length_le (by rw [HLEN.out]; omega)]
      go_wp2
      go_ret
      exact ⟨_, rfl, by rw [HE.out]; exact HOWN.out, HBW.out⟩
end Go.Proofs.Ythcmdmjijdafoaa
