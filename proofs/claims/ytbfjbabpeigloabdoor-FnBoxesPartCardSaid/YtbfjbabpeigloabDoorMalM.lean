/-
  Mails and sessions: the plain functions on lists of bytes that the program's functions of chapter 10 compute. No statement is proved here.
-/
import Derived.Test.YtbfjbabpeigloabDoorAddrM
import Derived.Test.YtbfjbabpeigloabDoorFieldM
namespace Go.Proofs.YtbfjbabpeigloabDoor
open Go.RowKit

structure Ml where
  frm : List UInt8
  to : List (List UInt8)
  lines : List (List UInt8)
deriving DecidableEq
structure Ssn where
  state : Int
  host : List UInt8
  draft : Ml
  done : List Ml
deriving DecidableEq
def ml0 : Ml := ⟨[], [], []⟩
def ssn0 : Ssn := ⟨0, [], ml0, []⟩
theorem Ml.ext' {a b : Ml} (h1 : a.frm = b.frm) (h2 : a.to = b.to) (h3 : a.lines = b.lines) : a = b := by cases a; cases b; simp_all
theorem Ssn.ext' {a b : Ssn} (h1 : a.state = b.state) (h2 : a.host = b.host) (h3 : a.draft = b.draft) (h4 : a.done = b.done) : a = b := by cases a; cases b; simp_all
/-! Cuts. -/
theorem cutK_at (c : UInt8) : ∀ (l : List UInt8) (m k : Nat), cutK c m l = some k → l = l.take k ++ c :: l.drop (k + 1)
  | [], m, k, h => by rw [cutK_nil] at h; cases h
  | x :: l, m, k, h => by
    have step : ∀ m', (cutK c m' l).map (· + 1) = some k → x :: l = (x :: l).take k ++ c :: (x :: l).drop (k + 1) := fun m' h' => by
      obtain ⟨j, hj, rfl⟩ := Option.map_eq_some_iff.1 h'
      have := cutK_at c l m' j hj
      show x :: l = x :: (l.take j ++ c :: l.drop (j + 1))
      rw [← this]
    match m, h with
    | 0, h =>
      rw [cutK] at h
      by_cases hx : x = c
      · rw [if_pos hx] at h; injection h with h; subst h; subst hx; rfl
      · rw [if_neg hx] at h; exact step _ h
    | 1, h => rw [cutK] at h; exact step _ h
    | m + 2, h => rw [cutK] at h; exact step _ h
theorem cutU_at {c : UInt8} {l a b : List UInt8} (h : cutU c l = some (a, b)) : l = a ++ c :: b := by
  unfold cutU at h
  obtain ⟨k, hk, he⟩ := Option.map_eq_some_iff.1 h
  injection he with h1 h2
  subst h1 h2
  exact cutK_at c l 0 k hk
theorem cutAt_at {c : UInt8} : ∀ {l a b : List UInt8}, cutAt c l = some (a, b) → l = a ++ c :: b ∧ ∀ x ∈ a, x ≠ c
  | [], a, b, h => by simp [cutAt] at h
  | x :: l, a, b, h => by
    unfold cutAt at h
    split at h
    · rename_i hx
      injection h with h; injection h with h1 h2; subst h1 h2 hx; simp
    · rename_i hx
      obtain ⟨y, hy, he⟩ := Option.map_eq_some_iff.1 h
      injection he with h1 h2
      subst h1 h2
      obtain ⟨g1, g2⟩ := cutAt_at (a := y.1) (b := y.2) hy
      refine ⟨by rw [g1]; rfl, fun z hz => ?_⟩
      rcases List.mem_cons.1 hz with rfl | hz
      · exact hx
      · exact g2 z hz
theorem cutAt_no {c : UInt8} : ∀ {l : List UInt8}, cutAt c l = none → ∀ x ∈ l, x ≠ c
  | [], _, x, hx => by cases hx
  | y :: l, h, x, hx => by
    unfold cutAt at h
    split at h
    · cases h
    · rename_i hy
      rcases List.mem_cons.1 hx with rfl | hx
      · exact hy
      · exact cutAt_no (Option.map_eq_none_iff.1 h) x hx
/-! Paths. -/
def isPath (l : List UInt8) : Bool := match cutAt 64 l with
  | some (a, b) => isLocal a && isDomain b
  | none => false
def lowPath (l : List UInt8) : List UInt8 := match cutAt 64 l with
  | some (a, b) => a ++ 64 :: low b
  | none => l
theorem isLocal_bytes {a : List UInt8} (h : isLocal a = true) : ∀ x ∈ a, x ≠ 64 ∧ x ≠ 34 := fun x hx => by
  unfold isLocal at h
  rw [Bool.and_eq_true] at h
  have := atomdot (local_byte h.2 hx); exact ⟨this.2.2.2.2.2.1, this.2.2.1⟩
theorem isAdr_box (a b : List UInt8) : isAdr ⟨[], a, b⟩ = (isLocal a && isDomain b) := by
  unfold isAdr
  rw [show isName ([] : List UInt8) = true by decide, Bool.true_and]
theorem cutU_local {l a b : List UInt8} (h : cutU 64 l = some (a, b)) (ha : isLocal a = true) : cutAt 64 l = some (a, b) := by
  rw [cutU_at h]; exact cutAt_hit b (fun x hx => (isLocal_bytes ha x hx).1)
theorem cutAt_local {l a b : List UInt8} (h : cutAt 64 l = some (a, b)) (ha : isLocal a = true) : cutU 64 l = some (a, b) := by
  rw [(cutAt_at h).1]; exact cutU_hit (Pass.plain (isLocal_bytes ha)) b
/-- What the model reads as a mailbox at a domain, and how it is a path. -/
theorem box_path (l : List UInt8) : (boxA [] l).map boxT = if isPath (lowPath l) then some (lowPath l) else none := by
  unfold boxA
  cases h : cutU 64 l with
  | some y =>
    obtain ⟨a, b⟩ := y
    cases ha : isLocal a with
    | true =>
      have h2 := cutU_local h ha
      have h3 : lowPath l = a ++ 64 :: low b := by unfold lowPath; rw [h2]
      have h4 : isPath (a ++ 64 :: low b) = isDomain (low b) := by
        unfold isPath; rw [cutAt_hit (low b) (fun x hx => (isLocal_bytes ha x hx).1)]; simp [ha]
      rw [h3, h4]
      show (if isAdr ⟨[], a, low b⟩ then some (Adr.mk [] a (low b)) else none).map boxT = _
      rw [isAdr_box, ha, Bool.true_and]
      cases isDomain (low b) <;> rfl
    | false =>
      show (if isAdr ⟨[], a, low b⟩ then some (Adr.mk [] a (low b)) else none).map boxT = _
      rw [isAdr_box, ha, Bool.false_and]
      show none = _
      have : isPath (lowPath l) = false := by
        unfold lowPath
        cases h2 : cutAt 64 l with
        | none => unfold isPath; rw [h2]
        | some z =>
          obtain ⟨p, q⟩ := z
          show isPath (p ++ 64 :: low q) = false
          unfold isPath; rw [cutAt_hit (low q) (cutAt_at h2).2]
          show (isLocal p && _) = false
          cases hp : isLocal p with
          | false => rfl
          | true =>
            have := cutAt_local h2 hp
            rw [h] at this
            injection this with this; injection this with this
            rw [this, hp] at ha; cases ha
      rw [this]; rfl
  | none =>
    have : isPath (lowPath l) = false := by
      unfold lowPath
      cases h2 : cutAt 64 l with
      | none => unfold isPath; rw [h2]
      | some z =>
        obtain ⟨p, q⟩ := z
        show isPath (p ++ 64 :: low q) = false
        unfold isPath; rw [cutAt_hit (low q) (cutAt_at h2).2]
        show (isLocal p && _) = false
        cases hp : isLocal p with
        | false => rfl
        | true =>
          have := cutAt_local h2 hp
          rw [h] at this; cases this
    rw [this]; rfl
theorem path_parts {l : List UInt8} (h : isPath l = true) : ∃ a b, l = a ++ 64 :: b ∧ isLocal a = true ∧ isDomain b = true ∧ cutAt 64 l = some (a, b) := by
  unfold isPath at h
  split at h
  · rename_i a b hc
    rw [Bool.and_eq_true] at h
    exact ⟨a, b, (cutAt_at hc).1, h.1, h.2, hc⟩
  · cases h
theorem isDomain_low {b : List UInt8} (h : isDomain b = true) : low b = b := by
  unfold isDomain at h
  rw [Bool.and_eq_true] at h
  unfold low
  conv => rhs; rw [← List.map_id b]
  exact List.map_congr_left (fun x hx => lowB_f (labdot (domain_byte h.2 hx)).2.2.2.2.2.2.2)
theorem lowPath_path {l : List UInt8} (h : isPath l = true) : lowPath l = l := by
  obtain ⟨a, b, h1, _, h3, h4⟩ := path_parts h
  unfold lowPath; rw [h4]
  show a ++ 64 :: low b = l
  rw [isDomain_low h3, ← h1]
/-- What the model takes for a path: it is read, and reads as it was. -/
theorem path_box (l : List UInt8) : isPath l = match boxA [] l with | some a => decide (boxT a = l) | none => false := by
  have hb := box_path l
  cases hx : boxA [] l with
  | none =>
    rw [hx] at hb
    show isPath l = false
    cases h : isPath l with
    | false => rfl
    | true => rw [lowPath_path h, if_pos h] at hb; cases hb
  | some a =>
    rw [hx] at hb
    show isPath l = decide (boxT a = l)
    cases h : isPath l with
    | true =>
      rw [lowPath_path h, if_pos h] at hb
      injection hb with hb
      exact (decide_eq_true hb).symm
    | false =>
      refine (decide_eq_false fun he => ?_).symm
      cases hp : isPath (lowPath l) with
      | false => rw [hp] at hb; cases hb
      | true =>
        rw [hp, if_pos rfl] at hb
        injection hb with hb
        rw [← hb, he, h] at hp; cases hp
theorem isPath_len {l : List UInt8} (h : isPath l = true) : l.length ≤ 71 := by
  obtain ⟨a, b, h1, h2, h3, _⟩ := path_parts h
  unfold isLocal at h2
  unfold isDomain at h3
  rw [Bool.and_eq_true, decide_eq_true_eq] at h2 h3
  rw [h1, List.length_append, List.length_cons]; omega
theorem isPath_bytes {l : List UInt8} (h : isPath l = true) : ∀ x ∈ l, okB x = true ∧ x ≠ 62 ∧ x ≠ 34 ∧ x ≠ 32 := fun x hx => by
  obtain ⟨a, b, h1, h2, h3, _⟩ := path_parts h
  unfold isLocal at h2
  unfold isDomain at h3
  rw [Bool.and_eq_true] at h2 h3
  rw [h1] at hx
  rcases List.mem_append.1 hx with h' | h'
  · have := atomdot (local_byte h2.2 h'); exact ⟨this.1, this.2.2.2.2.1, this.2.2.1, this.2.1⟩
  · rcases List.mem_cons.1 h' with rfl | h'
    · decide
    · have := labdot (domain_byte h3.2 h'); exact ⟨this.1, this.2.2.2.2.1, this.2.2.1, this.2.1⟩
theorem isPath_ne {l : List UInt8} (h : isPath l = true) : l ≠ [] := by
  obtain ⟨a, b, h1, _⟩ := path_parts h
  rw [h1]; simp
/-! Mails and sessions. -/
def isSend (l : List UInt8) : Bool := decide (l = []) || isPath l
def isDraft (m : Ml) : Bool := isSend m.frm && (decide (m.to.length ≤ 10) && m.to.all isPath) && (decide (m.lines.length ≤ 31) && m.lines.all isText)
def isMail (m : Ml) : Bool := isDraft m && (decide (0 < m.to.length) && decide (m.lines.length ≤ 30))
def hostOk (s : Ssn) : Bool := if s.host = [] then decide (s.state = 0) || decide (s.state = 5) else !decide (s.state = 0) && isDomain s.host
def fitOk (s : Ssn) : Bool := ((decide (s.state = 2) || decide (s.state = 3) || decide (s.state = 4)) || decide (s.draft.frm = [])) &&
  ((decide (s.state = 3) || decide (s.state = 4)) == decide (0 < s.draft.to.length)) && (decide (s.state = 4) || decide (s.draft.lines.length = 0))
def isSsn (s : Ssn) : Bool := (decide (0 ≤ s.state) && decide (s.state ≤ 5)) && hostOk s && isDraft s.draft && fitOk s && (decide (s.done.length ≤ 5) && s.done.all isMail)
theorem isDraft_iff {m : Ml} : isDraft m = true ↔ isSend m.frm = true ∧ m.to.length ≤ 10 ∧ (∀ x ∈ m.to, isPath x = true) ∧ m.lines.length ≤ 31 ∧ ∀ x ∈ m.lines, isText x = true := by
  unfold isDraft; simp [and_assoc]
theorem isMail_iff {m : Ml} : isMail m = true ↔ isDraft m = true ∧ 0 < m.to.length ∧ m.lines.length ≤ 30 := by
  unfold isMail; simp [List.length_pos_iff]
theorem isSend_len {l : List UInt8} (h : isSend l = true) : l.length ≤ 71 := by
  unfold isSend at h
  rcases Bool.or_eq_true _ _ ▸ h with h | h
  · rw [of_decide_eq_true h]; simp
  · exact isPath_len h
/-! Spoken mails. -/
def dotL (l : List UInt8) : List UInt8 := if l.head? = some 46 then 46 :: l else l
def fromL (p : List UInt8) : List UInt8 := [77, 65, 73, 76, 32, 70, 82, 79, 77, 58, 60] ++ p ++ [62]
def rcptL (p : List UInt8) : List UInt8 := [82, 67, 80, 84, 32, 84, 79, 58, 60] ++ p ++ [62]
def dataL : List UInt8 := [68, 65, 84, 65]
def speakL (m : Ml) : List (List UInt8) := (([fromL m.frm] ++ m.to.map rcptL) ++ [dataL]) ++ m.lines.map dotL
def speakM (m : Ml) : Option (List (List UInt8)) := if isMail m && (m.lines.map dotL).all isText then some (speakL m ++ [[46]]) else none
theorem fromL_text {p : List UInt8} (h : isSend p = true) : isText (fromL p) = true := by
  refine isText_mk (fun x hx => ?_) (by have := isSend_len h; unfold fromL; simp; omega)
  unfold fromL at hx
  simp only [List.mem_append, List.mem_cons, List.not_mem_nil, or_false] at hx
  rcases hx with (hx | hx) | hx
  · rcases hx with rfl | rfl | rfl | rfl | rfl | rfl | rfl | rfl | rfl | rfl | rfl <;> decide
  · unfold isSend at h
    rcases Bool.or_eq_true _ _ ▸ h with h | h
    · rw [of_decide_eq_true h] at hx; cases hx
    · exact (isPath_bytes h x hx).1
  · rw [hx]; decide
theorem rcptL_text {p : List UInt8} (h : isPath p = true) : isText (rcptL p) = true := by
  refine isText_mk (fun x hx => ?_) (by have := isPath_len h; unfold rcptL; simp; omega)
  unfold rcptL at hx
  simp only [List.mem_append, List.mem_cons, List.not_mem_nil, or_false] at hx
  rcases hx with (hx | hx) | hx
  · rcases hx with rfl | rfl | rfl | rfl | rfl | rfl | rfl | rfl | rfl <;> decide
  · exact (isPath_bytes h x hx).1
  · rw [hx]; decide
/-- All lines of a valid mail but its own are texts. -/
theorem speakL_text {m : Ml} (h : isMail m = true) : (speakL m).all isText = (m.lines.map dotL).all isText := by
  obtain ⟨h1, _, _⟩ := isMail_iff.1 h
  obtain ⟨h2, _, h4, _⟩ := isDraft_iff.1 h1
  unfold speakL
  rw [List.all_append, List.all_append, List.all_append]
  have e1 : [fromL m.frm].all isText = true := by simp [fromL_text h2]
  have e2 : (m.to.map rcptL).all isText = true := by
    rw [List.all_eq_true]; intro x hx
    obtain ⟨p, hp, rfl⟩ := List.mem_map.1 hx
    exact rcptL_text (h4 p hp)
  have e3 : [dataL].all isText = true := by decide
  rw [e1, e2, e3]; simp
theorem dotL_len (l : List UInt8) : (dotL l).length = l.length + (if l.head? = some 46 then 1 else 0) := by unfold dotL; split <;> simp
theorem dotL_text {l : List UInt8} (h : isText l = true) : isText (dotL l) = !(decide (l.length = 200) && decide (l.head? = some 46)) := by
  by_cases hd : l.head? = some 46
  · have he : dotL l = 46 :: l := by unfold dotL; rw [if_pos hd]
    rw [he, decide_eq_true hd, Bool.and_true]
    by_cases h2 : l.length = 200
    · rw [decide_eq_true h2]; unfold isText; simp [h2]
    · rw [decide_eq_false h2]
      have hl : l.length ≤ 200 := by unfold isText at h; simp at h; exact h.1
      refine isText_mk (fun x hx => ?_) (by rw [List.length_cons]; omega)
      rcases List.mem_cons.1 hx with rfl | hx
      · decide
      · exact isText_byte h hx
  · have he : dotL l = l := by unfold dotL; rw [if_neg hd]
    rw [he, decide_eq_false hd, Bool.and_false, h]; rfl
theorem isMail_part {m : Ml} (h : isMail m = true) (k : Nat) : isMail ⟨m.frm, m.to.take 1, m.lines.take k⟩ = true := by
  obtain ⟨h1, h0, h3⟩ := isMail_iff.1 h
  obtain ⟨h2, h4, h5, h6, h7⟩ := isDraft_iff.1 h1
  refine isMail_iff.2 ⟨isDraft_iff.2 ⟨h2, ?_, fun x hx => h5 x (List.mem_of_mem_take hx), ?_, fun x hx => h7 x (List.mem_of_mem_take hx)⟩, ?_, ?_⟩ <;> simp <;> omega
/-- The words of a reply. -/
def replyT (n : Int) : List UInt8 :=
  if n = 221 then [50, 50, 49, 32, 98, 121, 101] else if n = 250 then [50, 53, 48, 32, 111, 107] else if n = 354 then [51, 53, 52, 32, 103, 111, 32, 111, 110]
  else if n = 452 then [52, 53, 50, 32, 116, 111, 111, 32, 109, 97, 110, 121] else if n = 500 then [53, 48, 48, 32, 119, 104, 97, 116] else if n = 501 then [53, 48, 49, 32, 104, 111, 119]
  else if n = 503 then [53, 48, 51, 32, 110, 111, 116, 32, 110, 111, 119] else if n = 552 then [53, 53, 50, 32, 116, 111, 111, 32, 108, 111, 110, 103] else []
end Go.Proofs.YtbfjbabpeigloabDoor
