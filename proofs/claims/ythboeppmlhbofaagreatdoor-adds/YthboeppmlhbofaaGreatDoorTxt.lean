/-
  Texts of clauses: what the program's readers and writers come to, as plain functions on lists of bytes. No Go, no program.
-/
import Derived.Laws.Wrap64
namespace Go.Proofs.YthboeppmlhbofaaGreatDoor.Txt

def gapI (c : Int) : Bool := c == 32 || c == 10
def nlB (c : UInt8) : Bool := (c.toNat : Int) == 10
def gapB (c : UInt8) : Bool := gapI c.toNat
/-- how many bytes up to the next newline -/
def llen : List UInt8 → Nat
  | [] => 0
  | c :: r => if nlB c then 0 else llen r + 1
/-- how many bytes up to the next blank or newline -/
def wlen : List UInt8 → Nat
  | [] => 0
  | c :: r => if gapB c then 0 else wlen r + 1

inductive Md | bol | mid | com
/-- how many bytes up to the next word -/
def sk : Md → List UInt8 → Nat
  | _, [] => 0
  | .com, c :: r => if nlB c then sk .bol r + 1 else sk .com r + 1
  | .bol, c :: r => if (c.toNat : Int) == 99 then sk .com r + 1 else if gapB c then (if nlB c then sk .bol r else sk .mid r) + 1 else 0
  | .mid, c :: r => if gapB c then (if nlB c then sk .bol r else sk .mid r) + 1 else 0

theorem gapB_of_nl {c : UInt8} (h : nlB c = true) : gapB c = true := by
  simp only [nlB, gapB, gapI] at *
  simp [h]
theorem ne99_of_nl {c : UInt8} (h : nlB c = true) : ((c.toNat : Int) == 99) = false := by
  simp only [nlB, beq_iff_eq] at h
  simp [h]
theorem ne99_of_gap {c : UInt8} (h : gapB c = true) : ((c.toNat : Int) == 99) = false := by
  simp only [gapB, gapI, Bool.or_eq_true, beq_iff_eq] at h
  rcases h with h | h <;> simp [h]

theorem sk_com (l : List UInt8) : sk .com l = llen l + sk .bol (l.drop (llen l)) := by
  induction l with
  | nil => rfl
  | cons c r ih =>
    by_cases h : nlB c = true
    · simp [sk, llen, h, gapB_of_nl h, ne99_of_nl h]
    · simp only [Bool.not_eq_true] at h
      simp [sk, llen, h, ih]
      omega

/-- what stands where a word ends -/
def AtGap : List UInt8 → Prop
  | [] => True
  | c :: _ => gapB c = true
theorem atGap_wlen (l : List UInt8) : AtGap (l.drop (wlen l)) := by
  induction l with
  | nil => exact trivial
  | cons c r ih =>
    by_cases h : gapB c = true
    · simp [wlen, h, AtGap]
    · simp only [Bool.not_eq_true] at h
      simpa [wlen, h] using ih
theorem sk_atGap {l : List UInt8} (h : AtGap l) : sk .bol l = sk .mid l := by
  cases l with
  | nil => rfl
  | cons c r =>
    have h' : gapB c = true := h
    simp [sk, h', ne99_of_gap h']

theorem llen_le (l : List UInt8) : llen l ≤ l.length := by
  induction l with
  | nil => simp [llen]
  | cons c r ih => simp only [llen]; split <;> simp <;> omega
theorem wlen_le (l : List UInt8) : wlen l ≤ l.length := by
  induction l with
  | nil => simp [wlen]
  | cons c r ih => simp only [wlen]; split <;> simp <;> omega
theorem sk_le (m : Md) (l : List UInt8) : sk m l ≤ l.length := by
  induction l generalizing m with
  | nil => cases m <;> simp [sk]
  | cons c r ih =>
    have h1 := ih .bol; have h2 := ih .mid; have h3 := ih .com
    cases m <;> simp only [sk, List.length_cons] <;> repeat' split
    all_goals omega

/-- the mode at a place: does a line begin there? -/
def mdAt (l : List UInt8) (p : Nat) : Md := if p = 0 then .bol else if nlB (l.getD (p - 1) 0) then .bol else .mid

/-- does a comment begin at a place? -/
def cmB (l : List UInt8) (p : Nat) : Bool := ((l.getD p 0).toNat : Int) == 99 && (decide (p = 0) || nlB (l.getD (p - 1) 0))
/-- where the next word begins -/
def nxt (l : List UInt8) (p : Nat) : Nat := p + sk (mdAt l p) (l.drop p)
theorem drop_getD {l : List UInt8} {j : Nat} (h : j < l.length) : l.drop j = l.getD j 0 :: l.drop (j + 1) := by
  rw [List.drop_eq_getElem_cons h, List.getD_eq_getElem?_getD, List.getElem?_eq_getElem h]
  rfl
theorem nxt_end {l : List UInt8} {j : Nat} (h : l.length ≤ j) : nxt l j = j := by
  unfold nxt
  rw [List.drop_eq_nil_of_le h]
  cases mdAt l j <;> simp [sk]
theorem nxt_word {l : List UInt8} {j : Nat} (h : j < l.length) (hc : cmB l j = false) (hg : gapB (l.getD j 0) = false) : nxt l j = j := by
  unfold nxt
  rw [drop_getD h]
  unfold mdAt
  unfold cmB at hc
  by_cases h0 : j = 0
  · subst h0
    simp only [decide_true, Bool.true_or, Bool.and_true] at hc
    simp only [if_true, sk, hc, hg]
    rfl
  · rw [if_neg h0]
    cases hn : nlB (l.getD (j - 1) 0)
    · simp only [Bool.false_eq_true, if_false, sk, hg]; rfl
    · simp only [hn, Bool.or_true, Bool.and_true] at hc
      simp only [if_true, sk, hc, hg]; rfl
theorem nl_of_99 {c : UInt8} (h : ((c.toNat : Int) == 99) = true) : nlB c = false := by
  simp only [beq_iff_eq] at h
  simp [nlB, h]
theorem nxt_gap {l : List UInt8} {j : Nat} (h : j < l.length) (hg : gapB (l.getD j 0) = true) : nxt l (j + 1) = nxt l j := by
  have h9 := ne99_of_gap hg
  have e : sk (mdAt l j) (l.drop j) = sk (mdAt l (j + 1)) (l.drop (j + 1)) + 1 := by
    rw [drop_getD h]
    have : mdAt l (j + 1) = if nlB (l.getD j 0) then .bol else .mid := by simp [mdAt]
    rw [this]
    unfold mdAt
    split
    · simp only [sk, h9, hg]; cases nlB (l.getD j 0) <;> simp
    · split <;> (simp only [sk, h9, hg]; cases nlB (l.getD j 0) <;> simp)
  unfold nxt
  omega
theorem llen_com {l : List UInt8} {j : Nat} (h : j < l.length) (hc : cmB l j = true) : 0 < llen (l.drop j) := by
  rw [drop_getD h]
  simp only [cmB, Bool.and_eq_true] at hc
  have : nlB (l.getD j 0) = false := nl_of_99 hc.1
  simp only [llen, this]
  simp
theorem atGap_llen (l : List UInt8) : AtGap (l.drop (llen l)) := by
  induction l with
  | nil => exact trivial
  | cons c r ih =>
    by_cases h : nlB c = true
    · simp [llen, h, AtGap, gapB_of_nl h]
    · simp only [Bool.not_eq_true] at h
      simpa [llen, h] using ih
theorem nxt_com {l : List UInt8} {j : Nat} (h : j < l.length) (hc : cmB l j = true) : nxt l (j + llen (l.drop j)) = nxt l j := by
  have hb : mdAt l j = .bol := by
    simp only [cmB, Bool.and_eq_true, Bool.or_eq_true, decide_eq_true_eq] at hc
    unfold mdAt
    rcases hc.2 with h0 | h0
    · rw [if_pos h0]
    · rw [if_pos h0]
      split <;> rfl
  have h99 : (((l.getD j 0).toNat : Int) == 99) = true := by
    simp only [cmB, Bool.and_eq_true] at hc; exact hc.1
  have hn : nlB (l.getD j 0) = false := nl_of_99 h99
  have e1 : llen (l.drop j) = llen (l.drop (j + 1)) + 1 := by rw [drop_getD h]; simp only [llen, hn]; rfl
  have e2 : sk (mdAt l j) (l.drop j) = sk .com (l.drop (j + 1)) + 1 := by rw [hb, drop_getD h]; simp only [sk, h99]; rfl
  have e3 := sk_com (l.drop (j + 1))
  have e4 : (l.drop (j + 1)).drop (llen (l.drop (j + 1))) = l.drop (j + llen (l.drop j)) := by rw [List.drop_drop, e1]; congr 1; omega
  have e5 := atGap_llen (l.drop (j + 1))
  rw [e4] at e3 e5
  have e6 : sk (mdAt l (j + llen (l.drop j))) (l.drop (j + llen (l.drop j))) = sk .bol (l.drop (j + llen (l.drop j))) := by
    unfold mdAt
    split
    · rfl
    · split
      · rfl
      · exact (sk_atGap e5).symm
  unfold nxt
  omega

/-! ### Words as numbers -/
def digB (c : UInt8) : Bool := decide (48 ≤ (c.toNat : Int)) && decide ((c.toNat : Int) ≤ 57)
def cntB : List UInt8 → Bool
  | [] => false
  | c :: r => !((c.toNat : Int) == 48) && (c :: r).all digB
def valFrom (n : Int) : List UInt8 → Int
  | [] => n
  | c :: r => if n ≤ 10 then valFrom (n * 10 + ((c.toNat : Int) - 48)) r else n
def decOf (l : List UInt8) : Int := valFrom 0 l
/-- a word's number and error -/
def numOf (l : List UInt8) : Int × Int :=
  if l = [48] then (0, 0) else
    match l with
    | [] => (0, 3)
    | c :: r =>
      if (c.toNat : Int) == 45 then (if cntB r then (if decOf r ≤ 10 then (-decOf r, 0) else (0, 4)) else (0, 3))
      else (if cntB (c :: r) then (if decOf (c :: r) ≤ 10 then (decOf (c :: r), 0) else (0, 4)) else (0, 3))

theorem valFrom_bd (l : List UInt8) (hd : l.all digB = true) (n : Int) (h0 : 0 ≤ n) (h1 : n ≤ 109) : 0 ≤ valFrom n l ∧ valFrom n l ≤ 109 := by
  induction l generalizing n with
  | nil => exact ⟨h0, h1⟩
  | cons c r ih =>
    simp only [List.all_cons, Bool.and_eq_true, digB, decide_eq_true_eq] at hd
    simp only [valFrom]
    split
    · exact ih hd.2 _ (by omega) (by omega)
    · exact ⟨h0, h1⟩

/-! ### Read -/
inductive Res
  | err (e : Int) (p : Nat)
  | ok (cl : List (List Int))
/-- from a word's first byte (or the end) on; L: the text's length -/
def rd (L : Nat) : Nat → List (List Int) → List Int → List UInt8 → Res
  | 0, _, _, _ => .ok []
  | f + 1, cl, op, l =>
    if l = [] then (if op = [] then .ok cl else .err 3 L)
    else
      let x := numOf (l.take (wlen l))
      let r := l.drop (wlen l)
      if x.2 ≠ 0 then .err x.2 (L - l.length)
      else if x.1 = 0 then rd L f (cl ++ [op]) [] (r.drop (sk .mid r))
      else rd L f cl (op ++ [x.1]) (r.drop (sk .mid r))
theorem sk_stop (m : Md) (l : List UInt8) : ∀ c r, l.drop (sk m l) = c :: r → gapB c = false := by
  induction l generalizing m with
  | nil => intro c r h; cases m <;> simp [sk] at h
  | cons d l ih =>
    have key : ∀ n (m' : Md) (c : UInt8) (r : List UInt8), n = sk m' l + 1 → (d :: l).drop n = c :: r → gapB c = false := by
      intro n m' c r hn h
      subst hn
      rw [List.drop_succ_cons] at h
      exact ih m' c r h
    have stop : ∀ (c : UInt8) (r : List UInt8), gapB d = false → (d :: l).drop 0 = c :: r → gapB c = false := by
      intro c r hd h
      simp only [List.drop_zero, List.cons.injEq] at h
      rw [← h.1]; exact hd
    intro c r h
    cases m with
    | com =>
      simp only [sk] at h
      split at h
      · exact key _ _ c r rfl h
      · exact key _ _ c r rfl h
    | bol =>
      simp only [sk] at h
      split at h
      · exact key _ _ c r rfl h
      · split at h
        · split at h
          · exact key _ _ c r rfl h
          · exact key _ _ c r rfl h
        · exact stop c r (by simpa using ‹¬gapB d = true›) h
    | mid =>
      simp only [sk] at h
      split at h
      · split at h
        · exact key _ _ c r rfl h
        · exact key _ _ c r rfl h
      · exact stop c r (by simpa using ‹¬gapB d = true›) h
/-- a word begins there, or the end -/
def AtWord : List UInt8 → Prop
  | [] => True
  | c :: _ => gapB c = false
theorem atWord_sk (m : Md) (l : List UInt8) : AtWord (l.drop (sk m l)) := by
  cases h : l.drop (sk m l) with
  | nil => exact trivial
  | cons c r => exact sk_stop m l c r h
theorem wlen_pos {l : List UInt8} (h : AtWord l) (hne : l ≠ []) : 1 ≤ wlen l := by
  cases l with
  | nil => exact absurd rfl hne
  | cons c r =>
    have h' : gapB c = false := h
    simp [wlen, h']
theorem nxt_atGap {l : List UInt8} {e : Nat} (h : AtGap (l.drop e)) : nxt l e = e + sk .mid (l.drop e) := by
  unfold nxt mdAt
  split
  · rw [sk_atGap h]
  · split
    · rw [sk_atGap h]
    · rfl
theorem nxt_zero (l : List UInt8) : nxt l 0 = sk .bol l := by simp [nxt, mdAt]
theorem nxt_le {l : List UInt8} {p : Nat} (h : p ≤ l.length) : nxt l p ≤ l.length ∧ p ≤ nxt l p := by
  unfold nxt
  have := sk_le (mdAt l p) (l.drop p)
  rw [List.length_drop] at this
  omega
theorem atWord_nxt (l : List UInt8) (p : Nat) : AtWord (l.drop (nxt l p)) := by
  have := atWord_sk (mdAt l p) (l.drop p)
  rwa [List.drop_drop] at this
theorem rd_nil (L f : Nat) (cl : List (List Int)) (op : List Int) : rd L (f + 1) cl op [] = if op = [] then .ok cl else .err 3 L := by simp [rd]
theorem rd_word {L f : Nat} {cl : List (List Int)} {op : List Int} {l : List UInt8} (hne : l ≠ []) : rd L (f + 1) cl op l =
    if (numOf (l.take (wlen l))).2 ≠ 0 then .err (numOf (l.take (wlen l))).2 (L - l.length)
    else if (numOf (l.take (wlen l))).1 = 0 then rd L f (cl ++ [op]) [] ((l.drop (wlen l)).drop (sk .mid (l.drop (wlen l))))
    else rd L f cl (op ++ [(numOf (l.take (wlen l))).1]) ((l.drop (wlen l)).drop (sk .mid (l.drop (wlen l)))) := by
  rw [rd, if_neg hne]
theorem rd_step {l : List UInt8} {j : Nat} (hj : j < l.length) (ha : AtWord (l.drop j)) : ∃ m j', wlen (l.drop j) = m ∧ nxt l (j + m) = j' ∧ 1 ≤ m ∧ j + m ≤ l.length ∧ j + m ≤ j' ∧ j' ≤ l.length ∧ AtWord (l.drop j') ∧
    ∀ f cl op, rd l.length (f + 1) cl op (l.drop j) = if (numOf ((l.drop j).take m)).2 ≠ 0 then .err (numOf ((l.drop j).take m)).2 j else if (numOf ((l.drop j).take m)).1 = 0 then rd l.length f (cl ++ [op]) [] (l.drop j')
      else rd l.length f cl (op ++ [(numOf ((l.drop j).take m)).1]) (l.drop j') := by
  have hne : l.drop j ≠ [] := by intro h; have := congrArg List.length h; rw [List.length_drop] at this; simp at this; omega
  have h1 := wlen_pos ha hne
  have h2 : j + wlen (l.drop j) ≤ l.length := by have := wlen_le (l.drop j); rw [List.length_drop] at this; omega
  have h3 := atGap_wlen (l.drop j)
  rw [List.drop_drop] at h3
  have h4 := nxt_atGap h3
  have h5 := nxt_le h2
  refine ⟨_, _, rfl, rfl, h1, h2, h5.2, h5.1, atWord_nxt l _, fun f cl op => ?_⟩
  rw [rd_word hne, List.drop_drop (i := wlen (l.drop j)), List.drop_drop, ← h4, List.length_drop, show l.length - (l.length - j) = j by omega]
def rdAll (l : List UInt8) : Res :=
  if 1000 < l.length then .err 2 0 else rd l.length (l.length + 1) [] [] (l.drop (sk .bol l))

end Go.Proofs.YthboeppmlhbofaaGreatDoor.Txt
