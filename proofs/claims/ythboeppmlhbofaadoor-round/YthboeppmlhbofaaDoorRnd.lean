/-
  What Write writes, Read reads: the plain law.
-/
import Derived.Test.YthboeppmlhbofaaDoorWrt
namespace Go.Proofs.YthboeppmlhbofaaDoor
open Txt

def headB : List UInt8 → Bool
  | [] => false
  | c :: _ => !((c.toNat : Int) == 99)
/-- what a literal's text is -/
structure LitText (n : Int) (l : List UInt8) : Prop where
  num : numOf l = (n, 0)
  gaps : l.all (fun c => !gapB c) = true
  head : headB l = true
theorem itoa_text {n : Int} (h : litB n = true) : LitText n (Lib.itoa n) := by
  rcases lit_cases h with rfl | rfl | rfl | rfl | rfl | rfl | rfl | rfl | rfl | rfl | rfl | rfl | rfl | rfl | rfl | rfl | rfl | rfl | rfl | rfl <;>
    exact ⟨by decide +kernel, by decide +kernel, by decide +kernel⟩

theorem wlen_gap (l : List UInt8) (h : l.all (fun c => !gapB c) = true) (g : UInt8) (hg : gapB g = true) (r : List UInt8) : wlen (l ++ g :: r) = l.length := by
  induction l with
  | nil => simp [wlen, hg]
  | cons c l ih =>
    simp only [List.all_cons, Bool.and_eq_true, Bool.not_eq_true'] at h
    simp [wlen, h.1, ih h.2]
theorem sk_word {m : Md} (hm : m = .mid) (c : UInt8) (r : List UInt8) (h : gapB c = false) : sk m (c :: r) = 0 := by subst hm; simp [sk, h]
theorem gap32 : gapB 32 = true := by decide
theorem gap10 : gapB 10 = true := by decide
theorem nl32 : nlB 32 = false := by decide
theorem nl10 : nlB 10 = true := by decide

theorem rd_lit {n : Int} (h : litB n = true) (L f : Nat) (cl : List (List Int)) (op : List Int) (c : UInt8) (r : List UInt8) (hc : gapB c = false) :
    rd L (f + 1) cl op (litT n ++ c :: r) = rd L f cl (op ++ [n]) (c :: r) := by
  have T := itoa_text h
  have hn0 : n ≠ 0 := by intro e; subst e; simp [litB] at h
  have e0 : litT n ++ c :: r = Lib.itoa n ++ 32 :: c :: r := by simp [litT]
  rw [e0]
  have hne : Lib.itoa n ++ 32 :: c :: r ≠ [] := by simp
  have hw := wlen_gap _ T.gaps 32 gap32 (c :: r)
  rw [rd_word hne, hw, List.take_left, T.num, List.drop_left]
  have hs : sk .mid (32 :: c :: r) = 1 := by simp [sk, gap32, nl32, hc]
  rw [hs]
  simp [hn0]
theorem num0 : numOf [48] = (0, 0) := by decide
theorem gap48 : gapB 48 = false := by decide
theorem rd_end (L f : Nat) (cl : List (List Int)) (op : List Int) (r : List UInt8) : rd L (f + 1) cl op (48 :: 10 :: r) = rd L f (cl ++ [op]) [] (r.drop (sk .bol r)) := by
  have hne : (48 :: 10 :: r : List UInt8) ≠ [] := by simp
  have hw : wlen (48 :: 10 :: r) = 1 := by simp [wlen, gap48, gap10]
  rw [rd_word hne, hw]
  have hs : sk .mid (10 :: r) = sk .bol r + 1 := by simp [sk, gap10, nl10]
  simp only [List.take_succ_cons, List.take_zero, num0, List.drop_succ_cons, List.drop_zero, hs]
  simp

theorem lit_head {n : Int} (h : litB n = true) : ∃ c r, litT n = c :: r ∧ gapB c = false ∧ ((c.toNat : Int) == 99) = false := by
  have T := itoa_text h
  obtain ⟨c, r, e, h9⟩ : ∃ c r, Lib.itoa n = c :: r ∧ ((c.toNat : Int) == 99) = false := by
    have hh := T.head
    cases hi : Lib.itoa n with
    | nil => rw [hi] at hh; cases hh
    | cons c r => rw [hi] at hh; exact ⟨c, r, rfl, by simpa [headB] using hh⟩
  have hg := T.gaps
  rw [e] at hg
  simp only [List.all_cons, Bool.and_eq_true, Bool.not_eq_true'] at hg
  exact ⟨c, r ++ [32], by simp [litT, e], hg.1, h9⟩
theorem clause_head (xs : List Int) (h : xs.all litB = true) (r : List UInt8) : ∃ c q, clauseT xs ++ r = c :: q ∧ gapB c = false ∧ ((c.toNat : Int) == 99) = false := by
  cases xs with
  | nil => exact ⟨48, 10 :: r, by simp [clauseT, litsT], gap48, by decide⟩
  | cons x xs =>
    simp only [List.all_cons, Bool.and_eq_true] at h
    obtain ⟨c, q, e, h1, h2⟩ := lit_head h.1
    exact ⟨c, q ++ (litsT xs ++ [48, 10] ++ r), by simp [clauseT, litsT, e], h1, h2⟩
theorem rd_clause (xs : List Int) (h : xs.all litB = true) (L : Nat) : ∀ (f : Nat) (cl : List (List Int)) (op : List Int) (r : List UInt8), xs.length < f →
    rd L f cl op (clauseT xs ++ r) = rd L (f - xs.length - 1) (cl ++ [op ++ xs]) [] (r.drop (sk .bol r)) := by
  induction xs with
  | nil =>
    intro f cl op r hf
    obtain ⟨g, rfl⟩ : ∃ g, f = g + 1 := ⟨f - 1, by simp at hf; omega⟩
    have e : clauseT [] ++ r = 48 :: 10 :: r := by simp [clauseT, litsT]
    rw [e, rd_end]
    simp
  | cons x xs ih =>
    intro f cl op r hf
    have h' := h
    simp only [List.all_cons, Bool.and_eq_true] at h'
    simp only [List.length_cons] at hf
    obtain ⟨g, rfl⟩ : ∃ g, f = g + 1 := ⟨f - 1, by omega⟩
    obtain ⟨c, q, e, h1, _⟩ := clause_head xs h'.2 r
    have e2 : clauseT (x :: xs) ++ r = litT x ++ (clauseT xs ++ r) := by simp [clauseT, litsT]
    rw [e2, e, rd_lit h'.1 L g cl op c q h1, ← e, ih h'.2 g cl (op ++ [x]) r (by omega)]
    simp only [List.length_cons, List.append_assoc, List.cons_append, List.nil_append]
    rw [show g + 1 - (xs.length + 1) - 1 = g - xs.length - 1 by omega]

/-- how many words -/
def wordsN : List (List Int) → Nat
  | [] => 0
  | xs :: r => xs.length + 1 + wordsN r
theorem sk_bol_head (c : UInt8) (q : List UInt8) (h1 : gapB c = false) (h2 : ((c.toNat : Int) == 99) = false) : sk .bol (c :: q) = 0 := by simp only [sk, h1, h2]; rfl
theorem rd_text (xss : List (List Int)) (h : litsB xss = true) (z : List UInt8) (hz : z.drop (sk .bol z) = []) (L : Nat) : ∀ (f : Nat) (cl : List (List Int)), wordsN xss < f →
    rd L f cl [] ((textT xss ++ z).drop (sk .bol (textT xss ++ z))) = .ok (cl ++ xss) := by
  induction xss with
  | nil =>
    intro f cl hf
    obtain ⟨g, rfl⟩ : ∃ g, f = g + 1 := ⟨f - 1, by omega⟩
    have e : textT [] ++ z = z := by simp [textT]
    rw [e, hz, rd_nil]
    simp
  | cons xs xss ih =>
    intro f cl hf
    have h' := h
    simp only [litsB, List.all_cons, Bool.and_eq_true] at h'
    simp only [wordsN] at hf
    have e : textT (xs :: xss) ++ z = clauseT xs ++ (textT xss ++ z) := by simp [textT]
    obtain ⟨c, q, e2, h1, h2⟩ := clause_head xs h'.1 (textT xss ++ z)
    rw [e, e2, sk_bol_head c q h1 h2, List.drop_zero, ← e2, rd_clause xs h'.1 L f cl [] (textT xss ++ z) (by omega), ih h'.2 _ _ (by omega)]
    simp
theorem wordsN_le (xss : List (List Int)) (h : litsB xss = true) : wordsN xss ≤ (textT xss).length := by
  induction xss with
  | nil => simp [wordsN]
  | cons xs xss ih =>
    simp only [litsB, List.all_cons, Bool.and_eq_true] at h
    have h2 := ih h.2
    have h1 : xs.length ≤ (litsT xs).length := by
      clear ih h2
      induction xs with
      | nil => simp
      | cons x xs ih2 =>
        have h3 := h.1
        simp only [List.all_cons, Bool.and_eq_true] at h3
        have := ih2 ⟨h3.2, h.2⟩
        simp only [litsT, List.flatMap_cons, List.length_append, List.length_cons, litT] at this ⊢
        simp only [List.length_nil]
        omega
    have e : textT (xs :: xss) = clauseT xs ++ textT xss := by simp [textT]
    rw [e]
    simp only [wordsN, clauseT, List.length_append, List.length_cons, List.length_nil]
    omega

theorem round_plain (xss : List (List Int)) (h : wrE xss = 0) : rdAll (wrT xss) = .ok xss := by
  have hl : litsB xss = true := by cases hh : litsB xss with | true => rfl | false => simp [wrE, hh] at h
  have hs : ¬ 1000 < (textT xss).length := by intro hc; simp [wrE, hl, hc] at h
  have e : wrT xss = textT xss := by simp only [wrT, hl, if_true, if_neg hs]
  rw [e, rdAll, if_neg hs]
  have := rd_text xss hl [] rfl (textT xss).length ((textT xss).length + 1) [] (by have := wordsN_le xss hl; omega)
  simpa using this
theorem round_comments (xss : List (List Int)) (h : wrE xss = 0) (hlen : (wrT xss).length + 4 ≤ 1000) : rdAll ([99, 49, 10] ++ wrT xss ++ [99]) = .ok xss := by
  have hl : litsB xss = true := by cases hh : litsB xss with | true => rfl | false => simp [wrE, hh] at h
  have hs : ¬ 1000 < (textT xss).length := by intro hc; simp [wrE, hl, hc] at h
  have e : wrT xss = textT xss := by simp only [wrT, hl, if_true, if_neg hs]
  rw [e] at hlen ⊢
  have hlen2 : ([99, 49, 10] ++ textT xss ++ [99]).length = (textT xss).length + 4 := by simp
  rw [rdAll, if_neg (by rw [hlen2]; omega), hlen2]
  have e2 : ([99, 49, 10] ++ textT xss ++ [99] : List UInt8) = 99 :: 49 :: 10 :: (textT xss ++ [99]) := by simp
  have n49 : nlB 49 = false := by decide
  have b99 : (((99 : UInt8).toNat : Int) == 99) = true := by decide
  have e3 : sk .bol (99 :: 49 :: 10 :: (textT xss ++ [99])) = sk .bol (textT xss ++ [99]) + 3 := by simp only [sk, n49, nl10, b99, if_true]; rfl
  rw [e2, e3]
  simp only [List.drop_succ_cons]
  have := rd_text xss hl [99] (by decide) ((textT xss).length + 4) ((textT xss).length + 4 + 1) [] (by have := wordsN_le xss hl; omega)
  simpa using this

end Go.Proofs.YthboeppmlhbofaaDoor
