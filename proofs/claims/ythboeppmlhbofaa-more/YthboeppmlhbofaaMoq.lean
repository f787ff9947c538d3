/-
  With one clause more Check comes to the same: plain.
-/
import Derived.Test.YthboeppmlhbofaaMop
import Derived.Test.YthboeppmlhbofaaSnf
namespace Go.Proofs.Ythboeppmlhbofaa
open Go.RowKit Txt
set_option maxRecDepth 100000

theorem take_snoc (c : List Int) : ∀ (cs : List (List Int)) (ss : List Pr) (em i : Nat), takeN (cs ++ [c]) ss em i = (match takeN cs ss em i with | .inl r => .inl r | .inr (ss', em') => (match addR c ss' em' with | .err e => .inl (e, i + cs.length) | .ok s2 e2 => .inr (s2, e2))) := by
  intro cs
  induction cs with
  | nil =>
    intro ss em i
    simp only [List.nil_append, takeN, List.length_nil, Nat.add_zero]
    cases addR c ss em <;> rfl
  | cons d cs ih =>
    intro ss em i
    simp only [List.cons_append, takeN]
    cases addR d ss em with
    | err e => rfl
    | ok s2 e2 =>
      simp only
      rw [ih, List.length_cons, show i + 1 + cs.length = i + (cs.length + 1) by omega]
theorem stand_tre (ss : List Pr) (em : Nat) : Tre (standN ss em) := by
  have key : ∀ (l : List Pr) (ns : List Nd), Tre ns → Tre (l.foldl (fun ns p => addN ns p.1 p.2 1) ns) := by
    intro l
    induction l with
    | nil => intro ns h; exact h
    | cons p l ih => intro ns h; exact ih _ (h.add _ _ _).1
  exact key ss _ (tre_one.add 0 0 em).1
theorem stand_sub (ss : List Pr) (em : Nat) : (∀ p, SubT (standN ss em) (standN (ss ++ [p]) em)) ∧ SubT (standN ss em) (standN ss (em + 1)) := by
  constructor
  · intro p
    have e : standN (ss ++ [p]) em = addN (standN ss em) p.1 p.2 1 := by simp [standN]
    rw [e]
    exact SubT.more (stand_tre ss em) _ _ _
  · have key : ∀ (l : List Pr) (ns ns' : List Nd), SubT ns ns' → Tre ns → Tre ns' → SubT (l.foldl (fun ns p => addN ns p.1 p.2 1) ns) (l.foldl (fun ns p => addN ns p.1 p.2 1) ns') := by
      intro l
      induction l with
      | nil => intro ns ns' h _ _; exact h
      | cons p l ih => intro ns ns' h h1 h2; exact ih _ _ (h.add h1 h2 _ _ _) (h1.add _ _ _).1 (h2.add _ _ _).1
    refine key ss _ _ (fun ws h4 => ?_) (tre_one.add 0 0 em).1 (tre_one.add 0 0 (em + 1)).1
    by_cases e : ws = ways 0 0 1 10
    · subst e
      rw [tre_one.add_leaf, tre_one.add_leaf]
      omega
    · rw [(tre_one.add 0 0 em).2 ws h4 e, (tre_one.add 0 0 (em + 1)).2 ws h4 e]
      exact Nat.le_refl _
theorem chk_lines (l : List UInt8) : ∀ (m : Nat) (ns : List Nd) (p n lt : Nat) (xs : List Int), (lt = 101 → 1 ≤ n) → (chkN l m ns p n lt xs).2.1 = 0 → 1 ≤ (chkN l m ns p n lt xs).2.2 := by
  intro m
  induction m with
  | zero => intro ns p n lt xs _ h; simp [chkN] at h
  | succ m ih =>
    intro ns p n lt xs hx h
    simp only [chkN] at h ⊢
    split at h
    · rename_i hp
      rw [if_pos hp]
      cases hr : rdLine l p with
      | none => rw [hr] at h; simp at h
      | some r =>
        obtain ⟨lt', xs', q⟩ := r
        rw [hr] at h
        simp only at h ⊢
        by_cases he : (stepN ns lt' xs').1 = 0
        · rw [if_neg (by simpa using he)] at h ⊢
          exact ih _ _ _ _ _ (fun _ => by omega) h
        · rw [if_pos he] at h
          exact absurd h he
    · rename_i hp
      rw [if_neg hp]
      by_cases h101 : lt = 101
      · rw [if_neg (by simpa using h101)]
        exact hx h101
      · rw [if_pos h101] at h
        simp at h
theorem take_err : ∀ (cs : List (List Int)) (ss : List Pr) (em i : Nat) (e : Int) (j : Nat), takeN cs ss em i = .inl (e, j) → e ≠ 0 := by
  intro cs
  induction cs with
  | nil => intro ss em i e j h; simp [takeN] at h
  | cons c cs ih =>
    intro ss em i e j h
    simp only [takeN] at h
    cases ha : addR c ss em with
    | err e' =>
      rw [ha] at h
      simp only [Sum.inl.injEq, Prod.mk.injEq] at h
      obtain ⟨rfl, _⟩ := h
      unfold addR at ha
      split at ha
      · simp only [AR.err.injEq] at ha; omega
      · split at ha
        · simp at ha
        · split at ha
          · simp at ha
          · split at ha
            · simp only [AR.err.injEq] at ha; omega
            · simp at ha
    | ok s' m' => rw [ha] at h; exact ih _ _ _ _ _ h
/-- with one clause more: refused at the end, or the same -/
theorem check_more (cls : List (List Int)) (c : List Int) (l : List UInt8) (h : (checkN cls l).2.1 = 0) : 1 ≤ (checkN cls l).2.2 ∧ ((((checkN (cls ++ [c]) l).2.1 = 4 ∨ (checkN (cls ++ [c]) l).2.1 = 5) ∧ (checkN (cls ++ [c]) l).2.2 = cls.length ∧ (checkN (cls ++ [c]) l).1 = []) ∨ checkN (cls ++ [c]) l = checkN cls l) := by
  unfold checkN at h ⊢
  split at h
  · simp at h
  · rename_i hb
    rw [if_neg hb, if_neg hb]
    rw [take_snoc c cls [] 0 0]
    cases ht : takeN cls [] 0 0 with
    | inl r =>
      rw [ht] at h
      obtain ⟨e, i⟩ := r
      exact absurd h (take_err cls [] 0 0 e i ht)
    | inr r =>
      obtain ⟨ss, em⟩ := r
      rw [ht] at h
      simp only at h ⊢
      refine ⟨chk_lines l _ _ _ _ _ _ (fun e => by simp at e) h, ?_⟩
      have mono := fun (ns' : List Nd) (hs : SubT (standN ss em) ns') (ht' : Tre ns') => chk_mono l (l.length + 1) (standN ss em) ns' 0 0 0 [] hs (stand_tre ss em) ht' h
      cases ha : addR c ss em with
      | err e =>
        left
        refine ⟨?_, by simp, rfl⟩
        unfold addR at ha
        split at ha
        · simp only [AR.err.injEq] at ha; exact .inl ha.symm
        · split at ha
          · simp at ha
          · split at ha
            · simp at ha
            · split at ha
              · simp only [AR.err.injEq] at ha; exact .inr ha.symm
              · simp at ha
      | ok s2 e2 =>
        right
        show chkN l (l.length + 1) (standN s2 e2) 0 0 0 [] = _
        unfold addR at ha
        split at ha
        · simp at ha
        · split at ha
          · simp only [AR.ok.injEq] at ha
            obtain ⟨rfl, rfl⟩ := ha
            rfl
          · split at ha
            · simp only [AR.ok.injEq] at ha
              obtain ⟨rfl, rfl⟩ := ha
              exact mono _ (stand_sub ss em).2 (stand_tre _ _)
            · split at ha
              · simp at ha
              · simp only [AR.ok.injEq] at ha
                obtain ⟨rfl, rfl⟩ := ha
                exact mono _ ((stand_sub ss em).1 _) (stand_tre _ _)

end Go.Proofs.Ythboeppmlhbofaa
