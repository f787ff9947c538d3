/-
  trail's Check: the clauses are taken; what stands there.
-/
import Derived.Test.YthboeppmlhbofaaPrg
import Derived.Test.YthboeppmlhbofaaAdf
namespace Go.Proofs.Ythboeppmlhbofaa
open Go.RowKit Txt
set_option maxRecDepth 100000

theorem sets_own {w : World} {B : Nat} {ta : Option Addr} {tc : Nat} {ss : List Pr} (h : w.ownsRow B 46 2 (.slice ta ss.length tc) ss.length (prCells ss)) : SetsAt w ta ss := by
  rcases h.2 with ⟨_, h0⟩ | ⟨g, cap, cur, hv, _⟩
  · exact .inl (List.eq_nil_of_length_eq_zero h0)
  · simp only [Value.slice.injEq] at hv
    obtain ⟨rfl, _, rfl⟩ := hv
    refine .inr ⟨g, 0, rfl, fun j hj => ?_⟩
    have key : ∀ (l : List Pr) (j : Nat), j < l.length → (prCells l)[j * 2]? = some (.int .i64 ((l.getD j (0, 0)).1 : Nat)) ∧ (prCells l)[j * 2 + 1]? = some (.int .i64 ((l.getD j (0, 0)).2 : Nat)) := by
      intro l
      induction l with
      | nil => intro j hj; simp at hj
      | cons p l ih =>
        intro j hj
        cases j with
        | zero => exact ⟨rfl, rfl⟩
        | succ j =>
          have := ih j (by simpa using hj)
          have e : prCells (p :: l) = .int .i64 (p.1 : Nat) :: .int .i64 (p.2 : Nat) :: prCells l := by simp [prCells]
          rw [e, show (j + 1) * 2 = j * 2 + 1 + 1 by omega]
          simpa using this
    have h1 := h.cells (g := g) rfl _ _ (key ss j hj).1
    have h2 := h.cells (g := g) rfl _ _ (key ss j hj).2
    rw [addr0] at h1 h2
    exact ⟨h1, h2⟩

/-- what Add comes to -/
inductive AR where
  | err (e : Int)
  | ok (ss : List Pr) (em : Nat)
def addR (xs : List Int) (ss : List Pr) (em : Nat) : AR :=
  if xs.all litB = false then .err 4 else
    if (posN xs &&& negN xs != 0) = true then .ok ss em else
      if prSize (posN xs, negN xs) = 0 then .ok ss (em + 1) else
        if 150 < prSize (posN xs, negN xs) + totalN ss then .err 5 else .ok (ss ++ [(posN xs, negN xs)]) em
/-- what may be taken -/
structure Tak (ss : List Pr) : Prop where
  bd : ∀ p ∈ ss, p.1 < 2 ^ 11 ∧ p.2 < 2 ^ 11
  one : ss.length ≤ totalN ss
  all : totalN ss ≤ 150
theorem addR_tak {xs : List Int} {ss ss' : List Pr} {em em' : Nat} (h : Tak ss) (hr : addR xs ss em = .ok ss' em') : Tak ss' ∧ em' ≤ em + 1 := by
  unfold addR at hr
  split at hr
  · simp at hr
  · rename_i hall
    have hal : xs.all litB = true := by simpa using hall
    split at hr
    · simp only [AR.ok.injEq] at hr; obtain ⟨rfl, rfl⟩ := hr; exact ⟨h, by omega⟩
    · split at hr
      · simp only [AR.ok.injEq] at hr; obtain ⟨rfl, rfl⟩ := hr; exact ⟨h, by omega⟩
      · split at hr
        · simp at hr
        · rename_i hz hf
          simp only [AR.ok.injEq] at hr
          obtain ⟨rfl, rfl⟩ := hr
          have hT := Two.set xs hal
          have e : totalN (ss ++ [(posN xs, negN xs)]) = totalN ss + prSize (posN xs, negN xs) := by simp [totalN]
          refine ⟨⟨fun p hp => ?_, ?_, by omega⟩, by omega⟩
          · rcases List.mem_append.1 hp with hp | hp
            · exact h.bd p hp
            · simp at hp; subst hp; exact ⟨hT.lt, hT.lf⟩
          · rw [snoc_len, e]; have := h.one; omega

/-- a solver as Check has it -/
structure SvI (w : World) (B g : Nat) (ss : List Pr) (em : Nat) (ta : Option Addr) (tc se : Nat) : Prop where
  row : Row w g 38 (solCells 0 0 0 ta ss.length tc em se)
  own : w.ownsRow B 46 2 (.slice ta ss.length tc) ss.length (prCells ss)
  se : se < 2 ^ 11
  base : B ≤ g
theorem SvI.below {w w' : World} {B g : Nat} {ss : List Pr} {em : Nat} {ta : Option Addr} {tc se : Nat} (h : SvI w B g ss em ta tc se) (hb : Below w.heap.size w w') : SvI w' B g ss em ta tc se := ⟨row_below h.row hb, own_below h.own hb, h.se, h.base⟩
def SvPost (w : World) (B g : Nat) (r : AR) (e : Ending) (w' : World) : Prop := Below B w w' ∧ match r with
  | .err k => e = .returned (.int .i64 k)
  | .ok ss em => e = .returned (.int .i64 0) ∧ ∃ ta tc se, SvI w' B g ss em ta tc se
theorem kept_below {w w' : World} {B g n : Nat} {ta : Option Addr} {tc : Nat} {xs : List Value} {s e : Nat} (hk : Kept w w' g (.slice ta n tc)) (ho : w.ownsRow B e s (.slice ta n tc) n xs) (hg : B ≤ g) (hB : B ≤ w.heap.size) : Below B w w' :=
  ⟨hk.os, hk.tape, hk.output, hk.size, fun k hk' => hk.block k (by omega) (by omega) (fun e => by have := (ho.lt k e).1; omega)⟩

theorem addS_any (w : World) (B g : Nat) (ss : List Pr) (em : Nat) (ta : Option Addr) (tc se : Nat) (h : SvI w B g ss em ta tc se) (hT : Tak ss) (a : Option Addr) (c : Nat) (xs : List Int) (hx : xs.length ≤ 9223372036854775807) (hi : IntsAt w a xs) (hB : B ≤ w.heap.size) (hem : em ≤ 9223372036854775806) :
    Calls Try.prog 10 #[.pointer (some ⟨g, 0, none⟩), .slice a xs.length c] w (SvPost w B g (addR xs ss em)) := by
  have hsa := sets_own h.own
  have h1 := hT.one
  have h2 := hT.all
  unfold addR
  cases hall : xs.all litB with
  | false =>
    rw [if_pos rfl]
    refine (add_lit g a c xs w hx hi hall).mono ?_
    rintro e w' ⟨rfl, hb⟩
    exact ⟨hb.mono hB, rfl⟩
  | true =>
    rw [if_neg (by simp)]
    cases ht : (posN xs &&& negN xs != 0) with
    | true =>
      rw [if_pos rfl]
      refine (add_taut g a c xs w hx hi hall ht).mono ?_
      rintro e w' ⟨rfl, hb⟩
      exact ⟨hb.mono hB, rfl, ta, tc, se, h.below hb⟩
    | false =>
      rw [if_neg (by simp)]
      by_cases hz : prSize (posN xs, negN xs) = 0
      · rw [if_pos hz]
        refine (add_empty g a c xs 0 0 0 ta ss tc em se w hx hi hall ht h.row hz hem).mono ?_
        rintro e w' ⟨rfl, hr, hkp⟩
        have hne : ∀ b, (Value.slice ta ss.length tc).ownBlock = some b → b ≠ g := fun b e eq => own_ty h.own h.row n_set (eq ▸ e)
        refine ⟨⟨hkp.os, hkp.tape, hkp.output, hkp.size, fun k hk => hkp.block k (by omega) (by have := h.base; omega) (by simp [Value.ownBlock])⟩, rfl, ta, tc, se, hr, ⟨h.own.1, ?_⟩, h.se, h.base⟩
        rcases h.own.2 with hn | ⟨g', cap, cur, hv, q1, hg, r⟩
        · exact .inl hn
        · exact .inr ⟨g', cap, cur, hv, q1, (hkp.block g' (Array.getElem?_eq_some_iff.1 hg).1 (hne g' (by rw [hv]; rfl)) (by simp [Value.ownBlock])).trans hg, r⟩
      · rw [if_neg hz]
        by_cases hf : 150 < prSize (posN xs, negN xs) + totalN ss
        · rw [if_pos hf]
          refine (add_full g a c xs 0 0 0 ta ss tc em se w hx hi hall ht h.row hsa (by omega) hT.bd hz hf).mono ?_
          rintro e w' ⟨rfl, hb⟩
          exact ⟨hb.mono hB, rfl⟩
        · rw [if_neg hf]
          refine (add_set B g a c xs 0 0 0 ta ss tc em se w hx hi hall ht h.row h.own hB hsa (by omega) hT.bd hz (by omega) h.se).mono ?_
          rintro e w' ⟨rfl, a3, c3, hr, ho, hkp, _⟩
          have hTw := Two.set xs hall
          exact ⟨kept_below hkp h.own h.base hB, rfl, a3, c3, _, by rw [snoc_len]; exact hr, by rw [snoc_len]; exact ho, Nat.or_lt_two_pow h.se (Nat.or_lt_two_pow hTw.lt hTw.lf), h.base⟩

end Go.Proofs.Ythboeppmlhbofaa
