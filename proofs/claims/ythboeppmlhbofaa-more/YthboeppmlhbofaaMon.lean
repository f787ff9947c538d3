/-
  Pushing is monotone in what stands there: plain.
-/
import Derived.Test.YthboeppmlhbofaaSne
namespace Go.Proofs.Ythboeppmlhbofaa
open Go.RowKit Txt
set_option maxRecDepth 100000

/-- is a variable's literal of a way among what is known; is it known not to be so -/
def hasK (kt kf v k : Nat) : Prop := (k = 1 ∧ kt.testBit v = true) ∨ (k = 2 ∧ kf.testBit v = true)
def offK (kt kf v k : Nat) : Prop := (k = 1 ∧ kf.testBit v = true) ∨ (k = 2 ∧ kt.testBit v = true)
/-- a literal of a clause is known -/
def hitK (kt kf : Nat) : Nat → List Nat → Prop
  | _, [] => False
  | v, k :: ws => hasK kt kf v k ∨ hitK kt kf (v + 1) ws
/-- all literals are known not to be so -/
def allOff (kt kf : Nat) : Nat → List Nat → Prop
  | _, [] => True
  | v, k :: ws => (k = 0 ∨ offK kt kf v k) ∧ allOff kt kf (v + 1) ws
/-- all but one, x -/
def oneOpen (kt kf : Nat) : Nat → List Nat → Int → Prop
  | _, [], _ => False
  | v, k :: ws, x => ((k = 0 ∨ offK kt kf v k) ∧ oneOpen kt kf (v + 1) ws x) ∨ (((k = 1 ∧ x = (v : Int)) ∨ (k = 2 ∧ x = -(v : Int))) ∧ ¬ hasK kt kf v k ∧ ¬ offK kt kf v k ∧ allOff kt kf (v + 1) ws)
def inG (x : Int) (s : PS) : Prop := (0 < x ∧ s.gt.testBit x.toNat = true) ∨ (x < 0 ∧ s.gf.testBit (-x).toNat = true)
theorem inG_meet {x : Int} {s : PS} (h : inG x s) (c : Nat) (op : Int) : inG x (meetN c op s) := by
  unfold meetN
  split
  · exact h
  · split
    · exact h
    · rcases h with ⟨h1, h2⟩ | ⟨h1, h2⟩
      · exact .inl ⟨h1, by show (s.gt ||| posB op).testBit _ = true; rw [Nat.testBit_or, h2]; rfl⟩
      · exact .inr ⟨h1, by show (s.gf ||| negB op).testBit _ = true; rw [Nat.testBit_or, h2]; rfl⟩
theorem cl_meet {s : PS} (h : s.cl = true) (c : Nat) (op : Int) : (meetN c op s).cl = true := by
  unfold meetN
  split
  · exact h
  · split
    · rfl
    · exact h
/-- what is grown stays, and so does a clash -/
theorem visit_keep {ns : List Nd} {kt kf : Nat} (m a v : Nat) (op : Int) (s : PS) (h : m + v = 11) (hv : 1 ≤ v) (ho : op = 0 ∨ litB op = true) : (∀ x, inG x s → inG x (visitN ns kt kf m a v op s)) ∧ (s.cl = true → (visitN ns kt kf m a v op s).cl = true) :=
  visitN_rel (fun s r => (∀ x, inG x s → inG x r) ∧ (s.cl = true → r.cl = true)) (fun _ => ⟨fun _ h => h, fun h => h⟩) (fun _ _ _ h h' => ⟨fun x q => h'.1 x (h.1 x q), fun q => h'.2 (h.2 q)⟩) (fun c op _ _ => ⟨fun _ q => inG_meet q c op, fun q => cl_meet q c op⟩) m a v op s h hv ho
theorem lit_grown {x : Int} (hx : litB x = true) {s : PS} {c : Nat} (hc : c ≠ 0) : inG x (meetN c x s) := by
  simp only [litB, Bool.and_eq_true, bne_iff_ne, decide_eq_true_eq] at hx
  unfold meetN
  rw [if_neg hc, if_neg hx.1.1]
  by_cases hp : 0 < x
  · refine .inl ⟨hp, ?_⟩
    show (s.gt ||| posB x).testBit _ = true
    unfold posB
    rw [if_pos hp, Nat.testBit_or, Nat.testBit_two_pow]
    simp
  · refine .inr ⟨by omega, ?_⟩
    show (s.gf ||| negB x).testBit _ = true
    unfold negB
    rw [if_neg hp, Nat.testBit_or, Nat.testBit_two_pow]
    simp

/-- a pass finds every clause that clashes or makes a literal known -/
theorem visit_complete (ns : List Nd) (kt kf : Nat) : ∀ (m a v : Nat) (op : Int) (s : PS), m + v = 11 → 1 ≤ v → (op = 0 ∨ litB op = true) → (visitN ns kt kf m a v op s).cl = false →
    ∀ ws, ws.length = m → (∀ k ∈ ws, k < 3) → leafP ns a ws ≠ 0 → (op = 0 → ¬ allOff kt kf v ws) ∧ (op ≠ 0 → allOff kt kf v ws → inG op (visitN ns kt kf m a v op s)) ∧ (op = 0 → ∀ x, oneOpen kt kf v ws x → inG x (visitN ns kt kf m a v op s)) := by
  intro m
  induction m with
  | zero =>
    intro a v op s _ _ ho hc ws hl _ hleaf
    have : ws = [] := List.eq_nil_of_length_eq_zero hl
    subst this
    have hleaf' : (ns.getD a nd0).c ≠ 0 := hleaf
    simp only [visitN] at hc ⊢
    by_cases hs : s.cl = true
    · rw [if_pos hs] at hc; rw [hs] at hc; simp at hc
    · rw [if_neg hs] at hc ⊢
      refine ⟨fun h0 _ => ?_, fun h0 _ => lit_grown (ho.resolve_left h0) hleaf', fun _ x h => h.elim⟩
      unfold meetN at hc
      rw [if_neg hleaf', if_pos h0] at hc
      simp at hc
  | succ m ih =>
    intro a v op s hmv hv ho hc ws hl h3 hleaf
    cases ws with
    | nil => simp at hl
    | cons k ws =>
      have hl' : ws.length = m := by simpa using hl
      have h3' : ∀ j ∈ ws, j < 3 := fun j hj => h3 j (by simp [hj])
      have hk3 : k < 3 := h3 k (by simp)
      have hnz : (ns.getD a nd0).nx k ≠ 0 := by
        intro e
        apply hleaf
        simp only [leafP, e, if_true]
      have hq : leafP ns ((ns.getD a nd0).nx k) ws ≠ 0 := by
        have := hleaf
        simp only [leafP, hnz, if_false] at this
        exact this
      have hl1 : litB (v : Int) = true := by simp only [litB, Bool.and_eq_true, bne_iff_ne, decide_eq_true_eq]; omega
      have hl2 : litB (-(v : Int)) = true := by simp only [litB, Bool.and_eq_true, bne_iff_ne, decide_eq_true_eq]; omega
      have hp := has_pos kt kf hv (show v ≤ 10 by omega)
      have hn := has_neg kt kf hv (show v ≤ 10 by omega)
      have keep := fun (a : Nat) (op : Int) (ho : op = 0 ∨ litB op = true) (s : PS) => visit_keep (ns := ns) (kt := kt) (kf := kf) m a (v + 1) op s (by omega) (by omega) ho
      simp only [visitN, hp, hn] at hc ⊢
      by_cases hs : s.cl = true
      · rw [if_pos hs] at hc; rw [hs] at hc; simp at hc
      rw [if_neg hs] at hc ⊢
      generalize e1 : (if (ns.getD a nd0).n0 = 0 then s else visitN ns kt kf m (ns.getD a nd0).n0 (v + 1) op s) = s1 at hc ⊢
      generalize e2 : (if (ns.getD a nd0).n1 = 0 then s1 else if kf.testBit v = true then visitN ns kt kf m (ns.getD a nd0).n1 (v + 1) op s1 else if op = 0 ∧ kt.testBit v = false then visitN ns kt kf m (ns.getD a nd0).n1 (v + 1) (v : Int) s1 else s1) = s2 at hc ⊢
      generalize e3 : (if (ns.getD a nd0).n2 = 0 then s2 else if kt.testBit v = true then visitN ns kt kf m (ns.getD a nd0).n2 (v + 1) op s2 else if op = 0 ∧ kf.testBit v = false then visitN ns kt kf m (ns.getD a nd0).n2 (v + 1) (-(v : Int)) s2 else s2) = s3 at hc ⊢
      have k23 : (∀ x, inG x s2 → inG x s3) ∧ (s2.cl = true → s3.cl = true) := by
        rw [← e3]
        split
        · exact ⟨fun _ h => h, fun h => h⟩
        · split
          · exact keep _ _ ho _
          · split
            · exact keep _ _ (.inr hl2) _
            · exact ⟨fun _ h => h, fun h => h⟩
      have k12 : (∀ x, inG x s1 → inG x s2) ∧ (s1.cl = true → s2.cl = true) := by
        rw [← e2]
        split
        · exact ⟨fun _ h => h, fun h => h⟩
        · split
          · exact keep _ _ ho _
          · split
            · exact keep _ _ (.inr hl1) _
            · exact ⟨fun _ h => h, fun h => h⟩
      have c2 : s2.cl = false := by
        cases h : s2.cl with
        | false => rfl
        | true => rw [k23.2 h] at hc; simp at hc
      have c1 : s1.cl = false := by
        cases h : s1.cl with
        | false => rfl
        | true => rw [k12.2 h] at c2; simp at c2
      have hk : k = 0 ∨ k = 1 ∨ k = 2 := by omega
      rcases hk with rfl | rfl | rfl
      · have hnz' : (ns.getD a nd0).n0 ≠ 0 := hnz
        rw [if_neg hnz'] at e1
        obtain ⟨q1, q2, q3⟩ := ih (ns.getD a nd0).n0 (v + 1) op s (by omega) (by omega) ho (by rw [e1]; exact c1) ws hl' h3' hq
        change (op ≠ 0 → allOff kt kf (v + 1) ws → inG op (visitN ns kt kf m (ns.getD a nd0).n0 (v + 1) op s)) at q2
        change (op = 0 → ∀ x, oneOpen kt kf (v + 1) ws x → inG x (visitN ns kt kf m (ns.getD a nd0).n0 (v + 1) op s)) at q3
        rw [e1] at q2 q3
        refine ⟨fun h0 h => q1 h0 h.2, fun h0 h => k23.1 _ (k12.1 _ (q2 h0 h.2)), fun h0 x h => ?_⟩
        rcases h with ⟨_, h⟩ | ⟨h, _⟩
        · exact k23.1 _ (k12.1 _ (q3 h0 x h))
        · rcases h with ⟨h, _⟩ | ⟨h, _⟩ <;> omega
      · have hnz' : (ns.getD a nd0).n1 ≠ 0 := hnz
        rw [if_neg hnz'] at e2
        by_cases hf : kf.testBit v = true
        · rw [if_pos hf] at e2
          obtain ⟨q1, q2, q3⟩ := ih (ns.getD a nd0).n1 (v + 1) op s1 (by omega) (by omega) ho (by rw [e2]; exact c2) ws hl' h3' hq
          change (op ≠ 0 → allOff kt kf (v + 1) ws → inG op (visitN ns kt kf m (ns.getD a nd0).n1 (v + 1) op s1)) at q2
          change (op = 0 → ∀ x, oneOpen kt kf (v + 1) ws x → inG x (visitN ns kt kf m (ns.getD a nd0).n1 (v + 1) op s1)) at q3
          rw [e2] at q2 q3
          refine ⟨fun h0 h => q1 h0 h.2, fun h0 h => k23.1 _ (q2 h0 h.2), fun h0 x h => ?_⟩
          rcases h with ⟨_, h⟩ | ⟨_, _, h, _⟩
          · exact k23.1 _ (q3 h0 x h)
          · exact absurd (.inl ⟨rfl, hf⟩) h
        · rw [if_neg hf] at e2
          have noff : ¬ offK kt kf v 1 := by
            rintro (⟨_, h⟩ | ⟨h, _⟩)
            · exact hf h
            · omega
          refine ⟨fun _ h => ?_, fun _ h => ?_, fun h0 x h => ?_⟩
          · rcases h.1 with h | h
            · omega
            · exact noff h
          · rcases h.1 with h | h
            · omega
            · exact absurd h noff
          · rcases h with ⟨h, _⟩ | ⟨h, hin, _, hoff⟩
            · rcases h with h | h
              · omega
              · exact absurd h noff
            · have hx : x = (v : Int) := by
                rcases h with ⟨_, h⟩ | ⟨h, _⟩
                · exact h
                · omega
              have hkt : kt.testBit v = false := by
                cases hb : kt.testBit v with
                | false => rfl
                | true => exact absurd (.inl ⟨rfl, hb⟩) hin
              rw [if_pos ⟨h0, hkt⟩] at e2
              obtain ⟨_, q2, _⟩ := ih (ns.getD a nd0).n1 (v + 1) (v : Int) s1 (by omega) (by omega) (.inr hl1) (by rw [e2]; exact c2) ws hl' h3' hq
              change ((v : Int) ≠ 0 → allOff kt kf (v + 1) ws → inG (v : Int) (visitN ns kt kf m (ns.getD a nd0).n1 (v + 1) (v : Int) s1)) at q2
              rw [e2] at q2
              rw [hx]
              exact k23.1 _ (q2 (by omega) hoff)
      · have hnz' : (ns.getD a nd0).n2 ≠ 0 := hnz
        rw [if_neg hnz'] at e3
        by_cases hf : kt.testBit v = true
        · rw [if_pos hf] at e3
          obtain ⟨q1, q2, q3⟩ := ih (ns.getD a nd0).n2 (v + 1) op s2 (by omega) (by omega) ho (by rw [e3]; exact hc) ws hl' h3' hq
          change (op ≠ 0 → allOff kt kf (v + 1) ws → inG op (visitN ns kt kf m (ns.getD a nd0).n2 (v + 1) op s2)) at q2
          change (op = 0 → ∀ x, oneOpen kt kf (v + 1) ws x → inG x (visitN ns kt kf m (ns.getD a nd0).n2 (v + 1) op s2)) at q3
          rw [e3] at q2 q3
          refine ⟨fun h0 h => q1 h0 h.2, fun h0 h => q2 h0 h.2, fun h0 x h => ?_⟩
          rcases h with ⟨_, h⟩ | ⟨_, _, h, _⟩
          · exact q3 h0 x h
          · exact absurd (.inr ⟨rfl, hf⟩) h
        · rw [if_neg hf] at e3
          have noff : ¬ offK kt kf v 2 := by
            rintro (⟨h, _⟩ | ⟨_, h⟩)
            · omega
            · exact hf h
          refine ⟨fun _ h => ?_, fun _ h => ?_, fun h0 x h => ?_⟩
          · rcases h.1 with h | h
            · omega
            · exact noff h
          · rcases h.1 with h | h
            · omega
            · exact absurd h noff
          · rcases h with ⟨h, _⟩ | ⟨h, hin, _, hoff⟩
            · rcases h with h | h
              · omega
              · exact absurd h noff
            · have hx : x = -(v : Int) := by
                rcases h with ⟨h, _⟩ | ⟨_, h⟩
                · omega
                · exact h
              have hkf : kf.testBit v = false := by
                cases hb : kf.testBit v with
                | false => rfl
                | true => exact absurd (.inr ⟨rfl, hb⟩) hin
              rw [if_pos ⟨h0, hkf⟩] at e3
              obtain ⟨_, q2, _⟩ := ih (ns.getD a nd0).n2 (v + 1) (-(v : Int)) s2 (by omega) (by omega) (.inr hl2) (by rw [e3]; exact hc) ws hl' h3' hq
              change (-(v : Int) ≠ 0 → allOff kt kf (v + 1) ws → inG (-(v : Int)) (visitN ns kt kf m (ns.getD a nd0).n2 (v + 1) (-(v : Int)) s2)) at q2
              rw [e3] at q2
              rw [hx]
              exact q2 (by omega) hoff

end Go.Proofs.Ythboeppmlhbofaa
