/-
  Pushing is monotone in what stands there: plain.
-/
import Derived.Test.YthboeppmlhbofaaGreatDoorSnd
namespace Go.Proofs.YthboeppmlhbofaaGreatDoor
open Go.RowKit Txt
set_option maxRecDepth 100000

/-- is a variable's literal of a way among what is known; is it known not to be so -/
def hasK (kt kf v k : Nat) : Prop := (k = 1 ∧ kt.testBit v = true) ∨ (k = 2 ∧ kf.testBit v = true)
def offK (kt kf v k : Nat) : Prop := (k = 1 ∧ kf.testBit v = true) ∨ (k = 2 ∧ kt.testBit v = true)
/-- a literal of a clause is known -/
def hitK (kt kf : Nat) : Nat → List Nat → Prop
  | _, [] => False
  | v, k :: ws => hasK kt kf v k ∨ hitK kt kf (v + 1) ws
/-- all literals are known not to be so -/
def allOff (kt kf : Nat) : Nat → List Nat → Prop
  | _, [] => True
  | v, k :: ws => (k = 0 ∨ offK kt kf v k) ∧ allOff kt kf (v + 1) ws
/-- all but one, x -/
def oneOpen (kt kf : Nat) : Nat → List Nat → Int → Prop
  | _, [], _ => False
  | v, k :: ws, x => ((k = 0 ∨ offK kt kf v k) ∧ oneOpen kt kf (v + 1) ws x) ∨ (((k = 1 ∧ x = (v : Int)) ∨ (k = 2 ∧ x = -(v : Int))) ∧ ¬ hasK kt kf v k ∧ ¬ offK kt kf v k ∧ allOff kt kf (v + 1) ws)
def inG (x : Int) (s : PS) : Prop := (0 < x ∧ s.gt.testBit x.toNat = true) ∨ (x < 0 ∧ s.gf.testBit (-x).toNat = true)
theorem inG_meet {x : Int} {s : PS} (h : inG x s) (c : Nat) (op : Int) : inG x (meetN c op s) := by
  unfold meetN
  split
  · exact h
  · split
    · exact h
    · rcases h with ⟨h1, h2⟩ | ⟨h1, h2⟩
      · exact .inl ⟨h1, by show (s.gt ||| posB op).testBit _ = true; rw [Nat.testBit_or, h2]; rfl⟩
      · exact .inr ⟨h1, by show (s.gf ||| negB op).testBit _ = true; rw [Nat.testBit_or, h2]; rfl⟩
theorem cl_meet {s : PS} (h : s.cl = true) (c : Nat) (op : Int) : (meetN c op s).cl = true := by
  unfold meetN
  split
  · exact h
  · split
    · rfl
    · exact h
/-- what is grown stays, and so does a clash -/
theorem visit_keep {ns : List Nd} {kt kf : Nat} (m a v : Nat) (op : Int) (s : PS) (h : m + v = 11) (hv : 1 ≤ v) (ho : op = 0 ∨ litB op = true) : (∀ x, inG x s → inG x (visitN ns kt kf m a v op s)) ∧ (s.cl = true → (visitN ns kt kf m a v op s).cl = true) :=
  visitN_rel (fun s r => (∀ x, inG x s → inG x r) ∧ (s.cl = true → r.cl = true)) (fun _ => ⟨fun _ h => h, fun h => h⟩) (fun _ _ _ h h' => ⟨fun x q => h'.1 x (h.1 x q), fun q => h'.2 (h.2 q)⟩) (fun c op _ _ => ⟨fun _ q => inG_meet q c op, fun q => cl_meet q c op⟩) m a v op s h hv ho
theorem lit_grown {x : Int} (hx : litB x = true) {s : PS} {c : Nat} (hc : c ≠ 0) : inG x (meetN c x s) := by
  simp only [litB, Bool.and_eq_true, bne_iff_ne, decide_eq_true_eq] at hx
  unfold meetN
  rw [if_neg hc, if_neg hx.1.1]
  by_cases hp : 0 < x
  · refine .inl ⟨hp, ?_⟩
    show (s.gt ||| posB x).testBit _ = true
    unfold posB
    rw [if_pos hp, Nat.testBit_or, Nat.testBit_two_pow]
    simp
  · refine .inr ⟨by omega, ?_⟩
    show (s.gf ||| negB x).testBit _ = true
    unfold negB
    rw [if_neg hp, Nat.testBit_or, Nat.testBit_two_pow]
    simp

/-- a pass finds every clause that clashes or makes a literal known -/
theorem visit_complete (ns : List Nd) (kt kf : Nat) : ∀ (m a v : Nat) (op : Int) (s : PS), m + v = 11 → 1 ≤ v → (op = 0 ∨ litB op = true) → (visitN ns kt kf m a v op s).cl = false →
    ∀ ws, ws.length = m → (∀ k ∈ ws, k < 3) → leafP ns a ws ≠ 0 → (op = 0 → ¬ allOff kt kf v ws) ∧ (op ≠ 0 → allOff kt kf v ws → inG op (visitN ns kt kf m a v op s)) ∧ (op = 0 → ∀ x, oneOpen kt kf v ws x → inG x (visitN ns kt kf m a v op s)) := by
  intro m
  induction m with
  | zero =>
    intro a v op s _ _ ho hc ws hl _ hleaf
    have : ws = [] := List.eq_nil_of_length_eq_zero hl
    subst this
    have hleaf' : (ns.getD a nd0).c ≠ 0 := hleaf
    simp only [visitN] at hc ⊢
    by_cases hs : s.cl = true
    · rw [if_pos hs] at hc; rw [hs] at hc; simp at hc
    · rw [if_neg hs] at hc ⊢
      refine ⟨fun h0 _ => ?_, fun h0 _ => lit_grown (ho.resolve_left h0) hleaf', fun _ x h => h.elim⟩
      unfold meetN at hc
      rw [if_neg hleaf', if_pos h0] at hc
      simp at hc
  | succ m ih =>
    intro a v op s hmv hv ho hc ws hl h3 hleaf
    cases ws with
    | nil => simp at hl
    | cons k ws =>
      have hl' : ws.length = m := by simpa using hl
      have h3' : ∀ j ∈ ws, j < 3 := fun j hj => h3 j (by simp [hj])
      have hk3 : k < 3 := h3 k (by simp)
      have hnz : (ns.getD a nd0).nx k ≠ 0 := by
        intro e
        apply hleaf
        simp only [leafP, e, if_true]
      have hq : leafP ns ((ns.getD a nd0).nx k) ws ≠ 0 := by
        have := hleaf
        simp only [leafP, hnz, if_false] at this
        exact this
      have hl1 : litB (v : Int) = true := by simp only [litB, Bool.and_eq_true, bne_iff_ne, decide_eq_true_eq]; omega
      have hl2 : litB (-(v : Int)) = true := by simp only [litB, Bool.and_eq_true, bne_iff_ne, decide_eq_true_eq]; omega
      have hp := has_pos kt kf hv (show v ≤ 10 by omega)
      have hn := has_neg kt kf hv (show v ≤ 10 by omega)
      have keep := fun (a : Nat) (op : Int) (ho : op = 0 ∨ litB op = true) (s : PS) => visit_keep (ns := ns) (kt := kt) (kf := kf) m a (v + 1) op s (by omega) (by omega) ho
      simp only [visitN, hp, hn] at hc ⊢
      by_cases hs : s.cl = true
      · rw [if_pos hs] at hc; rw [hs] at hc; simp at hc
      rw [if_neg hs] at hc ⊢
      generalize e1 : (if (ns.getD a nd0).n0 = 0 then s else visitN ns kt kf m (ns.getD a nd0).n0 (v + 1) op s) = s1 at hc ⊢
      generalize e2 : (if (ns.getD a nd0).n1 = 0 then s1 else if kf.testBit v = true then visitN ns kt kf m (ns.getD a nd0).n1 (v + 1) op s1 else if op = 0 ∧ kt.testBit v = false then visitN ns kt kf m (ns.getD a nd0).n1 (v + 1) (v : Int) s1 else s1) = s2 at hc ⊢
      generalize e3 : (if (ns.getD a nd0).n2 = 0 then s2 else if kt.testBit v = true then visitN ns kt kf m (ns.getD a nd0).n2 (v + 1) op s2 else if op = 0 ∧ kf.testBit v = false then visitN ns kt kf m (ns.getD a nd0).n2 (v + 1) (-(v : Int)) s2 else s2) = s3 at hc ⊢
      have k23 : (∀ x, inG x s2 → inG x s3) ∧ (s2.cl = true → s3.cl = true) := by
        rw [← e3]
        split
        · exact ⟨fun _ h => h, fun h => h⟩
        · split
          · exact keep _ _ ho _
          · split
            · exact keep _ _ (.inr hl2) _
            · exact ⟨fun _ h => h, fun h => h⟩
      have k12 : (∀ x, inG x s1 → inG x s2) ∧ (s1.cl = true → s2.cl = true) := by
        rw [← e2]
        split
        · exact ⟨fun _ h => h, fun h => h⟩
        · split
          · exact keep _ _ ho _
          · split
            · exact keep _ _ (.inr hl1) _
            · exact ⟨fun _ h => h, fun h => h⟩
      have c2 : s2.cl = false := by
        cases h : s2.cl with
        | false => rfl
        | true => rw [k23.2 h] at hc; simp at hc
      have c1 : s1.cl = false := by
        cases h : s1.cl with
        | false => rfl
        | true => rw [k12.2 h] at c2; simp at c2
      have hk : k = 0 ∨ k = 1 ∨ k = 2 := by omega
      rcases hk with rfl | rfl | rfl
      · have hnz' : (ns.getD a nd0).n0 ≠ 0 := hnz
        rw [if_neg hnz'] at e1
        obtain ⟨q1, q2, q3⟩ := ih (ns.getD a nd0).n0 (v + 1) op s (by omega) (by omega) ho (by rw [e1]; exact c1) ws hl' h3' hq
        change (op ≠ 0 → allOff kt kf (v + 1) ws → inG op (visitN ns kt kf m (ns.getD a nd0).n0 (v + 1) op s)) at q2
        change (op = 0 → ∀ x, oneOpen kt kf (v + 1) ws x → inG x (visitN ns kt kf m (ns.getD a nd0).n0 (v + 1) op s)) at q3
        rw [e1] at q2 q3
        refine ⟨fun h0 h => q1 h0 h.2, fun h0 h => k23.1 _ (k12.1 _ (q2 h0 h.2)), fun h0 x h => ?_⟩
        rcases h with ⟨_, h⟩ | ⟨h, _⟩
        · exact k23.1 _ (k12.1 _ (q3 h0 x h))
        · rcases h with ⟨h, _⟩ | ⟨h, _⟩ <;> omega
      · have hnz' : (ns.getD a nd0).n1 ≠ 0 := hnz
        rw [if_neg hnz'] at e2
        by_cases hf : kf.testBit v = true
        · rw [if_pos hf] at e2
          obtain ⟨q1, q2, q3⟩ := ih (ns.getD a nd0).n1 (v + 1) op s1 (by omega) (by omega) ho (by rw [e2]; exact c2) ws hl' h3' hq
          change (op ≠ 0 → allOff kt kf (v + 1) ws → inG op (visitN ns kt kf m (ns.getD a nd0).n1 (v + 1) op s1)) at q2
          change (op = 0 → ∀ x, oneOpen kt kf (v + 1) ws x → inG x (visitN ns kt kf m (ns.getD a nd0).n1 (v + 1) op s1)) at q3
          rw [e2] at q2 q3
          refine ⟨fun h0 h => q1 h0 h.2, fun h0 h => k23.1 _ (q2 h0 h.2), fun h0 x h => ?_⟩
          rcases h with ⟨_, h⟩ | ⟨_, _, h, _⟩
          · exact k23.1 _ (q3 h0 x h)
          · exact absurd (.inl ⟨rfl, hf⟩) h
        · rw [if_neg hf] at e2
          have noff : ¬ offK kt kf v 1 := by
            rintro (⟨_, h⟩ | ⟨h, _⟩)
            · exact hf h
            · omega
          refine ⟨fun _ h => ?_, fun _ h => ?_, fun h0 x h => ?_⟩
          · rcases h.1 with h | h
            · omega
            · exact noff h
          · rcases h.1 with h | h
            · omega
            · exact absurd h noff
          · rcases h with ⟨h, _⟩ | ⟨h, hin, _, hoff⟩
            · rcases h with h | h
              · omega
              · exact absurd h noff
            · have hx : x = (v : Int) := by
                rcases h with ⟨_, h⟩ | ⟨h, _⟩
                · exact h
                · omega
              have hkt : kt.testBit v = false := by
                cases hb : kt.testBit v with
                | false => rfl
                | true => exact absurd (.inl ⟨rfl, hb⟩) hin
              rw [if_pos ⟨h0, hkt⟩] at e2
              obtain ⟨_, q2, _⟩ := ih (ns.getD a nd0).n1 (v + 1) (v : Int) s1 (by omega) (by omega) (.inr hl1) (by rw [e2]; exact c2) ws hl' h3' hq
              change ((v : Int) ≠ 0 → allOff kt kf (v + 1) ws → inG (v : Int) (visitN ns kt kf m (ns.getD a nd0).n1 (v + 1) (v : Int) s1)) at q2
              rw [e2] at q2
              rw [hx]
              exact k23.1 _ (q2 (by omega) hoff)
      · have hnz' : (ns.getD a nd0).n2 ≠ 0 := hnz
        rw [if_neg hnz'] at e3
        by_cases hf : kt.testBit v = true
        · rw [if_pos hf] at e3
          obtain ⟨q1, q2, q3⟩ := ih (ns.getD a nd0).n2 (v + 1) op s2 (by omega) (by omega) ho (by rw [e3]; exact hc) ws hl' h3' hq
          change (op ≠ 0 → allOff kt kf (v + 1) ws → inG op (visitN ns kt kf m (ns.getD a nd0).n2 (v + 1) op s2)) at q2
          change (op = 0 → ∀ x, oneOpen kt kf (v + 1) ws x → inG x (visitN ns kt kf m (ns.getD a nd0).n2 (v + 1) op s2)) at q3
          rw [e3] at q2 q3
          refine ⟨fun h0 h => q1 h0 h.2, fun h0 h => q2 h0 h.2, fun h0 x h => ?_⟩
          rcases h with ⟨_, h⟩ | ⟨_, _, h, _⟩
          · exact q3 h0 x h
          · exact absurd (.inr ⟨rfl, hf⟩) h
        · rw [if_neg hf] at e3
          have noff : ¬ offK kt kf v 2 := by
            rintro (⟨h, _⟩ | ⟨_, h⟩)
            · omega
            · exact hf h
          refine ⟨fun _ h => ?_, fun _ h => ?_, fun h0 x h => ?_⟩
          · rcases h.1 with h | h
            · omega
            · exact noff h
          · rcases h.1 with h | h
            · omega
            · exact absurd h noff
          · rcases h with ⟨h, _⟩ | ⟨h, hin, _, hoff⟩
            · rcases h with h | h
              · omega
              · exact absurd h noff
            · have hx : x = -(v : Int) := by
                rcases h with ⟨h, _⟩ | ⟨_, h⟩
                · omega
                · exact h
              have hkf : kf.testBit v = false := by
                cases hb : kf.testBit v with
                | false => rfl
                | true => exact absurd (.inr ⟨rfl, hb⟩) hin
              rw [if_pos ⟨h0, hkf⟩] at e3
              obtain ⟨_, q2, _⟩ := ih (ns.getD a nd0).n2 (v + 1) (-(v : Int)) s2 (by omega) (by omega) (.inr hl2) (by rw [e3]; exact hc) ws hl' h3' hq
              change (-(v : Int) ≠ 0 → allOff kt kf (v + 1) ws → inG (-(v : Int)) (visitN ns kt kf m (ns.getD a nd0).n2 (v + 1) (-(v : Int)) s2)) at q2
              rw [e3] at q2
              rw [hx]
              exact q2 (by omega) hoff

end Go.Proofs.YthboeppmlhbofaaGreatDoor

/-
  Following is monotone in what stands there: plain.
-/
namespace Go.Proofs.YthboeppmlhbofaaGreatDoor
open Go.RowKit Txt
set_option maxRecDepth 100000

def inL (Kt Kf : Nat) (x : Int) : Prop := (0 < x ∧ Kt.testBit x.toNat = true) ∨ (x < 0 ∧ Kf.testBit (-x).toNat = true)
def offL (Kt Kf : Nat) (x : Int) : Prop := (0 < x ∧ Kf.testBit x.toNat = true) ∨ (x < 0 ∧ Kt.testBit (-x).toNat = true)
structure SubK (kt kf Kt Kf : Nat) : Prop where
  t : ∀ v, kt.testBit v = true → Kt.testBit v = true
  f : ∀ v, kf.testBit v = true → Kf.testBit v = true
/-- what a clause must be like below a node -/
def Gd (Kt Kf v : Nat) (ws : List Nat) (op : Int) : Prop :=
  inL Kt Kf op ∨ ((op = 0 ∨ offL Kt Kf op) ∧ ¬ allOff Kt Kf v ws ∧ ∀ x, ¬ oneOpen Kt Kf v ws x) ∨ (op ≠ 0 ∧ ¬ inL Kt Kf op ∧ ¬ offL Kt Kf op ∧ ¬ allOff Kt Kf v ws)
theorem Gd.pass {Kt Kf v k : Nat} {ws : List Nat} {op : Int} (h : Gd Kt Kf v (k :: ws) op) (hk : k = 0 ∨ offK Kt Kf v k) : Gd Kt Kf (v + 1) ws op := by
  rcases h with h | ⟨h1, h2, h3⟩ | ⟨h1, h2, h3, h4⟩
  · exact .inl h
  · exact .inr (.inl ⟨h1, fun q => h2 ⟨hk, q⟩, fun x q => h3 x (.inl ⟨hk, q⟩)⟩)
  · exact .inr (.inr ⟨h1, h2, h3, fun q => h4 ⟨hk, q⟩⟩)
theorem Gd.open {Kt Kf v k : Nat} {ws : List Nat} (h : Gd Kt Kf v (k :: ws) 0) {x : Int} (hx : (k = 1 ∧ x = (v : Int)) ∨ (k = 2 ∧ x = -(v : Int))) (hv : 1 ≤ v) : Gd Kt Kf (v + 1) ws x := by
  have hin : inL Kt Kf x ↔ hasK Kt Kf v k := by
    rcases hx with ⟨rfl, rfl⟩ | ⟨rfl, rfl⟩
    · unfold inL hasK
      constructor
      · rintro (⟨_, h⟩ | ⟨h, _⟩)
        · rw [Int.toNat_natCast] at h; exact .inl ⟨rfl, h⟩
        · omega
      · rintro (⟨_, h⟩ | ⟨h, _⟩)
        · exact .inl ⟨by omega, by rw [Int.toNat_natCast]; exact h⟩
        · omega
    · unfold inL hasK
      constructor
      · rintro (⟨h, _⟩ | ⟨_, h⟩)
        · omega
        · rw [Int.neg_neg, Int.toNat_natCast] at h; exact .inr ⟨rfl, h⟩
      · rintro (⟨h, _⟩ | ⟨_, h⟩)
        · omega
        · exact .inr ⟨by omega, by rw [Int.neg_neg, Int.toNat_natCast]; exact h⟩
  have hoff : offL Kt Kf x ↔ offK Kt Kf v k := by
    rcases hx with ⟨rfl, rfl⟩ | ⟨rfl, rfl⟩
    · unfold offL offK
      constructor
      · rintro (⟨_, h⟩ | ⟨h, _⟩)
        · rw [Int.toNat_natCast] at h; exact .inl ⟨rfl, h⟩
        · omega
      · rintro (⟨_, h⟩ | ⟨h, _⟩)
        · exact .inl ⟨by omega, by rw [Int.toNat_natCast]; exact h⟩
        · omega
    · unfold offL offK
      constructor
      · rintro (⟨h, _⟩ | ⟨_, h⟩)
        · omega
        · rw [Int.neg_neg, Int.toNat_natCast] at h; exact .inr ⟨rfl, h⟩
      · rintro (⟨h, _⟩ | ⟨_, h⟩)
        · omega
        · exact .inr ⟨by omega, by rw [Int.neg_neg, Int.toNat_natCast]; exact h⟩
  have hx0 : x ≠ 0 := by rcases hx with ⟨_, h⟩ | ⟨_, h⟩ <;> omega
  rcases h with h | ⟨_, h2, h3⟩ | ⟨h1, _⟩
  · rcases h with ⟨h, _⟩ | ⟨h, _⟩ <;> omega
  · by_cases a : inL Kt Kf x
    · exact .inl a
    · by_cases b : offL Kt Kf x
      · have b' := hoff.1 b
        exact .inr (.inl ⟨.inr b, fun q => h2 ⟨.inr b', q⟩, fun y q => h3 y (.inl ⟨.inr b', q⟩)⟩)
      · exact .inr (.inr ⟨hx0, a, b, fun q => h3 x (.inr ⟨hx, fun e => a (hin.2 e), fun e => b (hoff.2 e), q⟩)⟩)
  · exact absurd rfl h1
theorem SubK.lit {kt kf Kt Kf : Nat} (h : SubK kt kf Kt Kf) {x : Int} (hx : litB x = true) (hs : inL Kt Kf x) : SubK (kt ||| posB x) (kf ||| negB x) Kt Kf := by
  simp only [litB, Bool.and_eq_true, bne_iff_ne, decide_eq_true_eq] at hx
  rcases hs with ⟨hp, hs⟩ | ⟨hp, hs⟩
  · have e1 : posB x = 2 ^ x.toNat := by unfold posB; rw [if_pos hp]
    have e2 : negB x = 0 := by unfold negB; rw [if_pos hp]
    rw [e1, e2, Nat.or_zero]
    refine ⟨fun v hb => ?_, h.f⟩
    rw [Nat.testBit_or, Nat.testBit_two_pow, Bool.or_eq_true, decide_eq_true_eq] at hb
    rcases hb with hb | hb
    · exact h.t v hb
    · rw [← hb]; exact hs
  · have e1 : posB x = 0 := by unfold posB; rw [if_neg (by omega)]
    have e2 : negB x = 2 ^ (-x).toNat := by unfold negB; rw [if_neg (by omega)]
    rw [e1, e2, Nat.or_zero]
    refine ⟨h.t, fun v hb => ?_⟩
    rw [Nat.testBit_or, Nat.testBit_two_pow, Bool.or_eq_true, decide_eq_true_eq] at hb
    rcases hb with hb | hb
    · exact h.f v hb
    · rw [← hb]; exact hs

theorem visit_stay (ns : List Nd) (kt kf Kt Kf : Nat) (hk : SubK kt kf Kt Kf) : ∀ (m a v : Nat) (op : Int) (s : PS), m + v = 11 → 1 ≤ v → (op = 0 ∨ litB op = true) → s.cl = false → SubK s.gt s.gf Kt Kf →
    (∀ ws, ws.length = m → (∀ k ∈ ws, k < 3) → leafP ns a ws ≠ 0 → Gd Kt Kf v ws op) → (visitN ns kt kf m a v op s).cl = false ∧ SubK (visitN ns kt kf m a v op s).gt (visitN ns kt kf m a v op s).gf Kt Kf := by
  intro m
  induction m with
  | zero =>
    intro a v op s _ _ ho hc hs hH
    simp only [visitN, hc]
    unfold meetN
    by_cases h0 : (ns.getD a nd0).c = 0
    · simp only [h0, if_true]; exact ⟨hc, hs⟩
    · have hg := hH [] rfl (fun k hk => by simp at hk) h0
      by_cases h1 : op = 0
      · subst h1
        exfalso
        rcases hg with h | ⟨_, h, _⟩ | ⟨h, _⟩
        · rcases h with ⟨h, _⟩ | ⟨h, _⟩ <;> omega
        · exact h trivial
        · exact h rfl
      · simp only [h0, if_false, h1]
        rcases hg with h | ⟨_, h, _⟩ | ⟨_, _, _, h⟩
        · exact ⟨hc, hs.lit (ho.resolve_left h1) h⟩
        · exact absurd trivial h
        · exact absurd trivial h
  | succ m ih =>
    intro a v op s hmv hv ho hc hs hH
    have hl1 : litB (v : Int) = true := by simp only [litB, Bool.and_eq_true, bne_iff_ne, decide_eq_true_eq]; omega
    have hl2 : litB (-(v : Int)) = true := by simp only [litB, Bool.and_eq_true, bne_iff_ne, decide_eq_true_eq]; omega
    have sub : ∀ (k : Nat) (ws : List Nat), k < 3 → ws.length = m → (∀ k ∈ ws, k < 3) → (ns.getD a nd0).nx k ≠ 0 → leafP ns ((ns.getD a nd0).nx k) ws ≠ 0 → Gd Kt Kf v (k :: ws) op := fun k ws hk3 hl h3 hx hq => hH (k :: ws) (by simp [hl]) (fun j hj => (List.mem_cons.1 hj).elim (fun e => e ▸ hk3) (h3 j)) (by simp only [leafP, hx, if_false]; exact hq)
    simp only [visitN, hc]
    have k1 : (if (ns.getD a nd0).n0 = 0 then s else visitN ns kt kf m (ns.getD a nd0).n0 (v + 1) op s).cl = false ∧ SubK (if (ns.getD a nd0).n0 = 0 then s else visitN ns kt kf m (ns.getD a nd0).n0 (v + 1) op s).gt (if (ns.getD a nd0).n0 = 0 then s else visitN ns kt kf m (ns.getD a nd0).n0 (v + 1) op s).gf Kt Kf := by
      split
      · exact ⟨hc, hs⟩
      · rename_i hx
        exact ih _ (v + 1) op s (by omega) (by omega) ho hc hs (fun ws hl h3 hq => (sub 0 ws (by decide) hl h3 hx hq).pass (.inl rfl))
    generalize (if (ns.getD a nd0).n0 = 0 then s else visitN ns kt kf m (ns.getD a nd0).n0 (v + 1) op s) = s1 at *
    have k2 : (if (ns.getD a nd0).n1 = 0 then s1 else if hasB kt kf (-(v : Int)) then visitN ns kt kf m (ns.getD a nd0).n1 (v + 1) op s1 else if op = 0 ∧ hasB kt kf (v : Int) = false then visitN ns kt kf m (ns.getD a nd0).n1 (v + 1) (v : Int) s1 else s1).cl = false ∧ SubK (if (ns.getD a nd0).n1 = 0 then s1 else if hasB kt kf (-(v : Int)) then visitN ns kt kf m (ns.getD a nd0).n1 (v + 1) op s1 else if op = 0 ∧ hasB kt kf (v : Int) = false then visitN ns kt kf m (ns.getD a nd0).n1 (v + 1) (v : Int) s1 else s1).gt (if (ns.getD a nd0).n1 = 0 then s1 else if hasB kt kf (-(v : Int)) then visitN ns kt kf m (ns.getD a nd0).n1 (v + 1) op s1 else if op = 0 ∧ hasB kt kf (v : Int) = false then visitN ns kt kf m (ns.getD a nd0).n1 (v + 1) (v : Int) s1 else s1).gf Kt Kf := by
      split
      · exact k1
      · rename_i hx
        split
        · rename_i hh
          rw [has_neg kt kf hv (by omega)] at hh
          exact ih _ (v + 1) op s1 (by omega) (by omega) ho k1.1 k1.2 (fun ws hl h3 hq => (sub 1 ws (by decide) hl h3 hx hq).pass (.inr (.inl ⟨rfl, hk.f v hh⟩)))
        · split
          · rename_i hcond
            refine ih _ (v + 1) (v : Int) s1 (by omega) (by omega) (.inr hl1) k1.1 k1.2 (fun ws hl h3 hq => ?_)
            have := sub 1 ws (by decide) hl h3 hx hq
            rw [hcond.1] at this
            exact this.open (.inl ⟨rfl, rfl⟩) hv
          · exact k1
    generalize (if (ns.getD a nd0).n1 = 0 then s1 else if hasB kt kf (-(v : Int)) then visitN ns kt kf m (ns.getD a nd0).n1 (v + 1) op s1 else if op = 0 ∧ hasB kt kf (v : Int) = false then visitN ns kt kf m (ns.getD a nd0).n1 (v + 1) (v : Int) s1 else s1) = s2 at *
    simp only [Bool.false_eq_true, if_false]
    split
    · exact k2
    · rename_i hx
      split
      · rename_i hh
        rw [has_pos kt kf hv (by omega)] at hh
        exact ih _ (v + 1) op s2 (by omega) (by omega) ho k2.1 k2.2 (fun ws hl h3 hq => (sub 2 ws (by decide) hl h3 hx hq).pass (.inr (.inr ⟨rfl, hk.t v hh⟩)))
      · split
        · rename_i hcond
          refine ih _ (v + 1) (-(v : Int)) s2 (by omega) (by omega) (.inr hl2) k2.1 k2.2 (fun ws hl h3 hq => ?_)
          have := sub 2 ws (by decide) hl h3 hx hq
          rw [hcond.1] at this
          exact this.open (.inr ⟨rfl, rfl⟩) hv
        · exact k2

/-- nothing more is known, and nothing clashes -/
def ClosedK (ns : List Nd) (kt kf : Nat) : Prop := ∀ ws, ws.length = 10 → (∀ k ∈ ws, k < 3) → leafP ns 0 ws ≠ 0 → ¬ allOff kt kf 1 ws ∧ ∀ x, ¬ oneOpen kt kf 1 ws x
theorem open_not {kt kf : Nat} {s : PS} (h1 : s.gt = kt) (h2 : s.gf = kf) : ∀ (ws : List Nat) (v : Nat) (x : Int), oneOpen kt kf v ws x → inG x s → False := by
  intro ws
  induction ws with
  | nil => intro v x h _; exact h
  | cons k ws ih =>
    intro v x h hg
    rcases h with ⟨_, h⟩ | ⟨h, hin, _, _⟩
    · exact ih _ _ h hg
    · apply hin
      rcases h with ⟨rfl, rfl⟩ | ⟨rfl, rfl⟩
      · rcases hg with ⟨_, h⟩ | ⟨h, _⟩
        · rw [Int.toNat_natCast, h1] at h; exact .inl ⟨rfl, h⟩
        · omega
      · rcases hg with ⟨h, _⟩ | ⟨_, h⟩
        · omega
        · rw [Int.neg_neg, Int.toNat_natCast, h2] at h; exact .inr ⟨rfl, h⟩
theorem fol_false (ns : List Nd) : ∀ (m kt kf : Nat), kt < 2 ^ 11 → kf < 2 ^ 11 → 4096 ≤ kt + kf + m → fol ns m kt kf = false → ∃ Kt Kf, SubK kt kf Kt Kf ∧ (Kt &&& Kf != 0) = false ∧ ClosedK ns Kt Kf := by
  intro m
  induction m with
  | zero => intro kt kf h1 h2 h3 _; omega
  | succ m ih =>
    intro kt kf h1 h2 h3 h
    simp only [fol] at h
    obtain ⟨o1, o2⟩ := visitN_ok (ns := ns) (kt := kt) (kf := kf) 10 0 1 0 ⟨kt, kf, false⟩ rfl (by decide) (.inl rfl) ⟨h1, h2⟩
    obtain ⟨x, y, u1, u2⟩ := visitN_sup (ns := ns) (kt := kt) (kf := kf) 10 0 1 0 ⟨kt, kf, false⟩ rfl (by decide) (.inl rfl)
    have comp := visit_complete ns kt kf 10 0 1 0 ⟨kt, kf, false⟩ rfl (by decide) (.inl rfl)
    generalize visitN ns kt kf 10 0 1 0 ⟨kt, kf, false⟩ = S at *
    split at h
    · simp at h
    · rename_i htw
      split at h
      · simp at h
      · rename_i hcl
        have hcl' : S.cl = false := by simpa using hcl
        split at h
        · rename_i he
          refine ⟨kt, kf, ⟨fun _ h => h, fun _ h => h⟩, by simpa using htw, fun ws hl h3' hq => ?_⟩
          obtain ⟨q1, _, q3⟩ := comp hcl' ws hl h3' hq
          exact ⟨q1 rfl, fun z hz => open_not he.1 he.2 ws 1 z hz (q3 rfl z hz)⟩
        · rename_i he
          have a1 : kt ≤ S.gt := by rw [u1]; exact Nat.left_le_or
          have a2 : kf ≤ S.gf := by rw [u2]; exact Nat.left_le_or
          have a3 : kt + kf < S.gt + S.gf := by
            by_cases q : S.gt = kt
            · by_cases q' : S.gf = kf
              · exact absurd ⟨q, q'⟩ he
              · omega
            · omega
          obtain ⟨Kt, Kf, b1, b2, b3⟩ := ih S.gt S.gf o1 o2 (by omega) h
          refine ⟨Kt, Kf, ⟨fun v hv => b1.t v ?_, fun v hv => b1.f v ?_⟩, b2, b3⟩
          · rw [u1, Nat.testBit_or]; rw [show (⟨kt, kf, false⟩ : PS).gt = kt from rfl, hv]; rfl
          · rw [u2, Nat.testBit_or]; rw [show (⟨kt, kf, false⟩ : PS).gf = kf from rfl, hv]; rfl
theorem fol_stay (ns : List Nd) (Kt Kf : Nat) (hdis : (Kt &&& Kf != 0) = false) (hC : ClosedK ns Kt Kf) : ∀ (m kt kf : Nat), SubK kt kf Kt Kf → fol ns m kt kf = false := by
  intro m
  induction m with
  | zero => intro kt kf _; rfl
  | succ m ih =>
    intro kt kf hk
    have htw : (kt &&& kf != 0) = false := by
      have hz : Kt &&& Kf = 0 := by simpa using hdis
      have : kt &&& kf = 0 := by
        apply Nat.eq_of_testBit_eq
        intro i
        rw [Nat.zero_testBit, Nat.testBit_and]
        cases a : kt.testBit i with
        | false => rfl
        | true =>
          cases b : kf.testBit i with
          | false => rfl
          | true =>
            have := congrArg (fun n => n.testBit i) hz
            simp only [Nat.testBit_and, hk.t i a, hk.f i b, Nat.zero_testBit] at this
            simp at this
      rw [this]; rfl
    obtain ⟨h1, h2⟩ := visit_stay ns kt kf Kt Kf hk 10 0 1 0 ⟨kt, kf, false⟩ rfl (by decide) (.inl rfl) rfl hk (fun ws hl h3 hq => .inr (.inl ⟨.inl rfl, hC ws hl h3 hq⟩))
    simp only [fol, htw, h1, Bool.false_eq_true, if_false]
    split
    · rfl
    · exact ih _ _ h2
/-- what follows, follows of more -/
theorem follows_mono {ns ns' : List Nd} (hs : ∀ ws, ws.length = 10 → (∀ k ∈ ws, k < 4) → leafP ns 0 ws ≠ 0 → leafP ns' 0 ws ≠ 0) {t f : Nat} (ht : t < 2 ^ 11) (hf : f < 2 ^ 11) (h : followsN ns t f = true) : followsN ns' t f = true := by
  cases hb : followsN ns' t f with
  | true => rfl
  | false =>
    obtain ⟨Kt, Kf, a1, a2, a3⟩ := fol_false ns' 4096 f t hf ht (by omega) hb
    have := fol_stay ns Kt Kf a2 (fun ws hl h3 hq => a3 ws hl h3 (hs ws hl (fun k hk => Nat.lt_succ_of_lt (h3 k hk)) hq)) 4096 f t a1
    have h' : fol ns 4096 f t = true := h
    rw [this] at h'
    simp at h'

end Go.Proofs.YthboeppmlhbofaaGreatDoor

/-
  How often a clause stands there, behind Add and Drop: plain.
-/
namespace Go.Proofs.YthboeppmlhbofaaGreatDoor
open Go.RowKit Txt
set_option maxRecDepth 100000

theorem leaf_drop (ns : List Nd) (t f : Nat) : ∀ (m k a : Nat), m + k = 10 → dropTo ns t f k = some a → leafP ns a (ways t f (k + 1) m) = (match dropTo ns t f 10 with | none => 0 | some b => (ns.getD b nd0).c) := by
  intro m
  induction m with
  | zero =>
    intro k a hk hd
    have e : k = 10 := by omega
    subst e
    rw [hd]
    rfl
  | succ m ih =>
    intro k a hk hd
    have hs : dropTo ns t f (k + 1) = if (ns.getD a nd0).nx (wayN t f ((k + 1 : Nat) : Int)) = 0 then none else some ((ns.getD a nd0).nx (wayN t f ((k + 1 : Nat) : Int))) := by simp only [dropTo, hd]
    simp only [ways, leafP]
    by_cases hz : (ns.getD a nd0).nx (wayN t f ((k + 1 : Nat) : Int)) = 0
    · rw [if_pos hz] at hs ⊢
      have h2 := dropTo_none (10 - (k + 1)) (k + 1) hs
      rw [show k + 1 + (10 - (k + 1)) = 10 by omega] at h2
      rw [h2]
    · rw [if_neg hz] at hs ⊢
      exact ih (k + 1) _ (by omega) hs
theorem leaf_way (ns : List Nd) (t f : Nat) : leafP ns 0 (ways t f 1 10) = (match dropTo ns t f 10 with | none => 0 | some b => (ns.getD b nd0).c) := leaf_drop ns t f 10 0 0 rfl rfl
theorem path_drop {ns : List Nd} (hw : Wf ns) (hp : 0 < ns.length) {path : Nat → List Nat} (h : Pth ns path) (t f : Nat) : ∀ (k a : Nat), dropTo ns t f k = some a → path a = ways t f 1 k := by
  intro k
  induction k with
  | zero => intro a e; simp only [dropTo, Option.some.injEq] at e; rw [← e]; exact h.root
  | succ k ih =>
    intro a e
    simp only [dropTo] at e
    split at e
    · simp at e
    · rename_i b hb
      split at e
      · simp at e
      · rename_i hz
        simp only [Option.some.injEq] at e
        rw [← e, h.step b (dropTo_lt hw hp t f k b hb) _ (wayN_lt _ _ _) hz, ih b hb, ways_snoc, show 1 + k = k + 1 by omega]
theorem dropTo_same {ns ns' : List Nd} (hnx : ∀ b k, (ns'.getD b nd0).nx k = (ns.getD b nd0).nx k) (t f : Nat) : ∀ k, dropTo ns' t f k = dropTo ns t f k := by
  intro k
  induction k with
  | zero => rfl
  | succ k ih => simp only [dropTo, ih, hnx]
theorem set_nx {ns : List Nd} {a : Nat} (ha : a < ns.length) (x : Nat) (b k : Nat) : ((ns.set a { ns.getD a nd0 with c := x }).getD b nd0).nx k = (ns.getD b nd0).nx k := by
  rw [getD_set _ _ _ _ ha]
  split
  · rename_i e; rw [e]; rfl
  · rfl
theorem Tre.drop_leaf {ns ns' : List Nd} (h : Tre ns) {t f : Nat} (hd : dropN ns t f = some ns') : (∀ ws, (∀ j ∈ ws, j < 4) → ws ≠ ways t f 1 10 → leafP ns' 0 ws = leafP ns 0 ws) ∧ leafP ns' 0 (ways t f 1 10) + 1 = leafP ns 0 (ways t f 1 10) := by
  unfold dropN at hd
  cases ha : dropTo ns t f 10 with
  | none => rw [ha] at hd; simp at hd
  | some a =>
    have hal := dropTo_lt h.wf h.pos t f 10 a ha
    rw [ha] at hd
    simp only at hd
    split at hd
    · simp at hd
    · rename_i hz
      simp only [Option.some.injEq] at hd
      subst hd
      obtain ⟨path, hp⟩ := h.path
      refine ⟨fun ws h4 hne => leaf_set h.wf hp hal _ ws 0 h.pos h4 ?_, ?_⟩
      · rw [hp.root, path_drop h.wf h.pos hp t f 10 a ha]
        exact hne
      · rw [leaf_way, leaf_way, dropTo_same (set_nx hal _), ha]
        simp only
        rw [getD_set _ _ _ _ hal, if_pos rfl]
        show (ns.getD a nd0).c - 1 + 1 = _
        omega
theorem drop_none {ns : List Nd} {t f : Nat} : dropN ns t f = none ↔ leafP ns 0 (ways t f 1 10) = 0 := by
  rw [leaf_way]
  unfold dropN
  cases ha : dropTo ns t f 10 with
  | none => simp
  | some a =>
    simp
theorem grow_nx {ns : List Nd} {a k : Nat} (ha : a < ns.length) (hk : k < 4) (b j : Nat) (hj : j < 4) (hn : (ns.getD b nd0).nx j ≠ 0) : ((growN ns a k).1.getD b nd0).nx j = (ns.getD b nd0).nx j := by
  unfold growN
  split
  · rename_i hz
    show ((ns.set a ((ns.getD a nd0).put k ns.length) ++ [nd0]).getD b nd0).nx j = _
    rw [getD_snoc, getD_set _ _ _ _ ha]
    split
    · rename_i e
      rw [e] at hn ⊢
      exact put_other _ hk hj (fun e2 => hn (by rw [e2]; exact hz))
    · rfl
  · rfl
theorem dropTo_grow {ns : List Nd} {a k : Nat} (ha : a < ns.length) (hk : k < 4) (t f : Nat) : ∀ (j b : Nat), dropTo ns t f j = some b → dropTo (growN ns a k).1 t f j = some b := by
  intro j
  induction j with
  | zero => intro b h; exact h
  | succ j ih =>
    intro b h
    simp only [dropTo] at h ⊢
    split at h
    · simp at h
    · rename_i c hc
      split at h
      · simp at h
      · rename_i hz
        simp only [Option.some.injEq] at h
        rw [ih c hc]
        simp only
        rw [grow_nx ha hk c _ (wayN_lt _ _ _) hz, if_neg hz, h]
theorem addTo_drop {ns : List Nd} (hw : Wf ns) (hp : 0 < ns.length) (t f : Nat) : ∀ k, dropTo (addTo ns t f k).1 t f k = some (addTo ns t f k).2 := by
  intro k
  induction k with
  | zero => rfl
  | succ k ih =>
    obtain ⟨w1, w2, w3⟩ := addTo_wf hw hp t f k
    have h1 := dropTo_grow w2 (wayN_lt t f ((k + 1 : Nat) : Int)) t f k _ ih
    show dropTo (growN (addTo ns t f k).1 (addTo ns t f k).2 (wayN t f ((k + 1 : Nat) : Int))).1 t f (k + 1) = _
    simp only [dropTo, h1]
    show _ = some (growN (addTo ns t f k).1 (addTo ns t f k).2 (wayN t f ((k + 1 : Nat) : Int))).2
    generalize hwy : wayN t f ((k + 1 : Nat) : Int) = wy at *
    have hwl : wy < 4 := hwy ▸ wayN_lt t f _
    unfold growN
    split
    · rename_i hz
      show (if ((((addTo ns t f k).1.set _ _) ++ [nd0]).getD _ nd0).nx wy = 0 then none else some _) = some _
      rw [get_grown w2, Nd.put_nx _ hwl, if_neg (by omega)]
    · rfl
theorem Tre.add_leaf {ns : List Nd} (h : Tre ns) (t f c : Nat) : leafP (addN ns t f c) 0 (ways t f 1 10) = leafP ns 0 (ways t f 1 10) + c := by
  obtain ⟨path, hp⟩ := h.path
  obtain ⟨_, q3⟩ := addTo_leaf h.wf h.pos hp t f 10
  obtain ⟨w1, w2, w3⟩ := addTo_wf h.wf h.pos t f 10
  have hd := addTo_drop h.wf h.pos t f 10
  have h4 : ∀ j ∈ ways t f 1 10, j < 4 := by
    intro j hj
    simp only [ways, List.mem_cons, List.not_mem_nil, or_false] at hj
    rcases hj with rfl | rfl | rfl | rfl | rfl | rfl | rfl | rfl | rfl | rfl <;> exact wayN_lt _ _ _
  rw [← q3 _ h4, leaf_way, leaf_way, hd]
  unfold addN
  rw [dropTo_same (set_nx w2 _), hd]
  simp only
  rw [getD_set _ _ _ _ w2, if_pos rfl]

/-- at least as much stands there -/
def SubT (ns ns' : List Nd) : Prop := ∀ ws, (∀ k ∈ ws, k < 4) → leafP ns 0 ws ≤ leafP ns' 0 ws
theorem SubT.add {ns ns' : List Nd} (h : SubT ns ns') (h1 : Tre ns) (h2 : Tre ns') (t f c : Nat) : SubT (addN ns t f c) (addN ns' t f c) := by
  intro ws h4
  by_cases e : ws = ways t f 1 10
  · subst e
    rw [h1.add_leaf, h2.add_leaf]
    have := h _ h4
    omega
  · rw [(h1.add t f c).2 ws h4 e, (h2.add t f c).2 ws h4 e]
    exact h ws h4
theorem SubT.more {ns : List Nd} (h1 : Tre ns) (t f c : Nat) : SubT ns (addN ns t f c) := by
  intro ws h4
  by_cases e : ws = ways t f 1 10
  · subst e
    rw [h1.add_leaf]
    omega
  · rw [(h1.add t f c).2 ws h4 e]
    exact Nat.le_refl _
theorem step_mono {ns ns' : List Nd} (h : SubT ns ns') (h1 : Tre ns) (h2 : Tre ns') (lt : Nat) (xs : List Int) (he : (stepN ns lt xs).1 = 0) : (stepN ns' lt xs).1 = 0 ∧ SubT (stepN ns lt xs).2 (stepN ns' lt xs).2 ∧ Tre (stepN ns lt xs).2 ∧ Tre (stepN ns' lt xs).2 := by
  unfold stepN at he ⊢
  split at he
  · rename_i h100
    rw [if_pos h100, if_pos h100]
    have hw4 : ∀ j ∈ ways (posOk xs) (negOk xs) 1 10, j < 4 := by
      intro j hj
      simp only [ways, List.mem_cons, List.not_mem_nil, or_false] at hj
      rcases hj with rfl | rfl | rfl | rfl | rfl | rfl | rfl | rfl | rfl | rfl <;> exact wayN_lt _ _ _
    cases hd : dropN ns (posOk xs) (negOk xs) with
    | none => rw [hd] at he; simp at he
    | some n1 =>
      obtain ⟨a1, a2⟩ := h1.drop_leaf hd
      cases hd' : dropN ns' (posOk xs) (negOk xs) with
      | none =>
        have := drop_none.1 hd'
        have := h _ hw4
        omega
      | some n2 =>
        obtain ⟨b1, b2⟩ := h2.drop_leaf hd'
        refine ⟨rfl, fun ws h4 => ?_, (h1.drop hd).1, (h2.drop hd').1⟩
        show leafP n1 0 ws ≤ leafP n2 0 ws
        by_cases e : ws = ways (posOk xs) (negOk xs) 1 10
        · subst e
          have := h _ h4
          omega
        · rw [a1 ws h4 e, b1 ws h4 e]
          exact h ws h4
  · rename_i h100
    rw [if_neg h100, if_neg h100]
    split at he
    · simp at he
    · rename_i hf
      have hfo : followsN ns (posOk xs) (negOk xs) = true := by simpa using hf
      have hfo' := follows_mono (ns' := ns') (fun ws _ h4 hq => by have := h ws h4; omega) (posOk_lt xs) (negOk_lt xs) hfo
      rw [if_neg hf, if_neg (by rw [hfo']; simp)]
      split
      · exact ⟨rfl, h.add h1 h2 _ _ _, (h1.add _ _ _).1, (h2.add _ _ _).1⟩
      · exact ⟨rfl, h, h1, h2⟩
theorem chk_mono (l : List UInt8) : ∀ (m : Nat) (ns ns' : List Nd) (p n lt : Nat) (xs : List Int), SubT ns ns' → Tre ns → Tre ns' → (chkN l m ns p n lt xs).2.1 = 0 → chkN l m ns' p n lt xs = chkN l m ns p n lt xs := by
  intro m
  induction m with
  | zero => intro ns ns' p n lt xs _ _ _ h; simp [chkN] at h
  | succ m ih =>
    intro ns ns' p n lt xs hs h1 h2 h
    simp only [chkN] at h ⊢
    split at h
    · rename_i hp
      rw [if_pos hp, if_pos hp]
      cases hr : rdLine l p with
      | none => rfl
      | some r =>
        obtain ⟨lt', xs', q⟩ := r
        rw [hr] at h
        simp only at h ⊢
        by_cases he : (stepN ns lt' xs').1 = 0
        · obtain ⟨s1, s2, s3, s4⟩ := step_mono hs h1 h2 lt' xs' he
          rw [if_neg (by simpa using he)] at h
          have e1 : ¬ (stepN ns' lt' xs').1 ≠ 0 := by simpa using s1
          have e2 : ¬ (stepN ns lt' xs').1 ≠ 0 := by simpa using he
          rw [if_neg e1, if_neg e2]
          exact ih _ _ _ _ _ _ s2 s3 s4 h
        · rw [if_pos he] at h
          exact absurd h he
    · rename_i hp
      rw [if_neg hp, if_neg hp]

end Go.Proofs.YthboeppmlhbofaaGreatDoor
