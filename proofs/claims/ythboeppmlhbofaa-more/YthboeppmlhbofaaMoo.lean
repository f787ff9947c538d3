/-
  Following is monotone in what stands there: plain.
-/
import Derived.Test.YthboeppmlhbofaaMon
namespace Go.Proofs.Ythboeppmlhbofaa
open Go.RowKit Txt
set_option maxRecDepth 100000

def inL (Kt Kf : Nat) (x : Int) : Prop := (0 < x ∧ Kt.testBit x.toNat = true) ∨ (x < 0 ∧ Kf.testBit (-x).toNat = true)
def offL (Kt Kf : Nat) (x : Int) : Prop := (0 < x ∧ Kf.testBit x.toNat = true) ∨ (x < 0 ∧ Kt.testBit (-x).toNat = true)
structure SubK (kt kf Kt Kf : Nat) : Prop where
  t : ∀ v, kt.testBit v = true → Kt.testBit v = true
  f : ∀ v, kf.testBit v = true → Kf.testBit v = true
/-- what a clause must be like below a node -/
def Gd (Kt Kf v : Nat) (ws : List Nat) (op : Int) : Prop :=
  inL Kt Kf op ∨ ((op = 0 ∨ offL Kt Kf op) ∧ ¬ allOff Kt Kf v ws ∧ ∀ x, ¬ oneOpen Kt Kf v ws x) ∨ (op ≠ 0 ∧ ¬ inL Kt Kf op ∧ ¬ offL Kt Kf op ∧ ¬ allOff Kt Kf v ws)
theorem Gd.pass {Kt Kf v k : Nat} {ws : List Nat} {op : Int} (h : Gd Kt Kf v (k :: ws) op) (hk : k = 0 ∨ offK Kt Kf v k) : Gd Kt Kf (v + 1) ws op := by
  rcases h with h | ⟨h1, h2, h3⟩ | ⟨h1, h2, h3, h4⟩
  · exact .inl h
  · exact .inr (.inl ⟨h1, fun q => h2 ⟨hk, q⟩, fun x q => h3 x (.inl ⟨hk, q⟩)⟩)
  · exact .inr (.inr ⟨h1, h2, h3, fun q => h4 ⟨hk, q⟩⟩)
theorem Gd.open {Kt Kf v k : Nat} {ws : List Nat} (h : Gd Kt Kf v (k :: ws) 0) {x : Int} (hx : (k = 1 ∧ x = (v : Int)) ∨ (k = 2 ∧ x = -(v : Int))) (hv : 1 ≤ v) : Gd Kt Kf (v + 1) ws x := by
  have hin : inL Kt Kf x ↔ hasK Kt Kf v k := by
    rcases hx with ⟨rfl, rfl⟩ | ⟨rfl, rfl⟩
    · unfold inL hasK
      constructor
      · rintro (⟨_, h⟩ | ⟨h, _⟩)
        · rw [Int.toNat_natCast] at h; exact .inl ⟨rfl, h⟩
        · omega
      · rintro (⟨_, h⟩ | ⟨h, _⟩)
        · exact .inl ⟨by omega, by rw [Int.toNat_natCast]; exact h⟩
        · omega
    · unfold inL hasK
      constructor
      · rintro (⟨h, _⟩ | ⟨_, h⟩)
        · omega
        · rw [Int.neg_neg, Int.toNat_natCast] at h; exact .inr ⟨rfl, h⟩
      · rintro (⟨h, _⟩ | ⟨_, h⟩)
        · omega
        · exact .inr ⟨by omega, by rw [Int.neg_neg, Int.toNat_natCast]; exact h⟩
  have hoff : offL Kt Kf x ↔ offK Kt Kf v k := by
    rcases hx with ⟨rfl, rfl⟩ | ⟨rfl, rfl⟩
    · unfold offL offK
      constructor
      · rintro (⟨_, h⟩ | ⟨h, _⟩)
        · rw [Int.toNat_natCast] at h; exact .inl ⟨rfl, h⟩
        · omega
      · rintro (⟨_, h⟩ | ⟨h, _⟩)
        · exact .inl ⟨by omega, by rw [Int.toNat_natCast]; exact h⟩
        · omega
    · unfold offL offK
      constructor
      · rintro (⟨h, _⟩ | ⟨_, h⟩)
        · omega
        · rw [Int.neg_neg, Int.toNat_natCast] at h; exact .inr ⟨rfl, h⟩
      · rintro (⟨h, _⟩ | ⟨_, h⟩)
        · omega
        · exact .inr ⟨by omega, by rw [Int.neg_neg, Int.toNat_natCast]; exact h⟩
  have hx0 : x ≠ 0 := by rcases hx with ⟨_, h⟩ | ⟨_, h⟩ <;> omega
  rcases h with h | ⟨_, h2, h3⟩ | ⟨h1, _⟩
  · rcases h with ⟨h, _⟩ | ⟨h, _⟩ <;> omega
  · by_cases a : inL Kt Kf x
    · exact .inl a
    · by_cases b : offL Kt Kf x
      · have b' := hoff.1 b
        exact .inr (.inl ⟨.inr b, fun q => h2 ⟨.inr b', q⟩, fun y q => h3 y (.inl ⟨.inr b', q⟩)⟩)
      · exact .inr (.inr ⟨hx0, a, b, fun q => h3 x (.inr ⟨hx, fun e => a (hin.2 e), fun e => b (hoff.2 e), q⟩)⟩)
  · exact absurd rfl h1
theorem SubK.lit {kt kf Kt Kf : Nat} (h : SubK kt kf Kt Kf) {x : Int} (hx : litB x = true) (hs : inL Kt Kf x) : SubK (kt ||| posB x) (kf ||| negB x) Kt Kf := by
  simp only [litB, Bool.and_eq_true, bne_iff_ne, decide_eq_true_eq] at hx
  rcases hs with ⟨hp, hs⟩ | ⟨hp, hs⟩
  · have e1 : posB x = 2 ^ x.toNat := by unfold posB; rw [if_pos hp]
    have e2 : negB x = 0 := by unfold negB; rw [if_pos hp]
    rw [e1, e2, Nat.or_zero]
    refine ⟨fun v hb => ?_, h.f⟩
    rw [Nat.testBit_or, Nat.testBit_two_pow, Bool.or_eq_true, decide_eq_true_eq] at hb
    rcases hb with hb | hb
    · exact h.t v hb
    · rw [← hb]; exact hs
  · have e1 : posB x = 0 := by unfold posB; rw [if_neg (by omega)]
    have e2 : negB x = 2 ^ (-x).toNat := by unfold negB; rw [if_neg (by omega)]
    rw [e1, e2, Nat.or_zero]
    refine ⟨h.t, fun v hb => ?_⟩
    rw [Nat.testBit_or, Nat.testBit_two_pow, Bool.or_eq_true, decide_eq_true_eq] at hb
    rcases hb with hb | hb
    · exact h.f v hb
    · rw [← hb]; exact hs

theorem visit_stay (ns : List Nd) (kt kf Kt Kf : Nat) (hk : SubK kt kf Kt Kf) : ∀ (m a v : Nat) (op : Int) (s : PS), m + v = 11 → 1 ≤ v → (op = 0 ∨ litB op = true) → s.cl = false → SubK s.gt s.gf Kt Kf →
    (∀ ws, ws.length = m → (∀ k ∈ ws, k < 3) → leafP ns a ws ≠ 0 → Gd Kt Kf v ws op) → (visitN ns kt kf m a v op s).cl = false ∧ SubK (visitN ns kt kf m a v op s).gt (visitN ns kt kf m a v op s).gf Kt Kf := by
  intro m
  induction m with
  | zero =>
    intro a v op s _ _ ho hc hs hH
    simp only [visitN, hc]
    unfold meetN
    by_cases h0 : (ns.getD a nd0).c = 0
    · simp only [h0, if_true]; exact ⟨hc, hs⟩
    · have hg := hH [] rfl (fun k hk => by simp at hk) h0
      by_cases h1 : op = 0
      · subst h1
        exfalso
        rcases hg with h | ⟨_, h, _⟩ | ⟨h, _⟩
        · rcases h with ⟨h, _⟩ | ⟨h, _⟩ <;> omega
        · exact h trivial
        · exact h rfl
      · simp only [h0, if_false, h1]
        rcases hg with h | ⟨_, h, _⟩ | ⟨_, _, _, h⟩
        · exact ⟨hc, hs.lit (ho.resolve_left h1) h⟩
        · exact absurd trivial h
        · exact absurd trivial h
  | succ m ih =>
    intro a v op s hmv hv ho hc hs hH
    have hl1 : litB (v : Int) = true := by simp only [litB, Bool.and_eq_true, bne_iff_ne, decide_eq_true_eq]; omega
    have hl2 : litB (-(v : Int)) = true := by simp only [litB, Bool.and_eq_true, bne_iff_ne, decide_eq_true_eq]; omega
    have sub : ∀ (k : Nat) (ws : List Nat), k < 3 → ws.length = m → (∀ k ∈ ws, k < 3) → (ns.getD a nd0).nx k ≠ 0 → leafP ns ((ns.getD a nd0).nx k) ws ≠ 0 → Gd Kt Kf v (k :: ws) op := fun k ws hk3 hl h3 hx hq => hH (k :: ws) (by simp [hl]) (fun j hj => (List.mem_cons.1 hj).elim (fun e => e ▸ hk3) (h3 j)) (by simp only [leafP, hx, if_false]; exact hq)
    simp only [visitN, hc]
    have k1 : (if (ns.getD a nd0).n0 = 0 then s else visitN ns kt kf m (ns.getD a nd0).n0 (v + 1) op s).cl = false ∧ SubK (if (ns.getD a nd0).n0 = 0 then s else visitN ns kt kf m (ns.getD a nd0).n0 (v + 1) op s).gt (if (ns.getD a nd0).n0 = 0 then s else visitN ns kt kf m (ns.getD a nd0).n0 (v + 1) op s).gf Kt Kf := by
      split
      · exact ⟨hc, hs⟩
      · rename_i hx
        exact ih _ (v + 1) op s (by omega) (by omega) ho hc hs (fun ws hl h3 hq => (sub 0 ws (by decide) hl h3 hx hq).pass (.inl rfl))
    generalize (if (ns.getD a nd0).n0 = 0 then s else visitN ns kt kf m (ns.getD a nd0).n0 (v + 1) op s) = s1 at *
    have k2 : (if (ns.getD a nd0).n1 = 0 then s1 else if hasB kt kf (-(v : Int)) then visitN ns kt kf m (ns.getD a nd0).n1 (v + 1) op s1 else if op = 0 ∧ hasB kt kf (v : Int) = false then visitN ns kt kf m (ns.getD a nd0).n1 (v + 1) (v : Int) s1 else s1).cl = false ∧ SubK (if (ns.getD a nd0).n1 = 0 then s1 else if hasB kt kf (-(v : Int)) then visitN ns kt kf m (ns.getD a nd0).n1 (v + 1) op s1 else if op = 0 ∧ hasB kt kf (v : Int) = false then visitN ns kt kf m (ns.getD a nd0).n1 (v + 1) (v : Int) s1 else s1).gt (if (ns.getD a nd0).n1 = 0 then s1 else if hasB kt kf (-(v : Int)) then visitN ns kt kf m (ns.getD a nd0).n1 (v + 1) op s1 else if op = 0 ∧ hasB kt kf (v : Int) = false then visitN ns kt kf m (ns.getD a nd0).n1 (v + 1) (v : Int) s1 else s1).gf Kt Kf := by
      split
      · exact k1
      · rename_i hx
        split
        · rename_i hh
          rw [has_neg kt kf hv (by omega)] at hh
          exact ih _ (v + 1) op s1 (by omega) (by omega) ho k1.1 k1.2 (fun ws hl h3 hq => (sub 1 ws (by decide) hl h3 hx hq).pass (.inr (.inl ⟨rfl, hk.f v hh⟩)))
        · split
          · rename_i hcond
            refine ih _ (v + 1) (v : Int) s1 (by omega) (by omega) (.inr hl1) k1.1 k1.2 (fun ws hl h3 hq => ?_)
            have := sub 1 ws (by decide) hl h3 hx hq
            rw [hcond.1] at this
            exact this.open (.inl ⟨rfl, rfl⟩) hv
          · exact k1
    generalize (if (ns.getD a nd0).n1 = 0 then s1 else if hasB kt kf (-(v : Int)) then visitN ns kt kf m (ns.getD a nd0).n1 (v + 1) op s1 else if op = 0 ∧ hasB kt kf (v : Int) = false then visitN ns kt kf m (ns.getD a nd0).n1 (v + 1) (v : Int) s1 else s1) = s2 at *
    simp only [Bool.false_eq_true, if_false]
    split
    · exact k2
    · rename_i hx
      split
      · rename_i hh
        rw [has_pos kt kf hv (by omega)] at hh
        exact ih _ (v + 1) op s2 (by omega) (by omega) ho k2.1 k2.2 (fun ws hl h3 hq => (sub 2 ws (by decide) hl h3 hx hq).pass (.inr (.inr ⟨rfl, hk.t v hh⟩)))
      · split
        · rename_i hcond
          refine ih _ (v + 1) (-(v : Int)) s2 (by omega) (by omega) (.inr hl2) k2.1 k2.2 (fun ws hl h3 hq => ?_)
          have := sub 2 ws (by decide) hl h3 hx hq
          rw [hcond.1] at this
          exact this.open (.inr ⟨rfl, rfl⟩) hv
        · exact k2

/-- nothing more is known, and nothing clashes -/
def ClosedK (ns : List Nd) (kt kf : Nat) : Prop := ∀ ws, ws.length = 10 → (∀ k ∈ ws, k < 3) → leafP ns 0 ws ≠ 0 → ¬ allOff kt kf 1 ws ∧ ∀ x, ¬ oneOpen kt kf 1 ws x
theorem open_not {kt kf : Nat} {s : PS} (h1 : s.gt = kt) (h2 : s.gf = kf) : ∀ (ws : List Nat) (v : Nat) (x : Int), oneOpen kt kf v ws x → inG x s → False := by
  intro ws
  induction ws with
  | nil => intro v x h _; exact h
  | cons k ws ih =>
    intro v x h hg
    rcases h with ⟨_, h⟩ | ⟨h, hin, _, _⟩
    · exact ih _ _ h hg
    · apply hin
      rcases h with ⟨rfl, rfl⟩ | ⟨rfl, rfl⟩
      · rcases hg with ⟨_, h⟩ | ⟨h, _⟩
        · rw [Int.toNat_natCast, h1] at h; exact .inl ⟨rfl, h⟩
        · omega
      · rcases hg with ⟨h, _⟩ | ⟨_, h⟩
        · omega
        · rw [Int.neg_neg, Int.toNat_natCast, h2] at h; exact .inr ⟨rfl, h⟩
theorem fol_false (ns : List Nd) : ∀ (m kt kf : Nat), kt < 2 ^ 11 → kf < 2 ^ 11 → 4096 ≤ kt + kf + m → fol ns m kt kf = false → ∃ Kt Kf, SubK kt kf Kt Kf ∧ (Kt &&& Kf != 0) = false ∧ ClosedK ns Kt Kf := by
  intro m
  induction m with
  | zero => intro kt kf h1 h2 h3 _; omega
  | succ m ih =>
    intro kt kf h1 h2 h3 h
    simp only [fol] at h
    obtain ⟨o1, o2⟩ := visitN_ok (ns := ns) (kt := kt) (kf := kf) 10 0 1 0 ⟨kt, kf, false⟩ rfl (by decide) (.inl rfl) ⟨h1, h2⟩
    obtain ⟨x, y, u1, u2⟩ := visitN_sup (ns := ns) (kt := kt) (kf := kf) 10 0 1 0 ⟨kt, kf, false⟩ rfl (by decide) (.inl rfl)
    have comp := visit_complete ns kt kf 10 0 1 0 ⟨kt, kf, false⟩ rfl (by decide) (.inl rfl)
    generalize visitN ns kt kf 10 0 1 0 ⟨kt, kf, false⟩ = S at *
    split at h
    · simp at h
    · rename_i htw
      split at h
      · simp at h
      · rename_i hcl
        have hcl' : S.cl = false := by simpa using hcl
        split at h
        · rename_i he
          refine ⟨kt, kf, ⟨fun _ h => h, fun _ h => h⟩, by simpa using htw, fun ws hl h3' hq => ?_⟩
          obtain ⟨q1, _, q3⟩ := comp hcl' ws hl h3' hq
          exact ⟨q1 rfl, fun z hz => open_not he.1 he.2 ws 1 z hz (q3 rfl z hz)⟩
        · rename_i he
          have a1 : kt ≤ S.gt := by rw [u1]; exact Nat.left_le_or
          have a2 : kf ≤ S.gf := by rw [u2]; exact Nat.left_le_or
          have a3 : kt + kf < S.gt + S.gf := by
            by_cases q : S.gt = kt
            · by_cases q' : S.gf = kf
              · exact absurd ⟨q, q'⟩ he
              · omega
            · omega
          obtain ⟨Kt, Kf, b1, b2, b3⟩ := ih S.gt S.gf o1 o2 (by omega) h
          refine ⟨Kt, Kf, ⟨fun v hv => b1.t v ?_, fun v hv => b1.f v ?_⟩, b2, b3⟩
          · rw [u1, Nat.testBit_or]; rw [show (⟨kt, kf, false⟩ : PS).gt = kt from rfl, hv]; rfl
          · rw [u2, Nat.testBit_or]; rw [show (⟨kt, kf, false⟩ : PS).gf = kf from rfl, hv]; rfl
theorem fol_stay (ns : List Nd) (Kt Kf : Nat) (hdis : (Kt &&& Kf != 0) = false) (hC : ClosedK ns Kt Kf) : ∀ (m kt kf : Nat), SubK kt kf Kt Kf → fol ns m kt kf = false := by
  intro m
  induction m with
  | zero => intro kt kf _; rfl
  | succ m ih =>
    intro kt kf hk
    have htw : (kt &&& kf != 0) = false := by
      have hz : Kt &&& Kf = 0 := by simpa using hdis
      have : kt &&& kf = 0 := by
        apply Nat.eq_of_testBit_eq
        intro i
        rw [Nat.zero_testBit, Nat.testBit_and]
        cases a : kt.testBit i with
        | false => rfl
        | true =>
          cases b : kf.testBit i with
          | false => rfl
          | true =>
            have := congrArg (fun n => n.testBit i) hz
            simp only [Nat.testBit_and, hk.t i a, hk.f i b, Nat.zero_testBit] at this
            simp at this
      rw [this]; rfl
    obtain ⟨h1, h2⟩ := visit_stay ns kt kf Kt Kf hk 10 0 1 0 ⟨kt, kf, false⟩ rfl (by decide) (.inl rfl) rfl hk (fun ws hl h3 hq => .inr (.inl ⟨.inl rfl, hC ws hl h3 hq⟩))
    simp only [fol, htw, h1, Bool.false_eq_true, if_false]
    split
    · rfl
    · exact ih _ _ h2
/-- what follows, follows of more -/
theorem follows_mono {ns ns' : List Nd} (hs : ∀ ws, ws.length = 10 → (∀ k ∈ ws, k < 4) → leafP ns 0 ws ≠ 0 → leafP ns' 0 ws ≠ 0) {t f : Nat} (ht : t < 2 ^ 11) (hf : f < 2 ^ 11) (h : followsN ns t f = true) : followsN ns' t f = true := by
  cases hb : followsN ns' t f with
  | true => rfl
  | false =>
    obtain ⟨Kt, Kf, a1, a2, a3⟩ := fol_false ns' 4096 f t hf ht (by omega) hb
    have := fol_stay ns Kt Kf a2 (fun ws hl h3 hq => a3 ws hl h3 (hs ws hl (fun k hk => Nat.lt_succ_of_lt (h3 k hk)) hq)) 4096 f t a1
    have h' : fol ns 4096 f t = true := h
    rw [this] at h'
    simp at h'

end Go.Proofs.Ythboeppmlhbofaa
