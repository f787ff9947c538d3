/-
  Pushing is sound: plain.
-/
import Derived.Test.YthboeppmlhbofaaPrg
namespace Go.Proofs.Ythboeppmlhbofaa
open Go.RowKit Txt
set_option maxRecDepth 100000

/-- how often a clause stands at the end of a way -/
def leafP (ns : List Nd) : Nat → List Nat → Nat
  | a, [] => (ns.getD a nd0).c
  | a, k :: ws => if (ns.getD a nd0).nx k = 0 then 0 else leafP ns ((ns.getD a nd0).nx k) ws
/-- is a literal of a clause so in a world? -/
def satW (W : Nat → Bool) : Nat → List Nat → Prop
  | _, [] => False
  | v, k :: ws => ((k = 1 ∨ k = 3) ∧ W v = true) ∨ ((k = 2 ∨ k = 3) ∧ W v = false) ∨ satW W (v + 1) ws
def ways (t f : Nat) : Nat → Nat → List Nat
  | _, 0 => []
  | v, m + 1 => wayN t f ((v : Nat) : Int) :: ways t f (v + 1) m
theorem has_pos (t f : Nat) {v : Nat} (h1 : 1 ≤ v) (h2 : v ≤ 10) : hasB t f (v : Int) = t.testBit v := by
  have e1 : bitP (v : Int) = 2 ^ v := by unfold bitP; rw [if_pos (by omega), Int.toNat_natCast]
  have e2 : bitP (-(v : Int)) = 0 := by unfold bitP; rw [if_neg (by omega)]
  unfold hasB
  rw [e1, e2, Nat.and_zero, and_pow]
  cases t.testBit v <;> simp
theorem has_neg (t f : Nat) {v : Nat} (h1 : 1 ≤ v) (h2 : v ≤ 10) : hasB t f (-(v : Int)) = f.testBit v := by
  have e1 : bitP (v : Int) = 2 ^ v := by unfold bitP; rw [if_pos (by omega), Int.toNat_natCast]
  have e2 : bitP (-(v : Int)) = 0 := by unfold bitP; rw [if_neg (by omega)]
  unfold hasB
  rw [Int.neg_neg, e1, e2, Nat.and_zero, and_pow]
  cases f.testBit v <;> simp

/-- what is known is so in the world -/
structure KW (W : Nat → Bool) (kt kf : Nat) : Prop where
  t : ∀ v, 1 ≤ v → v ≤ 10 → kt.testBit v = true → W v = true
  f : ∀ v, 1 ≤ v → v ≤ 10 → kf.testBit v = true → W v = false
  zt : kt.testBit 0 = false
  zf : kf.testBit 0 = false
def litSo (W : Nat → Bool) (x : Int) : Prop := (0 < x ∧ W x.toNat = true) ∨ (x < 0 ∧ W (-x).toNat = false)
theorem KW.lit {W : Nat → Bool} {kt kf : Nat} (h : KW W kt kf) {x : Int} (hx : litB x = true) (hs : litSo W x) : KW W (kt ||| posB x) (kf ||| negB x) := by
  simp only [litB, Bool.and_eq_true, bne_iff_ne, decide_eq_true_eq] at hx
  rcases hs with ⟨hp, hs⟩ | ⟨hp, hs⟩
  · have e1 : posB x = 2 ^ x.toNat := by unfold posB; rw [if_pos hp]
    have e2 : negB x = 0 := by unfold negB; rw [if_pos hp]
    rw [e1, e2, Nat.or_zero]
    refine ⟨fun v h1 h2 hb => ?_, h.f, ?_, h.zf⟩
    · rw [Nat.testBit_or, Nat.testBit_two_pow, Bool.or_eq_true, decide_eq_true_eq] at hb
      rcases hb with hb | hb
      · exact h.t v h1 h2 hb
      · rw [← hb]; exact hs
    · rw [Nat.testBit_or, h.zt, Nat.testBit_two_pow, Bool.false_or, decide_eq_false_iff_not]; omega
  · have e1 : posB x = 0 := by unfold posB; rw [if_neg (by omega)]
    have e2 : negB x = 2 ^ (-x).toNat := by unfold negB; rw [if_neg (by omega)]
    rw [e1, e2, Nat.or_zero]
    refine ⟨h.t, fun v h1 h2 hb => ?_, h.zt, ?_⟩
    · rw [Nat.testBit_or, Nat.testBit_two_pow, Bool.or_eq_true, decide_eq_true_eq] at hb
      rcases hb with hb | hb
      · exact h.f v h1 h2 hb
      · rw [← hb]; exact hs
    · rw [Nat.testBit_or, h.zf, Nat.testBit_two_pow, Bool.false_or, decide_eq_false_iff_not]; omega
theorem KW.twin {W : Nat → Bool} {kt kf : Nat} (h : KW W kt kf) (ht : kt < 2 ^ 11) : (kt &&& kf != 0) = false := by
  have : kt &&& kf = 0 := by
    apply Nat.eq_of_testBit_eq
    intro i
    rw [Nat.zero_testBit, Nat.testBit_and]
    by_cases h0 : i = 0
    · subst h0; rw [h.zt]; rfl
    · by_cases h1 : i < 11
      · cases a : kt.testBit i with
        | false => rfl
        | true =>
          cases b : kf.testBit i with
          | false => rfl
          | true =>
            have p := h.t i (by omega) (by omega) a
            have q := h.f i (by omega) (by omega) b
            rw [p] at q; simp at q
      · rw [Nat.testBit_lt_two_pow (Nat.lt_of_lt_of_le ht (Nat.pow_le_pow_right (by decide) (by omega)))]; rfl
  rw [this]; rfl

theorem visit_sound (W : Nat → Bool) (ns : List Nd) (kt kf : Nat) (hk : KW W kt kf) : ∀ (m a v : Nat) (op : Int) (s : PS), m + v = 11 → 1 ≤ v → (op = 0 ∨ litB op = true) → s.cl = false → KW W s.gt s.gf →
    (∀ ws, ws.length = m → (∀ k ∈ ws, k < 4) → leafP ns a ws ≠ 0 → satW W v ws ∨ (op ≠ 0 ∧ litSo W op)) → (visitN ns kt kf m a v op s).cl = false ∧ KW W (visitN ns kt kf m a v op s).gt (visitN ns kt kf m a v op s).gf := by
  intro m
  induction m with
  | zero =>
    intro a v op s _ _ ho hc hs hH
    simp only [visitN, hc]
    unfold meetN
    by_cases h0 : (ns.getD a nd0).c = 0
    · simp only [h0, if_true]; exact ⟨hc, hs⟩
    · rcases hH [] rfl (fun k hk => by simp at hk) h0 with h | ⟨h1, h2⟩
      · exact h.elim
      · simp only [h0, if_false, h1]
        exact ⟨hc, hs.lit (ho.resolve_left h1) h2⟩
  | succ m ih =>
    intro a v op s hmv hv ho hc hs hH
    have hl1 : litB (v : Int) = true := by simp only [litB, Bool.and_eq_true, bne_iff_ne, decide_eq_true_eq]; omega
    have hl2 : litB (-(v : Int)) = true := by simp only [litB, Bool.and_eq_true, bne_iff_ne, decide_eq_true_eq]; omega
    have sub : ∀ (k : Nat) (ws : List Nat), k < 4 → ws.length = m → (∀ k ∈ ws, k < 4) → (ns.getD a nd0).nx k ≠ 0 → leafP ns ((ns.getD a nd0).nx k) ws ≠ 0 → satW W v (k :: ws) ∨ (op ≠ 0 ∧ litSo W op) := fun k ws hk4 hl h4 hx hq => hH (k :: ws) (by simp [hl]) (fun j hj => (List.mem_cons.1 hj).elim (fun e => e ▸ hk4) (h4 j)) (by simp only [leafP, hx, if_false]; exact hq)
    simp only [visitN, hc]
    have k1 : (if (ns.getD a nd0).n0 = 0 then s else visitN ns kt kf m (ns.getD a nd0).n0 (v + 1) op s).cl = false ∧ KW W (if (ns.getD a nd0).n0 = 0 then s else visitN ns kt kf m (ns.getD a nd0).n0 (v + 1) op s).gt (if (ns.getD a nd0).n0 = 0 then s else visitN ns kt kf m (ns.getD a nd0).n0 (v + 1) op s).gf := by
      split
      · exact ⟨hc, hs⟩
      · rename_i hx
        refine ih _ (v + 1) op s (by omega) (by omega) ho hc hs (fun ws hl h4 hq => ?_)
        rcases sub 0 ws (by decide) hl h4 hx hq with h | h
        · simp only [satW] at h
          rcases h with h | h | h
          · omega
          · omega
          · exact .inl h
        · exact .inr h
    generalize (if (ns.getD a nd0).n0 = 0 then s else visitN ns kt kf m (ns.getD a nd0).n0 (v + 1) op s) = s1 at *
    have k2 : (if (ns.getD a nd0).n1 = 0 then s1 else if hasB kt kf (-(v : Int)) then visitN ns kt kf m (ns.getD a nd0).n1 (v + 1) op s1 else if op = 0 ∧ hasB kt kf (v : Int) = false then visitN ns kt kf m (ns.getD a nd0).n1 (v + 1) (v : Int) s1 else s1).cl = false ∧ KW W (if (ns.getD a nd0).n1 = 0 then s1 else if hasB kt kf (-(v : Int)) then visitN ns kt kf m (ns.getD a nd0).n1 (v + 1) op s1 else if op = 0 ∧ hasB kt kf (v : Int) = false then visitN ns kt kf m (ns.getD a nd0).n1 (v + 1) (v : Int) s1 else s1).gt (if (ns.getD a nd0).n1 = 0 then s1 else if hasB kt kf (-(v : Int)) then visitN ns kt kf m (ns.getD a nd0).n1 (v + 1) op s1 else if op = 0 ∧ hasB kt kf (v : Int) = false then visitN ns kt kf m (ns.getD a nd0).n1 (v + 1) (v : Int) s1 else s1).gf := by
      split
      · exact k1
      · rename_i hx
        split
        · rename_i hh
          rw [has_neg kt kf hv (by omega)] at hh
          have hwv := hk.f v hv (by omega) hh
          refine ih _ (v + 1) op s1 (by omega) (by omega) ho k1.1 k1.2 (fun ws hl h4 hq => ?_)
          rcases sub 1 ws (by decide) hl h4 hx hq with h | h
          · simp only [satW, hwv] at h
            rcases h with h | h | h
            · simp at h
            · omega
            · exact .inl h
          · exact .inr h
        · split
          · rename_i hcond
            refine ih _ (v + 1) (v : Int) s1 (by omega) (by omega) (.inr hl1) k1.1 k1.2 (fun ws hl h4 hq => ?_)
            rcases sub 1 ws (by decide) hl h4 hx hq with h | h
            · simp only [satW] at h
              rcases h with h | h | h
              · exact .inr ⟨by omega, .inl ⟨by omega, by rw [Int.toNat_natCast]; exact h.2⟩⟩
              · omega
              · exact .inl h
            · exact absurd hcond.1 h.1
          · exact k1
    generalize (if (ns.getD a nd0).n1 = 0 then s1 else if hasB kt kf (-(v : Int)) then visitN ns kt kf m (ns.getD a nd0).n1 (v + 1) op s1 else if op = 0 ∧ hasB kt kf (v : Int) = false then visitN ns kt kf m (ns.getD a nd0).n1 (v + 1) (v : Int) s1 else s1) = s2 at *
    simp only [Bool.false_eq_true, if_false]
    split
    · exact k2
    · rename_i hx
      split
      · rename_i hh
        rw [has_pos kt kf hv (by omega)] at hh
        have hwv := hk.t v hv (by omega) hh
        refine ih _ (v + 1) op s2 (by omega) (by omega) ho k2.1 k2.2 (fun ws hl h4 hq => ?_)
        rcases sub 2 ws (by decide) hl h4 hx hq with h | h
        · simp only [satW, hwv] at h
          rcases h with h | h | h
          · omega
          · simp at h
          · exact .inl h
        · exact .inr h
      · split
        · rename_i hcond
          refine ih _ (v + 1) (-(v : Int)) s2 (by omega) (by omega) (.inr hl2) k2.1 k2.2 (fun ws hl h4 hq => ?_)
          rcases sub 2 ws (by decide) hl h4 hx hq with h | h
          · simp only [satW] at h
            rcases h with h | h | h
            · omega
            · exact .inr ⟨by omega, .inr ⟨by omega, by rw [Int.neg_neg, Int.toNat_natCast]; exact h.2⟩⟩
            · exact .inl h
          · exact absurd hcond.1 h.1
        · exact k2

/-- every clause that stands there is so in the world -/
def Inv (W : Nat → Bool) (ns : List Nd) : Prop := ∀ ws, ws.length = 10 → (∀ k ∈ ws, k < 4) → leafP ns 0 ws ≠ 0 → satW W 1 ws
theorem fol_sound (W : Nat → Bool) (ns : List Nd) (hI : Inv W ns) : ∀ (m kt kf : Nat), kt < 2 ^ 11 → kf < 2 ^ 11 → KW W kt kf → fol ns m kt kf = false := by
  intro m
  induction m with
  | zero => intro kt kf _ _ _; rfl
  | succ m ih =>
    intro kt kf ht hf hk
    obtain ⟨h1, h2⟩ := visit_sound W ns kt kf hk 10 0 1 0 ⟨kt, kf, false⟩ rfl (by decide) (.inl rfl) rfl hk (fun ws hl h4 hq => .inl (hI ws hl h4 hq))
    obtain ⟨o1, o2⟩ := visitN_ok (ns := ns) (kt := kt) (kf := kf) 10 0 1 0 ⟨kt, kf, false⟩ rfl (by decide) (.inl rfl) ⟨ht, hf⟩
    simp only [fol, hk.twin ht, h1, Bool.false_eq_true, if_false]
    split
    · rfl
    · exact ih _ _ o1 o2 h2

end Go.Proofs.Ythboeppmlhbofaa
