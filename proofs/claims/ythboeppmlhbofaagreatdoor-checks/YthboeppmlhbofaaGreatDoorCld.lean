/-
  Pushing as the document says it: what it comes to, plain.
-/
import Derived.Test.YthboeppmlhbofaaGreatDoorMon
import Derived.Test.YthboeppmlhbofaaGreatDoorSnd
import Derived.Test.YthboeppmlhbofaaGreatDoorChk
namespace Go.Proofs.YthboeppmlhbofaaGreatDoor
open Go.RowKit Txt
set_option maxRecDepth 100000

theorem sub_and_bit : ∀ (c o i : Nat), (c - (c &&& o)).testBit i = (c.testBit i && !o.testBit i) := by
  intro c
  induction c using Nat.strongRecOn with
  | ind c ih =>
    intro o i
    by_cases h0 : c = 0
    · subst h0; simp
    have e1 : (c &&& o) / 2 = c / 2 &&& o / 2 := Nat.and_div_two
    have e2 : (c &&& o) % 2 = (c % 2) &&& (o % 2) := by
      have := @Nat.and_mod_two_pow c o 1
      simpa using this
    have h1 : c / 2 < c := by omega
    have hle : c / 2 &&& o / 2 ≤ c / 2 := Nat.and_le_left
    have hm : (c % 2 &&& o % 2) ≤ c % 2 := Nat.and_le_left
    have e3 : (c - (c &&& o)) / 2 = c / 2 - (c / 2 &&& o / 2) := by omega
    have e4 : (c - (c &&& o)) % 2 = c % 2 - (c % 2 &&& o % 2) := by omega
    cases i with
    | zero =>
      rw [Nat.testBit_zero, Nat.testBit_zero, Nat.testBit_zero, e4]
      rcases Nat.mod_two_eq_zero_or_one c with a | a <;> rcases Nat.mod_two_eq_zero_or_one o with b | b <;> rw [a, b] <;> decide
    | succ i =>
      rw [Nat.testBit_succ, Nat.testBit_succ, Nat.testBit_succ, e3]
      exact ih _ h1 _ _
theorem one_bit (x : Nat) : x ≠ 0 → (x &&& (x - 1) = 0 ↔ ∃ j, x = 2 ^ j) := by
  induction x using Nat.strongRecOn with
  | ind x ih =>
    intro h0
    have e1 : (x &&& (x - 1)) / 2 = x / 2 &&& (x - 1) / 2 := Nat.and_div_two
    have e2 : (x &&& (x - 1)) % 2 = 0 := by
      have := @Nat.and_mod_two_pow x (x - 1) 1
      simp at this
      rw [this]
      rcases Nat.mod_two_eq_zero_or_one x with a | a
      · rw [a]; simp
      · rw [show (x - 1) % 2 = 0 by omega]; simp
    rcases Nat.mod_two_eq_zero_or_one x with a | a
    · have e3 : (x - 1) / 2 = x / 2 - 1 := by omega
      rw [e3] at e1
      have := ih (x / 2) (by omega) (by omega)
      constructor
      · intro h
        obtain ⟨j, hj⟩ := this.1 (by omega)
        exact ⟨j + 1, by rw [Nat.pow_succ]; omega⟩
      · rintro ⟨j, hj⟩
        cases j with
        | zero => simp at hj; omega
        | succ j => have := this.2 ⟨j, by rw [Nat.pow_succ] at hj; omega⟩; omega
    · have e3 : (x - 1) / 2 = x / 2 := by omega
      rw [e3, Nat.and_self] at e1
      constructor
      · intro h; exact ⟨0, by simp; omega⟩
      · rintro ⟨j, hj⟩
        cases j with
        | zero => simp at hj; subst hj; decide
        | succ j => rw [Nat.pow_succ] at hj; omega
/-- numbers of any bits -/
theorem bits_are (b : Nat → Bool) : ∀ n, ∃ k, k < 2 ^ n ∧ ∀ i, i < n → k.testBit i = b i := by
  intro n
  induction n with
  | zero => exact ⟨0, by decide, fun i h => by omega⟩
  | succ n ih =>
    obtain ⟨k, hk, hb⟩ := ih
    have hz : k.testBit n = false := Nat.testBit_lt_two_pow hk
    have hp : 2 ^ n < 2 ^ (n + 1) := Nat.pow_lt_pow_right (by decide) (by omega)
    cases hn : b n with
    | false =>
      refine ⟨k, by omega, fun i hi => ?_⟩
      by_cases e : i = n
      · subst e; rw [hz, hn]
      · exact hb i (by omega)
    | true =>
      refine ⟨k ||| 2 ^ n, Nat.or_lt_two_pow (by omega) hp, fun i hi => ?_⟩
      rw [Nat.testBit_or, Nat.testBit_two_pow]
      by_cases e : i = n
      · subst e; rw [hz, hn]; simp
      · rw [hb i (by omega)]; simp; intro h; omega

/-- what is left of a clause -/
def leftN (c k : Nat) : Nat := c - (c &&& oppN k)
theorem left_bit (c k i : Nat) : (leftN c k).testBit i = (c.testBit i && !(oppN k).testBit i) := sub_and_bit c (oppN k) i
theorem left_le (c k : Nat) : leftN c k ≤ c := Nat.sub_le _ _
/-- once over the clauses -/
def passD : List Nat → Nat → Option Nat
  | [], k => some k
  | c :: cs, k => if leftN c k = 0 then none else passD cs (if leftN c k &&& (leftN c k - 1) = 0 then k ||| leftN c k else k)
def rndD (cs : List Nat) : Nat → Nat → Option Nat
  | 0, k => some k
  | m + 1, k => match passD cs k with
    | none => none
    | some k' => rndD cs m k'
/-- the document's Clash -/
def clashD (cs : List Nat) (k : Nat) : Bool := match rndD cs 21 k with
  | none => true
  | some k' => twinB k'

def SubN (a b : Nat) : Prop := ∀ i, a.testBit i = true → b.testBit i = true
theorem SubN.refl (a : Nat) : SubN a a := fun _ h => h
theorem SubN.trans {a b c : Nat} (h : SubN a b) (h' : SubN b c) : SubN a c := fun i q => h' i (h i q)
theorem SubN.anti {a b : Nat} (h : SubN a b) (h' : SubN b a) : a = b := by
  apply Nat.eq_of_testBit_eq
  intro i
  rw [Bool.eq_iff_iff]
  exact ⟨h i, h' i⟩
theorem SubN.or_left (a b : Nat) : SubN a (a ||| b) := fun i h => by rw [Nat.testBit_or, h]; rfl
theorem SubN.or {a b c : Nat} (h : SubN a c) (h' : SubN b c) : SubN (a ||| b) c := fun i q => by
  rw [Nat.testBit_or, Bool.or_eq_true] at q
  exact q.elim (h i) (h' i)
theorem SubN.opp {a b : Nat} (h : SubN a b) : SubN (oppN a) (oppN b) := fun i q => by
  rw [opp_bit] at q ⊢
  simp only [Bool.or_eq_true, Bool.and_eq_true] at q ⊢
  rcases q with ⟨q1, q2, q3⟩ | ⟨q1, q2⟩
  · exact .inl ⟨q1, h _ q2, q3⟩
  · exact .inr ⟨h _ q1, q2⟩
theorem SubN.twin {a b : Nat} (h : SubN a b) (hb : twinB b = false) : twinB a = false := by
  have hz : b &&& oppN b = 0 := by simpa [twinB] using hb
  have : a &&& oppN a = 0 := by
    apply Nat.eq_of_testBit_eq
    intro i
    rw [Nat.zero_testBit, Nat.testBit_and]
    cases p : a.testBit i with
    | false => rfl
    | true =>
      cases q : (oppN a).testBit i with
      | false => rfl
      | true =>
        have := congrArg (fun n => n.testBit i) hz
        simp only [Nat.testBit_and, h i p, h.opp i q, Nat.zero_testBit] at this
        simp at this
  simp [twinB, this]

/-- nothing more is known, and nothing clashes -/
def ClD (cs : List Nat) (k : Nat) : Prop := ∀ c ∈ cs, leftN c k ≠ 0 ∧ (leftN c k &&& (leftN c k - 1) = 0 → SubN (leftN c k) k)

theorem pass_sub : ∀ (cs : List Nat) (k k' : Nat), passD cs k = some k' → SubN k k' ∧ (k < 2 ^ 20 → (∀ c ∈ cs, c < 2 ^ 20) → k' < 2 ^ 20) := by
  intro cs
  induction cs with
  | nil => intro k k' h; simp only [passD, Option.some.injEq] at h; subst h; exact ⟨SubN.refl _, fun h _ => h⟩
  | cons c cs ih =>
    intro k k' h
    simp only [passD] at h
    split at h
    · simp at h
    · obtain ⟨h1, h2⟩ := ih _ _ h
      split at h1
      · rename_i hs
        refine ⟨(SubN.or_left _ _).trans h1, fun a b => h2 ?_ (fun x hx => b x (List.mem_cons_of_mem _ hx))⟩
        rw [if_pos hs]
        exact Nat.or_lt_two_pow a (Nat.lt_of_le_of_lt (left_le _ _) (b c (List.mem_cons_self ..)))
      · rename_i hs
        refine ⟨h1, fun a b => h2 ?_ (fun x hx => b x (List.mem_cons_of_mem _ hx))⟩
        rw [if_neg hs]
        exact a
theorem pass_fix : ∀ (cs : List Nat) (k : Nat), passD cs k = some k → ClD cs k := by
  intro cs
  induction cs with
  | nil => intro k _ c hc; simp at hc
  | cons c cs ih =>
    intro k h
    simp only [passD] at h
    split at h
    · simp at h
    · rename_i h0
      obtain ⟨h1, _⟩ := pass_sub _ _ _ h
      split at h
      · rename_i hs
        rw [if_pos hs] at h1
        have e : k ||| leftN c k = k := SubN.anti h1 (SubN.or_left _ _)
        rw [e] at h
        intro x hx
        rcases List.mem_cons.1 hx with rfl | hx
        · exact ⟨h0, fun _ i q => h1 i (by rw [Nat.testBit_or, q, Bool.or_true])⟩
        · exact ih k h x hx
      · rename_i hs
        intro x hx
        rcases List.mem_cons.1 hx with rfl | hx
        · exact ⟨h0, fun q => absurd q hs⟩
        · exact ih k h x hx
theorem size_mono {a b : Nat} (h : SubN a b) : ∀ n, sizeTo a n ≤ sizeTo b n ∧ ((∃ i, i < n ∧ a.testBit i = false ∧ b.testBit i = true) → sizeTo a n < sizeTo b n) := by
  intro n
  induction n with
  | zero => exact ⟨Nat.le_refl _, fun ⟨i, h, _⟩ => by omega⟩
  | succ n ih =>
    obtain ⟨h1, h2⟩ := ih
    simp only [sizeTo, bit_div]
    have hb : (a.testBit n).toNat ≤ (b.testBit n).toNat := by
      cases p : a.testBit n with
      | false => simp
      | true => rw [h n p]; simp
    refine ⟨by omega, ?_⟩
    rintro ⟨i, hi, p, q⟩
    by_cases e : i = n
    · subst e; rw [p, q]; simp; omega
    · have := h2 ⟨i, by omega, p, q⟩; omega
theorem size_lt {a b : Nat} (h : SubN a b) (hb : b < 2 ^ 20) (hne : a ≠ b) : sizeN a < sizeN b := by
  refine (size_mono h 20).2 ?_
  apply Classical.byContradiction
  intro hn
  apply hne
  refine SubN.anti h (fun i q => ?_)
  have hi : i < 20 := by
    apply Classical.byContradiction
    intro hge
    rw [Nat.testBit_lt_two_pow (Nat.lt_of_lt_of_le hb (Nat.pow_le_pow_right (by decide) (by omega)))] at q
    simp at q
  cases p : a.testBit i with
  | true => rfl
  | false => exact absurd ⟨i, hi, p, q⟩ hn
theorem rnd_stay (cs : List Nat) (k : Nat) (h : passD cs k = some k) : ∀ m, rndD cs m k = some k := by
  intro m
  induction m with
  | zero => rfl
  | succ m ih => simp only [rndD, h]; exact ih
theorem rnd_fix (cs : List Nat) (hc : ∀ c ∈ cs, c < 2 ^ 20) : ∀ (m k k' : Nat), k < 2 ^ 20 → rndD cs m k = some k' → 20 < sizeN k + m → passD cs k' = some k' ∧ SubN k k' ∧ k' < 2 ^ 20 := by
  intro m
  induction m with
  | zero => intro k k' _ _ h; have := sizeN_le k; omega
  | succ m ih =>
    intro k k' hk h hs
    simp only [rndD] at h
    cases hp : passD cs k with
    | none => rw [hp] at h; simp at h
    | some k1 =>
      rw [hp] at h
      simp only at h
      obtain ⟨h1, h2⟩ := pass_sub _ _ _ hp
      by_cases e : k = k1
      · subst e
        rw [rnd_stay cs k hp m] at h
        simp only [Option.some.injEq] at h
        subst h
        exact ⟨hp, SubN.refl _, hk⟩
      · have := size_lt h1 (h2 hk hc) e
        obtain ⟨a1, a2, a3⟩ := ih k1 k' (h2 hk hc) h (by omega)
        exact ⟨a1, h1.trans a2, a3⟩
theorem clash_false (cs : List Nat) (hc : ∀ c ∈ cs, c < 2 ^ 20) (k : Nat) (hk : k < 2 ^ 20) (h : clashD cs k = false) : ∃ K, K < 2 ^ 20 ∧ SubN k K ∧ twinB K = false ∧ ClD cs K := by
  unfold clashD at h
  cases hr : rndD cs 21 k with
  | none => rw [hr] at h; simp at h
  | some K =>
    rw [hr] at h
    obtain ⟨h1, h2, h3⟩ := rnd_fix cs hc 21 k K hk hr (by omega)
    exact ⟨K, h3, h2, h, pass_fix _ _ h1⟩
theorem left_anti {k K : Nat} (h : SubN k K) (c : Nat) : SubN (leftN c K) (leftN c k) := fun i q => by
  rw [left_bit, Bool.and_eq_true] at q ⊢
  refine ⟨q.1, ?_⟩
  cases p : (oppN k).testBit i with
  | false => rfl
  | true => rw [h.opp i p] at q; simp at q
theorem sub_one {x j : Nat} (h : SubN x (2 ^ j)) (h0 : x ≠ 0) : x = 2 ^ j := by
  refine SubN.anti h (fun i q => ?_)
  rw [Nat.testBit_two_pow] at q
  have e : j = i := by simpa using q
  subst e
  cases p : x.testBit j with
  | true => rfl
  | false =>
    exfalso
    apply h0
    apply Nat.eq_of_testBit_eq
    intro i
    rw [Nat.zero_testBit]
    cases r : x.testBit i with
    | false => rfl
    | true =>
      have := h i r
      rw [Nat.testBit_two_pow] at this
      have e : j = i := by simpa using this
      subst e
      rw [p] at r
      exact absurd r (by simp)
theorem pass_stay {K : Nat} : ∀ (cs : List Nat), ClD cs K → ∀ k, SubN k K → ∃ k', passD cs k = some k' ∧ SubN k' K := by
  intro cs
  induction cs with
  | nil => intro _ k h; exact ⟨k, rfl, h⟩
  | cons c cs ih =>
    intro hC k h
    obtain ⟨h1, h2⟩ := hC c (List.mem_cons_self ..)
    have hC' : ClD cs K := fun x hx => hC x (List.mem_cons_of_mem _ hx)
    have ha := left_anti h c
    have h0 : leftN c k ≠ 0 := fun e => by
      apply h1
      refine SubN.anti (fun i q => ?_) (fun i q => by rw [Nat.zero_testBit] at q; simp at q)
      rw [← e]; exact ha i q
    simp only [passD]
    rw [if_neg h0]
    by_cases hs : leftN c k &&& (leftN c k - 1) = 0
    · rw [if_pos hs]
      obtain ⟨j, hj⟩ := (one_bit _ h0).1 hs
      have e : leftN c K = leftN c k := by rw [hj] at ha ⊢; exact sub_one ha h1
      exact ih hC' _ (h.or (by rw [← e]; exact h2 (by rw [e]; exact hs)))
    · rw [if_neg hs]
      exact ih hC' k h
theorem clash_stay {cs : List Nat} {K : Nat} (hC : ClD cs K) (ht : twinB K = false) {k : Nat} (h : SubN k K) : clashD cs k = false := by
  have key : ∀ m k, SubN k K → ∃ k', rndD cs m k = some k' ∧ SubN k' K := by
    intro m
    induction m with
    | zero => intro k h; exact ⟨k, rfl, h⟩
    | succ m ih =>
      intro k h
      obtain ⟨k1, e1, h1⟩ := pass_stay cs hC k h
      obtain ⟨k2, e2, h2⟩ := ih k1 h1
      exact ⟨k2, by simp only [rndD, e1]; exact e2, h2⟩
  obtain ⟨k', e, h'⟩ := key 21 k h
  unfold clashD
  rw [e]
  exact h'.twin ht

end Go.Proofs.YthboeppmlhbofaaGreatDoor

/-
  What stands there: the program's tree against the document's list; what follows by pushing is the same. Plain.
-/
namespace Go.Proofs.YthboeppmlhbofaaGreatDoor
open Go.RowKit Txt
set_option maxRecDepth 100000

/-- all that a clause has of a variable is known not to be so -/
def offU (t f kt kf u : Nat) : Prop := (t.testBit u = false ∧ f.testBit u = false) ∨ (t.testBit u = true ∧ f.testBit u = false ∧ kf.testBit u = true) ∨ (t.testBit u = false ∧ f.testBit u = true ∧ kt.testBit u = true)
/-- a literal of a clause that is open -/
def opnU (t f kt kf u : Nat) (x : Int) : Prop := ((t.testBit u = true ∧ f.testBit u = false ∧ x = (u : Int)) ∨ (t.testBit u = false ∧ f.testBit u = true ∧ x = -(u : Int))) ∧ kt.testBit u = false ∧ kf.testBit u = false
theorem off_way {t f kt kf v : Nat} (h1 : 1 ≤ v) (h2 : v ≤ 10) : (wayN t f (v : Int) = 0 ∨ offK kt kf v (wayN t f (v : Int))) ↔ offU t f kt kf v := by
  rw [way_bits t f h1 h2]
  unfold offK offU
  cases t.testBit v <;> cases f.testBit v <;> simp
theorem allOff_ways (t f kt kf : Nat) : ∀ (m v : Nat), 1 ≤ v → v + m ≤ 11 → (allOff kt kf v (ways t f v m) ↔ ∀ u, v ≤ u → u < v + m → offU t f kt kf u) := by
  intro m
  induction m with
  | zero => intro v _ _; exact ⟨fun _ u a b => by omega, fun _ => trivial⟩
  | succ m ih =>
    intro v h1 h2
    simp only [ways, allOff]
    rw [ih (v + 1) (by omega) (by omega), off_way h1 (by omega)]
    constructor
    · rintro ⟨a, b⟩ u hu hl
      by_cases e : u = v
      · subst e; exact a
      · exact b u (by omega) (by omega)
    · intro h
      exact ⟨h v (Nat.le_refl _) (by omega), fun u a b => h u (by omega) (by omega)⟩
theorem opn_way {t f kt kf v : Nat} {x : Int} (h1 : 1 ≤ v) (h2 : v ≤ 10) : (((wayN t f (v : Int) = 1 ∧ x = (v : Int)) ∨ (wayN t f (v : Int) = 2 ∧ x = -(v : Int))) ∧ ¬ hasK kt kf v (wayN t f (v : Int)) ∧ ¬ offK kt kf v (wayN t f (v : Int))) ↔ opnU t f kt kf v x := by
  rw [way_bits t f h1 h2]
  unfold offK hasK opnU
  cases t.testBit v <;> cases f.testBit v <;> cases kt.testBit v <;> cases kf.testBit v <;> simp
theorem oneOpen_ways (t f kt kf : Nat) (x : Int) : ∀ (m v : Nat), 1 ≤ v → v + m ≤ 11 → (oneOpen kt kf v (ways t f v m) x ↔ ∃ u, v ≤ u ∧ u < v + m ∧ opnU t f kt kf u x ∧ ∀ u', v ≤ u' → u' < v + m → u' ≠ u → offU t f kt kf u') := by
  intro m
  induction m with
  | zero => intro v _ _; exact ⟨fun h => h.elim, fun ⟨u, a, b, _⟩ => by omega⟩
  | succ m ih =>
    intro v h1 h2
    simp only [ways, oneOpen]
    rw [ih (v + 1) (by omega) (by omega), off_way h1 (by omega), allOff_ways t f kt kf m (v + 1) (by omega) (by omega)]
    constructor
    · rintro (⟨a, u, b1, b2, b3, b4⟩ | ⟨a1, a2, a3, a4⟩)
      · refine ⟨u, by omega, by omega, b3, fun u' c1 c2 c3 => ?_⟩
        by_cases e : u' = v
        · subst e; exact a
        · exact b4 u' (by omega) (by omega) c3
      · exact ⟨v, Nat.le_refl _, by omega, (opn_way h1 (by omega)).1 ⟨a1, a2, a3⟩, fun u' c1 c2 c3 => a4 u' (by omega) (by omega)⟩
    · rintro ⟨u, b1, b2, b3, b4⟩
      by_cases e : u = v
      · subst e
        obtain ⟨a1, a2, a3⟩ := (opn_way h1 (by omega)).2 b3
        exact .inr ⟨a1, a2, a3, fun u' c1 c2 => b4 u' (by omega) (by omega) (by omega)⟩
      · exact .inl ⟨b4 v (Nat.le_refl _) (by omega) (fun h => e h.symm), u, by omega, by omega, b3, fun u' c1 c2 c3 => b4 u' (by omega) (by omega) c3⟩

/-- one number's bits are two numbers' -/
structure Bt (k kt kf : Nat) : Prop where
  pos : ∀ v, v < 10 → k.testBit (2 * v) = kt.testBit (v + 1)
  neg : ∀ v, v < 10 → k.testBit (2 * v + 1) = kf.testBit (v + 1)
  top : k < 2 ^ 20
theorem Two.bt {s t f : Nat} (h : Two s t f) : Bt s t f := ⟨h.pos, h.neg, h.top⟩
theorem bt_is (kt kf : Nat) : ∃ k, Bt k kt kf := by
  obtain ⟨k, h1, h2⟩ := bits_are (fun i => if i % 2 = 0 then kt.testBit (i / 2 + 1) else kf.testBit (i / 2 + 1)) 20
  refine ⟨k, fun v hv => ?_, fun v hv => ?_, h1⟩
  · rw [h2 _ (by omega), if_pos (by omega), show 2 * v / 2 = v by omega]
  · rw [h2 _ (by omega), if_neg (by omega), show (2 * v + 1) / 2 = v by omega]
theorem two_is (k : Nat) (hk : k < 2 ^ 20) : ∃ kt kf, Two k kt kf := by
  obtain ⟨t, t1, t2⟩ := bits_are (fun i => if i = 0 then false else k.testBit (2 * (i - 1))) 11
  obtain ⟨f, f1, f2⟩ := bits_are (fun i => if i = 0 then false else k.testBit (2 * (i - 1) + 1)) 11
  refine ⟨t, f, fun v hv => ?_, fun v hv => ?_, hk, ?_, ?_, t1, f1⟩
  · rw [t2 _ (by omega), if_neg (by omega), Nat.add_sub_cancel]
  · rw [f2 _ (by omega), if_neg (by omega), Nat.add_sub_cancel]
  · rw [t2 _ (by omega), if_pos rfl]
  · rw [f2 _ (by omega), if_pos rfl]
theorem left_pos {s t f k kt kf : Nat} (h : Bt s t f) (hk : Bt k kt kf) {v : Nat} (hv : v < 10) : (leftN s k).testBit (2 * v) = (t.testBit (v + 1) && !kf.testBit (v + 1)) := by
  rw [left_bit, opp_bit_even k v hv, h.pos v hv, hk.neg v hv]
theorem left_neg {s t f k kt kf : Nat} (h : Bt s t f) (hk : Bt k kt kf) {v : Nat} (hv : v < 10) : (leftN s k).testBit (2 * v + 1) = (f.testBit (v + 1) && !kt.testBit (v + 1)) := by
  rw [left_bit, opp_bit_odd k v hv, h.neg v hv, hk.pos v hv]
theorem left_top {s t f : Nat} (h : Bt s t f) (k : Nat) : leftN s k < 2 ^ 20 := Nat.lt_of_le_of_lt (left_le _ _) h.top
theorem bit_lt {n x i : Nat} (hx : x < 2 ^ n) (h : x.testBit i = true) : i < n := by
  apply Classical.byContradiction
  intro hge
  rw [Nat.testBit_lt_two_pow (Nat.lt_of_lt_of_le hx (Nat.pow_le_pow_right (by decide) (by omega)))] at h
  simp at h
/-- all of a clause is off: nothing is left -/
theorem left_none {s t f k kt kf : Nat} (h : Bt s t f) (hk : Bt k kt kf) (ha : ∀ u, 1 ≤ u → u < 11 → offU t f kt kf u) : leftN s k = 0 := by
  refine zero_of_bits (left_top h k) (fun v hv => ?_) (fun v hv => ?_)
  · rw [left_pos h hk hv]
    rcases ha (v + 1) (by omega) (by omega) with ⟨a, b⟩ | ⟨a, b, c⟩ | ⟨a, b, c⟩
    · rw [a]; rfl
    · rw [a, c]; rfl
    · rw [a]; rfl
  · rw [left_neg h hk hv]
    rcases ha (v + 1) (by omega) (by omega) with ⟨a, b⟩ | ⟨a, b, c⟩ | ⟨a, b, c⟩
    · rw [b]; rfl
    · rw [b]; rfl
    · rw [b, c]; rfl
theorem bo1 : ∀ a b c d : Bool, false = (a && !d) → false = (b && !c) → ¬ (a = true ∧ b = true) → ((a = false ∧ b = false) ∨ (a = true ∧ b = false ∧ d = true) ∨ (a = false ∧ b = true ∧ c = true)) := by decide
theorem bo2 : ∀ a b d : Bool, true = (a && !d) → ¬ (a = true ∧ b = true) → a = true ∧ b = false ∧ d = false := by decide
theorem bo3 : ∀ c d : Bool, false = !d → false = !c → ¬ (c = true ∧ d = true) → False := by decide
theorem bo4 : ∀ c d : Bool, c = true → ¬ (c = true ∧ d = true) → d = false := by decide
theorem bo5 : ∀ a b c d : Bool, ((a = false ∧ b = false) ∨ (a = true ∧ b = false ∧ d = true) ∨ (a = false ∧ b = true ∧ c = true)) → true = (a && !d) → False := by decide
theorem bo6 : ∀ a b c d : Bool, ((a = false ∧ b = false) ∨ (a = true ∧ b = false ∧ d = true) ∨ (a = false ∧ b = true ∧ c = true)) → true = (b && !c) → False := by decide
theorem nat_par (i : Nat) : i = 2 * (i / 2) ∨ i = 2 * (i / 2) + 1 := by omega
/-- a clause that leaves nothing more to be known: as the document looks at it, in the program's bits -/
theorem ok_bits {s t f k kt kf : Nat} (h : Bt s t f) (hk : Bt k kt kf) (hd : ∀ u, 1 ≤ u → u < 11 → ¬ (kt.testBit u = true ∧ kf.testBit u = true))
    (ho : (∀ u, 1 ≤ u → u < 11 → ¬ (t.testBit u = true ∧ f.testBit u = true)) → (¬ ∀ u, 1 ≤ u → u < 11 → offU t f kt kf u) ∧ ∀ x, ¬ ∃ u, 1 ≤ u ∧ u < 11 ∧ opnU t f kt kf u x ∧ ∀ u', 1 ≤ u' → u' < 11 → u' ≠ u → offU t f kt kf u') :
    leftN s k ≠ 0 ∧ (leftN s k &&& (leftN s k - 1) = 0 → SubN (leftN s k) k) := by
  by_cases hn : ∀ u, 1 ≤ u → u < 11 → ¬ (t.testBit u = true ∧ f.testBit u = true)
  · obtain ⟨o1, o2⟩ := ho hn
    have h0 : leftN s k ≠ 0 := fun e => by
      apply o1
      intro u hu1 hu2
      have p := left_pos h hk (v := u - 1) (by omega)
      have q := left_neg h hk (v := u - 1) (by omega)
      rw [e, Nat.zero_testBit, show u - 1 + 1 = u by omega] at p q
      exact bo1 _ _ _ _ p q (hn u hu1 hu2)
    refine ⟨h0, fun hs i hi => ?_⟩
    obtain ⟨j, hj⟩ := (one_bit _ h0).1 hs
    have e : j = i := by rw [hj, Nat.testBit_two_pow] at hi; simpa using hi
    subst e
    have hj20 : j < 20 := bit_lt (left_top h k) hi
    apply Classical.byContradiction
    intro hkj
    have hkj' : k.testBit j = false := by simpa using hkj
    have oth : ∀ i, i ≠ j → (leftN s k).testBit i = false := fun i hne => by rw [hj, Nat.testBit_two_pow]; simp; omega
    have off : ∀ u, 1 ≤ u → u < 11 → u ≠ j / 2 + 1 → offU t f kt kf u := by
      intro u h1 h2 h3
      have p := left_pos h hk (v := u - 1) (by omega)
      have q := left_neg h hk (v := u - 1) (by omega)
      rw [oth _ (by omega), show u - 1 + 1 = u by omega] at p q
      exact bo1 _ _ _ _ p q (hn u h1 h2)
    have hnu := hn (j / 2 + 1) (by omega) (by omega)
    rcases nat_par j with e | e
    · have p := left_pos h hk (v := j / 2) (by omega)
      rw [← e, hi] at p
      have z := hk.pos (j / 2) (by omega)
      rw [← e, hkj'] at z
      obtain ⟨b1, b2, b3⟩ := bo2 _ _ _ p hnu
      exact o2 ((j / 2 + 1 : Nat) : Int) ⟨j / 2 + 1, by omega, by omega, ⟨.inl ⟨b1, b2, rfl⟩, z.symm, b3⟩, off⟩
    · have p := left_neg h hk (v := j / 2) (by omega)
      rw [← e, hi] at p
      have z := hk.neg (j / 2) (by omega)
      rw [← e, hkj'] at z
      obtain ⟨b1, b2, b3⟩ := bo2 _ _ _ p (fun q => hnu ⟨q.2, q.1⟩)
      exact o2 (-((j / 2 + 1 : Nat) : Int)) ⟨j / 2 + 1, by omega, by omega, ⟨.inr ⟨b2, b1, rfl⟩, b3, z.symm⟩, off⟩
  · have : ∃ u, 1 ≤ u ∧ u < 11 ∧ t.testBit u = true ∧ f.testBit u = true := by
      apply Classical.byContradiction
      intro hc
      exact hn fun u a b c => hc ⟨u, a, b, c.1, c.2⟩
    obtain ⟨u, u1, u2, ut, uf⟩ := this
    have p := left_pos h hk (v := u - 1) (by omega)
    have q := left_neg h hk (v := u - 1) (by omega)
    have z1 := hk.pos (u - 1) (by omega)
    have z2 := hk.neg (u - 1) (by omega)
    rw [show u - 1 + 1 = u by omega] at p q z1 z2
    rw [ut, Bool.true_and] at p
    rw [uf, Bool.true_and] at q
    have hdu := hd u u1 u2
    have h0 : leftN s k ≠ 0 := fun e => by
      rw [e, Nat.zero_testBit] at p q
      exact bo3 _ _ p q hdu
    refine ⟨h0, fun hs i hi => ?_⟩
    obtain ⟨j, hj⟩ := (one_bit _ h0).1 hs
    have e : j = i := by rw [hj, Nat.testBit_two_pow] at hi; simpa using hi
    subst e
    rw [hj, Nat.testBit_two_pow] at p q
    cases c : kt.testBit u with
    | true =>
      have d : kf.testBit u = false := bo4 _ _ c hdu
      rw [d] at p
      have e : j = 2 * (u - 1) := by simpa using p
      rw [e, z1, c]
    | false =>
      rw [c] at q
      have e : j = 2 * (u - 1) + 1 := by simpa using q
      rw [e, z2]
      cases d : kf.testBit u with
      | true => rfl
      | false =>
        rw [d] at p
        have e' : j = 2 * (u - 1) := by simpa using p
        omega
theorem bits_ok {s t f k kt kf : Nat} (h : Bt s t f) (hk : Bt k kt kf) (ho : leftN s k ≠ 0 ∧ (leftN s k &&& (leftN s k - 1) = 0 → SubN (leftN s k) k)) :
    (¬ ∀ u, 1 ≤ u → u < 11 → offU t f kt kf u) ∧ ∀ x, ¬ ∃ u, 1 ≤ u ∧ u < 11 ∧ opnU t f kt kf u x ∧ ∀ u', 1 ≤ u' → u' < 11 → u' ≠ u → offU t f kt kf u' := by
  refine ⟨fun ha => ho.1 (left_none h hk ha), ?_⟩
  rintro x ⟨u, u1, u2, ⟨hx, ktf, kff⟩, off⟩
  have oth : ∀ i, i / 2 + 1 ≠ u → (leftN s k).testBit i = false := by
    intro i hi
    cases hb : (leftN s k).testBit i with
    | false => rfl
    | true =>
      have h20 := bit_lt (left_top h k) hb
      have hof := off (i / 2 + 1) (by omega) (by omega) hi
      rcases nat_par i with e | e
      · have p := left_pos h hk (v := i / 2) (by omega)
        rw [← e, hb] at p
        exact (bo5 _ _ _ _ hof p).elim
      · have p := left_neg h hk (v := i / 2) (by omega)
        rw [← e, hb] at p
        exact (bo6 _ _ _ _ hof p).elim
  have p := left_pos h hk (v := u - 1) (by omega)
  have q := left_neg h hk (v := u - 1) (by omega)
  have z1 := hk.pos (u - 1) (by omega)
  have z2 := hk.neg (u - 1) (by omega)
  rw [show u - 1 + 1 = u by omega] at p q z1 z2
  rw [kff] at p z2
  rw [ktf] at q z1
  rcases hx with ⟨a, b, _⟩ | ⟨a, b, _⟩
  · rw [a] at p
    rw [b] at q
    have e : leftN s k = 2 ^ (2 * (u - 1)) := by
      apply Nat.eq_of_testBit_eq
      intro i
      rw [Nat.testBit_two_pow]
      by_cases e1 : i / 2 + 1 = u
      · rcases nat_par i with e | e
        · have : i = 2 * (u - 1) := by omega
          rw [this, p]; simp
        · have : i = 2 * (u - 1) + 1 := by omega
          rw [this, q]; simp
      · rw [oth i e1]; symm; simp; omega
    have := ho.2 ((one_bit _ ho.1).2 ⟨_, e⟩) (2 * (u - 1)) (by rw [p]; rfl)
    rw [z1] at this
    simp at this
  · rw [a] at p
    rw [b] at q
    have e : leftN s k = 2 ^ (2 * (u - 1) + 1) := by
      apply Nat.eq_of_testBit_eq
      intro i
      rw [Nat.testBit_two_pow]
      by_cases e1 : i / 2 + 1 = u
      · rcases nat_par i with e | e
        · have : i = 2 * (u - 1) := by omega
          rw [this, p]; simp
        · have : i = 2 * (u - 1) + 1 := by omega
          rw [this, q]; simp
      · rw [oth i e1]; symm; simp; omega
    have := ho.2 ((one_bit _ ho.1).2 ⟨_, e⟩) (2 * (u - 1) + 1) (by rw [q]; rfl)
    rw [z2] at this
    simp at this

/-- any way is a clause's -/
theorem ways_is (ws : List Nat) (hl : ws.length = 10) (h4 : ∀ k ∈ ws, k < 4) : ∃ t f, t < 2 ^ 11 ∧ f < 2 ^ 11 ∧ t.testBit 0 = false ∧ f.testBit 0 = false ∧ ways t f 1 10 = ws := by
  obtain ⟨t, t1, t2⟩ := bits_are (fun i => if i = 0 then false else decide ((ws.getD (i - 1) 0) % 2 = 1)) 11
  obtain ⟨f, f1, f2⟩ := bits_are (fun i => if i = 0 then false else decide (2 ≤ (ws.getD (i - 1) 0))) 11
  refine ⟨t, f, t1, f1, by rw [t2 _ (by omega), if_pos rfl], by rw [f2 _ (by omega), if_pos rfl], ?_⟩
  have key : ∀ (m v : Nat) (l : List Nat), 1 ≤ v → v + m = 11 → l = ws.drop (v - 1) → ways t f v m = l := by
    intro m
    induction m with
    | zero =>
      intro v l h1 h2 e
      have : ws.drop (v - 1) = [] := List.drop_eq_nil_of_le (by omega)
      rw [e, this]; rfl
    | succ m ih =>
      intro v l h1 h2 e
      have hlt : v - 1 < ws.length := by omega
      rw [List.drop_eq_getElem_cons hlt] at e
      rw [e]
      simp only [ways]
      have hg : ws.getD (v - 1) 0 = ws[v - 1] := by rw [List.getD_eq_getElem?_getD, List.getElem?_eq_getElem hlt]; rfl
      have hk := h4 ws[v - 1] (List.getElem_mem hlt)
      congr 1
      · rw [way_bits t f h1 (by omega), t2 _ (by omega), f2 _ (by omega), if_neg (by omega), if_neg (by omega), hg]
        generalize ws[v - 1] = k at *
        match k, hk with
        | 0, _ => rfl
        | 1, _ => rfl
        | 2, _ => rfl
        | 3, _ => rfl
      · exact ih (v + 1) _ (by omega) (by omega) (by rw [show v - 1 + 1 = v + 1 - 1 by omega])
  exact key 10 1 ws (by omega) rfl (by simp)
theorem ways_three (t f : Nat) : ∀ (m v : Nat), 1 ≤ v → v + m ≤ 11 → ((∀ k ∈ ways t f v m, k < 3) ↔ ∀ u, v ≤ u → u < v + m → ¬ (t.testBit u = true ∧ f.testBit u = true)) := by
  intro m
  induction m with
  | zero => intro v _ _; exact ⟨fun _ u a b => by omega, fun _ k hk => by simp [ways] at hk⟩
  | succ m ih =>
    intro v h1 h2
    have hh : wayN t f (v : Int) < 3 ↔ ¬ (t.testBit v = true ∧ f.testBit v = true) := by
      rw [way_bits t f h1 (by omega)]
      cases t.testBit v <;> cases f.testBit v <;> simp
    constructor
    · intro h u a b
      by_cases e : u = v
      · subst e; exact hh.1 (h _ (by simp [ways]))
      · exact (ih (v + 1) (by omega) (by omega)).1 (fun k hk => h k (by simp only [ways]; exact List.mem_cons_of_mem _ hk)) u (by omega) (by omega)
    · intro h k hk
      simp only [ways] at hk
      rcases List.mem_cons.1 hk with rfl | hk
      · exact hh.2 (h v (Nat.le_refl _) (by omega))
      · exact (ih (v + 1) (by omega) (by omega)).2 (fun u a b => h u (by omega) (by omega)) k hk

/-- the tree has what the list has -/
structure Stand (ns : List Nd) (cs : List Nat) : Prop where
  tre : Tre ns
  top : ∀ c ∈ cs, c < 2 ^ 20
  cnt : ∀ s t f, Two s t f → leafP ns 0 (ways t f 1 10) = cs.count s
theorem disj_bits {kt kf : Nat} (h : (kt &&& kf != 0) = false) (u : Nat) : ¬ (kt.testBit u = true ∧ kf.testBit u = true) := by
  rintro ⟨a, b⟩
  have hz : kt &&& kf = 0 := by simpa using h
  have := congrArg (fun n => n.testBit u) hz
  simp [Nat.testBit_and, a, b] at this
theorem Bt.twin {k kt kf : Nat} (h : Bt k kt kf) (hd : ∀ u, 1 ≤ u → u < 11 → ¬ (kt.testBit u = true ∧ kf.testBit u = true)) : twinB k = false := by
  obtain ⟨t, f, h2⟩ := two_is k h.top
  rw [h2.twin]
  have : t &&& f = 0 := by
    refine lt_of_bits (Nat.and_lt_two_pow _ h2.lf) (by rw [Nat.testBit_and, h2.zt]; rfl) (fun v hv => ?_)
    rw [Nat.testBit_and, ← h2.pos v hv, ← h2.neg v hv, h.pos v hv, h.neg v hv]
    have := hd (v + 1) (by omega) (by omega)
    cases a : kt.testBit (v + 1) with
    | false => rfl
    | true =>
      cases b : kf.testBit (v + 1) with
      | false => rfl
      | true => exact absurd ⟨a, b⟩ this
  simp [this]
/-- the sets that pushing can't leave are the same -/
theorem Stand.closed {ns : List Nd} {cs : List Nat} (h : Stand ns cs) {k kt kf : Nat} (hk : Bt k kt kf) (hd : ∀ u, 1 ≤ u → u < 11 → ¬ (kt.testBit u = true ∧ kf.testBit u = true)) : ClosedK ns kt kf ↔ ClD cs k := by
  constructor
  · intro hC c hc
    obtain ⟨t, f, h2⟩ := two_is c (h.top c hc)
    refine ok_bits h2.bt hk hd (fun hn => ?_)
    have hq : leafP ns 0 (ways t f 1 10) ≠ 0 := by
      rw [h.cnt c t f h2]
      have := List.count_pos_iff.2 hc
      omega
    obtain ⟨a, b⟩ := hC (ways t f 1 10) (ways_len t f 10 1) ((ways_three t f 10 1 (by omega) (by omega)).2 hn) hq
    rw [allOff_ways t f kt kf 10 1 (by omega) (by omega)] at a
    exact ⟨a, fun x hx => b x ((oneOpen_ways t f kt kf x 10 1 (by omega) (by omega)).2 hx)⟩
  · intro hC ws hl h3 hq
    obtain ⟨t, f, t1, f1, t0, f0, rfl⟩ := ways_is ws hl (fun k hk => Nat.lt_succ_of_lt (h3 k hk))
    obtain ⟨s, hs⟩ := bt_is t f
    have h2 : Two s t f := ⟨hs.pos, hs.neg, hs.top, t0, f0, t1, f1⟩
    rw [h.cnt s t f h2] at hq
    have hm : s ∈ cs := List.count_pos_iff.1 (by omega)
    obtain ⟨a, b⟩ := bits_ok hs hk (hC s hm)
    rw [allOff_ways t f kt kf 10 1 (by omega) (by omega)]
    exact ⟨a, fun x hx => b x ((oneOpen_ways t f kt kf x 10 1 (by omega) (by omega)).1 hx)⟩
theorem SubK.sub {a b kt kf k K Kt Kf : Nat} (h : Two k a b) (hK : Bt K Kt Kf) (hs : SubK a b Kt Kf) (_ : kt = kf) : SubN k K := by
  intro i hi
  have h20 := bit_lt h.top hi
  rcases nat_par i with e | e
  · rw [e, h.pos _ (by omega)] at hi
    rw [e, hK.pos _ (by omega)]
    exact hs.t _ hi
  · rw [e, h.neg _ (by omega)] at hi
    rw [e, hK.neg _ (by omega)]
    exact hs.f _ hi
/-- pushing from some literals comes to a clash in the tree where it does in the list -/
theorem Stand.folS {ns : List Nd} {cs : List Nat} (h : Stand ns cs) {k kt kf : Nat} (hk : Two k kt kf) : fol ns 4096 kt kf = clashD cs k := by
  cases hb : clashD cs k with
  | false =>
    obtain ⟨K, h1, h2, h3, h4⟩ := clash_false cs h.top k hk.top hb
    obtain ⟨Kt, Kf, hK⟩ := two_is K h1
    have ht := hK.twin
    rw [h3] at ht
    refine fol_stay ns Kt Kf ht.symm ((h.closed hK.bt (fun u _ _ => disj_bits ht.symm u)).2 h4) 4096 kt kf ⟨fun v hv => ?_, fun v hv => ?_⟩
    · have h11 := bit_lt hk.lt hv
      have h0 : v ≠ 0 := fun e => by subst e; rw [hk.zt] at hv; simp at hv
      have a := hk.pos (v - 1) (by omega)
      have b := hK.pos (v - 1) (by omega)
      rw [show v - 1 + 1 = v by omega] at a b
      rw [← b]; exact h2 _ (by rw [a]; exact hv)
    · have h11 := bit_lt hk.lf hv
      have h0 : v ≠ 0 := fun e => by subst e; rw [hk.zf] at hv; simp at hv
      have a := hk.neg (v - 1) (by omega)
      have b := hK.neg (v - 1) (by omega)
      rw [show v - 1 + 1 = v by omega] at a b
      rw [← b]; exact h2 _ (by rw [a]; exact hv)
  | true =>
    cases hf : fol ns 4096 kt kf with
    | true => rfl
    | false =>
      obtain ⟨Kt, Kf, a1, a2, a3⟩ := fol_false ns 4096 kt kf hk.lt hk.lf (by omega) hf
      obtain ⟨K, hK⟩ := bt_is Kt Kf
      have hd : ∀ u, 1 ≤ u → u < 11 → ¬ (Kt.testBit u = true ∧ Kf.testBit u = true) := fun u _ _ => disj_bits a2 u
      have := clash_stay ((h.closed hK hd).1 a3) (hK.twin hd) (SubK.sub (kt := 0) hk hK a1 rfl)
      rw [this] at hb
      exact hb
theorem Stand.follows {ns : List Nd} {cs : List Nat} (h : Stand ns cs) {s t f : Nat} (hs : Two s t f) : followsN ns t f = clashD cs (oppN s) := h.folS hs.opp

end Go.Proofs.YthboeppmlhbofaaGreatDoor

/-
  Check as the document says it: the lines over a list of sets; it comes to what the program comes to. Plain.
-/
namespace Go.Proofs.YthboeppmlhbofaaGreatDoor
open Go.RowKit Txt
set_option maxRecDepth 100000

theorem Two.same {s s' t f : Nat} (h : Two s t f) (h' : Two s' t f) : s = s' := by
  apply Nat.eq_of_testBit_eq
  intro i
  by_cases hi : i < 20
  · rcases nat_par i with e | e
    · rw [e, h.pos _ (by omega), h'.pos _ (by omega)]
    · rw [e, h.neg _ (by omega), h'.neg _ (by omega)]
  · rw [Nat.testBit_lt_two_pow (Nat.lt_of_lt_of_le h.top (Nat.pow_le_pow_right (by decide) (by omega))), Nat.testBit_lt_two_pow (Nat.lt_of_lt_of_le h'.top (Nat.pow_le_pow_right (by decide) (by omega)))]
theorem ways_same {t f t' f' : Nat} : ∀ (m v : Nat), 1 ≤ v → v + m ≤ 11 → ways t f v m = ways t' f' v m → ∀ u, v ≤ u → u < v + m → t.testBit u = t'.testBit u ∧ f.testBit u = f'.testBit u := by
  intro m
  induction m with
  | zero => intro v _ _ _ u a b; omega
  | succ m ih =>
    intro v h1 h2 h u a b
    simp only [ways, List.cons.injEq] at h
    by_cases e : u = v
    · subst e
      have := h.1
      rw [way_bits t f h1 (by omega), way_bits t' f' h1 (by omega)] at this
      cases p : t.testBit u <;> cases q : f.testBit u <;> cases p' : t'.testBit u <;> cases q' : f'.testBit u <;> simp_all
    · exact ih (v + 1) (by omega) (by omega) h.2 u (by omega) (by omega)
theorem Two.wsame {s t f s' t' f' : Nat} (h : Two s t f) (h' : Two s' t' f') (hw : ways t f 1 10 = ways t' f' 1 10) : s = s' := by
  have k := ways_same (t := t) (f := f) (t' := t') (f' := f') 10 1 (by omega) (by omega) hw
  apply Nat.eq_of_testBit_eq
  intro i
  by_cases hi : i < 20
  · rcases nat_par i with e | e
    · rw [e, h.pos _ (by omega), h'.pos _ (by omega)]; exact (k _ (by omega) (by omega)).1
    · rw [e, h.neg _ (by omega), h'.neg _ (by omega)]; exact (k _ (by omega) (by omega)).2
  · rw [Nat.testBit_lt_two_pow (Nat.lt_of_lt_of_le h.top (Nat.pow_le_pow_right (by decide) (by omega))), Nat.testBit_lt_two_pow (Nat.lt_of_lt_of_le h'.top (Nat.pow_le_pow_right (by decide) (by omega)))]
theorem ways_four (t f : Nat) : ∀ j ∈ ways t f 1 10, j < 4 := by
  intro j hj
  simp only [ways, List.mem_cons, List.not_mem_nil, or_false] at hj
  rcases hj with rfl | rfl | rfl | rfl | rfl | rfl | rfl | rfl | rfl | rfl <;> exact wayN_lt _ _ _
theorem Stand.perm {ns : List Nd} {cs cs' : List Nat} (h : Stand ns cs) (hp : cs.Perm cs') : Stand ns cs' :=
  ⟨h.tre, fun c hc => h.top c (hp.mem_iff.2 hc), fun s t f h2 => by rw [h.cnt s t f h2]; exact hp.count_eq s⟩
theorem Stand.adds {ns : List Nd} {cs : List Nat} (h : Stand ns cs) {s t f : Nat} (h2 : Two s t f) (c : Nat) : Stand (addN ns t f c) (cs ++ List.replicate c s) := by
  refine ⟨(h.tre.add t f c).1, fun x hx => ?_, fun s' t' f' h' => ?_⟩
  · rcases List.mem_append.1 hx with hx | hx
    · exact h.top x hx
    · rw [(List.mem_replicate.1 hx).2]; exact h2.top
  · rw [List.count_append, List.count_replicate]
    by_cases e : s' = s
    · subst e
      have hw : ways t' f' 1 10 = ways t f 1 10 := by
        have key : ∀ (m v : Nat), 1 ≤ v → v + m ≤ 11 → ways t' f' v m = ways t f v m := by
          intro m
          induction m with
          | zero => intro v _ _; rfl
          | succ m ih =>
            intro v h1 h3
            simp only [ways]
            rw [ih (v + 1) (by omega) (by omega), way_bits t' f' h1 (by omega), way_bits t f h1 (by omega)]
            have a := h2.pos (v - 1) (by omega)
            have b := h2.neg (v - 1) (by omega)
            have a' := h'.pos (v - 1) (by omega)
            have b' := h'.neg (v - 1) (by omega)
            rw [show v - 1 + 1 = v by omega] at a b a' b'
            rw [← a, ← b, ← a', ← b']
        exact key 10 1 (by omega) (by omega)
      rw [hw, h.tre.add_leaf, ← hw, h.cnt _ _ _ h']
      simp
    · have hne : ways t' f' 1 10 ≠ ways t f 1 10 := fun q => e (h'.wsame h2 q)
      rw [(h.tre.add t f c).2 _ (ways_four t' f') hne, h.cnt _ _ _ h']
      have : (s == s') = false := by simpa using fun q => e q.symm
      simp [this]
theorem Stand.add {ns : List Nd} {cs : List Nat} (h : Stand ns cs) {s t f : Nat} (h2 : Two s t f) : Stand (addN ns t f 1) (cs ++ [s]) := h.adds h2 1
theorem Stand.gone {ns : List Nd} {cs : List Nat} (h : Stand ns cs) {s t f : Nat} (h2 : Two s t f) : dropN ns t f = none ↔ ¬ s ∈ cs := by
  rw [drop_none, h.cnt s t f h2]
  exact List.count_eq_zero
theorem Stand.drop {ns ns' : List Nd} {cs : List Nat} (h : Stand ns cs) {s t f : Nat} (h2 : Two s t f) (hd : dropN ns t f = some ns') : Stand ns' (cs.erase s) := by
  obtain ⟨q1, q2⟩ := h.tre.drop_leaf hd
  refine ⟨(h.tre.drop hd).1, fun x hx => h.top x (List.mem_of_mem_erase hx), fun s' t' f' h' => ?_⟩
  by_cases e : s' = s
  · subst e
    have hw : ways t' f' 1 10 = ways t f 1 10 := by
      have key : ∀ (m v : Nat), 1 ≤ v → v + m ≤ 11 → ways t' f' v m = ways t f v m := by
        intro m
        induction m with
        | zero => intro v _ _; rfl
        | succ m ih =>
          intro v h1 h3
          simp only [ways]
          rw [ih (v + 1) (by omega) (by omega), way_bits t' f' h1 (by omega), way_bits t f h1 (by omega)]
          have a := h2.pos (v - 1) (by omega)
          have b := h2.neg (v - 1) (by omega)
          have a' := h'.pos (v - 1) (by omega)
          have b' := h'.neg (v - 1) (by omega)
          rw [show v - 1 + 1 = v by omega] at a b a' b'
          rw [← a, ← b, ← a', ← b']
      exact key 10 1 (by omega) (by omega)
    have hc := h.cnt _ _ _ h'
    rw [hw] at hc ⊢
    rw [List.count_erase_self]
    omega
  · have hne : ways t' f' 1 10 ≠ ways t f 1 10 := fun q => e (h'.wsame h2 q)
    rw [q1 _ (ways_four t' f') hne, h.cnt _ _ _ h', List.count_erase_of_ne e]
theorem Two.ok (xs : List Int) : Two (setOk xs) (posOk xs) (negOk xs) := by
  unfold setOk posOk negOk
  cases h : xs.all litB with
  | true => exact Two.set xs h
  | false => exact Two.zero

/-- a line's step, as the document says it -/
def stepD (cs : List Nat) (lt : Nat) (xs : List Int) : Int × List Nat :=
  if lt = 100 then (if setOk xs ∈ cs then (0, cs.erase (setOk xs)) else (8, cs))
  else if clashD cs (oppN (setOk xs)) = false then (7, cs) else if lt = 97 then (0, cs ++ [setOk xs]) else (0, cs)
theorem step_same {ns : List Nd} {cs : List Nat} (h : Stand ns cs) (lt : Nat) (xs : List Int) : (stepN ns lt xs).1 = (stepD cs lt xs).1 ∧ Stand (stepN ns lt xs).2 (stepD cs lt xs).2 := by
  have h2 := Two.ok xs
  unfold stepN stepD
  by_cases h1 : lt = 100
  · rw [if_pos h1, if_pos h1]
    by_cases hm : setOk xs ∈ cs
    · rw [if_pos hm]
      cases hd : dropN ns (posOk xs) (negOk xs) with
      | none => exact absurd hm ((h.gone h2).1 hd)
      | some ns' => exact ⟨rfl, h.drop h2 hd⟩
    · rw [if_neg hm, (h.gone h2).2 hm]
      exact ⟨rfl, h⟩
  · rw [if_neg h1, if_neg h1, h.follows h2]
    split
    · exact ⟨rfl, h⟩
    · split
      · exact ⟨rfl, h.add h2⟩
      · exact ⟨rfl, h⟩
/-- the lines of a proof, as the document says them -/
def lnD (l : List UInt8) : Nat → List Nat → Nat → Nat → Nat → List Int → List Int × Int × Nat
  | 0, _, _, n, _, _ => ([], 3, n)
  | m + 1, cs, p, n, lt, xs =>
    if p < l.length then
      match rdLine l p with
      | none => ([], 3, n)
      | some (lt', xs', q) => if (stepD cs lt' xs').1 ≠ 0 then ([], (stepD cs lt' xs').1, n) else lnD l m (stepD cs lt' xs').2 q (n + 1) lt' xs'
    else if lt ≠ 101 then ([], 9, n) else (xs, 0, n)
theorem lines_same (l : List UInt8) : ∀ (m : Nat) (ns : List Nd) (cs : List Nat) (p n lt : Nat) (xs : List Int), Stand ns cs → chkN l m ns p n lt xs = lnD l m cs p n lt xs := by
  intro m
  induction m with
  | zero => intros; rfl
  | succ m ih =>
    intro ns cs p n lt xs h
    simp only [chkN, lnD]
    split
    · cases hr : rdLine l p with
      | none => rfl
      | some r =>
        obtain ⟨lt', xs', q⟩ := r
        obtain ⟨e, h'⟩ := step_same h lt' xs'
        simp only
        rw [e]
        split
        · rfl
        · exact ih _ _ _ _ _ _ h'
    · rfl

/-- each set in one number and in two -/
def Twos : List Nat → List Pr → Prop
  | [], [] => True
  | s :: os, p :: ss => Two s p.1 p.2 ∧ Twos os ss
  | _, _ => False
theorem Twos.snoc : ∀ {os : List Nat} {ss : List Pr} {s : Nat} {p : Pr}, Twos os ss → Two s p.1 p.2 → Twos (os ++ [s]) (ss ++ [p]) := by
  intro os
  induction os with
  | nil =>
    intro ss s p h h2
    cases ss with
    | nil => exact ⟨h2, trivial⟩
    | cons a b => exact h.elim
  | cons o os ih =>
    intro ss s p h h2
    cases ss with
    | nil => exact h.elim
    | cons a b => exact ⟨h.1, ih h.2 h2⟩
theorem Stand.one : Stand [nd0] [] := by
  refine ⟨tre_one, fun c hc => by simp at hc, fun s t f _ => ?_⟩
  rw [leaf_nd0 [nd0] 0 rfl]
  rfl
theorem stand_list {ss : List Pr} {os : List Nat} (h : Twos os ss) (em : Nat) : Stand (standN ss em) (List.replicate em 0 ++ os) := by
  have key : ∀ (os : List Nat) (ss : List Pr) (ns : List Nd) (cs : List Nat), Twos os ss → Stand ns cs → Stand (ss.foldl (fun ns p => addN ns p.1 p.2 1) ns) (cs ++ os) := by
    intro os
    induction os with
    | nil =>
      intro ss ns cs h hs
      cases ss with
      | nil => simpa using hs
      | cons a b => exact h.elim
    | cons o os ih =>
      intro ss ns cs h hs
      cases ss with
      | nil => exact h.elim
      | cons a b =>
        have := ih b (addN ns a.1 a.2 1) (cs ++ [o]) h.2 (hs.add h.1)
        simpa using this
  have h0 := Stand.one.adds Two.zero em
  exact key os ss _ _ h h0
/-- the clauses, as the document takes them -/
def takeD : List (List Int) → List Nat → Nat → Nat → (Int × Nat) ⊕ (List Nat)
  | [], hv, _, _ => .inr hv
  | c :: cs, hv, lits, i => match takenK c lits with
    | .lit => .inl (4, i)
    | .full => .inl (5, i)
    | .taut => takeD cs hv lits (i + 1)
    | .takes => takeD cs (hv ++ [setN c]) (lits + sizeN (setN c)) (i + 1)
theorem cvz {t : Nat} (h : cvN t = 0) (ht : t < 2 ^ 11) (h0 : t.testBit 0 = false) : t = 0 := by
  refine lt_of_bits ht h0 (fun v hv => ?_)
  simp only [cvN, cvTo, Nat.add_eq_zero_iff, Bool.toNat_eq_zero] at h
  have hq : v = 0 ∨ v = 1 ∨ v = 2 ∨ v = 3 ∨ v = 4 ∨ v = 5 ∨ v = 6 ∨ v = 7 ∨ v = 8 ∨ v = 9 := by omega
  rcases hq with rfl | rfl | rfl | rfl | rfl | rfl | rfl | rfl | rfl | rfl <;> simp_all
theorem setz {xs : List Int} (h : xs.all litB = true) (hz : prSize (posN xs, negN xs) = 0) : setN xs = 0 := by
  have hT := Two.set xs h
  have hz' : cvN (posN xs) + cvN (negN xs) = 0 := hz
  have e1 := cvz (t := posN xs) (by omega) hT.lt hT.zt
  have e2 := cvz (t := negN xs) (by omega) hT.lf hT.zf
  rw [e1, e2] at hT
  exact hT.same Two.zero
theorem take_same : ∀ (cls : List (List Int)) (ss : List Pr) (em : Nat) (hv os : List Nat) (i : Nat), Tak ss → Twos os ss → hv.Perm (List.replicate em 0 ++ os) →
    (match takeN cls ss em i, takeD cls hv (totalN ss) i with
      | .inl r, .inl r' => r = r'
      | .inr (ss', em'), .inr hv' => ∃ os', Twos os' ss' ∧ hv'.Perm (List.replicate em' 0 ++ os')
      | _, _ => False) := by
  intro cls
  induction cls with
  | nil => intro ss em hv os i _ h1 h2; exact ⟨os, h1, h2⟩
  | cons c cls ih =>
    intro ss em hv os i hT h1 h2
    simp only [takeN, takeD]
    cases hall : c.all litB with
    | false =>
      have e1 : addR c ss em = .err 4 := by simp [addR, hall]
      have e2 : takenK c (totalN ss) = .lit := by simp [takenK, hall]
      rw [e1, e2]
    | true =>
      have h3 := Two.set c hall
      cases htw : twinB (setN c) with
      | true =>
        have e2 : takenK c (totalN ss) = .taut := by simp [takenK, hall, htw]
        rw [h3.twin] at htw
        have e1 : addR c ss em = .ok ss em := by unfold addR; rw [hall, if_neg (by simp), if_pos htw]
        rw [e1, e2]
        exact ih ss em hv os (i + 1) hT h1 h2
      | false =>
        have htw' := htw
        rw [h3.twin] at htw'
        have hsz : sizeN (setN c) = prSize (posN c, negN c) := h3.size
        have ha := hT.all
        by_cases hz : prSize (posN c, negN c) = 0
        · have e1 : addR c ss em = .ok ss (em + 1) := by unfold addR; rw [hall, if_neg (by simp), if_neg (by simp [htw']), if_pos hz]
          have e2 : takenK c (totalN ss) = .takes := by
            unfold takenK
            rw [hall, htw, hsz, hz, if_pos rfl, if_neg (by simp), if_neg (by omega)]
          rw [e1, e2, hsz, hz, setz hall hz, Nat.add_zero]
          refine ih ss (em + 1) (hv ++ [0]) os (i + 1) hT h1 ?_
          have p1 : (hv ++ [0]).Perm (0 :: hv) := List.perm_append_comm
          rw [List.replicate_succ, List.cons_append]
          exact p1.trans (h2.cons 0)
        · by_cases hf : 150 < prSize (posN c, negN c) + totalN ss
          · have e1 : addR c ss em = .err 5 := by unfold addR; rw [hall, if_neg (by simp), if_neg (by simp [htw']), if_neg hz, if_pos hf]
            have e2 : takenK c (totalN ss) = .full := by
              unfold takenK
              rw [hall, htw, hsz, if_pos rfl, if_neg (by simp), if_pos (by omega)]
            rw [e1, e2]
          · have e1 : addR c ss em = .ok (ss ++ [(posN c, negN c)]) em := by unfold addR; rw [hall, if_neg (by simp), if_neg (by simp [htw']), if_neg hz, if_neg hf]
            have e2 : takenK c (totalN ss) = .takes := by
              unfold takenK
              rw [hall, htw, hsz, if_pos rfl, if_neg (by simp), if_neg (by omega)]
            have e3 : totalN (ss ++ [(posN c, negN c)]) = totalN ss + sizeN (setN c) := by rw [hsz]; simp [totalN]
            have hT' := (addR_tak hT e1).1
            rw [e1, e2, ← e3]
            refine ih _ em (hv ++ [setN c]) (os ++ [setN c]) (i + 1) hT' (h1.snoc h3) ?_
            rw [← List.append_assoc]
            exact h2.append_right _
/-- the document's Check -/
def checkD (cls : List (List Int)) (l : List UInt8) : List Int × Int × Nat :=
  if 4194304 < l.length then ([], 2, 0) else match takeD cls [] 0 0 with
    | .inl (e, i) => ([], e, i)
    | .inr hv => lnD l (l.length + 1) hv 0 0 0 []
theorem check_same (cls : List (List Int)) (l : List UInt8) : checkN cls l = checkD cls l := by
  unfold checkN checkD
  split
  · rfl
  · have h := take_same cls [] 0 [] [] 0 ⟨fun p hp => by simp at hp, Nat.le_refl _, by decide⟩ trivial (by simp)
    have e : totalN [] = 0 := rfl
    rw [e] at h
    cases ha : takeN cls [] 0 0 with
    | inl r =>
      cases hb : takeD cls [] 0 0 with
      | inl r' => rw [ha, hb] at h; simp only at h; subst h; rfl
      | inr hv => rw [ha, hb] at h; exact h.elim
    | inr r =>
      obtain ⟨ss, em⟩ := r
      cases hb : takeD cls [] 0 0 with
      | inl r' => rw [ha, hb] at h; exact h.elim
      | inr hv =>
        rw [ha, hb] at h
        obtain ⟨os, h1, h2⟩ := h
        exact lines_same l _ _ _ _ _ _ _ ((stand_list h1 em).perm h2.symm)

end Go.Proofs.YthboeppmlhbofaaGreatDoor
