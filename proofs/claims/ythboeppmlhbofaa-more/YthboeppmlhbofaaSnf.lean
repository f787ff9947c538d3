/-
  Check is sound: plain.
-/
import Derived.Test.YthboeppmlhbofaaSne
import Derived.Test.YthboeppmlhbofaaChl
namespace Go.Proofs.Ythboeppmlhbofaa
open Go.RowKit Txt
set_option maxRecDepth 100000

theorem way_bits (t f : Nat) {v : Nat} (h1 : 1 ≤ v) (h2 : v ≤ 10) : wayN t f ((v : Nat) : Int) = (t.testBit v).toNat + 2 * (f.testBit v).toNat := by
  unfold wayN
  rw [has_pos t f h1 h2, has_neg t f h1 h2]
theorem sat_not (W : Nat → Bool) (t f : Nat) : ∀ (m v : Nat), 1 ≤ v → m + v = 11 → ¬ satW W v (ways t f v m) → ∀ u, v ≤ u → u ≤ 10 → (t.testBit u = true → W u = false) ∧ (f.testBit u = true → W u = true) := by
  intro m
  induction m with
  | zero => intro v _ h _ u h1 h2; omega
  | succ m ih =>
    intro v h1 h2 hn u hu1 hu2
    simp only [ways, satW] at hn
    rw [way_bits t f h1 (by omega)] at hn
    by_cases e : u = v
    · subst e
      refine ⟨fun hb => ?_, fun hb => ?_⟩
      · cases hw : W u with
        | false => rfl
        | true =>
          exfalso
          apply hn
          left
          rw [hb]
          refine ⟨?_, hw⟩
          cases f.testBit u <;> simp
      · cases hw : W u with
        | true => rfl
        | false =>
          exfalso
          apply hn
          right; left
          rw [hb]
          refine ⟨?_, hw⟩
          cases t.testBit u <;> simp
    · exact ih (v + 1) (by omega) (by omega) (fun h => hn (.inr (.inr h))) u (by omega) hu2
theorem sat_of (W : Nat → Bool) (t f : Nat) : ∀ (m v : Nat), 1 ≤ v → m + v = 11 → satW W v (ways t f v m) → ∃ u, v ≤ u ∧ u ≤ 10 ∧ ((t.testBit u = true ∧ W u = true) ∨ (f.testBit u = true ∧ W u = false)) := by
  intro m
  induction m with
  | zero => intro v _ _ h; exact h.elim
  | succ m ih =>
    intro v h1 h2 h
    simp only [ways, satW] at h
    rw [way_bits t f h1 (by omega)] at h
    rcases h with ⟨h, hw⟩ | ⟨h, hw⟩ | h
    · refine ⟨v, Nat.le_refl _, by omega, .inl ⟨?_, hw⟩⟩
      cases hb : t.testBit v with
      | true => rfl
      | false => rw [hb] at h; cases hq : f.testBit v <;> rw [hq] at h <;> simp at h
    · refine ⟨v, Nat.le_refl _, by omega, .inr ⟨?_, hw⟩⟩
      cases hb : f.testBit v with
      | true => rfl
      | false => rw [hb] at h; cases hq : t.testBit v <;> rw [hq] at h <;> simp at h
    · obtain ⟨u, q1, q2, q3⟩ := ih (v + 1) (by omega) (by omega) h
      exact ⟨u, by omega, q2, q3⟩
theorem follows_sound (W : Nat → Bool) (ns : List Nd) (hI : Inv W ns) (t f : Nat) (ht : t < 2 ^ 11) (hf : f < 2 ^ 11) (zt : t.testBit 0 = false) (zf : f.testBit 0 = false) (h : followsN ns t f = true) : satW W 1 (ways t f 1 10) := by
  apply Classical.byContradiction
  intro hn
  have hb := sat_not W t f 10 1 (by decide) rfl hn
  have hk : KW W f t := ⟨fun v h1 h2 => (hb v h1 h2).2, fun v h1 h2 => (hb v h1 h2).1, zf, zt⟩
  have := fol_sound W ns hI 4096 f t hf ht hk
  have h' : fol ns 4096 f t = true := h
  rw [this] at h'
  simp at h'
theorem posOk_zero (xs : List Int) : (posOk xs).testBit 0 = false := by
  unfold posOk
  split
  · rename_i h; exact (Two.set xs h).zt
  · simp
theorem negOk_zero (xs : List Int) : (negOk xs).testBit 0 = false := by
  unfold negOk
  split
  · rename_i h; exact (Two.set xs h).zf
  · simp
theorem Inv.add {W : Nat → Bool} {ns : List Nd} (hI : Inv W ns) (h : Tre ns) {t f c : Nat} (hs : satW W 1 (ways t f 1 10)) : Inv W (addN ns t f c) := by
  intro ws hl h4 hne
  by_cases e : ws = ways t f 1 10
  · rw [e]; exact hs
  · rw [(h.add t f c).2 ws h4 e] at hne
    exact hI ws hl h4 hne
def satX (W : Nat → Bool) (xs : List Int) : Prop := satW W 1 (ways (posOk xs) (negOk xs) 1 10)
theorem step_sound {W : Nat → Bool} {ns : List Nd} (hI : Inv W ns) (h : Tre ns) (lt : Nat) (xs : List Int) (he : (stepN ns lt xs).1 = 0) : Inv W (stepN ns lt xs).2 ∧ Tre (stepN ns lt xs).2 ∧ (lt = 101 → satX W xs) := by
  unfold stepN at he ⊢
  split at he
  · rename_i h100
    rw [if_pos h100]
    cases hd : dropN ns (posOk xs) (negOk xs) with
    | none => rw [hd] at he; simp at he
    | some ns' =>
      obtain ⟨h1, h2⟩ := h.drop hd
      refine ⟨fun ws hl h4 hne => hI ws hl h4 (fun e => hne ?_), h1, fun e => by omega⟩
      have := h2 ws
      rw [e] at this
      exact Nat.le_zero.1 this
  · rename_i h100
    rw [if_neg h100]
    split at he
    · simp at he
    · rename_i hf
      rw [if_neg hf]
      have hfo : followsN ns (posOk xs) (negOk xs) = true := by simpa using hf
      have hs := follows_sound W ns hI _ _ (posOk_lt xs) (negOk_lt xs) (posOk_zero xs) (negOk_zero xs) hfo
      split
      · exact ⟨hI.add h hs, (h.add _ _ _).1, fun _ => hs⟩
      · exact ⟨hI, h, fun _ => hs⟩
theorem chk_sound (W : Nat → Bool) (l : List UInt8) : ∀ (m : Nat) (ns : List Nd) (p n lt : Nat) (xs : List Int), Inv W ns → Tre ns → (lt = 101 → satX W xs) → (chkN l m ns p n lt xs).2.1 = 0 → satX W (chkN l m ns p n lt xs).1 := by
  intro m
  induction m with
  | zero => intro ns p n lt xs _ _ _ h; simp [chkN] at h
  | succ m ih =>
    intro ns p n lt xs hI hT hx h
    simp only [chkN] at h ⊢
    split at h
    · rename_i hp
      rw [if_pos hp]
      cases hr : rdLine l p with
      | none => rw [hr] at h; simp at h
      | some r =>
        obtain ⟨lt', xs', q⟩ := r
        rw [hr] at h
        simp only at h ⊢
        by_cases he : (stepN ns lt' xs').1 = 0
        · rw [if_neg (by simpa using he)] at h ⊢
          obtain ⟨s1, s2, s3⟩ := step_sound hI hT lt' xs' he
          exact ih _ _ _ _ _ s1 s2 s3 h
        · rw [if_pos he] at h
          exact absurd h he
    · rename_i hp
      rw [if_neg hp]
      by_cases h101 : lt = 101
      · rw [if_neg (by simpa using h101)]
        exact hx h101
      · rw [if_pos h101] at h
        simp at h
theorem chk_err (l : List UInt8) : ∀ (m : Nat) (ns : List Nd) (p n lt : Nat) (xs : List Int), (chkN l m ns p n lt xs).2.1 ≠ 0 → (chkN l m ns p n lt xs).1 = [] := by
  intro m
  induction m with
  | zero => intro ns p n lt xs _; rfl
  | succ m ih =>
    intro ns p n lt xs h
    simp only [chkN] at h ⊢
    split at h
    · rename_i hp
      rw [if_pos hp]
      cases hr : rdLine l p with
      | none => rfl
      | some r =>
        obtain ⟨lt', xs', q⟩ := r
        rw [hr] at h
        simp only at h ⊢
        by_cases he : (stepN ns lt' xs').1 = 0
        · rw [if_neg (by simpa using he)] at h ⊢
          exact ih _ _ _ _ _ h
        · rw [if_pos he]
    · rename_i hp
      rw [if_neg hp]
      by_cases h101 : lt = 101
      · rw [if_neg (by simpa using h101)] at h
        simp at h
      · rw [if_pos h101]

/-- a clause's literals and its bits -/
theorem pos_bit {xs : List Int} {x : Int} (hx : x ∈ xs) (hp : 0 < x) : (posN xs).testBit x.toNat = true := by
  have key : ∀ (ys : List Int) (a : Nat), (a.testBit x.toNat = true ∨ x ∈ ys) → (ys.foldl (fun a l => a ||| posB l) a).testBit x.toNat = true := by
    intro ys
    induction ys with
    | nil => intro a h; rcases h with h | h
             · exact h
             · simp at h
    | cons y ys ih =>
      intro a h
      refine ih _ ?_
      rcases h with h | h
      · left; rw [Nat.testBit_or, h]; rfl
      · rcases List.mem_cons.1 h with rfl | h
        · left
          rw [Nat.testBit_or]
          unfold posB
          rw [if_pos hp, Nat.testBit_two_pow]
          simp
        · exact .inr h
  exact key xs 0 (.inr hx)
theorem neg_bit {xs : List Int} {x : Int} (hx : x ∈ xs) (hp : x < 0) : (negN xs).testBit (-x).toNat = true := by
  have key : ∀ (ys : List Int) (a : Nat), (a.testBit (-x).toNat = true ∨ x ∈ ys) → (ys.foldl (fun a l => a ||| negB l) a).testBit (-x).toNat = true := by
    intro ys
    induction ys with
    | nil => intro a h; rcases h with h | h
             · exact h
             · simp at h
    | cons y ys ih =>
      intro a h
      refine ih _ ?_
      rcases h with h | h
      · left; rw [Nat.testBit_or, h]; rfl
      · rcases List.mem_cons.1 h with rfl | h
        · left
          rw [Nat.testBit_or]
          unfold negB
          rw [if_neg (by omega), Nat.testBit_two_pow]
          simp
        · exact .inr h
  exact key xs 0 (.inr hx)
theorem bit_pos {xs : List Int} {v : Nat} (h : (posN xs).testBit v = true) : ∃ x ∈ xs, 0 < x ∧ x.toNat = v := by
  have key : ∀ (ys : List Int) (a : Nat), (ys.foldl (fun a l => a ||| posB l) a).testBit v = true → a.testBit v = true ∨ ∃ x ∈ ys, 0 < x ∧ x.toNat = v := by
    intro ys
    induction ys with
    | nil => intro a h; exact .inl h
    | cons y ys ih =>
      intro a h
      rcases ih _ h with h | ⟨x, h1, h2⟩
      · rw [Nat.testBit_or, Bool.or_eq_true] at h
        rcases h with h | h
        · exact .inl h
        · unfold posB at h
          split at h
          · rename_i hp
            rw [Nat.testBit_two_pow, decide_eq_true_eq] at h
            exact .inr ⟨y, by simp, hp, h⟩
          · simp at h
      · exact .inr ⟨x, by simp [h1], h2⟩
  rcases key xs 0 h with h | h
  · simp at h
  · exact h
theorem bit_neg {xs : List Int} {v : Nat} (hv : 1 ≤ v) (h : (negN xs).testBit v = true) : ∃ x ∈ xs, x < 0 ∧ (-x).toNat = v := by
  have key : ∀ (ys : List Int) (a : Nat), (ys.foldl (fun a l => a ||| negB l) a).testBit v = true → a.testBit v = true ∨ ∃ x ∈ ys, x < 0 ∧ (-x).toNat = v := by
    intro ys
    induction ys with
    | nil => intro a h; exact .inl h
    | cons y ys ih =>
      intro a h
      rcases ih _ h with h | ⟨x, h1, h2⟩
      · rw [Nat.testBit_or, Bool.or_eq_true] at h
        rcases h with h | h
        · exact .inl h
        · unfold negB at h
          split at h
          · simp at h
          · rename_i hp
            rw [Nat.testBit_two_pow, decide_eq_true_eq] at h
            exact .inr ⟨y, by simp, by omega, h⟩
      · exact .inr ⟨x, by simp [h1], h2⟩
  rcases key xs 0 h with h | h
  · simp at h
  · exact h
/-- a world that allows a clause -/
def satL (W : Nat → Bool) (xs : List Int) : Prop := ∃ x ∈ xs, litB x = true ∧ litSo W x
theorem satX_L {W : Nat → Bool} {xs : List Int} (h : satX W xs) : satL W xs := by
  obtain ⟨u, h1, h2, h3⟩ := sat_of W _ _ 10 1 (by decide) rfl h
  have hall : xs.all litB = true := by
    cases ha : xs.all litB with
    | true => rfl
    | false =>
      have e1 : posOk xs = 0 := by simp [posOk, ha]
      have e2 : negOk xs = 0 := by simp [negOk, ha]
      rw [e1, e2] at h3
      simp at h3
  have e1 : posOk xs = posN xs := by simp [posOk, hall]
  have e2 : negOk xs = negN xs := by simp [negOk, hall]
  rw [e1, e2] at h3
  have hm : ∀ x ∈ xs, litB x = true := List.all_eq_true.1 hall
  rcases h3 with ⟨hb, hw⟩ | ⟨hb, hw⟩
  · obtain ⟨x, hx, hp, rfl⟩ := bit_pos hb
    exact ⟨x, hx, hm x hx, .inl ⟨hp, hw⟩⟩
  · obtain ⟨x, hx, hp, rfl⟩ := bit_neg h1 hb
    exact ⟨x, hx, hm x hx, .inr ⟨hp, hw⟩⟩
theorem satL_W {W : Nat → Bool} {xs : List Int} (h : satL W xs) : satW W 1 (ways (posN xs) (negN xs) 1 10) := by
  apply Classical.byContradiction
  intro hn
  have hb := sat_not W _ _ 10 1 (by decide) rfl hn
  obtain ⟨x, hx, hl, hs⟩ := h
  simp only [litB, Bool.and_eq_true, bne_iff_ne, decide_eq_true_eq] at hl
  rcases hs with ⟨hp, hw⟩ | ⟨hp, hw⟩
  · have := (hb x.toNat (by omega) (by omega)).1 (pos_bit hx hp)
    rw [hw] at this; simp at this
  · have := (hb (-x).toNat (by omega) (by omega)).2 (neg_bit hx hp)
    rw [hw] at this; simp at this
theorem cvN_nil {t : Nat} (h : cvN t = 0) {v : Nat} (h1 : 1 ≤ v) (h2 : v ≤ 10) : t.testBit v = false := by
  simp only [cvN, cvTo, Nat.add_eq_zero_iff, Bool.toNat_eq_zero] at h
  have hq : v = 1 ∨ v = 2 ∨ v = 3 ∨ v = 4 ∨ v = 5 ∨ v = 6 ∨ v = 7 ∨ v = 8 ∨ v = 9 ∨ v = 10 := by omega
  rcases hq with rfl | rfl | rfl | rfl | rfl | rfl | rfl | rfl | rfl | rfl <;> simp_all
theorem take_sound (W : Nat → Bool) : ∀ (cs : List (List Int)) (ss : List Pr) (i : Nat) (ss' : List Pr) (em' : Nat), (∀ c ∈ cs, satL W c) → (∀ p ∈ ss, satW W 1 (ways p.1 p.2 1 10)) → takeN cs ss 0 i = .inr (ss', em') → (∀ p ∈ ss', satW W 1 (ways p.1 p.2 1 10)) ∧ em' = 0 := by
  intro cs
  induction cs with
  | nil =>
    intro ss i ss' em' _ h2 h
    simp only [takeN, Sum.inr.injEq, Prod.mk.injEq] at h
    obtain ⟨rfl, rfl⟩ := h
    exact ⟨h2, rfl⟩
  | cons c cs ih =>
    intro ss i ss' em' h1 h2 h
    have hc := satL_W (h1 c (by simp))
    have h1' : ∀ c ∈ cs, satL W c := fun x hx => h1 x (by simp [hx])
    simp only [takeN] at h
    unfold addR at h
    split at h
    · simp at h
    · rename_i ss1 em1 hr
      split at hr
      · simp at hr
      · split at hr
        · simp only [AR.ok.injEq] at hr
          obtain ⟨rfl, rfl⟩ := hr
          exact ih _ _ _ _ h1' h2 h
        · split at hr
          · rename_i hz
            exfalso
            have hz' : cvN (posN c) + cvN (negN c) = 0 := hz
            obtain ⟨u, q1, q2, q3⟩ := sat_of W _ _ 10 1 (by decide) rfl hc
            have e1 := cvN_nil (t := posN c) (by omega) q1 q2
            have e2 := cvN_nil (t := negN c) (by omega) q1 q2
            rw [e1, e2] at q3
            simp at q3
          · split at hr
            · simp at hr
            · simp only [AR.ok.injEq] at hr
              obtain ⟨rfl, rfl⟩ := hr
              refine ih _ _ _ _ h1' (fun p hp => ?_) h
              rcases List.mem_append.1 hp with hp | hp
              · exact h2 p hp
              · simp at hp; subst hp; exact hc
theorem tre_one : Tre [nd0] := ⟨wf_one, by decide, fun _ => [], rfl, fun a ha k hk hne => by
  have : a = 0 := by simp at ha; omega
  subst this
  exfalso
  apply hne
  have h4 : k = 0 ∨ k = 1 ∨ k = 2 ∨ k = 3 := by omega
  rcases h4 with rfl | rfl | rfl | rfl <;> rfl⟩
theorem inv_one (W : Nat → Bool) : Inv W (addN [nd0] 0 0 0) := by
  intro ws hl h4 hne
  exfalso
  apply hne
  by_cases e : ws = ways 0 0 1 10
  · rw [e]; decide
  · rw [(tre_one.add 0 0 0).2 ws h4 e]
    exact leaf_nd0 _ _ rfl _
theorem stand_sound (W : Nat → Bool) (ss : List Pr) (h : ∀ p ∈ ss, satW W 1 (ways p.1 p.2 1 10)) : Inv W (standN ss 0) ∧ Tre (standN ss 0) := by
  have key : ∀ (l : List Pr) (ns : List Nd), Inv W ns → Tre ns → (∀ p ∈ l, satW W 1 (ways p.1 p.2 1 10)) → Inv W (l.foldl (fun ns p => addN ns p.1 p.2 1) ns) ∧ Tre (l.foldl (fun ns p => addN ns p.1 p.2 1) ns) := by
    intro l
    induction l with
    | nil => intro ns h1 h2 _; exact ⟨h1, h2⟩
    | cons p l ih => intro ns h1 h2 h3; exact ih _ (h1.add h2 (h3 p (by simp))) (h2.add _ _ _).1 (fun q hq => h3 q (by simp [hq]))
  exact key ss _ (inv_one W) (tre_one.add 0 0 0).1 h
theorem check_sound (W : Nat → Bool) (cls : List (List Int)) (l : List UInt8) (h : ∀ c ∈ cls, satL W c) (he : (checkN cls l).2.1 = 0) : satL W (checkN cls l).1 := by
  unfold checkN at he ⊢
  split at he
  · simp at he
  · rename_i hb
    rw [if_neg hb]
    cases ht : takeN cls [] 0 0 with
    | inl r =>
      obtain ⟨e, i⟩ := r
      rw [ht] at he
      simp only at he
      exfalso
      have key : ∀ (cs : List (List Int)) (ss : List Pr) (em i : Nat) (e : Int) (j : Nat), takeN cs ss em i = .inl (e, j) → e ≠ 0 := by
        intro cs
        induction cs with
        | nil => intro ss em i e j h; simp [takeN] at h
        | cons c cs ih =>
          intro ss em i e j h
          simp only [takeN] at h
          cases ha : addR c ss em with
          | err e' =>
            rw [ha] at h
            simp only [Sum.inl.injEq, Prod.mk.injEq] at h
            obtain ⟨rfl, _⟩ := h
            unfold addR at ha
            split at ha
            · simp only [AR.err.injEq] at ha; omega
            · split at ha
              · simp at ha
              · split at ha
                · simp at ha
                · split at ha
                  · simp only [AR.err.injEq] at ha; omega
                  · simp at ha
          | ok s' m' => rw [ha] at h; exact ih _ _ _ _ _ h
      exact key _ _ _ _ _ _ ht he
    | inr r =>
      obtain ⟨ss, em⟩ := r
      rw [ht] at he
      simp only at he ⊢
      obtain ⟨h1, rfl⟩ := take_sound W cls [] 0 ss em h (fun p hp => by simp at hp) ht
      obtain ⟨h2, h3⟩ := stand_sound W ss h1
      exact satX_L (chk_sound W l _ _ _ _ _ _ h2 h3 (fun e => by simp at e) he)
theorem check_err (cls : List (List Int)) (l : List UInt8) (he : (checkN cls l).2.1 ≠ 0) : (checkN cls l).1 = [] := by
  unfold checkN at he ⊢
  split
  · rfl
  · rename_i hb
    rw [if_neg hb] at he
    split
    · rfl
    · rename_i ss em ht
      rw [ht] at he
      exact chk_err l _ _ _ _ _ _ he

end Go.Proofs.Ythboeppmlhbofaa
