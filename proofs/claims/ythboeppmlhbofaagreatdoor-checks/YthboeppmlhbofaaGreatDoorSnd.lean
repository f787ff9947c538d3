/-
  Pushing is sound: plain.
-/
import Derived.Test.YthboeppmlhbofaaGreatDoorPrf
import Derived.Test.YthboeppmlhbofaaGreatDoorChk
namespace Go.Proofs.YthboeppmlhbofaaGreatDoor
open Go.RowKit Txt
set_option maxRecDepth 100000

/-- how often a clause stands at the end of a way -/
def leafP (ns : List Nd) : Nat → List Nat → Nat
  | a, [] => (ns.getD a nd0).c
  | a, k :: ws => if (ns.getD a nd0).nx k = 0 then 0 else leafP ns ((ns.getD a nd0).nx k) ws
/-- is a literal of a clause so in a world? -/
def satW (W : Nat → Bool) : Nat → List Nat → Prop
  | _, [] => False
  | v, k :: ws => ((k = 1 ∨ k = 3) ∧ W v = true) ∨ ((k = 2 ∨ k = 3) ∧ W v = false) ∨ satW W (v + 1) ws
def ways (t f : Nat) : Nat → Nat → List Nat
  | _, 0 => []
  | v, m + 1 => wayN t f ((v : Nat) : Int) :: ways t f (v + 1) m
theorem has_pos (t f : Nat) {v : Nat} (h1 : 1 ≤ v) (h2 : v ≤ 10) : hasB t f (v : Int) = t.testBit v := by
  have e1 : bitP (v : Int) = 2 ^ v := by unfold bitP; rw [if_pos (by omega), Int.toNat_natCast]
  have e2 : bitP (-(v : Int)) = 0 := by unfold bitP; rw [if_neg (by omega)]
  unfold hasB
  rw [e1, e2, Nat.and_zero, and_pow]
  cases t.testBit v <;> simp
theorem has_neg (t f : Nat) {v : Nat} (h1 : 1 ≤ v) (h2 : v ≤ 10) : hasB t f (-(v : Int)) = f.testBit v := by
  have e1 : bitP (v : Int) = 2 ^ v := by unfold bitP; rw [if_pos (by omega), Int.toNat_natCast]
  have e2 : bitP (-(v : Int)) = 0 := by unfold bitP; rw [if_neg (by omega)]
  unfold hasB
  rw [Int.neg_neg, e1, e2, Nat.and_zero, and_pow]
  cases f.testBit v <;> simp

/-- what is known is so in the world -/
structure KW (W : Nat → Bool) (kt kf : Nat) : Prop where
  t : ∀ v, 1 ≤ v → v ≤ 10 → kt.testBit v = true → W v = true
  f : ∀ v, 1 ≤ v → v ≤ 10 → kf.testBit v = true → W v = false
  zt : kt.testBit 0 = false
  zf : kf.testBit 0 = false
def litSo (W : Nat → Bool) (x : Int) : Prop := (0 < x ∧ W x.toNat = true) ∨ (x < 0 ∧ W (-x).toNat = false)
theorem KW.lit {W : Nat → Bool} {kt kf : Nat} (h : KW W kt kf) {x : Int} (hx : litB x = true) (hs : litSo W x) : KW W (kt ||| posB x) (kf ||| negB x) := by
  simp only [litB, Bool.and_eq_true, bne_iff_ne, decide_eq_true_eq] at hx
  rcases hs with ⟨hp, hs⟩ | ⟨hp, hs⟩
  · have e1 : posB x = 2 ^ x.toNat := by unfold posB; rw [if_pos hp]
    have e2 : negB x = 0 := by unfold negB; rw [if_pos hp]
    rw [e1, e2, Nat.or_zero]
    refine ⟨fun v h1 h2 hb => ?_, h.f, ?_, h.zf⟩
    · rw [Nat.testBit_or, Nat.testBit_two_pow, Bool.or_eq_true, decide_eq_true_eq] at hb
      rcases hb with hb | hb
      · exact h.t v h1 h2 hb
      · rw [← hb]; exact hs
    · rw [Nat.testBit_or, h.zt, Nat.testBit_two_pow, Bool.false_or, decide_eq_false_iff_not]; omega
  · have e1 : posB x = 0 := by unfold posB; rw [if_neg (by omega)]
    have e2 : negB x = 2 ^ (-x).toNat := by unfold negB; rw [if_neg (by omega)]
    rw [e1, e2, Nat.or_zero]
    refine ⟨h.t, fun v h1 h2 hb => ?_, h.zt, ?_⟩
    · rw [Nat.testBit_or, Nat.testBit_two_pow, Bool.or_eq_true, decide_eq_true_eq] at hb
      rcases hb with hb | hb
      · exact h.f v h1 h2 hb
      · rw [← hb]; exact hs
    · rw [Nat.testBit_or, h.zf, Nat.testBit_two_pow, Bool.false_or, decide_eq_false_iff_not]; omega
theorem KW.twin {W : Nat → Bool} {kt kf : Nat} (h : KW W kt kf) (ht : kt < 2 ^ 11) : (kt &&& kf != 0) = false := by
  have : kt &&& kf = 0 := by
    apply Nat.eq_of_testBit_eq
    intro i
    rw [Nat.zero_testBit, Nat.testBit_and]
    by_cases h0 : i = 0
    · subst h0; rw [h.zt]; rfl
    · by_cases h1 : i < 11
      · cases a : kt.testBit i with
        | false => rfl
        | true =>
          cases b : kf.testBit i with
          | false => rfl
          | true =>
            have p := h.t i (by omega) (by omega) a
            have q := h.f i (by omega) (by omega) b
            rw [p] at q; simp at q
      · rw [Nat.testBit_lt_two_pow (Nat.lt_of_lt_of_le ht (Nat.pow_le_pow_right (by decide) (by omega)))]; rfl
  rw [this]; rfl

theorem visit_sound (W : Nat → Bool) (ns : List Nd) (kt kf : Nat) (hk : KW W kt kf) : ∀ (m a v : Nat) (op : Int) (s : PS), m + v = 11 → 1 ≤ v → (op = 0 ∨ litB op = true) → s.cl = false → KW W s.gt s.gf →
    (∀ ws, ws.length = m → (∀ k ∈ ws, k < 4) → leafP ns a ws ≠ 0 → satW W v ws ∨ (op ≠ 0 ∧ litSo W op)) → (visitN ns kt kf m a v op s).cl = false ∧ KW W (visitN ns kt kf m a v op s).gt (visitN ns kt kf m a v op s).gf := by
  intro m
  induction m with
  | zero =>
    intro a v op s _ _ ho hc hs hH
    simp only [visitN, hc]
    unfold meetN
    by_cases h0 : (ns.getD a nd0).c = 0
    · simp only [h0, if_true]; exact ⟨hc, hs⟩
    · rcases hH [] rfl (fun k hk => by simp at hk) h0 with h | ⟨h1, h2⟩
      · exact h.elim
      · simp only [h0, if_false, h1]
        exact ⟨hc, hs.lit (ho.resolve_left h1) h2⟩
  | succ m ih =>
    intro a v op s hmv hv ho hc hs hH
    have hl1 : litB (v : Int) = true := by simp only [litB, Bool.and_eq_true, bne_iff_ne, decide_eq_true_eq]; omega
    have hl2 : litB (-(v : Int)) = true := by simp only [litB, Bool.and_eq_true, bne_iff_ne, decide_eq_true_eq]; omega
    have sub : ∀ (k : Nat) (ws : List Nat), k < 4 → ws.length = m → (∀ k ∈ ws, k < 4) → (ns.getD a nd0).nx k ≠ 0 → leafP ns ((ns.getD a nd0).nx k) ws ≠ 0 → satW W v (k :: ws) ∨ (op ≠ 0 ∧ litSo W op) := fun k ws hk4 hl h4 hx hq => hH (k :: ws) (by simp [hl]) (fun j hj => (List.mem_cons.1 hj).elim (fun e => e ▸ hk4) (h4 j)) (by simp only [leafP, hx, if_false]; exact hq)
    simp only [visitN, hc]
    have k1 : (if (ns.getD a nd0).n0 = 0 then s else visitN ns kt kf m (ns.getD a nd0).n0 (v + 1) op s).cl = false ∧ KW W (if (ns.getD a nd0).n0 = 0 then s else visitN ns kt kf m (ns.getD a nd0).n0 (v + 1) op s).gt (if (ns.getD a nd0).n0 = 0 then s else visitN ns kt kf m (ns.getD a nd0).n0 (v + 1) op s).gf := by
      split
      · exact ⟨hc, hs⟩
      · rename_i hx
        refine ih _ (v + 1) op s (by omega) (by omega) ho hc hs (fun ws hl h4 hq => ?_)
        rcases sub 0 ws (by decide) hl h4 hx hq with h | h
        · simp only [satW] at h
          rcases h with h | h | h
          · omega
          · omega
          · exact .inl h
        · exact .inr h
    generalize (if (ns.getD a nd0).n0 = 0 then s else visitN ns kt kf m (ns.getD a nd0).n0 (v + 1) op s) = s1 at *
    have k2 : (if (ns.getD a nd0).n1 = 0 then s1 else if hasB kt kf (-(v : Int)) then visitN ns kt kf m (ns.getD a nd0).n1 (v + 1) op s1 else if op = 0 ∧ hasB kt kf (v : Int) = false then visitN ns kt kf m (ns.getD a nd0).n1 (v + 1) (v : Int) s1 else s1).cl = false ∧ KW W (if (ns.getD a nd0).n1 = 0 then s1 else if hasB kt kf (-(v : Int)) then visitN ns kt kf m (ns.getD a nd0).n1 (v + 1) op s1 else if op = 0 ∧ hasB kt kf (v : Int) = false then visitN ns kt kf m (ns.getD a nd0).n1 (v + 1) (v : Int) s1 else s1).gt (if (ns.getD a nd0).n1 = 0 then s1 else if hasB kt kf (-(v : Int)) then visitN ns kt kf m (ns.getD a nd0).n1 (v + 1) op s1 else if op = 0 ∧ hasB kt kf (v : Int) = false then visitN ns kt kf m (ns.getD a nd0).n1 (v + 1) (v : Int) s1 else s1).gf := by
      split
      · exact k1
      · rename_i hx
        split
        · rename_i hh
          rw [has_neg kt kf hv (by omega)] at hh
          have hwv := hk.f v hv (by omega) hh
          refine ih _ (v + 1) op s1 (by omega) (by omega) ho k1.1 k1.2 (fun ws hl h4 hq => ?_)
          rcases sub 1 ws (by decide) hl h4 hx hq with h | h
          · simp only [satW, hwv] at h
            rcases h with h | h | h
            · simp at h
            · omega
            · exact .inl h
          · exact .inr h
        · split
          · rename_i hcond
            refine ih _ (v + 1) (v : Int) s1 (by omega) (by omega) (.inr hl1) k1.1 k1.2 (fun ws hl h4 hq => ?_)
            rcases sub 1 ws (by decide) hl h4 hx hq with h | h
            · simp only [satW] at h
              rcases h with h | h | h
              · exact .inr ⟨by omega, .inl ⟨by omega, by rw [Int.toNat_natCast]; exact h.2⟩⟩
              · omega
              · exact .inl h
            · exact absurd hcond.1 h.1
          · exact k1
    generalize (if (ns.getD a nd0).n1 = 0 then s1 else if hasB kt kf (-(v : Int)) then visitN ns kt kf m (ns.getD a nd0).n1 (v + 1) op s1 else if op = 0 ∧ hasB kt kf (v : Int) = false then visitN ns kt kf m (ns.getD a nd0).n1 (v + 1) (v : Int) s1 else s1) = s2 at *
    simp only [Bool.false_eq_true, if_false]
    split
    · exact k2
    · rename_i hx
      split
      · rename_i hh
        rw [has_pos kt kf hv (by omega)] at hh
        have hwv := hk.t v hv (by omega) hh
        refine ih _ (v + 1) op s2 (by omega) (by omega) ho k2.1 k2.2 (fun ws hl h4 hq => ?_)
        rcases sub 2 ws (by decide) hl h4 hx hq with h | h
        · simp only [satW, hwv] at h
          rcases h with h | h | h
          · omega
          · simp at h
          · exact .inl h
        · exact .inr h
      · split
        · rename_i hcond
          refine ih _ (v + 1) (-(v : Int)) s2 (by omega) (by omega) (.inr hl2) k2.1 k2.2 (fun ws hl h4 hq => ?_)
          rcases sub 2 ws (by decide) hl h4 hx hq with h | h
          · simp only [satW] at h
            rcases h with h | h | h
            · omega
            · exact .inr ⟨by omega, .inr ⟨by omega, by rw [Int.neg_neg, Int.toNat_natCast]; exact h.2⟩⟩
            · exact .inl h
          · exact absurd hcond.1 h.1
        · exact k2

/-- every clause that stands there is so in the world -/
def Inv (W : Nat → Bool) (ns : List Nd) : Prop := ∀ ws, ws.length = 10 → (∀ k ∈ ws, k < 4) → leafP ns 0 ws ≠ 0 → satW W 1 ws
theorem fol_sound (W : Nat → Bool) (ns : List Nd) (hI : Inv W ns) : ∀ (m kt kf : Nat), kt < 2 ^ 11 → kf < 2 ^ 11 → KW W kt kf → fol ns m kt kf = false := by
  intro m
  induction m with
  | zero => intro kt kf _ _ _; rfl
  | succ m ih =>
    intro kt kf ht hf hk
    obtain ⟨h1, h2⟩ := visit_sound W ns kt kf hk 10 0 1 0 ⟨kt, kf, false⟩ rfl (by decide) (.inl rfl) rfl hk (fun ws hl h4 hq => .inl (hI ws hl h4 hq))
    obtain ⟨o1, o2⟩ := visitN_ok (ns := ns) (kt := kt) (kf := kf) 10 0 1 0 ⟨kt, kf, false⟩ rfl (by decide) (.inl rfl) ⟨ht, hf⟩
    simp only [fol, hk.twin ht, h1, Bool.false_eq_true, if_false]
    split
    · rfl
    · exact ih _ _ o1 o2 h2

end Go.Proofs.YthboeppmlhbofaaGreatDoor

/-
  What stands in the tree: plain.
-/
namespace Go.Proofs.YthboeppmlhbofaaGreatDoor
open Go.RowKit Txt
set_option maxRecDepth 100000

structure Pth (ns : List Nd) (path : Nat → List Nat) : Prop where
  root : path 0 = []
  step : ∀ a, a < ns.length → ∀ k, k < 4 → (ns.getD a nd0).nx k ≠ 0 → path ((ns.getD a nd0).nx k) = path a ++ [k]
theorem put_other (d : Nd) {k j x : Nat} (hk : k < 4) (hj : j < 4) (h : j ≠ k) : (d.put k x).nx j = d.nx j := by
  have a : k = 0 ∨ k = 1 ∨ k = 2 ∨ k = 3 := by omega
  have b : j = 0 ∨ j = 1 ∨ j = 2 ∨ j = 3 := by omega
  rcases a with rfl | rfl | rfl | rfl <;> rcases b with rfl | rfl | rfl | rfl <;> first | rfl | omega
theorem leaf_nd0 (ns : List Nd) (b : Nat) (h : ns.getD b nd0 = nd0) (ws : List Nat) : leafP ns b ws = 0 := by
  cases ws with
  | nil => simp only [leafP, h]; rfl
  | cons k ws =>
    simp only [leafP, h]
    rw [if_pos]
    unfold Nd.nx nd0
    split <;> rfl
theorem leaf_grow {ns : List Nd} (hw : Wf ns) {a k : Nat} (ha : a < ns.length) (hk : k < 4) : ∀ (ws : List Nat) (b : Nat), b < ns.length → (∀ j ∈ ws, j < 4) → leafP (growN ns a k).1 b ws = leafP ns b ws := by
  unfold growN
  split
  · rename_i hz
    intro ws
    induction ws with
    | nil =>
      intro b hb _
      simp only [leafP]
      rw [getD_snoc, getD_set _ _ _ _ ha]
      split
      · rename_i e; rw [put_c, e]
      · rfl
    | cons j ws ih =>
      intro b hb h4
      have hj : j < 4 := h4 j (by simp)
      have hsame : b ≠ a ∨ j ≠ k → ((ns.set a ((ns.getD a nd0).put k ns.length) ++ [nd0]).getD b nd0).nx j = (ns.getD b nd0).nx j := by
        intro h
        rw [getD_snoc, getD_set _ _ _ _ ha]
        split
        · rename_i e
          rw [e]
          exact put_other _ hk hj (h.resolve_left (fun hne => hne e))
        · rfl
      by_cases hc : b = a ∧ j = k
      · obtain ⟨rfl, rfl⟩ := hc
        simp only [leafP, hz, if_true]
        rw [getD_snoc, getD_set _ _ _ _ ha, if_pos rfl, Nd.put_nx _ hk]
        rw [if_neg (by omega)]
        apply leaf_nd0
        rw [getD_snoc, List.getD_eq_getElem?_getD, List.getElem?_eq_none (by rw [List.length_set]; exact Nat.le_refl _)]
        rfl
      · have hs := hsame (by
          by_cases e : b = a
          · exact .inr (fun e2 => hc ⟨e, e2⟩)
          · exact .inl e)
        simp only [leafP, hs]
        split
        · rfl
        · exact ih _ (hw.nx hb j) (fun x hx => h4 x (by simp [hx]))
  · intro ws b _ _; rfl
theorem path_grow {ns : List Nd} (hw : Wf ns) (hp : 0 < ns.length) {path : Nat → List Nat} (h : Pth ns path) {a k : Nat} (ha : a < ns.length) (hk : k < 4) : ∃ path', Pth (growN ns a k).1 path' ∧ path' (growN ns a k).2 = path a ++ [k] := by
  unfold growN
  split
  · rename_i hz
    refine ⟨fun i => if i = ns.length then path a ++ [k] else path i, ⟨?_, ?_⟩, by simp⟩
    · show (if 0 = ns.length then _ else _) = _
      rw [if_neg (by omega)]; exact h.root
    · intro b hb j hj hne
      have hlen : (ns.set a ((ns.getD a nd0).put k ns.length) ++ [nd0]).length = ns.length + 1 := by simp
      rw [hlen] at hb
      rw [getD_snoc, getD_set _ _ _ _ ha] at hne ⊢
      by_cases hbl : b = ns.length
      · subst hbl
        rw [if_neg (by omega)] at hne
        have e : ns.getD ns.length nd0 = nd0 := by rw [List.getD_eq_getElem?_getD, List.getElem?_eq_none (Nat.le_refl _)]; rfl
        rw [e] at hne
        exfalso
        apply hne
        unfold Nd.nx nd0
        split <;> rfl
      · have hb2 : b < ns.length := by omega
        by_cases e : b = a
        · subst e
          rw [if_pos rfl] at hne ⊢
          by_cases ej : j = k
          · subst ej
            rw [Nd.put_nx _ hk]
            show (if ns.length = ns.length then _ else _) = (if b = ns.length then _ else _) ++ _
            rw [if_pos rfl, if_neg (by omega)]
          · rw [put_other _ hk hj ej] at hne ⊢
            have hl := hw.nx hb2 j
            show (if _ = ns.length then _ else _) = (if b = ns.length then _ else _) ++ _
            rw [if_neg (by omega), if_neg (by omega)]
            exact h.step b hb2 j hj hne
        · rw [if_neg e] at hne ⊢
          have hl := hw.nx hb2 j
          show (if _ = ns.length then _ else _) = (if b = ns.length then _ else _) ++ _
          rw [if_neg (by omega), if_neg (by omega)]
          exact h.step b hb2 j hj hne
  · rename_i hz
    exact ⟨path, h, h.step a ha k hk hz⟩
theorem ways_len (t f : Nat) : ∀ (m v : Nat), (ways t f v m).length = m := by
  intro m
  induction m with
  | zero => intro v; rfl
  | succ m ih => intro v; simp [ways, ih]
theorem ways_snoc (t f : Nat) : ∀ (m v : Nat), ways t f v (m + 1) = ways t f v m ++ [wayN t f ((v + m : Nat) : Int)] := by
  intro m
  induction m with
  | zero => intro v; rfl
  | succ m ih =>
    intro v
    have := ih (v + 1)
    simp only [ways] at this ⊢
    rw [this, show v + 1 + m = v + (m + 1) by omega]
    rfl
theorem addTo_leaf {ns : List Nd} (hw : Wf ns) (hp : 0 < ns.length) {path : Nat → List Nat} (h : Pth ns path) (t f : Nat) : ∀ k, (∃ path', Pth (addTo ns t f k).1 path' ∧ path' (addTo ns t f k).2 = ways t f 1 k) ∧ ∀ ws, (∀ j ∈ ws, j < 4) → leafP (addTo ns t f k).1 0 ws = leafP ns 0 ws := by
  intro k
  induction k with
  | zero => exact ⟨⟨path, h, h.root⟩, fun ws _ => rfl⟩
  | succ k ih =>
    obtain ⟨⟨p1, q1, q2⟩, q3⟩ := ih
    obtain ⟨w1, w2, w3⟩ := addTo_wf hw hp t f k
    have hp1 : 0 < (addTo ns t f k).1.length := by omega
    obtain ⟨p2, r1, r2⟩ := path_grow w1 hp1 q1 w2 (wayN_lt t f ((k + 1 : Nat) : Int))
    refine ⟨⟨p2, r1, ?_⟩, fun ws h4 => ?_⟩
    · show p2 (growN _ _ _).2 = _
      rw [r2, q2, ways_snoc, show 1 + k = k + 1 by omega]
    · show leafP (growN _ _ _).1 0 ws = _
      rw [leaf_grow w1 w2 (wayN_lt _ _ _) ws 0 hp1 h4]
      exact q3 ws h4
theorem leaf_set {ns : List Nd} (hw : Wf ns) {path : Nat → List Nat} (h : Pth ns path) {a : Nat} (ha : a < ns.length) (x : Nat) : ∀ (ws : List Nat) (b : Nat), b < ns.length → (∀ j ∈ ws, j < 4) → path b ++ ws ≠ path a → leafP (ns.set a { ns.getD a nd0 with c := x }) b ws = leafP ns b ws := by
  intro ws
  induction ws with
  | nil =>
    intro b hb _ hne
    simp only [leafP]
    rw [getD_set _ _ _ _ ha, if_neg (fun e => hne (by rw [e]; simp))]
  | cons k ws ih =>
    intro b hb h4 hne
    have hnx : ((ns.set a { ns.getD a nd0 with c := x }).getD b nd0).nx k = (ns.getD b nd0).nx k := by
      rw [getD_set _ _ _ _ ha]
      split
      · rename_i e; rw [e]; rfl
      · rfl
    simp only [leafP, hnx]
    split
    · rfl
    · rename_i hz
      refine ih _ (hw.nx hb k) (fun j hj => h4 j (by simp [hj])) ?_
      rw [h.step b hb k (h4 k (by simp)) hz, List.append_assoc]
      exact hne
theorem path_set {ns : List Nd} {path : Nat → List Nat} (h : Pth ns path) {a : Nat} (ha : a < ns.length) (x : Nat) : Pth (ns.set a { ns.getD a nd0 with c := x }) path := by
  refine ⟨h.root, fun b hb k hk hne => ?_⟩
  rw [List.length_set] at hb
  have hnx : ((ns.set a { ns.getD a nd0 with c := x }).getD b nd0).nx k = (ns.getD b nd0).nx k := by
    rw [getD_set _ _ _ _ ha]
    split
    · rename_i e; rw [e]; rfl
    · rfl
  rw [hnx] at hne ⊢
  exact h.step b hb k hk hne
/-- a tree -/
structure Tre (ns : List Nd) : Prop where
  wf : Wf ns
  pos : 0 < ns.length
  path : ∃ path, Pth ns path
theorem Tre.add {ns : List Nd} (h : Tre ns) (t f c : Nat) : Tre (addN ns t f c) ∧ ∀ ws, (∀ j ∈ ws, j < 4) → ws ≠ ways t f 1 10 → leafP (addN ns t f c) 0 ws = leafP ns 0 ws := by
  obtain ⟨path, hp⟩ := h.path
  obtain ⟨⟨p1, q1, q2⟩, q3⟩ := addTo_leaf h.wf h.pos hp t f 10
  obtain ⟨w1, w2, w3⟩ := addTo_wf h.wf h.pos t f 10
  obtain ⟨a1, a2, a3⟩ := addN_wf h.wf h.pos t f c
  refine ⟨⟨a1, a3, p1, path_set q1 w2 _⟩, fun ws h4 hne => ?_⟩
  rw [← q3 ws h4]
  refine leaf_set w1 q1 w2 _ ws 0 (by omega) h4 ?_
  rw [q1.root, q2]
  exact hne
theorem leaf_le {ns ns' : List Nd} (hnx : ∀ b k, (ns'.getD b nd0).nx k = (ns.getD b nd0).nx k) (hc : ∀ b, (ns'.getD b nd0).c ≤ (ns.getD b nd0).c) : ∀ (ws : List Nat) (b : Nat), leafP ns' b ws ≤ leafP ns b ws := by
  intro ws
  induction ws with
  | nil => intro b; exact hc b
  | cons k ws ih =>
    intro b
    simp only [leafP, hnx]
    split
    · exact Nat.le_refl _
    · exact ih _
theorem Tre.drop {ns ns' : List Nd} (h : Tre ns) {t f : Nat} (hd : dropN ns t f = some ns') : Tre ns' ∧ ∀ ws, leafP ns' 0 ws ≤ leafP ns 0 ws := by
  unfold dropN at hd
  cases ha : dropTo ns t f 10 with
  | none => rw [ha] at hd; simp at hd
  | some a =>
    have hal := dropTo_lt h.wf h.pos t f 10 a ha
    rw [ha] at hd
    simp only at hd
    split at hd
    · simp at hd
    · simp only [Option.some.injEq] at hd
      subst hd
      obtain ⟨path, hp⟩ := h.path
      refine ⟨⟨fun j hj => ?_, by rw [List.length_set]; exact h.pos, path, path_set hp hal _⟩, fun ws => leaf_le (fun b k => ?_) (fun b => ?_) ws 0⟩
      · rw [List.length_set] at hj ⊢
        rw [getD_set _ _ _ _ hal]
        split
        · exact h.wf a hal
        · exact h.wf j hj
      · rw [getD_set _ _ _ _ hal]
        split
        · rename_i e; rw [e]; rfl
        · rfl
      · rw [getD_set _ _ _ _ hal]
        split
        · rename_i e
          rw [e]
          show (ns.getD a nd0).c - 1 ≤ _
          omega
        · exact Nat.le_refl _

end Go.Proofs.YthboeppmlhbofaaGreatDoor

/-
  Check is sound: plain.
-/
namespace Go.Proofs.YthboeppmlhbofaaGreatDoor
open Go.RowKit Txt
set_option maxRecDepth 100000

theorem way_bits (t f : Nat) {v : Nat} (h1 : 1 ≤ v) (h2 : v ≤ 10) : wayN t f ((v : Nat) : Int) = (t.testBit v).toNat + 2 * (f.testBit v).toNat := by
  unfold wayN
  rw [has_pos t f h1 h2, has_neg t f h1 h2]
theorem sat_not (W : Nat → Bool) (t f : Nat) : ∀ (m v : Nat), 1 ≤ v → m + v = 11 → ¬ satW W v (ways t f v m) → ∀ u, v ≤ u → u ≤ 10 → (t.testBit u = true → W u = false) ∧ (f.testBit u = true → W u = true) := by
  intro m
  induction m with
  | zero => intro v _ h _ u h1 h2; omega
  | succ m ih =>
    intro v h1 h2 hn u hu1 hu2
    simp only [ways, satW] at hn
    rw [way_bits t f h1 (by omega)] at hn
    by_cases e : u = v
    · subst e
      refine ⟨fun hb => ?_, fun hb => ?_⟩
      · cases hw : W u with
        | false => rfl
        | true =>
          exfalso
          apply hn
          left
          rw [hb]
          refine ⟨?_, hw⟩
          cases f.testBit u <;> simp
      · cases hw : W u with
        | true => rfl
        | false =>
          exfalso
          apply hn
          right; left
          rw [hb]
          refine ⟨?_, hw⟩
          cases t.testBit u <;> simp
    · exact ih (v + 1) (by omega) (by omega) (fun h => hn (.inr (.inr h))) u (by omega) hu2
theorem sat_of (W : Nat → Bool) (t f : Nat) : ∀ (m v : Nat), 1 ≤ v → m + v = 11 → satW W v (ways t f v m) → ∃ u, v ≤ u ∧ u ≤ 10 ∧ ((t.testBit u = true ∧ W u = true) ∨ (f.testBit u = true ∧ W u = false)) := by
  intro m
  induction m with
  | zero => intro v _ _ h; exact h.elim
  | succ m ih =>
    intro v h1 h2 h
    simp only [ways, satW] at h
    rw [way_bits t f h1 (by omega)] at h
    rcases h with ⟨h, hw⟩ | ⟨h, hw⟩ | h
    · refine ⟨v, Nat.le_refl _, by omega, .inl ⟨?_, hw⟩⟩
      cases hb : t.testBit v with
      | true => rfl
      | false => rw [hb] at h; cases hq : f.testBit v <;> rw [hq] at h <;> simp at h
    · refine ⟨v, Nat.le_refl _, by omega, .inr ⟨?_, hw⟩⟩
      cases hb : f.testBit v with
      | true => rfl
      | false => rw [hb] at h; cases hq : t.testBit v <;> rw [hq] at h <;> simp at h
    · obtain ⟨u, q1, q2, q3⟩ := ih (v + 1) (by omega) (by omega) h
      exact ⟨u, by omega, q2, q3⟩
theorem follows_sound (W : Nat → Bool) (ns : List Nd) (hI : Inv W ns) (t f : Nat) (ht : t < 2 ^ 11) (hf : f < 2 ^ 11) (zt : t.testBit 0 = false) (zf : f.testBit 0 = false) (h : followsN ns t f = true) : satW W 1 (ways t f 1 10) := by
  apply Classical.byContradiction
  intro hn
  have hb := sat_not W t f 10 1 (by decide) rfl hn
  have hk : KW W f t := ⟨fun v h1 h2 => (hb v h1 h2).2, fun v h1 h2 => (hb v h1 h2).1, zf, zt⟩
  have := fol_sound W ns hI 4096 f t hf ht hk
  have h' : fol ns 4096 f t = true := h
  rw [this] at h'
  simp at h'
theorem posOk_zero (xs : List Int) : (posOk xs).testBit 0 = false := by
  unfold posOk
  split
  · rename_i h; exact (Two.set xs h).zt
  · simp
theorem negOk_zero (xs : List Int) : (negOk xs).testBit 0 = false := by
  unfold negOk
  split
  · rename_i h; exact (Two.set xs h).zf
  · simp
theorem Inv.add {W : Nat → Bool} {ns : List Nd} (hI : Inv W ns) (h : Tre ns) {t f c : Nat} (hs : satW W 1 (ways t f 1 10)) : Inv W (addN ns t f c) := by
  intro ws hl h4 hne
  by_cases e : ws = ways t f 1 10
  · rw [e]; exact hs
  · rw [(h.add t f c).2 ws h4 e] at hne
    exact hI ws hl h4 hne
def satX (W : Nat → Bool) (xs : List Int) : Prop := satW W 1 (ways (posOk xs) (negOk xs) 1 10)
theorem step_sound {W : Nat → Bool} {ns : List Nd} (hI : Inv W ns) (h : Tre ns) (lt : Nat) (xs : List Int) (he : (stepN ns lt xs).1 = 0) : Inv W (stepN ns lt xs).2 ∧ Tre (stepN ns lt xs).2 ∧ (lt = 101 → satX W xs) := by
  unfold stepN at he ⊢
  split at he
  · rename_i h100
    rw [if_pos h100]
    cases hd : dropN ns (posOk xs) (negOk xs) with
    | none => rw [hd] at he; simp at he
    | some ns' =>
      obtain ⟨h1, h2⟩ := h.drop hd
      refine ⟨fun ws hl h4 hne => hI ws hl h4 (fun e => hne ?_), h1, fun e => by omega⟩
      have := h2 ws
      rw [e] at this
      exact Nat.le_zero.1 this
  · rename_i h100
    rw [if_neg h100]
    split at he
    · simp at he
    · rename_i hf
      rw [if_neg hf]
      have hfo : followsN ns (posOk xs) (negOk xs) = true := by simpa using hf
      have hs := follows_sound W ns hI _ _ (posOk_lt xs) (negOk_lt xs) (posOk_zero xs) (negOk_zero xs) hfo
      split
      · exact ⟨hI.add h hs, (h.add _ _ _).1, fun _ => hs⟩
      · exact ⟨hI, h, fun _ => hs⟩
theorem chk_sound (W : Nat → Bool) (l : List UInt8) : ∀ (m : Nat) (ns : List Nd) (p n lt : Nat) (xs : List Int), Inv W ns → Tre ns → (lt = 101 → satX W xs) → (chkN l m ns p n lt xs).2.1 = 0 → satX W (chkN l m ns p n lt xs).1 := by
  intro m
  induction m with
  | zero => intro ns p n lt xs _ _ _ h; simp [chkN] at h
  | succ m ih =>
    intro ns p n lt xs hI hT hx h
    simp only [chkN] at h ⊢
    split at h
    · rename_i hp
      rw [if_pos hp]
      cases hr : rdLine l p with
      | none => rw [hr] at h; simp at h
      | some r =>
        obtain ⟨lt', xs', q⟩ := r
        rw [hr] at h
        simp only at h ⊢
        by_cases he : (stepN ns lt' xs').1 = 0
        · rw [if_neg (by simpa using he)] at h ⊢
          obtain ⟨s1, s2, s3⟩ := step_sound hI hT lt' xs' he
          exact ih _ _ _ _ _ s1 s2 s3 h
        · rw [if_pos he] at h
          exact absurd h he
    · rename_i hp
      rw [if_neg hp]
      by_cases h101 : lt = 101
      · rw [if_neg (by simpa using h101)]
        exact hx h101
      · rw [if_pos h101] at h
        simp at h
theorem chk_err (l : List UInt8) : ∀ (m : Nat) (ns : List Nd) (p n lt : Nat) (xs : List Int), (chkN l m ns p n lt xs).2.1 ≠ 0 → (chkN l m ns p n lt xs).1 = [] := by
  intro m
  induction m with
  | zero => intro ns p n lt xs _; rfl
  | succ m ih =>
    intro ns p n lt xs h
    simp only [chkN] at h ⊢
    split at h
    · rename_i hp
      rw [if_pos hp]
      cases hr : rdLine l p with
      | none => rfl
      | some r =>
        obtain ⟨lt', xs', q⟩ := r
        rw [hr] at h
        simp only at h ⊢
        by_cases he : (stepN ns lt' xs').1 = 0
        · rw [if_neg (by simpa using he)] at h ⊢
          exact ih _ _ _ _ _ h
        · rw [if_pos he]
    · rename_i hp
      rw [if_neg hp]
      by_cases h101 : lt = 101
      · rw [if_neg (by simpa using h101)] at h
        simp at h
      · rw [if_pos h101]

/-- a clause's literals and its bits -/
theorem pos_bit {xs : List Int} {x : Int} (hx : x ∈ xs) (hp : 0 < x) : (posN xs).testBit x.toNat = true := by
  have key : ∀ (ys : List Int) (a : Nat), (a.testBit x.toNat = true ∨ x ∈ ys) → (ys.foldl (fun a l => a ||| posB l) a).testBit x.toNat = true := by
    intro ys
    induction ys with
    | nil => intro a h; rcases h with h | h
             · exact h
             · simp at h
    | cons y ys ih =>
      intro a h
      refine ih _ ?_
      rcases h with h | h
      · left; rw [Nat.testBit_or, h]; rfl
      · rcases List.mem_cons.1 h with rfl | h
        · left
          rw [Nat.testBit_or]
          unfold posB
          rw [if_pos hp, Nat.testBit_two_pow]
          simp
        · exact .inr h
  exact key xs 0 (.inr hx)
theorem neg_bit {xs : List Int} {x : Int} (hx : x ∈ xs) (hp : x < 0) : (negN xs).testBit (-x).toNat = true := by
  have key : ∀ (ys : List Int) (a : Nat), (a.testBit (-x).toNat = true ∨ x ∈ ys) → (ys.foldl (fun a l => a ||| negB l) a).testBit (-x).toNat = true := by
    intro ys
    induction ys with
    | nil => intro a h; rcases h with h | h
             · exact h
             · simp at h
    | cons y ys ih =>
      intro a h
      refine ih _ ?_
      rcases h with h | h
      · left; rw [Nat.testBit_or, h]; rfl
      · rcases List.mem_cons.1 h with rfl | h
        · left
          rw [Nat.testBit_or]
          unfold negB
          rw [if_neg (by omega), Nat.testBit_two_pow]
          simp
        · exact .inr h
  exact key xs 0 (.inr hx)
theorem bit_pos {xs : List Int} {v : Nat} (h : (posN xs).testBit v = true) : ∃ x ∈ xs, 0 < x ∧ x.toNat = v := by
  have key : ∀ (ys : List Int) (a : Nat), (ys.foldl (fun a l => a ||| posB l) a).testBit v = true → a.testBit v = true ∨ ∃ x ∈ ys, 0 < x ∧ x.toNat = v := by
    intro ys
    induction ys with
    | nil => intro a h; exact .inl h
    | cons y ys ih =>
      intro a h
      rcases ih _ h with h | ⟨x, h1, h2⟩
      · rw [Nat.testBit_or, Bool.or_eq_true] at h
        rcases h with h | h
        · exact .inl h
        · unfold posB at h
          split at h
          · rename_i hp
            rw [Nat.testBit_two_pow, decide_eq_true_eq] at h
            exact .inr ⟨y, by simp, hp, h⟩
          · simp at h
      · exact .inr ⟨x, by simp [h1], h2⟩
  rcases key xs 0 h with h | h
  · simp at h
  · exact h
theorem bit_neg {xs : List Int} {v : Nat} (hv : 1 ≤ v) (h : (negN xs).testBit v = true) : ∃ x ∈ xs, x < 0 ∧ (-x).toNat = v := by
  have key : ∀ (ys : List Int) (a : Nat), (ys.foldl (fun a l => a ||| negB l) a).testBit v = true → a.testBit v = true ∨ ∃ x ∈ ys, x < 0 ∧ (-x).toNat = v := by
    intro ys
    induction ys with
    | nil => intro a h; exact .inl h
    | cons y ys ih =>
      intro a h
      rcases ih _ h with h | ⟨x, h1, h2⟩
      · rw [Nat.testBit_or, Bool.or_eq_true] at h
        rcases h with h | h
        · exact .inl h
        · unfold negB at h
          split at h
          · simp at h
          · rename_i hp
            rw [Nat.testBit_two_pow, decide_eq_true_eq] at h
            exact .inr ⟨y, by simp, by omega, h⟩
      · exact .inr ⟨x, by simp [h1], h2⟩
  rcases key xs 0 h with h | h
  · simp at h
  · exact h
/-- a world that allows a clause -/
def satL (W : Nat → Bool) (xs : List Int) : Prop := ∃ x ∈ xs, litB x = true ∧ litSo W x
theorem satX_L {W : Nat → Bool} {xs : List Int} (h : satX W xs) : satL W xs := by
  obtain ⟨u, h1, h2, h3⟩ := sat_of W _ _ 10 1 (by decide) rfl h
  have hall : xs.all litB = true := by
    cases ha : xs.all litB with
    | true => rfl
    | false =>
      have e1 : posOk xs = 0 := by simp [posOk, ha]
      have e2 : negOk xs = 0 := by simp [negOk, ha]
      rw [e1, e2] at h3
      simp at h3
  have e1 : posOk xs = posN xs := by simp [posOk, hall]
  have e2 : negOk xs = negN xs := by simp [negOk, hall]
  rw [e1, e2] at h3
  have hm : ∀ x ∈ xs, litB x = true := List.all_eq_true.1 hall
  rcases h3 with ⟨hb, hw⟩ | ⟨hb, hw⟩
  · obtain ⟨x, hx, hp, rfl⟩ := bit_pos hb
    exact ⟨x, hx, hm x hx, .inl ⟨hp, hw⟩⟩
  · obtain ⟨x, hx, hp, rfl⟩ := bit_neg h1 hb
    exact ⟨x, hx, hm x hx, .inr ⟨hp, hw⟩⟩
theorem satL_W {W : Nat → Bool} {xs : List Int} (h : satL W xs) : satW W 1 (ways (posN xs) (negN xs) 1 10) := by
  apply Classical.byContradiction
  intro hn
  have hb := sat_not W _ _ 10 1 (by decide) rfl hn
  obtain ⟨x, hx, hl, hs⟩ := h
  simp only [litB, Bool.and_eq_true, bne_iff_ne, decide_eq_true_eq] at hl
  rcases hs with ⟨hp, hw⟩ | ⟨hp, hw⟩
  · have := (hb x.toNat (by omega) (by omega)).1 (pos_bit hx hp)
    rw [hw] at this; simp at this
  · have := (hb (-x).toNat (by omega) (by omega)).2 (neg_bit hx hp)
    rw [hw] at this; simp at this
theorem cvN_nil {t : Nat} (h : cvN t = 0) {v : Nat} (h1 : 1 ≤ v) (h2 : v ≤ 10) : t.testBit v = false := by
  simp only [cvN, cvTo, Nat.add_eq_zero_iff, Bool.toNat_eq_zero] at h
  have hq : v = 1 ∨ v = 2 ∨ v = 3 ∨ v = 4 ∨ v = 5 ∨ v = 6 ∨ v = 7 ∨ v = 8 ∨ v = 9 ∨ v = 10 := by omega
  rcases hq with rfl | rfl | rfl | rfl | rfl | rfl | rfl | rfl | rfl | rfl <;> simp_all
theorem take_sound (W : Nat → Bool) : ∀ (cs : List (List Int)) (ss : List Pr) (i : Nat) (ss' : List Pr) (em' : Nat), (∀ c ∈ cs, satL W c) → (∀ p ∈ ss, satW W 1 (ways p.1 p.2 1 10)) → takeN cs ss 0 i = .inr (ss', em') → (∀ p ∈ ss', satW W 1 (ways p.1 p.2 1 10)) ∧ em' = 0 := by
  intro cs
  induction cs with
  | nil =>
    intro ss i ss' em' _ h2 h
    simp only [takeN, Sum.inr.injEq, Prod.mk.injEq] at h
    obtain ⟨rfl, rfl⟩ := h
    exact ⟨h2, rfl⟩
  | cons c cs ih =>
    intro ss i ss' em' h1 h2 h
    have hc := satL_W (h1 c (by simp))
    have h1' : ∀ c ∈ cs, satL W c := fun x hx => h1 x (by simp [hx])
    simp only [takeN] at h
    unfold addR at h
    split at h
    · simp at h
    · rename_i ss1 em1 hr
      split at hr
      · simp at hr
      · split at hr
        · simp only [AR.ok.injEq] at hr
          obtain ⟨rfl, rfl⟩ := hr
          exact ih _ _ _ _ h1' h2 h
        · split at hr
          · rename_i hz
            exfalso
            have hz' : cvN (posN c) + cvN (negN c) = 0 := hz
            obtain ⟨u, q1, q2, q3⟩ := sat_of W _ _ 10 1 (by decide) rfl hc
            have e1 := cvN_nil (t := posN c) (by omega) q1 q2
            have e2 := cvN_nil (t := negN c) (by omega) q1 q2
            rw [e1, e2] at q3
            simp at q3
          · split at hr
            · simp at hr
            · simp only [AR.ok.injEq] at hr
              obtain ⟨rfl, rfl⟩ := hr
              refine ih _ _ _ _ h1' (fun p hp => ?_) h
              rcases List.mem_append.1 hp with hp | hp
              · exact h2 p hp
              · simp at hp; subst hp; exact hc
theorem tre_one : Tre [nd0] := ⟨wf_one, by decide, fun _ => [], rfl, fun a ha k hk hne => by
  have : a = 0 := by simp at ha; omega
  subst this
  exfalso
  apply hne
  have h4 : k = 0 ∨ k = 1 ∨ k = 2 ∨ k = 3 := by omega
  rcases h4 with rfl | rfl | rfl | rfl <;> rfl⟩
theorem inv_one (W : Nat → Bool) : Inv W (addN [nd0] 0 0 0) := by
  intro ws hl h4 hne
  exfalso
  apply hne
  by_cases e : ws = ways 0 0 1 10
  · rw [e]; decide
  · rw [(tre_one.add 0 0 0).2 ws h4 e]
    exact leaf_nd0 _ _ rfl _
theorem stand_sound (W : Nat → Bool) (ss : List Pr) (h : ∀ p ∈ ss, satW W 1 (ways p.1 p.2 1 10)) : Inv W (standN ss 0) ∧ Tre (standN ss 0) := by
  have key : ∀ (l : List Pr) (ns : List Nd), Inv W ns → Tre ns → (∀ p ∈ l, satW W 1 (ways p.1 p.2 1 10)) → Inv W (l.foldl (fun ns p => addN ns p.1 p.2 1) ns) ∧ Tre (l.foldl (fun ns p => addN ns p.1 p.2 1) ns) := by
    intro l
    induction l with
    | nil => intro ns h1 h2 _; exact ⟨h1, h2⟩
    | cons p l ih => intro ns h1 h2 h3; exact ih _ (h1.add h2 (h3 p (by simp))) (h2.add _ _ _).1 (fun q hq => h3 q (by simp [hq]))
  exact key ss _ (inv_one W) (tre_one.add 0 0 0).1 h
theorem check_sound (W : Nat → Bool) (cls : List (List Int)) (l : List UInt8) (h : ∀ c ∈ cls, satL W c) (he : (checkN cls l).2.1 = 0) : satL W (checkN cls l).1 := by
  unfold checkN at he ⊢
  split at he
  · simp at he
  · rename_i hb
    rw [if_neg hb]
    cases ht : takeN cls [] 0 0 with
    | inl r =>
      obtain ⟨e, i⟩ := r
      rw [ht] at he
      simp only at he
      exfalso
      have key : ∀ (cs : List (List Int)) (ss : List Pr) (em i : Nat) (e : Int) (j : Nat), takeN cs ss em i = .inl (e, j) → e ≠ 0 := by
        intro cs
        induction cs with
        | nil => intro ss em i e j h; simp [takeN] at h
        | cons c cs ih =>
          intro ss em i e j h
          simp only [takeN] at h
          cases ha : addR c ss em with
          | err e' =>
            rw [ha] at h
            simp only [Sum.inl.injEq, Prod.mk.injEq] at h
            obtain ⟨rfl, _⟩ := h
            unfold addR at ha
            split at ha
            · simp only [AR.err.injEq] at ha; omega
            · split at ha
              · simp at ha
              · split at ha
                · simp at ha
                · split at ha
                  · simp only [AR.err.injEq] at ha; omega
                  · simp at ha
          | ok s' m' => rw [ha] at h; exact ih _ _ _ _ _ h
      exact key _ _ _ _ _ _ ht he
    | inr r =>
      obtain ⟨ss, em⟩ := r
      rw [ht] at he
      simp only at he ⊢
      obtain ⟨h1, rfl⟩ := take_sound W cls [] 0 ss em h (fun p hp => by simp at hp) ht
      obtain ⟨h2, h3⟩ := stand_sound W ss h1
      exact satX_L (chk_sound W l _ _ _ _ _ _ h2 h3 (fun e => by simp at e) he)
theorem check_err (cls : List (List Int)) (l : List UInt8) (he : (checkN cls l).2.1 ≠ 0) : (checkN cls l).1 = [] := by
  unfold checkN at he ⊢
  split
  · rfl
  · rename_i hb
    rw [if_neg hb] at he
    split
    · rfl
    · rename_i ss em ht
      rw [ht] at he
      exact chk_err l _ _ _ _ _ _ he

end Go.Proofs.YthboeppmlhbofaaGreatDoor
