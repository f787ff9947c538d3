/-
  How often a clause stands there, behind Add and Drop: plain.
-/
import Derived.Test.YthboeppmlhbofaaMoo
namespace Go.Proofs.Ythboeppmlhbofaa
open Go.RowKit Txt
set_option maxRecDepth 100000

theorem leaf_drop (ns : List Nd) (t f : Nat) : ∀ (m k a : Nat), m + k = 10 → dropTo ns t f k = some a → leafP ns a (ways t f (k + 1) m) = (match dropTo ns t f 10 with | none => 0 | some b => (ns.getD b nd0).c) := by
  intro m
  induction m with
  | zero =>
    intro k a hk hd
    have e : k = 10 := by omega
    subst e
    rw [hd]
    rfl
  | succ m ih =>
    intro k a hk hd
    have hs : dropTo ns t f (k + 1) = if (ns.getD a nd0).nx (wayN t f ((k + 1 : Nat) : Int)) = 0 then none else some ((ns.getD a nd0).nx (wayN t f ((k + 1 : Nat) : Int))) := by simp only [dropTo, hd]
    simp only [ways, leafP]
    by_cases hz : (ns.getD a nd0).nx (wayN t f ((k + 1 : Nat) : Int)) = 0
    · rw [if_pos hz] at hs ⊢
      have h2 := dropTo_none (10 - (k + 1)) (k + 1) hs
      rw [show k + 1 + (10 - (k + 1)) = 10 by omega] at h2
      rw [h2]
    · rw [if_neg hz] at hs ⊢
      exact ih (k + 1) _ (by omega) hs
theorem leaf_way (ns : List Nd) (t f : Nat) : leafP ns 0 (ways t f 1 10) = (match dropTo ns t f 10 with | none => 0 | some b => (ns.getD b nd0).c) := leaf_drop ns t f 10 0 0 rfl rfl
theorem path_drop {ns : List Nd} (hw : Wf ns) (hp : 0 < ns.length) {path : Nat → List Nat} (h : Pth ns path) (t f : Nat) : ∀ (k a : Nat), dropTo ns t f k = some a → path a = ways t f 1 k := by
  intro k
  induction k with
  | zero => intro a e; simp only [dropTo, Option.some.injEq] at e; rw [← e]; exact h.root
  | succ k ih =>
    intro a e
    simp only [dropTo] at e
    split at e
    · simp at e
    · rename_i b hb
      split at e
      · simp at e
      · rename_i hz
        simp only [Option.some.injEq] at e
        rw [← e, h.step b (dropTo_lt hw hp t f k b hb) _ (wayN_lt _ _ _) hz, ih b hb, ways_snoc, show 1 + k = k + 1 by omega]
theorem dropTo_same {ns ns' : List Nd} (hnx : ∀ b k, (ns'.getD b nd0).nx k = (ns.getD b nd0).nx k) (t f : Nat) : ∀ k, dropTo ns' t f k = dropTo ns t f k := by
  intro k
  induction k with
  | zero => rfl
  | succ k ih => simp only [dropTo, ih, hnx]
theorem set_nx {ns : List Nd} {a : Nat} (ha : a < ns.length) (x : Nat) (b k : Nat) : ((ns.set a { ns.getD a nd0 with c := x }).getD b nd0).nx k = (ns.getD b nd0).nx k := by
  rw [getD_set _ _ _ _ ha]
  split
  · rename_i e; rw [e]; rfl
  · rfl
theorem Tre.drop_leaf {ns ns' : List Nd} (h : Tre ns) {t f : Nat} (hd : dropN ns t f = some ns') : (∀ ws, (∀ j ∈ ws, j < 4) → ws ≠ ways t f 1 10 → leafP ns' 0 ws = leafP ns 0 ws) ∧ leafP ns' 0 (ways t f 1 10) + 1 = leafP ns 0 (ways t f 1 10) := by
  unfold dropN at hd
  cases ha : dropTo ns t f 10 with
  | none => rw [ha] at hd; simp at hd
  | some a =>
    have hal := dropTo_lt h.wf h.pos t f 10 a ha
    rw [ha] at hd
    simp only at hd
    split at hd
    · simp at hd
    · rename_i hz
      simp only [Option.some.injEq] at hd
      subst hd
      obtain ⟨path, hp⟩ := h.path
      refine ⟨fun ws h4 hne => leaf_set h.wf hp hal _ ws 0 h.pos h4 ?_, ?_⟩
      · rw [hp.root, path_drop h.wf h.pos hp t f 10 a ha]
        exact hne
      · rw [leaf_way, leaf_way, dropTo_same (set_nx hal _), ha]
        simp only
        rw [getD_set _ _ _ _ hal, if_pos rfl]
        show (ns.getD a nd0).c - 1 + 1 = _
        omega
theorem drop_none {ns : List Nd} {t f : Nat} : dropN ns t f = none ↔ leafP ns 0 (ways t f 1 10) = 0 := by
  rw [leaf_way]
  unfold dropN
  cases ha : dropTo ns t f 10 with
  | none => simp
  | some a =>
    simp
theorem grow_nx {ns : List Nd} {a k : Nat} (ha : a < ns.length) (hk : k < 4) (b j : Nat) (hj : j < 4) (hn : (ns.getD b nd0).nx j ≠ 0) : ((growN ns a k).1.getD b nd0).nx j = (ns.getD b nd0).nx j := by
  unfold growN
  split
  · rename_i hz
    show ((ns.set a ((ns.getD a nd0).put k ns.length) ++ [nd0]).getD b nd0).nx j = _
    rw [getD_snoc, getD_set _ _ _ _ ha]
    split
    · rename_i e
      rw [e] at hn ⊢
      exact put_other _ hk hj (fun e2 => hn (by rw [e2]; exact hz))
    · rfl
  · rfl
theorem dropTo_grow {ns : List Nd} {a k : Nat} (ha : a < ns.length) (hk : k < 4) (t f : Nat) : ∀ (j b : Nat), dropTo ns t f j = some b → dropTo (growN ns a k).1 t f j = some b := by
  intro j
  induction j with
  | zero => intro b h; exact h
  | succ j ih =>
    intro b h
    simp only [dropTo] at h ⊢
    split at h
    · simp at h
    · rename_i c hc
      split at h
      · simp at h
      · rename_i hz
        simp only [Option.some.injEq] at h
        rw [ih c hc]
        simp only
        rw [grow_nx ha hk c _ (wayN_lt _ _ _) hz, if_neg hz, h]
theorem addTo_drop {ns : List Nd} (hw : Wf ns) (hp : 0 < ns.length) (t f : Nat) : ∀ k, dropTo (addTo ns t f k).1 t f k = some (addTo ns t f k).2 := by
  intro k
  induction k with
  | zero => rfl
  | succ k ih =>
    obtain ⟨w1, w2, w3⟩ := addTo_wf hw hp t f k
    have h1 := dropTo_grow w2 (wayN_lt t f ((k + 1 : Nat) : Int)) t f k _ ih
    show dropTo (growN (addTo ns t f k).1 (addTo ns t f k).2 (wayN t f ((k + 1 : Nat) : Int))).1 t f (k + 1) = _
    simp only [dropTo, h1]
    show _ = some (growN (addTo ns t f k).1 (addTo ns t f k).2 (wayN t f ((k + 1 : Nat) : Int))).2
    generalize hwy : wayN t f ((k + 1 : Nat) : Int) = wy at *
    have hwl : wy < 4 := hwy ▸ wayN_lt t f _
    unfold growN
    split
    · rename_i hz
      show (if ((((addTo ns t f k).1.set _ _) ++ [nd0]).getD _ nd0).nx wy = 0 then none else some _) = some _
      rw [get_grown w2, Nd.put_nx _ hwl, if_neg (by omega)]
    · rfl
theorem Tre.add_leaf {ns : List Nd} (h : Tre ns) (t f c : Nat) : leafP (addN ns t f c) 0 (ways t f 1 10) = leafP ns 0 (ways t f 1 10) + c := by
  obtain ⟨path, hp⟩ := h.path
  obtain ⟨_, q3⟩ := addTo_leaf h.wf h.pos hp t f 10
  obtain ⟨w1, w2, w3⟩ := addTo_wf h.wf h.pos t f 10
  have hd := addTo_drop h.wf h.pos t f 10
  have h4 : ∀ j ∈ ways t f 1 10, j < 4 := by
    intro j hj
    simp only [ways, List.mem_cons, List.not_mem_nil, or_false] at hj
    rcases hj with rfl | rfl | rfl | rfl | rfl | rfl | rfl | rfl | rfl | rfl <;> exact wayN_lt _ _ _
  rw [← q3 _ h4, leaf_way, leaf_way, hd]
  unfold addN
  rw [dropTo_same (set_nx w2 _), hd]
  simp only
  rw [getD_set _ _ _ _ w2, if_pos rfl]

/-- at least as much stands there -/
def SubT (ns ns' : List Nd) : Prop := ∀ ws, (∀ k ∈ ws, k < 4) → leafP ns 0 ws ≤ leafP ns' 0 ws
theorem SubT.add {ns ns' : List Nd} (h : SubT ns ns') (h1 : Tre ns) (h2 : Tre ns') (t f c : Nat) : SubT (addN ns t f c) (addN ns' t f c) := by
  intro ws h4
  by_cases e : ws = ways t f 1 10
  · subst e
    rw [h1.add_leaf, h2.add_leaf]
    have := h _ h4
    omega
  · rw [(h1.add t f c).2 ws h4 e, (h2.add t f c).2 ws h4 e]
    exact h ws h4
theorem SubT.more {ns : List Nd} (h1 : Tre ns) (t f c : Nat) : SubT ns (addN ns t f c) := by
  intro ws h4
  by_cases e : ws = ways t f 1 10
  · subst e
    rw [h1.add_leaf]
    omega
  · rw [(h1.add t f c).2 ws h4 e]
    exact Nat.le_refl _
theorem step_mono {ns ns' : List Nd} (h : SubT ns ns') (h1 : Tre ns) (h2 : Tre ns') (lt : Nat) (xs : List Int) (he : (stepN ns lt xs).1 = 0) : (stepN ns' lt xs).1 = 0 ∧ SubT (stepN ns lt xs).2 (stepN ns' lt xs).2 ∧ Tre (stepN ns lt xs).2 ∧ Tre (stepN ns' lt xs).2 := by
  unfold stepN at he ⊢
  split at he
  · rename_i h100
    rw [if_pos h100, if_pos h100]
    have hw4 : ∀ j ∈ ways (posOk xs) (negOk xs) 1 10, j < 4 := by
      intro j hj
      simp only [ways, List.mem_cons, List.not_mem_nil, or_false] at hj
      rcases hj with rfl | rfl | rfl | rfl | rfl | rfl | rfl | rfl | rfl | rfl <;> exact wayN_lt _ _ _
    cases hd : dropN ns (posOk xs) (negOk xs) with
    | none => rw [hd] at he; simp at he
    | some n1 =>
      obtain ⟨a1, a2⟩ := h1.drop_leaf hd
      cases hd' : dropN ns' (posOk xs) (negOk xs) with
      | none =>
        have := drop_none.1 hd'
        have := h _ hw4
        omega
      | some n2 =>
        obtain ⟨b1, b2⟩ := h2.drop_leaf hd'
        refine ⟨rfl, fun ws h4 => ?_, (h1.drop hd).1, (h2.drop hd').1⟩
        show leafP n1 0 ws ≤ leafP n2 0 ws
        by_cases e : ws = ways (posOk xs) (negOk xs) 1 10
        · subst e
          have := h _ h4
          omega
        · rw [a1 ws h4 e, b1 ws h4 e]
          exact h ws h4
  · rename_i h100
    rw [if_neg h100, if_neg h100]
    split at he
    · simp at he
    · rename_i hf
      have hfo : followsN ns (posOk xs) (negOk xs) = true := by simpa using hf
      have hfo' := follows_mono (ns' := ns') (fun ws _ h4 hq => by have := h ws h4; omega) (posOk_lt xs) (negOk_lt xs) hfo
      rw [if_neg hf, if_neg (by rw [hfo']; simp)]
      split
      · exact ⟨rfl, h.add h1 h2 _ _ _, (h1.add _ _ _).1, (h2.add _ _ _).1⟩
      · exact ⟨rfl, h, h1, h2⟩
theorem chk_mono (l : List UInt8) : ∀ (m : Nat) (ns ns' : List Nd) (p n lt : Nat) (xs : List Int), SubT ns ns' → Tre ns → Tre ns' → (chkN l m ns p n lt xs).2.1 = 0 → chkN l m ns' p n lt xs = chkN l m ns p n lt xs := by
  intro m
  induction m with
  | zero => intro ns ns' p n lt xs _ _ _ h; simp [chkN] at h
  | succ m ih =>
    intro ns ns' p n lt xs hs h1 h2 h
    simp only [chkN] at h ⊢
    split at h
    · rename_i hp
      rw [if_pos hp, if_pos hp]
      cases hr : rdLine l p with
      | none => rfl
      | some r =>
        obtain ⟨lt', xs', q⟩ := r
        rw [hr] at h
        simp only at h ⊢
        by_cases he : (stepN ns lt' xs').1 = 0
        · obtain ⟨s1, s2, s3, s4⟩ := step_mono hs h1 h2 lt' xs' he
          rw [if_neg (by simpa using he)] at h
          have e1 : ¬ (stepN ns' lt' xs').1 ≠ 0 := by simpa using s1
          have e2 : ¬ (stepN ns lt' xs').1 ≠ 0 := by simpa using he
          rw [if_neg e1, if_neg e2]
          exact ih _ _ _ _ _ _ s2 s3 s4 h
        · rw [if_pos he] at h
          exact absurd h he
    · rename_i hp
      rw [if_neg hp, if_neg hp]

end Go.Proofs.Ythboeppmlhbofaa
