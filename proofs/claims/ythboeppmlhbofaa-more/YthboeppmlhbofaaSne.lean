/-
  What stands in the tree: plain.
-/
import Derived.Test.YthboeppmlhbofaaSnd
namespace Go.Proofs.Ythboeppmlhbofaa
open Go.RowKit Txt
set_option maxRecDepth 100000

structure Pth (ns : List Nd) (path : Nat → List Nat) : Prop where
  root : path 0 = []
  step : ∀ a, a < ns.length → ∀ k, k < 4 → (ns.getD a nd0).nx k ≠ 0 → path ((ns.getD a nd0).nx k) = path a ++ [k]
theorem put_other (d : Nd) {k j x : Nat} (hk : k < 4) (hj : j < 4) (h : j ≠ k) : (d.put k x).nx j = d.nx j := by
  have a : k = 0 ∨ k = 1 ∨ k = 2 ∨ k = 3 := by omega
  have b : j = 0 ∨ j = 1 ∨ j = 2 ∨ j = 3 := by omega
  rcases a with rfl | rfl | rfl | rfl <;> rcases b with rfl | rfl | rfl | rfl <;> first | rfl | omega
theorem leaf_nd0 (ns : List Nd) (b : Nat) (h : ns.getD b nd0 = nd0) (ws : List Nat) : leafP ns b ws = 0 := by
  cases ws with
  | nil => simp only [leafP, h]; rfl
  | cons k ws =>
    simp only [leafP, h]
    rw [if_pos]
    unfold Nd.nx nd0
    split <;> rfl
theorem leaf_grow {ns : List Nd} (hw : Wf ns) {a k : Nat} (ha : a < ns.length) (hk : k < 4) : ∀ (ws : List Nat) (b : Nat), b < ns.length → (∀ j ∈ ws, j < 4) → leafP (growN ns a k).1 b ws = leafP ns b ws := by
  unfold growN
  split
  · rename_i hz
    intro ws
    induction ws with
    | nil =>
      intro b hb _
      simp only [leafP]
      rw [getD_snoc, getD_set _ _ _ _ ha]
      split
      · rename_i e; rw [put_c, e]
      · rfl
    | cons j ws ih =>
      intro b hb h4
      have hj : j < 4 := h4 j (by simp)
      have hsame : b ≠ a ∨ j ≠ k → ((ns.set a ((ns.getD a nd0).put k ns.length) ++ [nd0]).getD b nd0).nx j = (ns.getD b nd0).nx j := by
        intro h
        rw [getD_snoc, getD_set _ _ _ _ ha]
        split
        · rename_i e
          rw [e]
          exact put_other _ hk hj (h.resolve_left (fun hne => hne e))
        · rfl
      by_cases hc : b = a ∧ j = k
      · obtain ⟨rfl, rfl⟩ := hc
        simp only [leafP, hz, if_true]
        rw [getD_snoc, getD_set _ _ _ _ ha, if_pos rfl, Nd.put_nx _ hk]
        rw [if_neg (by omega)]
        apply leaf_nd0
        rw [getD_snoc, List.getD_eq_getElem?_getD, List.getElem?_eq_none (by rw [List.length_set]; exact Nat.le_refl _)]
        rfl
      · have hs := hsame (by
          by_cases e : b = a
          · exact .inr (fun e2 => hc ⟨e, e2⟩)
          · exact .inl e)
        simp only [leafP, hs]
        split
        · rfl
        · exact ih _ (hw.nx hb j) (fun x hx => h4 x (by simp [hx]))
  · intro ws b _ _; rfl
theorem path_grow {ns : List Nd} (hw : Wf ns) (hp : 0 < ns.length) {path : Nat → List Nat} (h : Pth ns path) {a k : Nat} (ha : a < ns.length) (hk : k < 4) : ∃ path', Pth (growN ns a k).1 path' ∧ path' (growN ns a k).2 = path a ++ [k] := by
  unfold growN
  split
  · rename_i hz
    refine ⟨fun i => if i = ns.length then path a ++ [k] else path i, ⟨?_, ?_⟩, by simp⟩
    · show (if 0 = ns.length then _ else _) = _
      rw [if_neg (by omega)]; exact h.root
    · intro b hb j hj hne
      have hlen : (ns.set a ((ns.getD a nd0).put k ns.length) ++ [nd0]).length = ns.length + 1 := by simp
      rw [hlen] at hb
      rw [getD_snoc, getD_set _ _ _ _ ha] at hne ⊢
      by_cases hbl : b = ns.length
      · subst hbl
        rw [if_neg (by omega)] at hne
        have e : ns.getD ns.length nd0 = nd0 := by rw [List.getD_eq_getElem?_getD, List.getElem?_eq_none (Nat.le_refl _)]; rfl
        rw [e] at hne
        exfalso
        apply hne
        unfold Nd.nx nd0
        split <;> rfl
      · have hb2 : b < ns.length := by omega
        by_cases e : b = a
        · subst e
          rw [if_pos rfl] at hne ⊢
          by_cases ej : j = k
          · subst ej
            rw [Nd.put_nx _ hk]
            show (if ns.length = ns.length then _ else _) = (if b = ns.length then _ else _) ++ _
            rw [if_pos rfl, if_neg (by omega)]
          · rw [put_other _ hk hj ej] at hne ⊢
            have hl := hw.nx hb2 j
            show (if _ = ns.length then _ else _) = (if b = ns.length then _ else _) ++ _
            rw [if_neg (by omega), if_neg (by omega)]
            exact h.step b hb2 j hj hne
        · rw [if_neg e] at hne ⊢
          have hl := hw.nx hb2 j
          show (if _ = ns.length then _ else _) = (if b = ns.length then _ else _) ++ _
          rw [if_neg (by omega), if_neg (by omega)]
          exact h.step b hb2 j hj hne
  · rename_i hz
    exact ⟨path, h, h.step a ha k hk hz⟩
theorem ways_len (t f : Nat) : ∀ (m v : Nat), (ways t f v m).length = m := by
  intro m
  induction m with
  | zero => intro v; rfl
  | succ m ih => intro v; simp [ways, ih]
theorem ways_snoc (t f : Nat) : ∀ (m v : Nat), ways t f v (m + 1) = ways t f v m ++ [wayN t f ((v + m : Nat) : Int)] := by
  intro m
  induction m with
  | zero => intro v; rfl
  | succ m ih =>
    intro v
    have := ih (v + 1)
    simp only [ways] at this ⊢
    rw [this, show v + 1 + m = v + (m + 1) by omega]
    rfl
theorem addTo_leaf {ns : List Nd} (hw : Wf ns) (hp : 0 < ns.length) {path : Nat → List Nat} (h : Pth ns path) (t f : Nat) : ∀ k, (∃ path', Pth (addTo ns t f k).1 path' ∧ path' (addTo ns t f k).2 = ways t f 1 k) ∧ ∀ ws, (∀ j ∈ ws, j < 4) → leafP (addTo ns t f k).1 0 ws = leafP ns 0 ws := by
  intro k
  induction k with
  | zero => exact ⟨⟨path, h, h.root⟩, fun ws _ => rfl⟩
  | succ k ih =>
    obtain ⟨⟨p1, q1, q2⟩, q3⟩ := ih
    obtain ⟨w1, w2, w3⟩ := addTo_wf hw hp t f k
    have hp1 : 0 < (addTo ns t f k).1.length := by omega
    obtain ⟨p2, r1, r2⟩ := path_grow w1 hp1 q1 w2 (wayN_lt t f ((k + 1 : Nat) : Int))
    refine ⟨⟨p2, r1, ?_⟩, fun ws h4 => ?_⟩
    · show p2 (growN _ _ _).2 = _
      rw [r2, q2, ways_snoc, show 1 + k = k + 1 by omega]
    · show leafP (growN _ _ _).1 0 ws = _
      rw [leaf_grow w1 w2 (wayN_lt _ _ _) ws 0 hp1 h4]
      exact q3 ws h4
theorem leaf_set {ns : List Nd} (hw : Wf ns) {path : Nat → List Nat} (h : Pth ns path) {a : Nat} (ha : a < ns.length) (x : Nat) : ∀ (ws : List Nat) (b : Nat), b < ns.length → (∀ j ∈ ws, j < 4) → path b ++ ws ≠ path a → leafP (ns.set a { ns.getD a nd0 with c := x }) b ws = leafP ns b ws := by
  intro ws
  induction ws with
  | nil =>
    intro b hb _ hne
    simp only [leafP]
    rw [getD_set _ _ _ _ ha, if_neg (fun e => hne (by rw [e]; simp))]
  | cons k ws ih =>
    intro b hb h4 hne
    have hnx : ((ns.set a { ns.getD a nd0 with c := x }).getD b nd0).nx k = (ns.getD b nd0).nx k := by
      rw [getD_set _ _ _ _ ha]
      split
      · rename_i e; rw [e]; rfl
      · rfl
    simp only [leafP, hnx]
    split
    · rfl
    · rename_i hz
      refine ih _ (hw.nx hb k) (fun j hj => h4 j (by simp [hj])) ?_
      rw [h.step b hb k (h4 k (by simp)) hz, List.append_assoc]
      exact hne
theorem path_set {ns : List Nd} {path : Nat → List Nat} (h : Pth ns path) {a : Nat} (ha : a < ns.length) (x : Nat) : Pth (ns.set a { ns.getD a nd0 with c := x }) path := by
  refine ⟨h.root, fun b hb k hk hne => ?_⟩
  rw [List.length_set] at hb
  have hnx : ((ns.set a { ns.getD a nd0 with c := x }).getD b nd0).nx k = (ns.getD b nd0).nx k := by
    rw [getD_set _ _ _ _ ha]
    split
    · rename_i e; rw [e]; rfl
    · rfl
  rw [hnx] at hne ⊢
  exact h.step b hb k hk hne
/-- a tree -/
structure Tre (ns : List Nd) : Prop where
  wf : Wf ns
  pos : 0 < ns.length
  path : ∃ path, Pth ns path
theorem Tre.add {ns : List Nd} (h : Tre ns) (t f c : Nat) : Tre (addN ns t f c) ∧ ∀ ws, (∀ j ∈ ws, j < 4) → ws ≠ ways t f 1 10 → leafP (addN ns t f c) 0 ws = leafP ns 0 ws := by
  obtain ⟨path, hp⟩ := h.path
  obtain ⟨⟨p1, q1, q2⟩, q3⟩ := addTo_leaf h.wf h.pos hp t f 10
  obtain ⟨w1, w2, w3⟩ := addTo_wf h.wf h.pos t f 10
  obtain ⟨a1, a2, a3⟩ := addN_wf h.wf h.pos t f c
  refine ⟨⟨a1, a3, p1, path_set q1 w2 _⟩, fun ws h4 hne => ?_⟩
  rw [← q3 ws h4]
  refine leaf_set w1 q1 w2 _ ws 0 (by omega) h4 ?_
  rw [q1.root, q2]
  exact hne
theorem leaf_le {ns ns' : List Nd} (hnx : ∀ b k, (ns'.getD b nd0).nx k = (ns.getD b nd0).nx k) (hc : ∀ b, (ns'.getD b nd0).c ≤ (ns.getD b nd0).c) : ∀ (ws : List Nat) (b : Nat), leafP ns' b ws ≤ leafP ns b ws := by
  intro ws
  induction ws with
  | nil => intro b; exact hc b
  | cons k ws ih =>
    intro b
    simp only [leafP, hnx]
    split
    · exact Nat.le_refl _
    · exact ih _
theorem Tre.drop {ns ns' : List Nd} (h : Tre ns) {t f : Nat} (hd : dropN ns t f = some ns') : Tre ns' ∧ ∀ ws, leafP ns' 0 ws ≤ leafP ns 0 ws := by
  unfold dropN at hd
  cases ha : dropTo ns t f 10 with
  | none => rw [ha] at hd; simp at hd
  | some a =>
    have hal := dropTo_lt h.wf h.pos t f 10 a ha
    rw [ha] at hd
    simp only at hd
    split at hd
    · simp at hd
    · simp only [Option.some.injEq] at hd
      subst hd
      obtain ⟨path, hp⟩ := h.path
      refine ⟨⟨fun j hj => ?_, by rw [List.length_set]; exact h.pos, path, path_set hp hal _⟩, fun ws => leaf_le (fun b k => ?_) (fun b => ?_) ws 0⟩
      · rw [List.length_set] at hj ⊢
        rw [getD_set _ _ _ _ hal]
        split
        · exact h.wf a hal
        · exact h.wf j hj
      · rw [getD_set _ _ _ _ hal]
        split
        · rename_i e; rw [e]; rfl
        · rfl
      · rw [getD_set _ _ _ _ hal]
        split
        · rename_i e
          rw [e]
          show (ns.getD a nd0).c - 1 ≤ _
          omega
        · exact Nat.le_refl _

end Go.Proofs.Ythboeppmlhbofaa
