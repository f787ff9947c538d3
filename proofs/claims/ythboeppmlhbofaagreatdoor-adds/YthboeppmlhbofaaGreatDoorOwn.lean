/-
  Lists that the program made: which block an append leaves them in; lists of lists.
-/
import Derived.Test.YthboeppmlhbofaaGreatDoorLst
import Derived.Deep.DeepMust
namespace Go.Proofs.YthboeppmlhbofaaGreatDoor
open Go.RowKit
set_option maxRecDepth 100000

theorem append_where {P : Program} {w : World} {base : Nat} {t ty e : TypeId} {i : TypeInfo} {z : Value} (ht : P.underlying t = some (.slice e)) (hi : P.info? e = some i) (hz : i.zero = some z)
    {v : Value} {n : Nat} {xs : List Value} (hown : w.ownsRow base e i.size v n xs) {a : Addr} {m c : Nat} {news : List Value} (hl : news.length = m * i.size)
    (hnews : ∀ j u, news[j]? = some u → w.cell? (a.add j) = some u) (h1 : ∀ u ∈ news, u.oneCell' = true) (h63 : n + m ≤ maxLen) (hbytes : (n + m) * i.bytes ≤ 140737488355328)
    {v' : Value} {w' : World} (hr : (Builtin.append_ #[t, t] ty #[v, .slice (some a) m c]).run P w = .ok v' w') (hm : 0 < m) :
    v'.ownBlock = v.ownBlock ∨ v'.ownBlock = some w.heap.size := by
  have hsmall : n + m ≤ 9223372036854775807 := by simp only [maxLen] at h63; omega
  rcases hown.2 with ⟨rfl, rfl⟩ | ⟨g, cap, cur, rfl, hbg, hg, hnc, hcm, hcs, htake⟩
  · have h2 := run_append_nil (P := P) w t ty e i z ht hi hz a m c news hl hnews (by omega) (by omega) (by have hb := hbytes; simp only [Nat.zero_add] at hb; omega)
    rw [h2] at hr
    cases hr
    exact .inr rfl
  · by_cases hroom : n + m ≤ cap
    · have hfit : n * i.size + news.length ≤ cur.size := by rw [hl, hcs, ← Nat.add_mul]; exact Nat.mul_le_mul_right _ hroom
      have h2 := run_append_room (P := P) w t ty e i ht hi g n cap cur hg a m c news hl hnews h1 hroom hfit
      rw [h2] at hr
      cases hr
      exact .inl rfl
    · have h2 := run_append_grow (P := P) w t ty e i z ht hi hz ⟨g, 0, none⟩ n cap xs hown.1 (hown.cells (g := g) rfl) a m c news hl hnews (by omega) (by omega) (growslice_fits (by omega) hbytes)
      rw [h2] at hr
      cases hr
      exact .inr rfl

/-- 'append' onto a list of the program's own, at the operation: what is owned, the frame, and where it lies -/
theorem wpList_append_at {P : Program} (w : World) {ops : Array Oper} {rest : List Oper} {o : Oper} {a : Act} {Q : Exit → Act → World → Prop} (hgd : o.guard = none) (s x : Operand) (t : TypeId)
    (ho : o.op = .call { callee := .builtin .append, args := #[s, x], argTypes := #[t, t] })
    (base : Nat) (e : TypeId) (i : TypeInfo) (z : Value) (bytes : Nat) (ht : P.underlying t = some (.slice e)) (hi : P.info? e = some i) (hz : i.zero = some z)
    (hsize : i.size = 1) (hby : i.bytes = bytes) (hzs : z.cells.size = 1)
    (v : Value) (n : Nat) (xs : List Value) (hs : a.eval s = v) (hown : w.ownsRow base e 1 v n xs)
    (ad : Addr) (m c : Nat) (news : List Value) (hx : a.eval x = .slice (some ad) m c) (hl : news.length = m) (hnews : ∀ j u, news[j]? = some u → w.cell? (ad.add j) = some u) (h1 : ∀ u ∈ news, u.oneCell' = true)
    (hm : 0 < m) (h63 : n + m ≤ maxLen) (hbytes : (n + m) * bytes ≤ 140737488355328) (hbase : base ≤ w.heap.size)
    (h : ∀ v' w', w'.ownsRow base e 1 v' (n + m) (xs ++ news) → w.grownBy w' v.ownBlock → (v'.ownBlock = v.ownBlock ∨ v'.ownBlock = some w.heap.size) → wpList P ops Q rest (a.put o.dst v') w') : wpList P ops Q (o :: rest) a w := by
  refine wpList_plain hgd fun K hK => ?_
  obtain ⟨v', w', hr, h2, h3, _⟩ := run_append_own (P := P) w base t o.type e i z 1 bytes ht hi hz hsize hby hzs (by decide) v n xs hown ad m c news (by omega) hnews h1 h63 hbytes hbase
  have h5 := append_where (P := P) (w := w) ht hi hz (by rw [hsize]; exact hown) (by rw [hsize]; omega) hnews h1 h63 (by rw [hby]; exact hbytes) hr hm
  unfold Oper.wp execOp
  simp only [ho, resolve, invoke, builtin, Sem.run_bind, Sem.run_pure, Result.andThen_ok, List.map_toArray, List.map_cons, List.map_nil, hs, hx, hr]
  exact hK _ _ (h v' w' h2 h3 h5)

/-- the same, the new value written out; N: its length as it is wanted -/
theorem wpList_append_sl {P : Program} (w : World) {ops : Array Oper} {rest : List Oper} {o : Oper} {a : Act} {Q : Exit → Act → World → Prop} (hgd : o.guard = none) (s x : Operand) (t : TypeId)
    (ho : o.op = .call { callee := .builtin .append, args := #[s, x], argTypes := #[t, t] })
    (base : Nat) (e : TypeId) (i : TypeInfo) (z : Value) (bytes : Nat) (ht : P.underlying t = some (.slice e)) (hi : P.info? e = some i) (hz : i.zero = some z)
    (hsize : i.size = 1) (hby : i.bytes = bytes) (hzs : z.cells.size = 1)
    (v : Value) (n : Nat) (xs : List Value) (hs : a.eval s = v) (hown : w.ownsRow base e 1 v n xs)
    (ad : Addr) (m c : Nat) (news : List Value) (hx : a.eval x = .slice (some ad) m c) (hl : news.length = m) (hnews : ∀ j u, news[j]? = some u → w.cell? (ad.add j) = some u) (h1 : ∀ u ∈ news, u.oneCell' = true)
    (hm : 0 < m) (h63 : n + m ≤ maxLen) (hbytes : (n + m) * bytes ≤ 140737488355328) (hbase : base ≤ w.heap.size) (N : Nat) (hN : n + m = N)
    (h : ∀ a' c' w', w'.ownsRow base e 1 (.slice a' N c') N (xs ++ news) → w.grownBy w' v.ownBlock → ((Value.slice a' N c').ownBlock = v.ownBlock ∨ (Value.slice a' N c').ownBlock = some w.heap.size) → wpList P ops Q rest (a.put o.dst (.slice a' N c')) w') : wpList P ops Q (o :: rest) a w := by
  refine wpList_append_at w hgd s x t ho base e i z bytes ht hi hz hsize hby hzs v n xs hs hown ad m c news hx hl hnews h1 hm h63 hbytes hbase fun v' w' h2 h3 h4 => ?_
  subst hN
  rcases h2.2 with ⟨rfl, h0⟩ | ⟨g, cap, cur, rfl, _⟩
  · omega
  · exact h _ _ w' h2 h3 h4

/-- two lists do not lie in one block -/
def Apart (u v : Value) : Prop := ∀ b, u.ownBlock = some b → v.ownBlock ≠ some b
theorem Apart.symm {u v : Value} (h : Apart u v) : Apart v u := fun b hb hu => h b hu hb
theorem apart_nil (u : Value) : Apart u (.slice none 0 0) := fun _ _ h => by simp [Value.ownBlock] at h
theorem apart_types {w : World} {b b' e e' s s' : Nat} {u v : Value} {n m : Nat} {xs ys : List Value} (he : e ≠ e') (h : w.ownsRow b e s u n xs) (h' : w.ownsRow b' e' s' v m ys) : Apart u v := by
  intro k hk hv
  rcases h.2 with ⟨rfl, _⟩ | ⟨g, cap, cur, rfl, _, hg, _⟩
  · simp [Value.ownBlock] at hk
  · rcases h'.2 with ⟨rfl, _⟩ | ⟨g', cap', cur', rfl, _, hg', _⟩
    · simp [Value.ownBlock] at hv
    · simp only [Value.ownBlock, Option.some.injEq] at hk hv
      subst hk; subst hv
      rw [hg] at hg'
      simp only [Option.some.injEq, Obj.cells.injEq] at hg'
      exact he hg'.2.1
theorem own_apart_kept {w w' : World} {b e s : Nat} {u v : Value} {n : Nat} {xs : List Value} (h : w.ownsRow b e s u n xs) (hg : w.grownBy w' v.ownBlock) (ha : Apart u v) : w'.ownsRow b e s u n xs := by
  refine h.kept hg ?_
  cases hu : u.ownBlock with
  | none => exact .inl rfl
  | some k => exact .inr (fun e => ha k hu e.symm)
theorem own_none_kept {w w' : World} {b e s : Nat} {u : Value} {n : Nat} {xs : List Value} (h : w.ownsRow b e s u n xs) (hg : w.grownBy w' none) : w'.ownsRow b e s u n xs :=
  h.kept hg (Classical.em _)
/-- what lies in an old block is apart from what has moved to a new one -/
theorem apart_moved {w : World} {b e s : Nat} {u v v' : Value} {n : Nat} {xs : List Value} (h : w.ownsRow b e s u n xs) (ha : Apart u v) {k : Nat} (hk : w.heap.size ≤ k) (hv : v'.ownBlock = v.ownBlock ∨ v'.ownBlock = some k) : Apart u v' := by
  intro j hj hv'
  rcases hv with hv | hv
  · exact ha j hj (hv ▸ hv')
  · rw [hv] at hv'
    simp only [Option.some.injEq] at hv'
    have := (h.lt j hj).2
    omega

def i64s (xs : List Int) : List Value := xs.map (Value.int .i64)
theorem i64s_length (xs : List Int) : (i64s xs).length = xs.length := by simp [i64s]
theorem i64s_one (xs : List Int) : ∀ u ∈ i64s xs, u.oneCell' = true := by
  intro u hu
  simp only [i64s, List.mem_map] at hu
  obtain ⟨_, _, rfl⟩ := hu
  rfl
theorem own_list {w : World} {base e n : Nat} {v : Value} {cs : List Value} (xs : List Int) (hn : n = xs.length) (hcs : cs = i64s xs) (h : w.ownsRow base e 1 v n cs) :
    ∃ ao cap, v = .slice ao xs.length cap ∧ w.ownsRow base e 1 (.slice ao xs.length cap) xs.length (i64s xs) := by
  subst hn hcs
  rcases h.2 with ⟨rfl, h0⟩ | ⟨g, cap, cur, rfl, _⟩
  · refine ⟨none, 0, ?_, ?_⟩
    · rw [h0]
    · rw [h0] at h ⊢; exact h
  · exact ⟨_, _, rfl, h⟩
theorem own_rows {w : World} {base e : Nat} {v : Value} {n m : Nat} {vs : List Value} (hn : n = m) (h : w.ownsRow base e 1 v n vs) :
    ∃ ao cap, v = .slice ao m cap ∧ w.ownsRow base e 1 (.slice ao m cap) m vs := by
  subst hn
  rcases h.2 with ⟨rfl, h0⟩ | ⟨g, cap, cur, rfl, _⟩
  · refine ⟨none, 0, ?_, ?_⟩
    · rw [h0]
    · rw [h0] at h ⊢; exact h
  · exact ⟨_, _, rfl, h⟩

/-- each of the values owns its list -/
def AllOwn (w : World) (base e : Nat) : List Value → List (List Int) → Prop
  | [], [] => True
  | u :: vs, c :: cs => w.ownsRow base e 1 u c.length (i64s c) ∧ AllOwn w base e vs cs
  | _, _ => False
theorem AllOwn.snoc {w : World} {base e : Nat} {vs : List Value} {cs : List (List Int)} {u : Value} {c : List Int} (h : AllOwn w base e vs cs) (hu : w.ownsRow base e 1 u c.length (i64s c)) : AllOwn w base e (vs ++ [u]) (cs ++ [c]) := by
  induction vs generalizing cs with
  | nil => cases cs with
    | nil => exact ⟨hu, trivial⟩
    | cons c' cs => exact h.elim
  | cons v vs ih => cases cs with
    | nil => exact h.elim
    | cons c' cs => exact ⟨h.1, ih h.2⟩
theorem AllOwn.map {w w' : World} {base e : Nat} {vs : List Value} {cs : List (List Int)} (h : AllOwn w base e vs cs) (hk : ∀ u ∈ vs, ∀ n xs, w.ownsRow base e 1 u n xs → w'.ownsRow base e 1 u n xs) : AllOwn w' base e vs cs := by
  induction vs generalizing cs with
  | nil => cases cs with
    | nil => exact trivial
    | cons c' cs => exact h.elim
  | cons v vs ih => cases cs with
    | nil => exact h.elim
    | cons c' cs => exact ⟨hk v (by simp) _ _ h.1, ih h.2 (fun u hu => hk u (by simp [hu]))⟩
theorem AllOwn.length {w : World} {base e : Nat} {vs : List Value} {cs : List (List Int)} (h : AllOwn w base e vs cs) : vs.length = cs.length := by
  induction vs generalizing cs with
  | nil => cases cs with
    | nil => rfl
    | cons c' cs => exact h.elim
  | cons v vs ih => cases cs with
    | nil => exact h.elim
    | cons c' cs => simp [ih h.2]
theorem AllOwn.at {w : World} {base e : Nat} {vs : List Value} {cs : List (List Int)} (h : AllOwn w base e vs cs) (r : Nat) (hr : r < cs.length) :
    ∃ u, vs[r]? = some u ∧ w.ownsRow base e 1 u (cs.getD r []).length (i64s (cs.getD r [])) := by
  induction vs generalizing cs r with
  | nil => cases cs with
    | nil => simp at hr
    | cons c' cs => exact h.elim
  | cons v vs ih => cases cs with
    | nil => exact h.elim
    | cons c' cs => cases r with
      | zero => exact ⟨v, rfl, h.1⟩
      | succ r =>
        obtain ⟨u, h1, h2⟩ := ih h.2 r (by simpa using hr)
        exact ⟨u, by simpa using h1, by simpa using h2⟩
theorem AllOwn.mem {w : World} {base e : Nat} {vs : List Value} {cs : List (List Int)} (h : AllOwn w base e vs cs) {u : Value} (hu : u ∈ vs) : ∃ xs, w.ownsRow base e 1 u xs.length (i64s xs) := by
  induction vs generalizing cs with
  | nil => simp at hu
  | cons v vs ih => cases cs with
    | nil => exact h.elim
    | cons c' cs =>
      rcases List.mem_cons.1 hu with rfl | hu
      · exact ⟨c', h.1⟩
      · exact ih h.2 hu

/-- a list of lists of the program's own, with its parts -/
structure Lists (w : World) (base tl ti : Nat) (v : Value) (vs : List Value) (cs : List (List Int)) : Prop where
  top : w.ownsRow base tl 1 v cs.length vs
  each : AllOwn w base ti vs cs
  apart : vs.Pairwise Apart

theorem own_intsAt {w : World} {base e : Nat} {ao : Option Addr} {cap n : Nat} {xs : List Int} (h : w.ownsRow base e 1 (.slice ao n cap) xs.length (i64s xs)) : IntsAt w ao xs := by
  rcases h.2 with ⟨hv, h0⟩ | ⟨g, cap', cur, hv, _, hh, _⟩
  · exact .inl (List.eq_nil_of_length_eq_zero h0)
  · simp only [Value.slice.injEq] at hv
    obtain ⟨rfl, rfl, rfl⟩ := hv
    refine .inr ⟨g, 0, rfl, fun j hj => ?_⟩
    have := h.cells (g := g) rfl j (.int .i64 (xs.getD j 0)) (by simp [i64s, List.getElem?_eq_getElem hj])
    have hadd : (⟨g, 0, none⟩ : Addr).add j = ⟨g, 0 + j, none⟩ := by unfold Addr.add; split <;> simp_all
    rwa [hadd] at this

theorem Lists.rowsAt {w : World} {base tl ti : Nat} {ao : Option Addr} {cap n : Nat} {vs : List Value} {cs : List (List Int)} (h : Lists w base tl ti (.slice ao n cap) vs cs) (hb : ∀ c ∈ cs, c.length ≤ 9223372036854775807) :
    ∃ A C, RowsAt w ao A C cs := by
  refine ⟨fun r => match vs.getD r (.slice none 0 0) with | .slice a _ _ => a | _ => none, fun r => match vs.getD r (.slice none 0 0) with | .slice _ _ c => c | _ => 0, ?_⟩
  rcases h.top.2 with ⟨hv, h0⟩ | ⟨g, cap', cur, hv, _, hh, _⟩
  · exact .inl (List.eq_nil_of_length_eq_zero h0)
  · simp only [Value.slice.injEq] at hv
    obtain ⟨rfl, rfl, rfl⟩ := hv
    refine .inr ⟨g, 0, rfl, fun r hr => ?_⟩
    obtain ⟨u, h1, h2⟩ := h.each.at r hr
    have h3 := h.top.cells (g := g) rfl r u h1
    have hadd : (⟨g, 0, none⟩ : Addr).add r = ⟨g, 0 + r, none⟩ := by unfold Addr.add; split <;> simp_all
    rw [hadd] at h3
    obtain ⟨a', c', rfl, h4⟩ := own_list (cs.getD r []) rfl rfl h2
    have hg : vs.getD r (.slice none 0 0) = .slice a' (cs.getD r []).length c' := by rw [List.getD_eq_getElem?_getD, h1]; rfl
    dsimp only
    rw [hg]
    refine ⟨h3, own_intsAt h4, hb _ ?_⟩
    rw [List.getD_eq_getElem?_getD, List.getElem?_eq_getElem hr]
    exact List.getElem_mem hr

end Go.Proofs.YthboeppmlhbofaaGreatDoor
