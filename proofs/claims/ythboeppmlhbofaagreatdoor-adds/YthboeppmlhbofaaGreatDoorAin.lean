/-
  The script's world with its solvers.
-/
import Derived.Test.YthboeppmlhbofaaGreatDoorRst
import Derived.Test.YthboeppmlhbofaaGreatDoorPur
import Derived.Test.YthboeppmlhbofaaGreatDoorAdy
namespace Go.Proofs.YthboeppmlhbofaaGreatDoor
open Go.RowKit Txt
set_option maxRecDepth 100000

theorem WI.frame {w w' : World} {Wb B : Nat} {V : WV} {s : St} {D : Nat → Prop} (h : WI w Wb B V s) (hc : Chg D w w') (hD : ∀ b, D b → b ≠ Wb ∧ V.Free b) : WI w' Wb B V s := by
  have k : ∀ {e n xs}, ∀ {v : Value}, (∀ b, V.Free b → v.ownBlock ≠ some b) → w.ownsRow B e 1 v n xs → w'.ownsRow B e 1 v n xs := fun hv ho => own_frame ho (fun b e => hc.block b (own_lt ho b e) (fun hd => hv b (hD b hd).2 e))
  exact ⟨(hc.block _ h.blk.lt (fun hd => (hD _ hd).1 rfl)).trans h.blk, h.base, k (fun b hf e => off_own hf.l _ _ e.symm) h.list, k (fun b hf e => off_own hf.c _ _ e.symm) h.clt, h.cle.map (fun u hu _ _ ho => k (fun b hf e => hf.cs u hu e) ho), k (fun b hf e => off_own hf.t _ _ e.symm) h.tx,
    k (fun b hf e => off_own hf.x _ _ e.symm) h.xs, k (fun b hf e => off_own hf.o _ _ e.symm) h.ot, h.oe.map (fun u hu _ _ ho => k (fun b hf e => hf.os u hu e) ho), k (fun b hf e => off_own hf.w _ _ e.symm) h.wt, h.we.map (fun u hu _ _ ho => k (fun b hf e => hf.ws u hu e) ho),
    h.a1, h.a2, h.a3, h.b1, h.b2, h.b3⟩

structure AI (w : World) (Wb B n : Nat) (V : WV) (s : St) (ds : List SolD) : Prop where
  i : WI w Wb B V s
  b : Bd n s
  nx : V.nx = ds.length
  ptr : ∀ (j : Nat) d, ds[j]? = some d → V.vxs[j]? = some (Value.pointer (some ⟨d.cb, 0, none⟩))
  each : ∀ (j : Nat) d, ds[j]? = some d → SolI w B d
  out : ∀ (j : Nat) d, ds[j]? = some d → ∀ b, d.At b → b ≠ Wb ∧ V.Free b
  pw : ∀ (j k : Nat) d d', ds[j]? = some d → ds[k]? = some d' → j ≠ k → ∀ b, d.At b → ¬ d'.At b
  bd : ∀ (j : Nat) d, ds[j]? = some d → d.nh ≤ n ∧ d.given.length ≤ n ∧ ∀ g ∈ d.given, g.length ≤ 17384
  dl : ds.length ≤ n
def AN (n : Nat) (w w' : World) (Wb B : Nat) : Prop := ∃ V s ds, AI w' Wb B n V s ds ∧ Below B w w'
theorem AN.pre {n : Nat} {w w1 w' : World} {Wb B : Nat} (h : AN n w1 w' Wb B) (hb : Below B w w1) : AN n w w' Wb B := by
  obtain ⟨V, s, ds, h1, h2⟩ := h
  exact ⟨V, s, ds, h1, hb.trans h2⟩

theorem AI.nxt {w w' : World} {Wb B n : Nat} {V : WV} {s : St} {ds : List SolD} (h : AI w Wb B n V s ds) (hN : Nxt (n + 1) w w' Wb B V) : AN (n + 1) w w' Wb B := by
  obtain ⟨V', s', i1, i2, i3, i4, i5, i6⟩ := hN
  have k : ∀ (j : Nat) d, ds[j]? = some d → ∀ b, d.At b → w'.heap[b]? = w.heap[b]? ∧ V'.Free b := fun j d hd b hb => i6 b ((h.each j d hd).lt hb).2 (h.out j d hd b hb).1 (h.out j d hd b hb).2
  exact ⟨V', s', ds, ⟨i1, i2, i4.trans h.nx, fun j d hd => i5 ▸ h.ptr j d hd, fun j d hd => (h.each j d hd).frame (fun b hb => (k j d hd b hb).1), fun j d hd b hb => ⟨(h.out j d hd b hb).1, (k j d hd b hb).2⟩, h.pw, fun j d hd => by
    obtain ⟨b1, b2, b3⟩ := h.bd j d hd
    exact ⟨by omega, by omega, b3⟩, by have := h.dl; omega⟩, i3⟩
theorem AI.hB {w : World} {Wb B n : Nat} {V : WV} {s : St} {ds : List SolD} (h : AI w Wb B n V s ds) : B ≤ w.heap.size := Nat.le_trans h.i.base (Nat.le_of_lt h.i.blk.lt)
theorem AI.below {w w' : World} {Wb B n : Nat} {V : WV} {s : St} {ds : List SolD} (h : AI w Wb B n V s ds) (hb : Below w.heap.size w w') : AI w' Wb B n V s ds :=
  ⟨h.i.below hb, h.b, h.nx, h.ptr, fun j d hd => (h.each j d hd).below hb, h.out, h.pw, h.bd, h.dl⟩
theorem AI.on {w : World} {Wb B n : Nat} {V : WV} {s : St} {ds : List SolD} (h : AI w Wb B n V s ds) : AI w Wb B (n + 1) V s ds :=
  ⟨h.i, h.b.next, h.nx, h.ptr, h.each, h.out, h.pw, fun j d hd => by
    obtain ⟨b1, b2, b3⟩ := h.bd j d hd
    exact ⟨by omega, by omega, b3⟩, by have := h.dl; omega⟩

theorem set_get {ds : List SolD} {j k : Nat} {d d' x : SolD} (_ : ds[j]? = some d) (hx : (ds.set j d')[k]? = some x) : (k = j ∧ x = d') ∨ (k ≠ j ∧ ds[k]? = some x) := by
  rw [List.getElem?_set] at hx
  by_cases e : j = k
  · subst e
    rw [if_pos rfl] at hx
    split at hx
    · simp only [Option.some.injEq] at hx; exact .inl ⟨rfl, hx.symm⟩
    · simp at hx
  · rw [if_neg e] at hx
    exact .inr ⟨fun e' => e e'.symm, hx⟩
/-- one solver has changed -/
theorem AI.sol {w w' : World} {Wb B n j : Nat} {V : WV} {s : St} {ds : List SolD} {d d' : SolD} {xs : List Int} (h : AI w Wb B n V s ds) (hj : ds[j]? = some d) (hs : SolN w w' B d d' xs) (hx : xs.length ≤ 17384) : AN (n + 1) w w' Wb B := by
  have hout := h.out j d hj
  have hI := h.each j d hj
  refine ⟨V, s, ds.set j d', ⟨h.i.frame hs.chg hout, h.b.next, by rw [List.length_set]; exact h.nx, fun k x hk => ?_, fun k x hk => ?_, fun k x hk b hb => ?_, fun k l x y hk hl hne b hb hb' => ?_, fun k x hk => ?_, by rw [List.length_set]; have := h.dl; omega⟩, hs.chg.toBelow h.hB (fun b hb => (hI.lt hb).1)⟩
  · rcases set_get hj hk with ⟨rfl, rfl⟩ | ⟨_, hk⟩
    · rw [hs.cb]; exact h.ptr _ _ hj
    · exact h.ptr _ _ hk
  · rcases set_get hj hk with ⟨rfl, rfl⟩ | ⟨hne, hk⟩
    · exact hs.i
    · exact (h.each _ _ hk).frame (fun b hb => hs.chg.block b ((h.each _ _ hk).lt hb).2 (h.pw _ _ _ _ hk hj hne b hb))
  · rcases set_get hj hk with ⟨rfl, rfl⟩ | ⟨hne, hk⟩
    · rcases hs.at_ b hb with hb | hb
      · exact hout b hb
      · have hw := h.i
        refine ⟨by have := hw.blk.lt; omega, ?_⟩
        have of : ∀ {e m zs} {a : Option Addr} {p q : Nat}, w.ownsRow B e 1 (.slice a p q) m zs → off a b := fun ho g e => by
          subst e
          have := own_lt ho g.block rfl
          omega
        have orow : ∀ {vs : List Value} {cs : List (List Int)}, AllOwn w B 3 vs cs → ∀ u ∈ vs, u.ownBlock ≠ some b := fun ho u hu e => by
          obtain ⟨zs, hz⟩ := ho.mem hu
          have := own_lt hz b e
          omega
        exact ⟨of hw.list, of hw.clt, of hw.tx, of hw.xs, of hw.ot, of hw.wt, orow hw.cle, orow hw.oe, orow hw.we⟩
    · exact h.out _ _ hk b hb
  · rcases set_get hj hk with ⟨rfl, rfl⟩ | ⟨hne1, hk1⟩
    · rcases set_get hj hl with ⟨rfl, rfl⟩ | ⟨hne2, hl⟩
      · exact hne rfl
      · rcases hs.at_ b hb with hb | hb
        · exact h.pw _ _ _ _ hj hl hne b hb hb'
        · have := ((h.each _ _ hl).lt hb').2; omega
    · have hk2 := hk1
      rcases set_get hj hl with ⟨rfl, rfl⟩ | ⟨hne2, hl⟩
      · rcases hs.at_ b hb' with hb' | hb'
        · exact h.pw _ _ _ _ hk2 hj hne b hb hb'
        · have := ((h.each _ _ hk2).lt hb).2; omega
      · exact h.pw _ _ _ _ hk2 hl hne b hb hb'
  · rcases set_get hj hk with ⟨rfl, rfl⟩ | ⟨_, hk⟩
    · obtain ⟨b1, b2, b3⟩ := h.bd _ _ hj
      have q1 := hs.nh
      have q2 := hs.gl
      refine ⟨by omega, by omega, fun g hg => ?_⟩
      rcases hs.g1 g hg with hg | rfl
      · exact b3 g hg
      · exact hx
    · obtain ⟨b1, b2, b3⟩ := h.bd _ _ hk
      exact ⟨by omega, by omega, b3⟩

/-- where a solver's pointer lies -/
theorem AI.at_ {w : World} {Wb B n : Nat} {V : WV} {s : St} {ds : List SolD} (h : AI w Wb B n V s ds) {j : Nat} (hj : j < ds.length) : ∃ g d, V.ax = some ⟨g, 0, none⟩ ∧ ds[j]? = some d ∧ w.cell? ⟨g, j, none⟩ = some (.pointer (some ⟨d.cb, 0, none⟩)) := by
  have hd : ds[j]? = some ds[j] := List.getElem?_eq_getElem hj
  have hp := h.ptr j _ hd
  rcases h.i.xs.2 with ⟨_, h0⟩ | ⟨g, cap, cur, hv, _⟩
  · have := h.nx; omega
  · simp only [WV.vx, Value.slice.injEq] at hv
    have h3 := h.i.xs.cells (g := g) (by simp [WV.vx, Value.ownBlock, hv.1]) j _ hp
    rw [addr0] at h3
    simp only [Nat.zero_add] at h3
    exact ⟨g, _, hv.1, hd, h3⟩

end Go.Proofs.YthboeppmlhbofaaGreatDoor

/-
  One solver more: what it comes to.
-/
namespace Go.Proofs.YthboeppmlhbofaaGreatDoor
open Go.RowKit Txt
set_option maxRecDepth 100000

theorem WI.setXs {w w' : World} {Wb B : Nat} {V : WV} {s : St} (h : WI w Wb B V s) (ho : Oth w w' B V.vx) (a : Option Addr) (c n : Nat) (vs : List Value) (hblk : Row w' Wb 34 ((V.cells s).set 3 (.slice a n c)))
    (hown : w'.ownsRow B 37 1 (.slice a n c) n vs) :
    WI w' Wb B { V with ax := a, cx := c, nx := n, vxs := vs } s :=
  ⟨hblk, h.base, ho _ _ _ _ t_int h.list (apart_types n_ix h.list h.xs), ho _ _ _ _ t_ints h.clt (apart_types n_lx h.clt h.xs), h.cle.map (fun _ _ _ _ hh => ho _ _ _ _ t_int hh (apart_types n_ix hh h.xs)), ho _ _ _ _ t_str h.tx (apart_types n_sx h.tx h.xs), hown,
    ho _ _ _ _ t_ints h.ot (apart_types n_lx h.ot h.xs), h.oe.map (fun _ _ _ _ hh => ho _ _ _ _ t_int hh (apart_types n_ix hh h.xs)), ho _ _ _ _ t_ints h.wt (apart_types n_lx h.wt h.xs), h.we.map (fun _ _ _ _ hh => ho _ _ _ _ t_int hh (apart_types n_ix hh h.xs)), h.a1, h.a2, h.a3, h.b1, h.b2, h.b3⟩
theorem free_new {w : World} {Wb B : Nat} {V : WV} {s : St} (hw : WI w Wb B V s) {b : Nat} (hb : w.heap.size ≤ b) : V.Free b := by
  have of : ∀ {e m zs} {a : Option Addr} {p q : Nat}, w.ownsRow B e 1 (.slice a p q) m zs → off a b := fun ho g e => by
    subst e
    have := own_lt ho g.block rfl
    omega
  have orow : ∀ {vs : List Value} {cs : List (List Int)}, AllOwn w B 3 vs cs → ∀ u ∈ vs, u.ownBlock ≠ some b := fun ho u hu e => by
    obtain ⟨zs, hz⟩ := ho.mem hu
    have := own_lt hz b e
    omega
  exact ⟨of hw.list, of hw.clt, of hw.tx, of hw.xs, of hw.ot, of hw.wt, orow hw.cle, orow hw.oe, orow hw.we⟩

theorem push_end {w w2 w3 : World} {Wb B n k : Nat} {V : WV} {s : St} {ds : List SolD} {d : SolD} {a3 : Option Addr} {c3 : Nat} {o : Obj} {p : Prop} (h : AI w Wb B n V s ds) (hb2 : Below w.heap.size w w2) (I : SolI w2 B d) (hnew : ∀ b, d.At b → w.heap.size ≤ b) (h0 : d.nh = 0) (h1 : d.given = [])
    (hg3 : (w2.alloc o).grownBy w3 V.vx.ownBlock) (hl3 : V.vx = .slice a3 V.nx c3 ∨ a3 = some ⟨k, 0, none⟩ ∧ p) (hk : w2.heap.size ≤ k)
    (hown3 : w3.ownsRow B 37 1 (.slice a3 (V.nx + 1) c3) (V.nx + 1) (V.vxs ++ [.pointer (some ⟨d.cb, 0, none⟩)])) : AN (n + 1) w (w3.setCell ⟨Wb, 3, none⟩ (.slice a3 (V.nx + 1) c3)) Wb B := by
  have h2 := h.below hb2
  have hrow : Row w3 Wb 34 (V.cells s) := row_grown (row_below h2.i.blk ((Below.refl _ _).alloc (Nat.le_refl _) _)) (h2.i.xs.alloc _) t_sol hg3
  have hz := hb2.size
  have hWb := h.i.blk.lt
  have hfr : ∀ b, b < w2.heap.size → b ≠ Wb → off V.ax b → (w3.setCell ⟨Wb, 3, none⟩ (.slice a3 (V.nx + 1) c3)).heap[b]? = w2.heap[b]? := fun b q1 q2 q3 => grow_kept (Below.refl _ _) hg3 3 _ q1 q2 q3
  have hvl : V.vxs.length = ds.length := by have := h.i.xs.1; have := h.nx; omega
  have hfree : ∀ b, d.At b → b ≠ Wb ∧ V.Free b := fun b hb => ⟨by have := hnew b hb; omega, free_new h.i (hnew b hb)⟩
  have hfree' : ∀ b, b < w2.heap.size → V.Free b → WV.Free { V with ax := a3, cx := c3, nx := V.nx + 1, vxs := V.vxs ++ [.pointer (some ⟨d.cb, 0, none⟩)] } b := fun b q1 q => ⟨q.l, q.c, q.t, off_moved q.x hl3 (by omega), q.o, q.w, q.cs, q.os, q.ws⟩
  have hget : ∀ (j : Nat) x, (ds ++ [d])[j]? = some x → ds[j]? = some x ∨ (j = ds.length ∧ x = d) := by
    intro j x hx
    rw [List.getElem?_append] at hx
    split at hx
    · exact .inl hx
    · rename_i hlt
      have hx2 := hx
      rw [List.getElem?_singleton] at hx2
      split at hx2
      · simp only [Option.some.injEq] at hx2
        exact .inr ⟨by omega, hx2.symm⟩
      · simp at hx2
  refine ⟨{ V with ax := a3, cx := c3, nx := V.nx + 1, vxs := V.vxs ++ [.pointer (some ⟨d.cb, 0, none⟩)] }, s, ds ++ [d], ⟨h2.i.setXs (oth_alloc o (oth_trans (oth_grown hg3) (oth_setW hrow 3 _))) a3 c3 (V.nx + 1) _ (hrow.set 3 _) (own_setW hrow 3 _ t_sol hown3), h.b.next, ?_, ?_, ?_, ?_, ?_, ?_, ?_⟩, ?_⟩
  · rw [snoc_len]; show V.nx + 1 = _; rw [h.nx]
  · intro j x hx
    show (V.vxs ++ [_])[j]? = _
    rcases hget j x hx with hx | ⟨rfl, rfl⟩
    · have hj : j < ds.length := (List.getElem?_eq_some_iff.1 hx).1
      rw [List.getElem?_append_left (by omega)]
      exact h.ptr j x hx
    · rw [List.getElem?_append_right (by omega), hvl, Nat.sub_self]; rfl
  · intro j x hx
    rcases hget j x hx with hx | ⟨rfl, rfl⟩
    · exact (h2.each j x hx).frame (fun b hb => hfr b ((h2.each j x hx).lt hb).2 (h.out j x hx b hb).1 (h.out j x hx b hb).2.x)
    · exact I.frame (fun b hb => hfr b (I.lt hb).2 (hfree b hb).1 (hfree b hb).2.x)
  · intro j x hx b hb
    rcases hget j x hx with hx | ⟨rfl, rfl⟩
    · exact ⟨(h.out j x hx b hb).1, hfree' b ((h2.each j x hx).lt hb).2 (h.out j x hx b hb).2⟩
    · exact ⟨(hfree b hb).1, hfree' b (I.lt hb).2 (hfree b hb).2⟩
  · intro i j x y hx hy hne b hb hb'
    rcases hget i x hx with hx1 | ⟨hi, hxd⟩
    · rcases hget j y hy with hy1 | ⟨hj, hyd⟩
      · exact h.pw i j x y hx1 hy1 hne b hb hb'
      · have := ((h.each i x hx1).lt hb).2
        have := hnew b (hyd ▸ hb')
        omega
    · rcases hget j y hy with hy1 | ⟨hj, hyd⟩
      · have := ((h.each j y hy1).lt hb').2
        have := hnew b (hxd ▸ hb)
        omega
      · omega
  · intro j x hx
    rcases hget j x hx with hx | ⟨rfl, rfl⟩
    · obtain ⟨b1, b2, b3⟩ := h.bd j x hx
      exact ⟨by omega, by omega, b3⟩
    · rw [h0, h1]
      exact ⟨Nat.zero_le _, Nat.zero_le _, fun g hg => by simp at hg⟩
  · rw [snoc_len]; have := h.dl; omega
  · exact ((((hb2.mono h.hB)).alloc h2.hB o).grown hg3 (by simp; have := h2.hB; omega) (fun j hj => (h.i.xs.lt j hj).1)).setCell (p := ⟨Wb, 3, none⟩) h.i.base _

theorem Tryz.infoPtr : (Tryz.prog.info? 37).map (fun i => (i.zero, i.size, i.bytes)) = some (some (.pointer none), 1, 8) := by kernel_rfl
theorem Tryz.undXs : Tryz.prog.underlying 32 = some (.slice 37) := by kernel_rfl

/-- a solver's settings, as the step names them -/
def setR (o : OpD) : Int := if o.k = 12 then 0 else o.a
def setH (o : OpD) : Int := if o.k = 12 then o.a else o.b
def setL (o : OpD) : Int := if o.k = 12 then o.b else o.c

set_option maxHeartbeats 4000000 in
theorem pure_made (Wb B n : Nat) (V : WV) (s : St) (ds : List SolD) (w : World) (o : OpD) (hk : o.k = 12 ∨ o.k = 13) (h : AI w Wb B n V s ds) (hn : n ≤ 16384) :
    Calls Tryz.prog 15 #[.pointer (some ⟨Wb, 0, none⟩), .agg o.cells] w fun e w' => e = .returned (.bool true) ∧ AN (n + 1) w w' Wb B := by
  obtain ⟨i0, hi, hz0, hz1, hz2⟩ := info_parts Tryz.infoPtr
  have hdl := h.dl
  have hnx := h.nx
  have hBs := h.hB
  have d1 : Hid (V.nx + 1 ≤ maxLen) := by show _ ≤ _; unfold maxLen; omega
  have d2 : Hid ((V.nx + 1) * 8 ≤ 140737488355328) := by show _ ≤ _; omega
  clear hnx hdl
  have HB : Hid (∀ x, Below w.heap.size w (w.alloc x)) := fun x => (Below.refl _ _).alloc (Nat.le_refl _) x
  have HK : Hid (∀ w, Calls Tryz.prog 22 #[.pointer (some ⟨Wb, 0, none⟩), .slice none 0 0] w fun e w' => e = .returned (.tuple #[]) ∧ w' = w) := fun w => keep_none Wb w
  have H := hide h
  have hlt : Wb < w.heap.size := h.i.blk.lt
  have f2 : w.cell? ⟨Wb, 2, none⟩ = some (.slice V.at_ s.texts.length V.ct) := (h.i.blk.cell 2).trans rfl
  have HM : Hid (∀ w r h l, settingsB r h l = false → Calls Tryz.prog 26 #[.int .i64 r, .int .i64 h, .int .i64 l] w fun e w' => e = .returned (.tuple #[.pointer none, .bool true]) ∧ Below w.heap.size w w') := fun w r h l hs => made_no r h l w hs
  have HY : Hid (∀ w r h l, settingsB r h l = true → B ≤ w.heap.size → Calls Tryz.prog 26 #[.int .i64 r, .int .i64 h, .int .i64 l] w fun e w' => ∃ d, e = .returned (.tuple #[.pointer (some ⟨d.cb, 0, none⟩), .bool true]) ∧ SolI w' B d ∧ (∀ b, d.At b → w.heap.size ≤ b) ∧ d.nh = 0 ∧ d.given = [] ∧ Below w.heap.size w w') := fun w r h l hs hB => made_yes B r h l w hs hB
  cases hs : settingsB (setR o) (setH o) (setL o) with
  | false =>
    obtain ⟨k, a, b, c, t⟩ := o
    simp only [OpD.cells, setR, setH, setL] at *
    clear h
    rcases hk with rfl | rfl
    all_goals
      go_enter Tryz.func15, Tryz.ntmps15
      go_wp2_with fail
      refine (unhide HM _ _ _ _ hs).mono ?_
      rintro e w2 ⟨rfl, hb2⟩
      have HB2 : Hid (Below w.heap.size w w2) := (HB.out _).trans (hb2.mono (by simp))
      clear hb2
      go_wp2_with (go_at_call 22; refine (unhide HK _).mono ?_; rintro e w' ⟨rfl, hw⟩; obtain rfl := hw.symm)
      go_ret
      exact ⟨rfl, V, s, ds, (H.out.below HB2.out).on, HB2.out.mono hBs⟩
  | true =>
    obtain ⟨k, a, b, c, t⟩ := o
    simp only [OpD.cells, setR, setH, setL] at *
    clear h
    rcases hk with rfl | rfl
    all_goals
      go_enter Tryz.func15, Tryz.ntmps15
      go_wp2_with fail
      refine (unhide HY _ _ _ _ hs (by simp; omega)).mono ?_
      rintro e w2 ⟨d, rfl, hI, hnew, hd0, hd1, hb2⟩
      have HB2 : Hid (Below w.heap.size w w2) := (HB.out _).trans (hb2.mono (by simp))
      have HI := hide hI
      have HNW : Hid (∀ b, d.At b → w.heap.size ≤ b) := fun b hb => Nat.le_trans (by simp) (hnew b hb)
      have HD : Hid (d.nh = 0 ∧ d.given = []) := ⟨hd0, hd1⟩
      have H2 := hide (H.out.below HB2.out)
      have k3 : w2.cell? ⟨Wb, 3, none⟩ = some (.slice V.ax V.nx V.cx) := (H2.out.i.blk.cell 3).trans rfl
      have hz2s : w.heap.size ≤ w2.heap.size := HB2.out.size
      clear hb2 hI hnew hd0 hd1 f2
      go_wp2_with (first
        | (at_builtin; refine wpList_append_full _ rfl (.tmp 50) (.tmp 52) 32 rfl B 37 i0 (.pointer none) 8 Tryz.undXs hi hz0 hz1 hz2 rfl (.slice V.ax V.nx V.cx) V.nx V.vxs rfl (H2.out.i.xs.alloc _) ⟨w2.heap.size, 0, none⟩ 1 1 [.pointer (some ⟨d.cb, 0, none⟩)] rfl rfl (new_cells1 w2 [.pointer (some ⟨d.cb, 0, none⟩)] 37) (by intro u hu; simp at hu; subst hu; rfl) (by decide) d1.out d2.out (by simp; omega) (w2.heap.size + 1) (by simp) ?_; intro a3 c3 w4 hown3 hg3 hl3;
            have HR3 : Hid (Row w4 Wb 34 (V.cells s)) := row_grown (row_below H2.out.i.blk ((Below.refl _ _).alloc (Nat.le_refl _) _)) (H2.out.i.xs.alloc _) t_sol hg3;
            have g2 : w4.cell? ⟨Wb, 3, none⟩ = some (.slice V.ax V.nx V.cx) := (HR3.out.cell 3).trans rfl;
            have g2' := HR3.out.frozen 3;
            have HX3 := hide (push_end H.out HB2.out HI.out HNW.out HD.out.1 HD.out.2 hg3 hl3 (Nat.le_succ _) hown3); clear hown3 hg3 hl3)
        | (go_at_call 22; refine (unhide HK _).mono ?_; rintro e w' ⟨rfl, hw⟩; obtain rfl := hw.symm))
      go_ret
      exact ⟨rfl, HX3.out⟩

end Go.Proofs.YthboeppmlhbofaaGreatDoor

/-
  The clauses become what a solver has taken: what it comes to; added, whatever the clause.
-/
namespace Go.Proofs.YthboeppmlhbofaaGreatDoor
open Go.RowKit Txt
set_option maxRecDepth 100000

theorem added_any (B : Nat) (d : SolD) (a : Option Addr) (c : Nat) (xs : List Int) (w : World) (h : SolI w B d) (hi : IntsAt w a xs) (hd : ∀ g, a = some g → ¬ d.At g.block) (hx : xs.length ≤ 100000) (hB : B ≤ w.heap.size) (hn : d.nh ≤ 100000) (hg : d.given.length ≤ 100000) :
    Calls Tryz.prog 18 #[.pointer (some ⟨d.cb, 0, none⟩), .slice a xs.length c] w fun e w' => e = .returned (.bool true) ∧ ∃ d', SolN w w' B d d' xs := by
  cases hk : takenK xs d.lits with
  | takes => exact added_yes B d a c xs w h hi hd hx hB hn hg hk
  | lit => exact added_no B d a c xs w h hi hd hx hB hn (by rw [hk]; rfl)
  | taut => exact added_no B d a c xs w h hi hd hx hB hn (by rw [hk]; rfl)
  | full => exact added_no B d a c xs w h hi hd hx hB hn (by rw [hk]; rfl)

theorem sp_each2 {w : World} {B : Nat} {gs : List Nat} {xss : List (List Int)} (h : SpAll w gs xss) (hB : ∀ g ∈ gs, B ≤ g) (hl : ∀ x ∈ xss, x.length ≤ 100000) : AllOwn w B 3 (spCells gs xss) xss := by
  induction gs generalizing xss with
  | nil => cases xss with
    | nil => trivial
    | cons c cs => exact h.elim
  | cons g gs ih => cases xss with
    | nil => exact h.elim
    | cons c cs => exact ⟨own_spare h.1 (hB g (by simp)) (Nat.le_trans (hl c (by simp)) (by decide)), ih h.2 (fun x hx => hB x (by simp [hx])) (fun x hx => hl x (by simp [hx]))⟩
theorem sp_top2 {w : World} {B B' G gl : Nat} {gs : List Nat} {xss : List (List Int)} (h : Sp w B' G gs gl xss) (hB : B ≤ B') (hl : xss.length ≤ 100000) : w.ownsRow B 24 1 (.slice (some ⟨G, 0, none⟩) xss.length (xss.length + 1)) xss.length (spCells gs xss) := by
  have hc := sp_cells_len h.each
  exact ⟨by omega, .inr ⟨G, xss.length + 1, (spCells gs xss ++ [Value.slice (some ⟨gl, 0, none⟩) 1 1]).toArray, rfl, Nat.le_trans hB h.base.1, h.top, by omega, by unfold maxLen; omega, by simp [hc], by simp [← hc]⟩⟩
theorem sp_mem {gs : List Nat} {xss : List (List Int)} {u : Value} (h : u ∈ spCells gs xss) : ∃ g ∈ gs, u.ownBlock = some g := by
  induction gs generalizing xss with
  | nil => cases xss <;> simp [spCells] at h
  | cons g gs ih => cases xss with
    | nil => simp [spCells] at h
    | cons c cs =>
      simp only [spCells, List.mem_cons] at h
      rcases h with rfl | h
      · exact ⟨g, by simp, rfl⟩
      · obtain ⟨g', h1, h2⟩ := ih h
        exact ⟨g', by simp [h1], h2⟩

theorem those_end {n : Nat} {w1 w3 : World} {Wb B : Nat} {V : WV} {s : St} {G gl : Nat} {gs : List Nat} {cl : List (List Int)} (H1 : WI w1 Wb B V s) (hbd : Bd n s)
    (hsp : Sp w3 w1.heap.size G gs gl cl) (hb3 : Below w1.heap.size w1 w3) (hcl : cl.length ≤ n) (hn : n ≤ 16384) (hc1 : ∀ x ∈ cl, x.length ≤ 17384) :
    Nxt (n + 1) w1 (w3.setCell ⟨Wb, 1, none⟩ (.slice (some ⟨G, 0, none⟩) cl.length (cl.length + 1))) Wb B V := by
  have hB1 : B ≤ w1.heap.size := Nat.le_trans H1.base (Nat.le_of_lt H1.blk.lt)
  have H3 := H1.below hb3
  have hc2 : ∀ x ∈ cl, x.length ≤ 100000 := fun x hx => Nat.le_trans (hc1 x hx) (by decide)
  have htop := sp_top2 (B := B) hsp hB1 (by omega)
  have heach := sp_each2 (B := w1.heap.size) hsp.each (fun g hg => (hsp.out g hg).2.2) hc2
  have heachB : AllOwn w3 B 3 (spCells gs cl) cl := sp_each2 hsp.each (fun g hg => Nat.le_trans hB1 (hsp.out g hg).2.2) hc2
  have htop2 := sp_top2 (B := w1.heap.size) hsp (Nat.le_refl _) (by omega)
  have hset := fun {e u m xs} (he : e ≠ 34) (hu : w3.ownsRow B e 1 u m xs) => own_setW H3.blk 1 (.slice (some ⟨G, 0, none⟩) cl.length (cl.length + 1)) he hu
  have hGb := hsp.base.1
  refine ⟨{ V with ac := some ⟨G, 0, none⟩, cc := cl.length + 1, vcs := spCells gs cl }, { s with clauses := cl }, H3.setClauses (oth_setW H3.blk 1 _) _ _ cl (spCells gs cl) (H3.blk.set 1 _) (hset t_ints htop) (heachB.map (fun _ _ _ _ hh => hset t_int hh)) ?_ ?_ ?_, ?_, ?_, rfl, rfl, fun b h1 h2 h3 => ⟨((Frm.of Wb V hb3).set 1 _ b h1 h2 h3).1, h3.l, off_new (by omega), h3.t, h3.x, h3.o, h3.w, ?_, h3.os, h3.ws⟩⟩
  · intro u hu
    obtain ⟨xs, hx⟩ := heach.mem hu
    exact apart_late H1.list hx (Nat.le_refl _)
  · exact apart_late H1.ot htop2 (Nat.le_refl _)
  · exact apart_late H1.wt htop2 (Nat.le_refl _)
  · exact ⟨hbd.next.list, by show cl.length ≤ _; omega, hc1, hbd.next.txs, hbd.tx1, hbd.next.outs, hbd.out1, hbd.next.mark, hbd.same⟩
  · exact (hb3.mono hB1).setCell (p := ⟨Wb, 1, none⟩) H1.base _
  · intro u hu e
    obtain ⟨g, hg, e'⟩ := sp_mem hu
    rw [e', Option.some.injEq] at e
    have := (hsp.out g hg).2.2
    omega

end Go.Proofs.YthboeppmlhbofaaGreatDoor
