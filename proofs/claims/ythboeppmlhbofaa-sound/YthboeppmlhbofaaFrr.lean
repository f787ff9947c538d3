/-
  Which blocks stay.
-/
import Derived.Test.YthboeppmlhbofaaWld
namespace Go.Proofs.Ythboeppmlhbofaa
open Go.RowKit Txt
set_option maxRecDepth 100000

/-- a block that is none of this list's -/
def off (a : Option Addr) (b : Nat) : Prop := ∀ g, a = some g → g.block ≠ b
theorem off_nil (b : Nat) : off none b := fun _ h => by simp at h
theorem off_own {a : Option Addr} {b : Nat} (h : off a b) (n c : Nat) : some b ≠ (Value.slice a n c).ownBlock := by
  cases a with
  | none => simp [Value.ownBlock]
  | some g => intro e; simp only [Value.ownBlock, Option.some.injEq] at e; exact h g rfl e.symm
theorem off_new {k b : Nat} (h : b < k) : off (some ⟨k, 0, none⟩) b := fun g e => by
  simp only [Option.some.injEq] at e
  subst e
  show k ≠ b
  omega
theorem off_moved {a a3 : Option Addr} {b n c n' c3 k : Nat} {p : Prop} (h : off a b) (hl : Value.slice a n c = .slice a3 n' c3 ∨ a3 = some ⟨k, 0, none⟩ ∧ p) (hk : b < k) : off a3 b := by
  rcases hl with e | ⟨rfl, _⟩
  · simp only [Value.slice.injEq] at e
    obtain ⟨rfl, _⟩ := e
    exact h
  · exact off_new hk
structure WV.Free (V : WV) (b : Nat) : Prop where
  l : off V.al b
  c : off V.ac b
  t : off V.at_ b
  x : off V.ax b
  o : off V.ao b
  w : off V.aw b
  cs : ∀ u ∈ V.vcs, u.ownBlock ≠ some b
  os : ∀ u ∈ V.vos, u.ownBlock ≠ some b
  ws : ∀ u ∈ V.vws, u.ownBlock ≠ some b
/-- blocks that are none of the world's own stay as they are, and are none still -/
def Frm (w w' : World) (Wb : Nat) (V V' : WV) : Prop := ∀ b, b < w.heap.size → b ≠ Wb → V.Free b → w'.heap[b]? = w.heap[b]? ∧ V'.Free b
theorem Frm.trans {w w1 w2 : World} {Wb : Nat} {V V1 V2 : WV} (h : Frm w w1 Wb V V1) (hs : w.heap.size ≤ w1.heap.size) (h' : Frm w1 w2 Wb V1 V2) : Frm w w2 Wb V V2 := fun b hb hn hf =>
  let ⟨e1, f1⟩ := h b hb hn hf
  let ⟨e2, f2⟩ := h' b (Nat.lt_of_lt_of_le hb hs) hn f1
  ⟨e2.trans e1, f2⟩
theorem Frm.of {w w' : World} (Wb : Nat) (V : WV) (h : Below w.heap.size w w') : Frm w w' Wb V V := fun b hb _ hf => ⟨h.block b hb, hf⟩
theorem Frm.pre {w w1 w2 : World} {Wb : Nat} {V V2 : WV} (h : Below w.heap.size w w1) (h' : Frm w1 w2 Wb V V2) : Frm w w2 Wb V V2 := (Frm.of Wb V h).trans h.size h'
theorem Frm.set {w w' : World} {Wb : Nat} {V V' : WV} (h : Frm w w' Wb V V') (i : Nat) (x : Value) : Frm w (w'.setCell ⟨Wb, i, none⟩ x) Wb V V' := fun b hb hn hf =>
  let ⟨e, f⟩ := h b hb hn hf
  ⟨(Below.heap_setCell w' ⟨Wb, i, none⟩ x b hn).trans e, f⟩
theorem grow_kept {w0 w w3 : World} {o : Obj} {a : Option Addr} {n c b Wb : Nat} (hb : Below w0.heap.size w0 w) (hg : (w.alloc o).grownBy w3 (Value.slice a n c).ownBlock) (i : Nat) (x : Value) (h1 : b < w0.heap.size) (h2 : b ≠ Wb) (h3 : off a b) : (w3.setCell ⟨Wb, i, none⟩ x).heap[b]? = w0.heap[b]? := by
  have hs := hb.size
  exact (Below.heap_setCell w3 ⟨Wb, i, none⟩ x b h2).trans ((hg.block b (by simp; omega) (off_own h3 n c)).trans ((heap_alloc_old w o (by omega)).trans (hb.block b h1)))

theorem own_off {a : Option Addr} {b n c : Nat} (h : (Value.slice a n c).ownBlock ≠ some b) : off a b := fun g e e' => by
  subst e
  exact h (by simp [Value.ownBlock, e'])
theorem off_lies {a a3 : Option Addr} {b n c n3 c3 k : Nat} (h : off a b) (hh : (Value.slice a3 n3 c3).ownBlock = (Value.slice a n c).ownBlock ∨ (Value.slice a3 n3 c3).ownBlock = some k) (hk : b < k) : off a3 b := by
  refine own_off (n := n3) (c := c3) (fun e => ?_)
  rcases hh with q | q
  · rw [q] at e; exact off_own h n c e.symm
  · rw [q, Option.some.injEq] at e; omega
/-- behind hold: what is neither the world's nor the list's own stays -/
def HFr (w w' : World) (Wb : Nat) (V V' : WV) (v : Value) : Prop := ∀ b, b < w.heap.size → b ≠ Wb → V.Free b → v.ownBlock ≠ some b → w'.heap[b]? = w.heap[b]? ∧ V'.Free b
/-- behind keep -/
def KFr (w w' : World) (Wb : Nat) (V V' : WV) (vs : List Value) : Prop := ∀ b, b < w.heap.size → b ≠ Wb → V.Free b → (∀ u ∈ vs, u.ownBlock ≠ some b) → w'.heap[b]? = w.heap[b]? ∧ V'.Free b
theorem KFr.set {w w' : World} {Wb : Nat} {V V' : WV} {vs : List Value} (h : KFr w w' Wb V V' vs) (i : Nat) (x : Value) : KFr w (w'.setCell ⟨Wb, i, none⟩ x) Wb V V' vs := fun b h1 h2 h3 h4 =>
  ⟨(Below.heap_setCell w' ⟨Wb, i, none⟩ x b h2).trans (h b h1 h2 h3 h4).1, (h b h1 h2 h3 h4).2⟩
theorem KFr.put {w w' : World} {Wb g : Nat} {V V' : WV} {vs : List Value} {u : Value} (h : KFr w w' Wb V V' vs) (hu : u ∈ vs) (hg : u.ownBlock = some g) (i : Nat) (x : Value) : KFr w (w'.setCell ⟨g, i, none⟩ x) Wb V V' vs := fun b h1 h2 h3 h4 =>
  ⟨(Below.heap_setCell w' ⟨g, i, none⟩ x b (fun e => h4 u hu (by rw [hg]; exact congrArg some e.symm))).trans (h b h1 h2 h3 h4).1, (h b h1 h2 h3 h4).2⟩
theorem KFr.grown {w w1 w2 : World} {Wb : Nat} {V V' : WV} {vs : List Value} {u : Value} {o : Obj} (h : KFr w w1 Wb V V' vs) (hs : w.heap.size ≤ w1.heap.size) (hu : u ∈ vs) (hg : (w1.alloc o).grownBy w2 u.ownBlock) : KFr w w2 Wb V V' vs := fun b h1 h2 h3 h4 =>
  ⟨(hg.block b (by simp; omega) (fun e => h4 u hu e.symm)).trans ((heap_alloc_old w1 o (by omega)).trans (h b h1 h2 h3 h4).1), (h b h1 h2 h3 h4).2⟩
theorem KFr.held {w w1 w2 : World} {Wb : Nat} {V V1 V2 : WV} {vs : List Value} {v : Value} (h : KFr w w1 Wb V V1 vs) (hs : w.heap.size ≤ w1.heap.size) (hh : HFr w1 w2 Wb V1 V2 v) (hv : ∀ b, b < w.heap.size → (∀ u ∈ vs, u.ownBlock ≠ some b) → v.ownBlock ≠ some b) : KFr w w2 Wb V V2 vs := fun b h1 h2 h3 h4 =>
  let ⟨e1, f1⟩ := h b h1 h2 h3 h4
  let ⟨e2, f2⟩ := hh b (by omega) h2 f1 (hv b h1 h4)
  ⟨e2.trans e1, f2⟩

/-- bounds: n steps have been made -/
structure Bd (n : Nat) (s : St) : Prop where
  list : s.list.length ≤ n
  cls : s.clauses.length ≤ n + 1000
  cl1 : ∀ c ∈ s.clauses, c.length ≤ 17384
  txs : s.texts.length ≤ n
  tx1 : ∀ t ∈ s.texts, t.size ≤ 4194304
  outs : s.outs.length ≤ 2000 * n
  out1 : ∀ c ∈ s.outs, c.length ≤ 5000002
  mark : 0 ≤ s.mark ∧ s.mark ≤ 6000000000 * n
  same : s.outs = s.want

end Go.Proofs.Ythboeppmlhbofaa
