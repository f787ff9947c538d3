/-
  the sets that a solver has taken.
-/
import Derived.Test.YthboeppmlhbofaaSlw
import Derived.Test.YthboeppmlhbofaaApn
import Derived.Test.YthboeppmlhbofaaKep
import Derived.Deep.RegionLaw
namespace Go.Proofs.Ythboeppmlhbofaa
open Go.RowKit Txt
set_option maxRecDepth 100000

theorem Try.infoSet : (Try.prog.info? 46).map (fun i => (i.zero, i.size, i.bytes)) = some (some (.agg #[.int .i64 0, .int .i64 0]), 2, 16) := by kernel_rfl
theorem Try.undSets : Try.prog.underlying 35 = some (.slice 46) := by kernel_rfl
def prCells (ss : List Pr) : List Value := ss.flatMap fun p => [.int .i64 (p.1 : Nat), .int .i64 (p.2 : Nat)]
theorem prCells_snoc (ss : List Pr) (p : Pr) : prCells ss ++ [.int .i64 (p.1 : Nat), .int .i64 (p.2 : Nat)] = prCells (ss ++ [p]) := by simp [prCells]
theorem n_set : (46 : Nat) ≠ 38 := by decide

/-- a block of another type is kept behind an append -/
theorem row_grownN {w w' : World} {g t e size n B : Nat} {zs xs : List Value} {v : Value} (hr : Row w g t zs) (hv : w.ownsRow B e size v n xs) (he : e ≠ t) (h : w.grownBy w' v.ownBlock) : Row w' g t zs := by
  refine (h.block g hr.lt ?_).trans hr
  intro eq
  rcases hv.2 with ⟨rfl, _⟩ | ⟨g', cap, cur, rfl, _, hg, _⟩
  · simp [Value.ownBlock] at eq
  · simp only [Value.ownBlock, Option.some.injEq] at eq
    subst eq
    have hr' : w.heap[g]? = some (.cells zs.toArray t (0, 0)) := hr
    rw [hr'] at hg
    simp only [Option.some.injEq, Obj.cells.injEq] at hg
    exact he hg.2.1.symm

theorem own_setN {w : World} {B g t e size n : Nat} {zs xs : List Value} {u : Value} (hr : Row w g t zs) (i : Nat) (x : Value) (he : e ≠ t) (hu : w.ownsRow B e size u n xs) : (w.setCell ⟨g, i, none⟩ x).ownsRow B e size u n xs := by
  refine ⟨hu.1, ?_⟩
  rcases hu.2 with hn | ⟨g', cap, cur, hv, h1, hg, r⟩
  · exact .inl hn
  · refine .inr ⟨g', cap, cur, hv, h1, ?_, r⟩
    have hne : g' ≠ g := by
      intro eq
      subst eq
      have hr' : w.heap[g']? = some (.cells zs.toArray t (0, 0)) := hr
      rw [hr'] at hg
      simp only [Option.some.injEq, Obj.cells.injEq] at hg
      exact he hg.2.1.symm
    rw [Below.heap_setCell _ _ _ _ hne]
    exact hg
/-- what a solver's call keeps: all but the solver's block and its taken row -/
structure Kept (w w' : World) (g : Nat) (v : Value) : Prop where
  os : w'.os = w.os
  tape : w'.tape = w.tape
  output : w'.output = w.output
  size : w.heap.size ≤ w'.heap.size
  block : ∀ k, k < w.heap.size → k ≠ g → v.ownBlock ≠ some k → w'.heap[k]? = w.heap[k]?
theorem Kept.of {w w' : World} (g : Nat) (v : Value) (h : Below w.heap.size w w') : Kept w w' g v := ⟨h.os, h.tape, h.output, h.size, fun k hk _ _ => h.block k hk⟩
theorem Kept.set {w w' : World} {g : Nat} {v : Value} (h : Kept w w' g v) (i : Nat) (x : Value) : Kept w (w'.setCell ⟨g, i, none⟩ x) g v :=
  ⟨h.os, h.tape, h.output, by simpa [World.setCell] using h.size, fun k hk hg hv => (Below.heap_setCell w' ⟨g, i, none⟩ x k hg).trans (h.block k hk hg hv)⟩
theorem Kept.below {w w' w'' : World} {g : Nat} {v : Value} (h : Kept w w' g v) (hb : Below w'.heap.size w' w'') : Kept w w'' g v :=
  ⟨hb.os.trans h.os, hb.tape.trans h.tape, hb.output.trans h.output, Nat.le_trans h.size hb.size, fun k hk hg hv => (hb.block k (Nat.lt_of_lt_of_le hk h.size)).trans (h.block k hk hg hv)⟩
theorem Kept.grown {w w' w'' : World} {g : Nat} {v : Value} (h : Kept w w' g v) (hb : w'.grownBy w'' v.ownBlock) : Kept w w'' g v :=
  ⟨hb.os.trans h.os, hb.tape.trans h.tape, hb.output.trans h.output, Nat.le_trans h.size hb.size, fun k hk hg hv => (hb.block k (Nat.lt_of_lt_of_le hk h.size) (fun e => hv e.symm)).trans (h.block k hk hg hv)⟩

end Go.Proofs.Ythboeppmlhbofaa
