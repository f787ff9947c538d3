/-
  A script that came in: its steps, read off the argument.
-/
import Derived.Test.YthboeppmlhbofaaGreatDoorPly
import Derived.ProofKit
import Derived.OpenShut
import Derived.Deep.Slices
import Derived.SizedLaws
import Derived.DataShut
namespace Go.Proofs.YthboeppmlhbofaaGreatDoor
open Go.ChangeShapes Go.WideShapes Go.ChangeAt Go.RowKit Go.Deep
set_option maxRecDepth 100000

theorem undInt : Tryz.prog.underlying 3 = some (.int .i64) := by kernel_rfl
theorem undBool : Tryz.prog.underlying 4 = some .bool := by kernel_rfl
theorem cellsInt : Tryz.prog.cellsOf 3 = 1 := by kernel_rfl
theorem cellsStr : Tryz.prog.cellsOf 9 = 1 := by kernel_rfl
theorem cellsOp : Tryz.prog.cellsOf 27 = 5 := by kernel_rfl
def partsOf (d : TypeDesc) : List (Nat × Nat) := match d with | .struct fs => fs.toList.map (fun f => (f.type, f.offset)) | _ => []
def opParts : List (Nat × Nat) := [(3, 0), (3, 1), (3, 2), (3, 3), (9, 4)]
theorem partsOp : (Tryz.prog.underlying 27).map partsOf = some opParts := by kernel_rfl
theorem structOp : ∃ fs : Array Field, Tryz.prog.underlying 27 = some (.struct fs) ∧ fs.toList.map (fun f => (f.type, f.offset)) = opParts := by
  have h := partsOp
  cases hu : Tryz.prog.underlying 27 with
  | none => rw [hu] at h; simp at h
  | some d =>
    rw [hu] at h
    simp only [Option.map_some, Option.some.injEq] at h
    cases d with
    | struct fs => exact ⟨fs, rfl, h⟩
    | _ => simp [partsOf, opParts] at h
/-- a step's datum -/
def OpD.datum {H : Type} (o : OpD) : DataW H := .agg [.lit (.int .i64 o.k), .lit (.int .i64 o.a), .lit (.int .i64 o.b), .lit (.int .i64 o.c), .lit (.string o.s.data.toList)]
theorem wf64 {n : Int} (h : (Lit.int .i64 n).wf = true) : -9223372036854775808 ≤ n ∧ n ≤ 9223372036854775807 := (Lit.wf_int_iff .i64 n).1 h
theorem op_open {H : Type} {enc : TypeId × Value → H} {w : World} {base : Nat} {spare : Nat → Bool} {held : Bool} {fuel : Nat} {cs : List Value} {x : DataW H × List MemPlace} (h : DataW.trod enc Tryz.prog w base spare held fuel 27 cs = some x) :
    ∃ o : OpD, cs = o.cells.toList ∧ x.1 = o.datum ∧ (-9223372036854775808 ≤ o.a ∧ o.a ≤ 9223372036854775807) ∧ (-9223372036854775808 ≤ o.b ∧ o.b ≤ 9223372036854775807) := by
  obtain ⟨fs, hu, hp⟩ := structOp
  obtain ⟨xs, n, _, rfl, hl, hxl, hf⟩ := DataW.trod_struct hu h
  rw [cellsOp] at hl
  have hsz : fs.size = 5 := by have := congrArg List.length hp; simpa [opParts] using this
  rw [hsz] at hxl
  have hat : ∀ (i t off : Nat), opParts[i]? = some (t, off) → DataW.trod enc Tryz.prog w base spare held n t ((cs.drop off).take (Tryz.prog.cellsOf t)) = xs[i]? := by
    intro i t off hi
    rw [← hp, List.getElem?_map, Array.getElem?_toList] at hi
    obtain ⟨f, hf1, hf2⟩ := Option.map_eq_some_iff.1 hi
    simp only [Prod.mk.injEq] at hf2
    obtain ⟨rfl, rfl⟩ := hf2
    exact hf i f hf1
  match cs, hl, xs, hxl with
  | [c0, c1, c2, c3, c4], _, [x0, x1, x2, x3, x4], _ =>
    have g0 := hat 0 _ _ rfl
    have g1 := hat 1 _ _ rfl
    have g2 := hat 2 _ _ rfl
    have g3 := hat 3 _ _ rfl
    have g4 := hat 4 _ _ rfl
    rw [cellsInt] at g0 g1 g2 g3
    rw [cellsStr] at g4
    simp only [List.drop_zero, List.drop_succ_cons, List.take_succ_cons, List.take_zero, List.getElem?_cons_zero, List.getElem?_cons_succ] at g0 g1 g2 g3 g4
    obtain ⟨n0, e0, y0, _⟩ := DataW.trod_int undInt g0
    obtain ⟨n1, e1, y1, r1⟩ := DataW.trod_int undInt g1
    obtain ⟨n2, e2, y2, r2⟩ := DataW.trod_int undInt g2
    obtain ⟨n3, e3, y3, _⟩ := DataW.trod_int undInt g3
    obtain ⟨s4, e4, y4, _⟩ := DataW.trod_string Tryz.undString g4
    simp only [List.cons.injEq, and_true] at e0 e1 e2 e3 e4
    subst e0 e1 e2 e3 e4 y0 y1 y2 y3 y4
    exact ⟨⟨n0, n1, n2, n3, s4⟩, rfl, rfl, wf64 r1, wf64 r2⟩

theorem weights_all {H : Type} {P : Program} {e : TypeId} {l : List (DataW H)} {d : DataW H} (hd : d ∈ l) {n : Nat} (hn : n ∈ d.weights P e) : n ∈ DataW.weightsAll P e l := by
  induction l with
  | nil => simp at hd
  | cons x l ih =>
    simp only [DataW.weightsAll, List.mem_append]
    rcases List.mem_cons.1 hd with rfl | hd
    · exact .inl hn
    · exact .inr (ih hd)
theorem op_weight {H : Type} (o : OpD) : o.s.size ∈ (o.datum : DataW H).weights Tryz.prog 27 := by
  obtain ⟨fs, hu, hp⟩ := structOp
  simp only [OpD.datum, DataW.weights, hu]
  have ht : (fs.toList.map (·.type))[4]? = some 9 := by
    have h1 : fs.toList.map (·.type) = (fs.toList.map (fun f => (f.type, f.offset))).map (·.1) := by simp
    rw [h1, hp]
    rfl
  exact DataW.weights_mem_each (j := 4) ht rfl _ (by simp [DataW.weights])

theorem ops_open {H : Type} {enc : TypeId × Value → H} {w : World} {held : Bool} {fuel : Nat} {a0 : Option Addr} {len cap : Nat} {d : DataW H} {p : List MemPlace} (h : DataW.trod enc Tryz.prog w 0 (fun _ => true) held fuel 22 [.slice a0 len cap] = some (d, p))
    (hz : ∀ n ∈ d.weights Tryz.prog 22, n ≤ reachBytes) :
    ∃ ops : List OpD, ops.length = len ∧ OpsAt w a0 ops ∧ len ≤ 9223372036854775807 ∧ (∀ o ∈ ops, o.s.size ≤ 4611686018427387904) ∧ ∀ o ∈ ops, (-9223372036854775808 ≤ o.a ∧ o.a ≤ 9223372036854775807) ∧ (-9223372036854775808 ≤ o.b ∧ o.b ≤ 9223372036854775807) := by
  rcases open_slice Tryz.undOps h with ⟨hcs, _⟩ | ⟨a, len', cap', m, n, D, Pl, hcs, _, hl, hm, hmm, hx0, hx⟩
  · simp only [List.cons.injEq, Value.slice.injEq, and_true] at hcs
    obtain ⟨rfl, rfl, rfl⟩ := hcs
    exact ⟨[], rfl, .inl rfl, by simp, fun o ho => by simp at ho, fun o ho => by simp at ho⟩
  · simp only [List.cons.injEq, Value.slice.injEq, and_true] at hcs
    obtain ⟨rfl, rfl, rfl⟩ := hcs
    simp only [if_true] at hmm
    subst hmm
    simp only [Prod.mk.injEq] at hx0
    obtain ⟨rfl, _⟩ := hx0
    rw [cellsOp] at hx
    have each : ∀ i, i < len → ∃ o : OpD, (∀ j v, o.cells[j]? = some v → w.cell? (a.add (i * 5 + j)) = some v) ∧ D i = o.datum ∧ (-9223372036854775808 ≤ o.a ∧ o.a ≤ 9223372036854775807) ∧ (-9223372036854775808 ≤ o.b ∧ o.b ≤ 9223372036854775807) := by
      intro i hi
      obtain ⟨cs', h1, h2⟩ := hx i (by omega)
      obtain ⟨_, hlen, hcell⟩ := World.cells?_some h1
      obtain ⟨o, rfl, hd, hr1, hr2⟩ := op_open h2
      refine ⟨o, fun j v hv => ?_, hd, hr1, hr2⟩
      have hj : j < 5 := by
        have := (Array.getElem?_eq_some_iff.1 hv).1
        simpa [OpD.cells] using this
      have := hcell j hj
      rw [add_add] at this
      rw [this]
      simpa using hv
    have : Inhabited OpD := ⟨opZ⟩
    obtain ⟨f, hf⟩ := choose_lt each
    have el : ((List.range len).map f).length = len := by simp
    have eg : ∀ i, i < len → ((List.range len).map f).getD i opZ = f i := fun i hi => by simp [List.getD, hi]
    refine ⟨(List.range len).map f, el, ?_, by unfold maxLen at hm; omega, ?_, ?_⟩
    · by_cases h0 : len = 0
      · subst h0; exact .inl rfl
      obtain ⟨b, off, spot⟩ := a
      have hspot : spot = none := by
        have := World.cell?_spot ((hf 0 (by omega)).1 0 _ rfl)
        simpa [Addr.add] using this
      subst hspot
      refine .inr ⟨b, off, rfl, fun j hj i v hv => ?_⟩
      rw [el] at hj
      rw [eg j hj] at hv
      have := (hf j hj).1 i v hv
      rw [add_plain] at this
      rw [Nat.add_assoc]
      exact this
    · intro o ho
      obtain ⟨i, hi, rfl⟩ := List.mem_map.1 ho
      have hi' : i < len := by simpa using hi
      have hw : (f i).s.size ∈ (DataW.slice ((List.range len).map D) ((List.range (m - len)).map fun j => D (len + j))).weights Tryz.prog 22 := by
        simp only [DataW.weights, Tryz.undOps]
        refine List.mem_cons_of_mem _ (List.mem_append_left _ (weights_all (d := D i) (List.mem_map.2 ⟨i, hi, rfl⟩) ?_))
        rw [(hf i hi').2.1]
        exact op_weight _
      have := hz _ hw
      have hr : reachBytes < 2 ^ 47 := by decide
      omega
    · intro o ho
      obtain ⟨i, hi, rfl⟩ := List.mem_map.1 ho
      have hi' : i < len := by simpa using hi
      exact (hf i hi').2.2

end Go.Proofs.YthboeppmlhbofaaGreatDoor
