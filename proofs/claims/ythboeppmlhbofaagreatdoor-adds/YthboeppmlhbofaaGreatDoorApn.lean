/-
  'append' onto a list of the program's own whose elements have several cells: at a step of a region that draws its order.
-/
import Derived.Test.YthboeppmlhbofaaGreatDoorApp
import Derived.Test.YthboeppmlhbofaaGreatDoorSlv
import Derived.Test.YthboeppmlhbofaaGreatDoorKep
import Derived.Deep.RegionLaw
namespace Go.Proofs.YthboeppmlhbofaaGreatDoor
open Go.RowKit

theorem wp_append_many {P : Program} (w : World) {o : Oper} {a : Act} {K : Act → World → Prop} {Q : Exit → Act → World → Prop} (s x : Operand) (t : TypeId)
    (ho : o.op = .call { callee := .builtin .append, args := #[s, x], argTypes := #[t, t] })
    (base : Nat) (e : TypeId) (i : TypeInfo) (z : Value) (size bytes : Nat) (ht : P.underlying t = some (.slice e)) (hi : P.info? e = some i) (hz : i.zero = some z)
    (hsize : i.size = size) (hby : i.bytes = bytes) (hzs : z.cells.size = size) (hpos : 0 < size)
    (v : Value) (n : Nat) (xs : List Value) (hs : a.eval s = v) (hown : w.ownsRow base e size v n xs)
    (ad : Addr) (m c : Nat) (news : List Value) (hx : a.eval x = .slice (some ad) m c) (hl : news.length = m * size) (hnews : ∀ j u, news[j]? = some u → w.cell? (ad.add j) = some u) (h1 : ∀ u ∈ news, u.oneCell' = true)
    (hm : 0 < m) (h63 : n + m ≤ maxLen) (hbytes : (n + m) * bytes ≤ 140737488355328) (hbase : base ≤ w.heap.size) (H : Nat) (hH : w.heap.size = H)
    (h : ∀ a' c' w', w'.ownsRow base e size (.slice a' (n + m) c') (n + m) (xs ++ news) → w.grownBy w' v.ownBlock → (v = .slice a' n c' ∨ a' = some ⟨H, 0, none⟩ ∧ w.grownBy w' none) → K (a.put o.dst (.slice a' (n + m) c')) w') : o.wp P a w K Q := by
  obtain ⟨v', w', hr, h2, h3, _⟩ := run_append_own (P := P) w base t o.type e i z size bytes ht hi hz hsize hby hzs hpos v n xs hown ad m c news hl hnews h1 h63 hbytes hbase
  obtain ⟨a', c', rfl, h5⟩ := append_lies (P := P) (w := w) ht hi hz (by rw [hsize]; exact hown) (by rw [hsize]; exact hl) hnews h1 h63 (by rw [hby]; exact hbytes) hr hm
  unfold Oper.wp execOp
  simp only [ho, resolve, invoke, builtin, Sem.run_bind, Sem.run_pure, Result.andThen_ok, List.map_toArray, List.map_cons, List.map_nil, hs, hx, hr]
  subst hH
  exact h a' c' w' h2 h3 h5

theorem step_append_many {P : Program} (w : World) {ops : Array Oper} {o : Oper} {a : Act} {K : Act → World → Prop} {Q : Exit → Act → World → Prop} {E : Prop} (hgd : o.guard = none) (s x : Operand) (t : TypeId)
    (ho : o.op = .call { callee := .builtin .append, args := #[s, x], argTypes := #[t, t] })
    (base : Nat) (e : TypeId) (i : TypeInfo) (z : Value) (size bytes : Nat) (ht : P.underlying t = some (.slice e)) (hi : P.info? e = some i) (hz : i.zero = some z)
    (hsize : i.size = size) (hby : i.bytes = bytes) (hzs : z.cells.size = size) (hpos : 0 < size)
    (v : Value) (n : Nat) (xs : List Value) (hs : a.eval s = v) (hown : w.ownsRow base e size v n xs)
    (ad : Addr) (m c : Nat) (news : List Value) (hx : a.eval x = .slice (some ad) m c) (hl : news.length = m * size) (hnews : ∀ j u, news[j]? = some u → w.cell? (ad.add j) = some u) (h1 : ∀ u ∈ news, u.oneCell' = true)
    (hm : 0 < m) (h63 : n + m ≤ maxLen) (hbytes : (n + m) * bytes ≤ 140737488355328) (hbase : base ≤ w.heap.size) (H : Nat) (hH : w.heap.size = H)
    (h : ∀ a' c' w', w'.ownsRow base e size (.slice a' (n + m) c') (n + m) (xs ++ news) → w.grownBy w' v.ownBlock → (v = .slice a' n c' ∨ a' = some ⟨H, 0, none⟩ ∧ w.grownBy w' none) → K (a.put o.dst (.slice a' (n + m) c')) w') :
    if Region.wanted o (yielded ops a.tmps) = true then Oper.wp P o a w K Q else E := by
  have hw : Region.wanted o (yielded ops a.tmps) = true := by simp [Region.wanted, hgd]
  rw [if_pos hw]
  exact wp_append_many w s x t ho base e i z size bytes ht hi hz hsize hby hzs hpos v n xs hs hown ad m c news hx hl hnews h1 hm h63 hbytes hbase H hH h

end Go.Proofs.YthboeppmlhbofaaGreatDoor

/-
  the sets that a solver has taken.
-/
namespace Go.Proofs.YthboeppmlhbofaaGreatDoor
open Go.RowKit Txt
set_option maxRecDepth 100000

theorem Tryz.infoSet : (Tryz.prog.info? 101).map (fun i => (i.zero, i.size, i.bytes)) = some (some (.agg #[.int .i64 0, .int .i64 0]), 2, 16) := by kernel_rfl
theorem Tryz.undSets : Tryz.prog.underlying 105 = some (.slice 101) := by kernel_rfl
def prCells (ss : List Pr) : List Value := ss.flatMap fun p => [.int .i64 (p.1 : Nat), .int .i64 (p.2 : Nat)]
theorem prCells_snoc (ss : List Pr) (p : Pr) : prCells ss ++ [.int .i64 (p.1 : Nat), .int .i64 (p.2 : Nat)] = prCells (ss ++ [p]) := by simp [prCells]
theorem n_set : (101 : Nat) ≠ 107 := by decide

/-- a block of another type is kept behind an append -/
theorem row_grownN {w w' : World} {g t e size n B : Nat} {zs xs : List Value} {v : Value} (hr : Row w g t zs) (hv : w.ownsRow B e size v n xs) (he : e ≠ t) (h : w.grownBy w' v.ownBlock) : Row w' g t zs := by
  refine (h.block g hr.lt ?_).trans hr
  intro eq
  rcases hv.2 with ⟨rfl, _⟩ | ⟨g', cap, cur, rfl, _, hg, _⟩
  · simp [Value.ownBlock] at eq
  · simp only [Value.ownBlock, Option.some.injEq] at eq
    subst eq
    have hr' : w.heap[g]? = some (.cells zs.toArray t (0, 0)) := hr
    rw [hr'] at hg
    simp only [Option.some.injEq, Obj.cells.injEq] at hg
    exact he hg.2.1.symm

theorem own_setN {w : World} {B g t e size n : Nat} {zs xs : List Value} {u : Value} (hr : Row w g t zs) (i : Nat) (x : Value) (he : e ≠ t) (hu : w.ownsRow B e size u n xs) : (w.setCell ⟨g, i, none⟩ x).ownsRow B e size u n xs := by
  refine ⟨hu.1, ?_⟩
  rcases hu.2 with hn | ⟨g', cap, cur, hv, h1, hg, r⟩
  · exact .inl hn
  · refine .inr ⟨g', cap, cur, hv, h1, ?_, r⟩
    have hne : g' ≠ g := by
      intro eq
      subst eq
      have hr' : w.heap[g']? = some (.cells zs.toArray t (0, 0)) := hr
      rw [hr'] at hg
      simp only [Option.some.injEq, Obj.cells.injEq] at hg
      exact he hg.2.1.symm
    rw [Below.heap_setCell _ _ _ _ hne]
    exact hg
/-- what a solver's call keeps: all but the solver's block and its taken row -/
structure Kept (w w' : World) (g : Nat) (v : Value) : Prop where
  os : w'.os = w.os
  tape : w'.tape = w.tape
  output : w'.output = w.output
  size : w.heap.size ≤ w'.heap.size
  block : ∀ k, k < w.heap.size → k ≠ g → v.ownBlock ≠ some k → w'.heap[k]? = w.heap[k]?
theorem Kept.of {w w' : World} (g : Nat) (v : Value) (h : Below w.heap.size w w') : Kept w w' g v := ⟨h.os, h.tape, h.output, h.size, fun k hk _ _ => h.block k hk⟩
theorem Kept.set {w w' : World} {g : Nat} {v : Value} (h : Kept w w' g v) (i : Nat) (x : Value) : Kept w (w'.setCell ⟨g, i, none⟩ x) g v :=
  ⟨h.os, h.tape, h.output, by simpa [World.setCell] using h.size, fun k hk hg hv => (Below.heap_setCell w' ⟨g, i, none⟩ x k hg).trans (h.block k hk hg hv)⟩
theorem Kept.below {w w' w'' : World} {g : Nat} {v : Value} (h : Kept w w' g v) (hb : Below w'.heap.size w' w'') : Kept w w'' g v :=
  ⟨hb.os.trans h.os, hb.tape.trans h.tape, hb.output.trans h.output, Nat.le_trans h.size hb.size, fun k hk hg hv => (hb.block k (Nat.lt_of_lt_of_le hk h.size)).trans (h.block k hk hg hv)⟩
theorem Kept.grown {w w' w'' : World} {g : Nat} {v : Value} (h : Kept w w' g v) (hb : w'.grownBy w'' v.ownBlock) : Kept w w'' g v :=
  ⟨hb.os.trans h.os, hb.tape.trans h.tape, hb.output.trans h.output, Nat.le_trans h.size hb.size, fun k hk hg hv => (hb.block k (Nat.lt_of_lt_of_le hk h.size) (fun e => hv e.symm)).trans (h.block k hk hg hv)⟩

end Go.Proofs.YthboeppmlhbofaaGreatDoor

/-
  trail's Add: the walk.
-/
namespace Go.Proofs.YthboeppmlhbofaaGreatDoor
open Go.RowKit Txt
set_option maxRecDepth 100000

theorem posN_lt (xs : List Int) (h : xs.all litB = true) : posN xs < 2 ^ 11 := (Two.set xs h).lt
theorem negN_lt (xs : List Int) (h : xs.all litB = true) : negN xs < 2 ^ 11 := (Two.set xs h).lf
def errOf (k : Tk) : Int := match k with
  | .lit => 4
  | .taut => 0
  | .full => 5
  | .takes => 0

set_option maxHeartbeats 2000000 in
theorem add_lit (g : Nat) (a : Option Addr) (c : Nat) (xs : List Int) (w : World) (hx : xs.length ≤ 9223372036854775807) (hi : IntsAt w a xs) (hall : xs.all litB = false) :
    Calls Tryz.prog 30 #[.pointer (some ⟨g, 0, none⟩), .slice a xs.length c] w fun e w' => e = .returned (.int .i64 4) ∧ Below w.heap.size w w' := by
  have HO := hide (of_any a c xs w hx hi)
  have e1 : posOk xs = 0 := by simp [posOk, hall]
  have e2 : negOk xs = 0 := by simp [negOk, hall]
  rw [hall, e1, e2] at HO
  clear hi hall e1 e2
  go_enter Tryz.func30, Tryz.ntmps30
  go_wp2_with fail
  refine (unhide HO).mono ?_
  rintro e w2 ⟨rfl, hb2⟩
  have HB : Hid (∀ x, Below w.heap.size w (w2.alloc x)) := fun x => hb2.alloc hb2.size x
  clear hb2
  go_wp2
  go_ret
  exact ⟨rfl, HB.out _⟩

set_option maxHeartbeats 2000000 in
theorem add_taut (g : Nat) (a : Option Addr) (c : Nat) (xs : List Int) (w : World) (hx : xs.length ≤ 9223372036854775807) (hi : IntsAt w a xs) (hall : xs.all litB = true) (ht : (posN xs &&& negN xs != 0) = true) :
    Calls Tryz.prog 30 #[.pointer (some ⟨g, 0, none⟩), .slice a xs.length c] w fun e w' => e = .returned (.int .i64 0) ∧ Below w.heap.size w w' := by
  have HO := hide (of_any a c xs w hx hi)
  have e1 : posOk xs = posN xs := by simp [posOk, hall]
  have e2 : negOk xs = negN xs := by simp [negOk, hall]
  have HT : Hid (∀ w, Calls Tryz.prog 60 #[.agg #[.int .i64 (posN xs : Nat), .int .i64 (negN xs : Nat)]] w fun e w' => e = .returned (.bool true) ∧ Below w.heap.size w w') := fun w => by
    have := isTaut_any (posN xs) (negN xs) (posN_lt xs hall) (negN_lt xs hall) w
    rwa [ht] at this
  rw [hall, e1, e2] at HO
  generalize posN xs = t at *
  generalize negN xs = f at *
  clear hi hall e1 e2 ht
  go_enter Tryz.func30, Tryz.ntmps30
  go_wp2_with fail
  refine (unhide HO).mono ?_
  rintro e w2 ⟨rfl, hb2⟩
  have HB : Hid (∀ x, Below w.heap.size w (w2.alloc x)) := fun x => hb2.alloc hb2.size x
  have hs2 : w.heap.size ≤ w2.heap.size := hb2.size
  clear hb2
  go_wp2_with fail
  refine (unhide HT _).mono ?_
  rintro e w3 ⟨rfl, hb3⟩
  have HB3 : Hid (Below w.heap.size w w3) := (HB.out _).trans (hb3.mono (by simp; omega))
  clear hb3
  go_wp2
  go_ret
  exact ⟨rfl, HB3.out⟩

end Go.Proofs.YthboeppmlhbofaaGreatDoor
