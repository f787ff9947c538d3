/-
  traillaw's solvers, and reads: the walk.
-/
import Derived.Test.YthboeppmlhbofaaGreatDoorSol
import Derived.Test.YthboeppmlhbofaaGreatDoorPur
namespace Go.Proofs.YthboeppmlhbofaaGreatDoor
open Go.RowKit Txt
set_option maxRecDepth 100000

/-- a solver of the script's -/
structure SolD where
  cb : Nat
  gx : Nat
  gy : Nat
  tx : Value
  ty : Value
  r : Int
  h : Int
  l : Int
  ag : Option Addr
  cg : Nat
  vgs : List Value
  given : List (List Int)
  ah : Option Addr
  ch : Nat
  nh : Nat
  vhs : List Value
  lits : Nat
  seen : Nat
def SolD.vg (d : SolD) : Value := .slice d.ag d.given.length d.cg
def SolD.vh (d : SolD) : Value := .slice d.ah d.nh d.ch
def SolD.cells (d : SolD) : List Value := [.pointer (some ⟨d.gx, 0, none⟩), .pointer (some ⟨d.gy, 0, none⟩), .int .i64 d.r, .int .i64 d.h, .int .i64 d.l, d.vg, d.vh, .int .i64 d.lits, .int .i64 d.seen, .slice none 0 0, .int .i64 0, .int .i64 0, .int .i64 0, .string ⟨#[]⟩, .int .i64 0]

set_option maxHeartbeats 8000000 in
theorem reads_any (B g : Nat) (tv : Value) (d : SolD) (w : World) (hr : Row w d.cb 44 d.cells) (h : TrI w B g tv d.nh d.lits d.seen) (hn : d.nh ≤ 1000000) :
    Calls Tryz.prog 20 #[.pointer (some ⟨d.cb, 0, none⟩), .pointer (some ⟨g, 0, none⟩)] w fun e w' => e = .returned (.bool true) ∧ Below w.heap.size w w' := by
  obtain ⟨r, h0, l, ta, ss, tc, em, se, e, h1, h2, h3, h4, h5, h6, h7⟩ := h
  subst e
  have hsz : sizeN d.seen = cvN se := by rw [h7.size, cvN_zero]; rfl
  have HS : Hid (∀ w, Calls Tryz.prog 34 #[.int .i64 d.seen] w fun e w' => e = .returned (.int .i64 (cvN se : Nat)) ∧ w' = w) := fun w => by
    have := size_any d.seen (Nat.lt_of_lt_of_le h7.top (by decide)) w
    rwa [hsz] at this
  have HC := hide (counts_any g r h0 l ta ss tc em se w h1 (own_setsAt h2) (by omega) h6 h7.lt (by omega))
  have HP : Hid (∀ w', Below w.heap.size w w' → Calls Tryz.prog 38 #[.pointer (some ⟨g, 0, none⟩)] w' fun e w'' => e = .returned (.string ⟨#[]⟩) ∧ w'' = w') := fun w' hb => proof_any g r h0 l ta ss.length tc em se w' (row_below h1 hb)
  have hcn : (ss.length : Int) + em = (d.nh : Int) := by omega
  rw [hcn, h4] at HC
  generalize cvN se = cv at *
  have HR := hide hr
  have hlt : d.cb < w.heap.size := hr.lt
  clear h1 h2 h3 h4 h6 h7 hsz hr hcn
  go_enter Tryz.func20, Tryz.ntmps20
  go_wp2_with fail
  refine (unhide HC).mono ?_
  rintro e w2 ⟨rfl, hb2⟩
  have hs2 : w.heap.size ≤ w2.heap.size := hb2.size
  have HB2 : Hid (∀ x, Below w.heap.size w (w2.alloc x)) := fun x => hb2.alloc hb2.size x
  clear hb2 HC
  go_wp2_with fail
  refine (unhide HP _ (HB2.out _)).mono ?_
  have q := fun j u hu => new_cells1 w2 [.int .i64 (cv : Nat), .int .i64 (d.nh : Nat), .int .i64 (d.lits : Nat), .int .i64 0, .int .i64 0, .int .i64 0, .int .i64 0] 66 j u hu
  have q0 := q 0 _ rfl
  have q1 := q 1 _ rfl
  have q2 := q 2 _ rfl
  have q3 := q 3 _ rfl
  have q4 := q 4 _ rfl
  have q5 := q 5 _ rfl
  have q6 := q 6 _ rfl
  rw [addr0] at q0 q1 q2 q3 q4 q5 q6
  simp only [Nat.zero_add] at q0 q1 q2 q3 q4 q5 q6
  have hbb := HB2.out (.cells #[.int .i64 (cv : Nat), .int .i64 (d.nh : Nat), .int .i64 (d.lits : Nat), .int .i64 0, .int .i64 0, .int .i64 0, .int .i64 0] 66)
  clear q
  generalize w2.alloc (.cells #[.int .i64 (cv : Nat), .int .i64 (d.nh : Nat), .int .i64 (d.lits : Nat), .int .i64 0, .int .i64 0, .int .i64 0, .int .i64 0] 66) = w3 at *
  rintro e w' ⟨rfl, hw⟩
  obtain rfl := hw.symm
  have R := hide (row_below HR.out hbb)
  have c6 : w3.cell? ⟨d.cb, 6, none⟩ = some (.slice d.ah d.nh d.ch) := (R.out.cell 6).trans rfl
  have c7 : w3.cell? ⟨d.cb, 7, none⟩ = some (.int .i64 d.lits) := (R.out.cell 7).trans rfl
  have c8 : w3.cell? ⟨d.cb, 8, none⟩ = some (.int .i64 d.seen) := (R.out.cell 8).trans rfl
  have c9 : w3.cell? ⟨d.cb, 9, none⟩ = some (.slice none 0 0) := (R.out.cell 9).trans rfl
  have c10 : w3.cell? ⟨d.cb, 10, none⟩ = some (.int .i64 0) := (R.out.cell 10).trans rfl
  have c11 : w3.cell? ⟨d.cb, 11, none⟩ = some (.int .i64 0) := (R.out.cell 11).trans rfl
  have c12 : w3.cell? ⟨d.cb, 12, none⟩ = some (.int .i64 0) := (R.out.cell 12).trans rfl
  have c13 : w3.cell? ⟨d.cb, 13, none⟩ = some (.string ⟨#[]⟩) := (R.out.cell 13).trans rfl
  have HBB := hide hbb
  clear hbb HB2 HP HR R hw
  go_wp2_with (go_at_call 34; refine (unhide HS _).mono ?_; rintro e w' ⟨rfl, hw⟩; obtain rfl := hw.symm)
  go_quiet (fail)
  go_wp2
  go_quiet (fail)
  go_wp2
  go_ret
  exact ⟨rfl, below_drewN (below_drewN HBB.out _) _⟩

end Go.Proofs.YthboeppmlhbofaaGreatDoor

/-
  traillaw's solvers: what stays.
-/
namespace Go.Proofs.YthboeppmlhbofaaGreatDoor
open Go.RowKit Txt
set_option maxRecDepth 100000

/-- all blocks stay but those in P -/
structure Chg (P : Nat → Prop) (w w' : World) : Prop where
  os : w'.os = w.os
  tape : w'.tape = w.tape
  output : w'.output = w.output
  size : w.heap.size ≤ w'.heap.size
  block : ∀ k, k < w.heap.size → ¬ P k → w'.heap[k]? = w.heap[k]?
theorem Chg.of {P : Nat → Prop} {w w' : World} (h : Below w.heap.size w w') : Chg P w w' := ⟨h.os, h.tape, h.output, h.size, fun k hk _ => h.block k hk⟩
theorem Chg.trans {P : Nat → Prop} {w w1 w2 : World} (h : Chg P w w1) (h' : Chg P w1 w2) : Chg P w w2 := ⟨h'.os.trans h.os, h'.tape.trans h.tape, h'.output.trans h.output, Nat.le_trans h.size h'.size, fun k hk hn => (h'.block k (Nat.lt_of_lt_of_le hk h.size) hn).trans (h.block k hk hn)⟩
theorem Chg.mono {P Q : Nat → Prop} {w w' : World} (h : Chg P w w') (hp : ∀ k, k < w.heap.size → P k → Q k) : Chg Q w w' := ⟨h.os, h.tape, h.output, h.size, fun k hk hn => h.block k hk (fun hq => hn (hp k hk hq))⟩
theorem Chg.below {P : Nat → Prop} {w w1 w2 : World} (h : Chg P w w1) (hb : Below w1.heap.size w1 w2) : Chg P w w2 := h.trans (Chg.of hb)
theorem Chg.kept {P : Nat → Prop} {w w1 w2 : World} {g : Nat} {v : Value} (h : Chg P w w1) (hk : Kept w1 w2 g v) (hg : P g) (hv : ∀ b, v.ownBlock = some b → P b) : Chg P w w2 :=
  ⟨hk.os.trans h.os, hk.tape.trans h.tape, hk.output.trans h.output, Nat.le_trans h.size hk.size, fun k hl hn => (hk.block k (Nat.lt_of_lt_of_le hl h.size) (fun e => hn (e ▸ hg)) (fun e => hn (hv k e))).trans (h.block k hl hn)⟩
theorem Chg.grown {P : Nat → Prop} {w w1 w2 : World} {q : Option Nat} (h : Chg P w w1) (hk : w1.grownBy w2 q) (hq : ∀ b, q = some b → P b ∨ w.heap.size ≤ b) : Chg P w w2 :=
  ⟨hk.os.trans h.os, hk.tape.trans h.tape, hk.output.trans h.output, Nat.le_trans h.size hk.size, fun k hl hn => (hk.block k (Nat.lt_of_lt_of_le hl h.size) (fun e => (hq k e.symm).elim hn (fun h => by omega))).trans (h.block k hl hn)⟩
theorem Chg.set {P : Nat → Prop} {w w1 : World} (h : Chg P w w1) (g i : Nat) (x : Value) (hq : P g ∨ w.heap.size ≤ g) : Chg P w (w1.setCell ⟨g, i, none⟩ x) :=
  ⟨h.os, h.tape, h.output, by simpa [World.setCell] using h.size, fun k hl hn => (Below.heap_setCell w1 ⟨g, i, none⟩ x k (fun e => by have e' : k = g := e; subst e'; exact hq.elim hn (fun h => by omega))).trans (h.block k hl hn)⟩
theorem Chg.toBelow {P : Nat → Prop} {w w' : World} {B : Nat} (h : Chg P w w') (hB : B ≤ w.heap.size) (hp : ∀ b, P b → B ≤ b) : Below B w w' :=
  ⟨h.os, h.tape, h.output, h.size, fun k hk => h.block k (by omega) (fun hq => by have := hp k hq; omega)⟩

theorem ints_frame {w w' : World} {a : Option Addr} {xs : List Int} (h : IntsAt w a xs) (hk : ∀ g, a = some g → w'.heap[g.block]? = w.heap[g.block]?) : IntsAt w' a xs := by
  rcases h with h | ⟨b, off, rfl, h⟩
  · exact .inl h
  · exact .inr ⟨b, off, rfl, fun j hj => (World.cell?_of_block (a := ⟨b, off + j, none⟩) (hk ⟨b, off, none⟩ rfl)).trans (h j hj)⟩
theorem ints_lt {w : World} {a : Option Addr} {xs : List Int} (h : IntsAt w a xs) (hp : 0 < xs.length) (g : Addr) (e : a = some g) : g.block < w.heap.size := by
  obtain ⟨b, off, rfl, hc⟩ := h.get hp
  simp only [Option.some.injEq] at e
  subst e
  exact World.block_lt_of_cell? w _ (hc 0 hp)
theorem ints_chg {P : Nat → Prop} {w w' : World} {a : Option Addr} {xs : List Int} (h : IntsAt w a xs) (hc : Chg P w w') (hd : ∀ g, a = some g → ¬ P g.block) : IntsAt w' a xs := by
  by_cases hp : 0 < xs.length
  · exact ints_frame h (fun g e => hc.block g.block (ints_lt h hp g e) (hd g e))
  · exact .inl (List.eq_nil_of_length_eq_zero (by omega))

/-- blocks of different types are not the same -/
theorem ne_types {w : World} {a b e e' : Nat} {cs cs' : Array Value} {fr fr' : Nat × Nat} (ha : w.heap[a]? = some (.cells cs e fr)) (hb : w.heap[b]? = some (.cells cs' e' fr')) (he : e ≠ e') : a ≠ b := by
  intro eq
  subst eq
  rw [ha] at hb
  simp only [Option.some.injEq, Obj.cells.injEq] at hb
  exact he hb.2.1
theorem own_types {w : World} {B e s n : Nat} {v : Value} {xs : List Value} (h : w.ownsRow B e s v n xs) (b : Nat) (hb : v.ownBlock = some b) : ∃ cs fr, w.heap[b]? = some (.cells cs e fr) := by
  rcases h.2 with ⟨rfl, _⟩ | ⟨g', cap, cur, rfl, _, hg, _⟩
  · simp [Value.ownBlock] at hb
  · simp only [Value.ownBlock, Option.some.injEq] at hb
    subst hb
    exact ⟨_, _, hg⟩

structure SolI (w : World) (B : Nat) (d : SolD) : Prop where
  blk : Row w d.cb 44 d.cells
  base : B ≤ d.cb ∧ B ≤ d.gx ∧ B ≤ d.gy
  x : TrI w B d.gx d.tx d.nh d.lits d.seen
  y : TrI w B d.gy d.ty d.nh d.lits d.seen
  xy : d.gx ≠ d.gy
  txy : Apart d.tx d.ty
  gv : w.ownsRow B 24 1 d.vg d.given.length d.vgs
  ge : AllOwn w B 3 d.vgs d.given
  hv : w.ownsRow B 3 1 d.vh d.nh d.vhs
  gh : ∀ u ∈ d.vgs, Apart u d.vh
def SolD.At (d : SolD) (b : Nat) : Prop := b = d.cb ∨ b = d.gx ∨ b = d.gy ∨ d.tx.ownBlock = some b ∨ d.ty.ownBlock = some b ∨ d.vg.ownBlock = some b ∨ d.vh.ownBlock = some b ∨ ∃ u ∈ d.vgs, u.ownBlock = some b
theorem SolI.frame {w w' : World} {B : Nat} {d : SolD} (h : SolI w B d) (hk : ∀ b, d.At b → w'.heap[b]? = w.heap[b]?) : SolI w' B d :=
  ⟨(hk d.cb (.inl rfl)).trans h.blk, h.base, h.x.frame (hk _ (.inr (.inl rfl))) (fun b e => hk b (.inr (.inr (.inr (.inl e))))), h.y.frame (hk _ (.inr (.inr (.inl rfl)))) (fun b e => hk b (.inr (.inr (.inr (.inr (.inl e)))))), h.xy, h.txy,
    own_frame h.gv (fun b e => hk b (.inr (.inr (.inr (.inr (.inr (.inl e))))))), h.ge.map (fun u hu _ _ ho => own_frame ho (fun b e => hk b (.inr (.inr (.inr (.inr (.inr (.inr (.inr ⟨u, hu, e⟩))))))))), own_frame h.hv (fun b e => hk b (.inr (.inr (.inr (.inr (.inr (.inr (.inl e)))))))), h.gh⟩
theorem SolI.lt {w : World} {B : Nat} {d : SolD} (h : SolI w B d) {b : Nat} (hb : d.At b) : B ≤ b ∧ b < w.heap.size := by
  rcases hb with rfl | rfl | rfl | e | e | e | e | ⟨u, hu, e⟩
  · exact ⟨h.base.1, h.blk.lt⟩
  · exact ⟨h.base.2.1, h.x.lt.1⟩
  · exact ⟨h.base.2.2, h.y.lt.1⟩
  · exact ⟨h.x.le b e, h.x.lt.2 b e⟩
  · exact ⟨h.y.le b e, h.y.lt.2 b e⟩
  · exact h.gv.lt b e
  · exact h.hv.lt b e
  · obtain ⟨xs, hx⟩ := h.ge.mem hu
    exact hx.lt b e
theorem SolI.below {w w' : World} {B : Nat} {d : SolD} (h : SolI w B d) (hb : Below w.heap.size w w') : SolI w' B d := h.frame (fun b hd => hb.block b (h.lt hd).2)
theorem TrI.keep {w w' : World} {B g g2 cnt lits seen : Nat} {tv tv2 : Value} (h : TrI w B g tv cnt lits seen) (hk : Kept w w' g2 tv2) (h1 : g ≠ g2) (h2 : tv2.ownBlock ≠ some g) (h3 : ∀ b, tv.ownBlock = some b → b ≠ g2 ∧ tv2.ownBlock ≠ some b) : TrI w' B g tv cnt lits seen :=
  h.frame (hk.block g h.lt.1 h1 h2) (fun b e => hk.block b (h.lt.2 b e) (h3 b e).1 (h3 b e).2)

theorem u_ss : (101 : Nat) ≠ 107 := by decide
theorem u_cS : (44 : Nat) ≠ 107 := by decide
theorem u_cs : (44 : Nat) ≠ 101 := by decide
theorem u_ci : (44 : Nat) ≠ 3 := by decide
theorem u_cl : (44 : Nat) ≠ 24 := by decide
theorem u_iS : (3 : Nat) ≠ 107 := by decide
theorem u_is : (3 : Nat) ≠ 101 := by decide
theorem u_lS : (24 : Nat) ≠ 107 := by decide
theorem u_ls : (24 : Nat) ≠ 101 := by decide
theorem u_il : (3 : Nat) ≠ 24 := by decide

/-- the blocks of the two solvers -/
def SolD.XY (d : SolD) (b : Nat) : Prop := b = d.gx ∨ b = d.gy ∨ d.tx.ownBlock = some b ∨ d.ty.ownBlock = some b
theorem SolD.XY.at {d : SolD} {b : Nat} (h : d.XY b) : d.At b := by
  rcases h with h | h | h | h
  · exact .inr (.inl h)
  · exact .inr (.inr (.inl h))
  · exact .inr (.inr (.inr (.inl h)))
  · exact .inr (.inr (.inr (.inr (.inl h))))
/-- what is no solver's stays out of the two -/
theorem SolI.notXY {w : World} {B : Nat} {d : SolD} (h : SolI w B d) : ¬ d.XY d.cb ∧ (∀ b, d.vg.ownBlock = some b → ¬ d.XY b) ∧ (∀ b, d.vh.ownBlock = some b → ¬ d.XY b) ∧ ∀ u ∈ d.vgs, ∀ b, u.ownBlock = some b → ¬ d.XY b := by
  have key : ∀ b e cs fr, w.heap[b]? = some (.cells cs e fr) → e ≠ 107 → e ≠ 101 → ¬ d.XY b := by
    intro b e cs fr hb e1 e2 hq
    obtain ⟨⟨_, _, x1⟩, x2⟩ := h.x.types
    obtain ⟨⟨_, _, y1⟩, y2⟩ := h.y.types
    rcases hq with hq | hq | hq | hq
    · exact ne_types hb x1 e1 hq
    · exact ne_types hb y1 e1 hq
    · obtain ⟨_, _, x3⟩ := x2 b hq
      exact ne_types hb x3 e2 rfl
    · obtain ⟨_, _, y3⟩ := y2 b hq
      exact ne_types hb y3 e2 rfl
  refine ⟨key _ _ _ _ h.blk u_cS u_cs, fun b e => ?_, fun b e => ?_, fun u hu b e => ?_⟩
  · obtain ⟨_, _, q⟩ := own_types h.gv b e
    exact key _ _ _ _ q u_lS u_ls
  · obtain ⟨_, _, q⟩ := own_types h.hv b e
    exact key _ _ _ _ q u_iS u_is
  · obtain ⟨xs, hx⟩ := h.ge.mem hu
    obtain ⟨_, _, q⟩ := own_types hx b e
    exact key _ _ _ _ q u_iS u_is

/-- behind both Adds -/
structure Two5 (w w5 : World) (B : Nat) (d : SolD) (cnt lits seen : Nat) (tx ty : Value) : Prop where
  x : TrI w5 B d.gx tx cnt lits seen
  y : TrI w5 B d.gy ty cnt lits seen
  txy : Apart tx ty
  chg : Chg d.XY w w5
  nx : ∀ b, tx.ownBlock = some b → d.tx.ownBlock = some b ∨ w.heap.size ≤ b
  ny : ∀ b, ty.ownBlock = some b → d.ty.ownBlock = some b ∨ w.heap.size ≤ b
theorem two5 {w w1 w2 w3 w4 w5 : World} {B q cnt lits seen : Nat} {d : SolD} {tx ty : Value} (h : SolI w B d) (hb1 : Below w.heap.size w w1) (hq : q = w.heap.size) (hq1 : q < w1.heap.size)
    (k2 : Kept w1 w2 d.gx d.tx) (x2 : TrI w2 B d.gx tx cnt lits seen) (l2 : tx.ownBlock = d.tx.ownBlock ∨ ∃ k, w1.heap.size ≤ k ∧ tx.ownBlock = some k)
    (g3 : w2.grownBy w3 (some q)) (hb4 : Below w3.heap.size w3 w4) (k5 : Kept w4 w5 d.gy d.ty) (y5 : TrI w5 B d.gy ty cnt lits seen) (l5 : ty.ownBlock = d.ty.ownBlock ∨ ∃ k, w4.heap.size ≤ k ∧ ty.ownBlock = some k) : Two5 w w5 B d cnt lits seen tx ty := by
  have c1 : Chg d.XY w w1 := Chg.of hb1
  have c2 := c1.kept k2 (.inl rfl) (fun b e => .inr (.inr (.inl e)))
  have c3 := c2.grown g3 (fun b e => .inr (by simp only [Option.some.injEq] at e; omega))
  have c4 := c3.below hb4
  have c5 := c4.kept k5 (.inr (.inl rfl)) (fun b e => .inr (.inr (.inr e)))
  have z1 := hb1.size
  have z2 := k2.size
  have z3 := g3.size
  have z4 := hb4.size
  have xl := h.x.lt
  have yl := h.y.lt
  obtain ⟨⟨_, _, x1⟩, x3⟩ := h.x.types
  obtain ⟨⟨_, _, y1⟩, y3⟩ := h.y.types
  have nx : ∀ b, tx.ownBlock = some b → d.tx.ownBlock = some b ∨ w1.heap.size ≤ b := by
    intro b e
    rcases l2 with l | ⟨k, hk, l⟩
    · exact .inl (l ▸ e)
    · rw [l, Option.some.injEq] at e; omega
  have ny : ∀ b, ty.ownBlock = some b → d.ty.ownBlock = some b ∨ w4.heap.size ≤ b := by
    intro b e
    rcases l5 with l | ⟨k, hk, l⟩
    · exact .inl (l ▸ e)
    · rw [l, Option.some.injEq] at e; omega
  have x3' : TrI w3 B d.gx tx cnt lits seen := x2.frame (g3.block _ x2.lt.1 (fun e => by simp only [Option.some.injEq] at e; omega)) (fun b e => g3.block b (x2.lt.2 b e) (fun e' => by
    simp only [Option.some.injEq] at e'
    rcases nx b e with e1 | e1
    · have := xl.2 b e1; omega
    · omega))
  have x4 := x3'.below hb4
  refine ⟨x4.keep k5 h.xy (fun e => ?_) (fun b e => ?_), y5, fun b e e' => ?_, c5, fun b e => (nx b e).imp id (fun q => by omega), fun b e => (ny b e).imp id (fun q => by omega)⟩
  · obtain ⟨_, _, q⟩ := y3 _ e
    exact ne_types q x1 u_ss rfl
  · rcases nx b e with e1 | e1
    · obtain ⟨_, _, q⟩ := x3 _ e1
      exact ⟨ne_types q y1 u_ss, fun e2 => h.txy b e1 e2⟩
    · exact ⟨by omega, fun e2 => by have := yl.2 b e2; omega⟩
  · have := x4.lt.2 b e
    rcases ny b e' with e2 | e2
    · rcases nx b e with e1 | e1
      · exact h.txy b e1 e2
      · have := yl.2 b e2; omega
    · omega

end Go.Proofs.YthboeppmlhbofaaGreatDoor
