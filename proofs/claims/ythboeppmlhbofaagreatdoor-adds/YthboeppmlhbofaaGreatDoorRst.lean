/-
  traillaw's reset and made: the walks.
-/
import Derived.Test.YthboeppmlhbofaaGreatDoorAdn
namespace Go.Proofs.YthboeppmlhbofaaGreatDoor
open Go.RowKit Txt
set_option maxRecDepth 100000

theorem resetT_any (B g : Nat) (tv : Value) (cnt lits seen : Nat) (w : World) (h : TrI w B g tv cnt lits seen) :
    Calls Tryz.prog 36 #[.pointer (some ⟨g, 0, none⟩)] w fun e w' => e = .returned (.tuple #[]) ∧ TrI w' B g (.slice none 0 0) 0 0 0 ∧ w.grownBy w' (some g) := by
  obtain ⟨r, h0, l, ta, ss, tc, em, se, e, h1, h2, h3⟩ := h
  subst e
  refine (resetS_any g r h0 l ta ss.length tc em se w h1).mono ?_
  rintro e w' ⟨rfl, hr, hg⟩
  exact ⟨rfl, ⟨r, h0, l, none, [], 0, 0, 0, rfl, hr, ⟨rfl, .inl ⟨rfl, rfl⟩⟩, rfl, rfl, by omega, fun p hp => by simp at hp, Two.zero⟩, hg⟩

/-- the solver with nothing taken -/
def SolD.none (d : SolD) : SolD :=
  { d with tx := .slice Option.none 0 0, ty := .slice Option.none 0 0, ag := Option.none, cg := 0, vgs := [], given := [], ah := Option.none, ch := 0, nh := 0, vhs := [], lits := 0, seen := 0 }

theorem reset_end {w w1 w2 w3 : World} {B : Nat} {d : SolD} (h : SolI w B d) (x1 : TrI w1 B d.gx (.slice none 0 0) 0 0 0) (g1 : w.grownBy w1 (some d.gx)) (y2 : TrI w2 B d.gy (.slice none 0 0) 0 0 0) (g2 : w1.grownBy w2 (some d.gy))
    (c3 : Chg (fun b => b = d.cb) w2 w3) (r3 : Row w3 d.cb 44 d.none.cells) (xs : List Int) : SolN w w3 B d d.none xs := by
  obtain ⟨⟨_, _, q1⟩, _⟩ := h.x.types
  obtain ⟨⟨_, _, q2⟩, _⟩ := h.y.types
  have n1 : d.gx ≠ d.cb := (ne_types h.blk q1 u_cS).symm
  have n2 : d.gy ≠ d.cb := (ne_types h.blk q2 u_cS).symm
  have x2 := x1.frame (w' := w2) (g2.block _ x1.lt.1 (fun e => h.xy (Option.some.inj e))) (fun b e => by simp [Value.ownBlock] at e)
  have x3 := x2.frame (w' := w3) (c3.block _ x2.lt.1 n1) (fun b e => by simp [Value.ownBlock] at e)
  have y3 := y2.frame (w' := w3) (c3.block _ y2.lt.1 n2) (fun b e => by simp [Value.ownBlock] at e)
  have c1 : Chg d.At w w1 := (Chg.of (Below.refl _ _)).grown g1 (fun b e => .inl (.inr (.inl (Option.some.inj e).symm)))
  have c2 : Chg d.At w w2 := c1.grown g2 (fun b e => .inl (.inr (.inr (.inl (Option.some.inj e).symm))))
  refine ⟨⟨r3, h.base, x3, y3, h.xy, apart_nil _, ⟨rfl, .inl ⟨rfl, rfl⟩⟩, trivial, ⟨rfl, .inl ⟨rfl, rfl⟩⟩, fun u hu => by simp [SolD.none] at hu⟩, rfl, c2.trans (c3.mono (fun b _ e => .inl e)), fun b hb => ?_, Nat.zero_le _, Nat.zero_le _, fun g hg => by simp [SolD.none] at hg⟩
  rcases hb with e | e | e | e | e | e | e | ⟨u, hu, _⟩
  · exact .inl (.inl e)
  · exact .inl (.inr (.inl e))
  · exact .inl (.inr (.inr (.inl e)))
  · simp [SolD.none, Value.ownBlock] at e
  · simp [SolD.none, Value.ownBlock] at e
  · simp [SolD.none, SolD.vg, Value.ownBlock] at e
  · simp [SolD.none, SolD.vh, Value.ownBlock] at e
  · simp [SolD.none] at hu

set_option maxHeartbeats 4000000 in
theorem reset_any (B : Nat) (d : SolD) (w : World) (h : SolI w B d) (xs : List Int) :
    Calls Tryz.prog 19 #[.pointer (some ⟨d.cb, 0, none⟩)] w fun e w' => e = .returned (.bool true) ∧ ∃ d', SolN w w' B d d' xs := by
  have HA := hide (resetT_any B d.gx d.tx d.nh d.lits d.seen w h.x)
  have c0 : w.cell? ⟨d.cb, 0, none⟩ = some (.pointer (some ⟨d.gx, 0, none⟩)) := (h.blk.cell 0).trans rfl
  obtain ⟨⟨_, _, q1⟩, q1'⟩ := h.x.types
  obtain ⟨⟨_, _, q2⟩, q2'⟩ := h.y.types
  have n1 : d.cb ≠ d.gx := ne_types h.blk q1 u_cS
  have n2 : d.cb ≠ d.gy := ne_types h.blk q2 u_cS
  have n3 : ∀ b, d.ty.ownBlock = some b → b ≠ d.gx := fun b e => by obtain ⟨_, _, q⟩ := q2' b e; exact ne_types q q1 u_ss
  have H := hide h
  have N3 := hide n3
  clear h q1 q2 q1' q2' n3
  go_enter Tryz.func19, Tryz.ntmps19
  go_wp2_with fail
  refine (unhide HA).mono ?_
  rintro e w1 ⟨rfl, x1, g1⟩
  have r1 : Row w1 d.cb 44 d.cells := (g1.block _ H.out.blk.lt (fun e => n1 (Option.some.inj e))).trans H.out.blk
  have c1 : w1.cell? ⟨d.cb, 1, none⟩ = some (.pointer (some ⟨d.gy, 0, none⟩)) := (r1.cell 1).trans rfl
  have y1 := H.out.y.frame (w' := w1) (g1.block _ H.out.y.lt.1 (fun e => H.out.xy (Option.some.inj e).symm)) (fun b e => g1.block b (H.out.y.lt.2 b e) (fun e' => N3.out b e (Option.some.inj e')))
  have HA2 := hide (resetT_any B d.gy d.ty d.nh d.lits d.seen w1 y1)
  have X1 := hide x1
  have G1 := hide g1
  have R1 := hide r1
  clear x1 g1 r1 y1 HA c0
  go_wp2_with fail
  refine (unhide HA2).mono ?_
  rintro e w2 ⟨rfl, y2, g2⟩
  have r2 : Row w2 d.cb 44 d.cells := (g2.block _ R1.out.lt (fun e => n2 (Option.some.inj e))).trans R1.out
  have Y2 := hide y2
  have G2 := hide g2
  have R2 := hide r2
  have e0 : w2.cell? ⟨d.cb, 0, none⟩ = some (.pointer (some ⟨d.gx, 0, none⟩)) := (r2.cell 0).trans rfl
  have e5 : w2.cell? ⟨d.cb, 5, none⟩ = some (.slice d.ag d.given.length d.cg) := (r2.cell 5).trans rfl
  have e6 : w2.cell? ⟨d.cb, 6, none⟩ = some (.slice d.ah d.nh d.ch) := (r2.cell 6).trans rfl
  have e7 : w2.cell? ⟨d.cb, 7, none⟩ = some (.int .i64 d.lits) := (r2.cell 7).trans rfl
  have e8 : w2.cell? ⟨d.cb, 8, none⟩ = some (.int .i64 d.seen) := (r2.cell 8).trans rfl
  have e9 : w2.cell? ⟨d.cb, 9, none⟩ = some (.slice none 0 0) := (r2.cell 9).trans rfl
  have e10 : w2.cell? ⟨d.cb, 10, none⟩ = some (.int .i64 0) := (r2.cell 10).trans rfl
  have e11 : w2.cell? ⟨d.cb, 11, none⟩ = some (.int .i64 0) := (r2.cell 11).trans rfl
  have e12 : w2.cell? ⟨d.cb, 12, none⟩ = some (.int .i64 0) := (r2.cell 12).trans rfl
  have e13 : w2.cell? ⟨d.cb, 13, none⟩ = some (.string ⟨#[]⟩) := (r2.cell 13).trans rfl
  have z5 := r2.frozen 5
  have z6 := r2.frozen 6
  have z7 := r2.frozen 7
  have z8 := r2.frozen 8
  have z9 := r2.frozen 9
  have z10 := r2.frozen 10
  have z11 := r2.frozen 11
  have z12 := r2.frozen 12
  have z13 := r2.frozen 13
  have r3 := hide ((((((((((R2.out.set 5 (.slice none 0 0)).set 6 (.slice none 0 0)).set 7 (.int .i64 0)).set 8 (.int .i64 0)).set 9 (.slice none 0 0)).set 10 (.int .i64 0)).set 11 (.int .i64 0)).set 12 (.int .i64 0)).set 13 (.string ⟨#[]⟩)))
  have ch := hide ((((((((((Chg.of (P := fun b => b = d.cb) (Below.refl _ w2)).set d.cb 5 (.slice none 0 0) (.inl rfl)).set d.cb 6 (.slice none 0 0) (.inl rfl)).set d.cb 7 (.int .i64 0) (.inl rfl)).set d.cb 8 (.int .i64 0) (.inl rfl)).set d.cb 9 (.slice none 0 0) (.inl rfl)).set d.cb 10 (.int .i64 0) (.inl rfl)).set d.cb 11 (.int .i64 0) (.inl rfl)).set d.cb 12 (.int .i64 0) (.inl rfl)).set d.cb 13 (.string ⟨#[]⟩) (.inl rfl))
  have HE := hide (reset_end H.out X1.out G1.out Y2.out G2.out ch.out r3.out xs)
  have HRD := hide (reads_any B d.gx (.slice none 0 0) d.none _ r3.out HE.out.i.x (Nat.zero_le _))
  clear y2 g2 r2 HA2 c1 r3 ch X1 Y2 G1 G2 R1 R2
  go_wp2_with fail
  refine (unhide HRD).mono ?_
  rintro e w4 ⟨rfl, hb4⟩
  have HN := hide (HE.out.below hb4)
  clear hb4
  go_wp2
  go_ret
  exact ⟨rfl, _, HN.out⟩

end Go.Proofs.YthboeppmlhbofaaGreatDoor

/-
  traillaw's made: the walk.
-/
namespace Go.Proofs.YthboeppmlhbofaaGreatDoor
open Go.RowKit Txt
set_option maxRecDepth 100000

theorem TrI.fresh {w : World} {B g : Nat} {r h l : Int} (hr : Row w g 107 (solCells r h l none 0 0 0 0)) : TrI w B g (.slice none 0 0) 0 0 0 :=
  ⟨r, h, l, none, [], 0, 0, 0, rfl, hr, ⟨rfl, .inl ⟨rfl, rfl⟩⟩, rfl, rfl, by omega, fun p hp => by simp at hp, Two.zero⟩
def newD (cb gx gy : Nat) (r h l : Int) : SolD := ⟨cb, gx, gy, .slice none 0 0, .slice none 0 0, r, h, l, none, 0, [], [], none, 0, 0, [], 0, 0⟩
theorem newD_at {cb gx gy : Nat} {r h l : Int} {b : Nat} (hb : (newD cb gx gy r h l).At b) : b = cb ∨ b = gx ∨ b = gy := by
  rcases hb with e | e | e | e | e | e | e | ⟨u, hu, _⟩
  · exact .inl e
  · exact .inr (.inl e)
  · exact .inr (.inr e)
  · simp [newD, Value.ownBlock] at e
  · simp [newD, Value.ownBlock] at e
  · simp [newD, SolD.vg, Value.ownBlock] at e
  · simp [newD, SolD.vh, Value.ownBlock] at e
  · simp [newD] at hu

set_option maxHeartbeats 4000000 in
theorem made_no (r h l : Int) (w : World) (hs : settingsB r h l = false) :
    Calls Tryz.prog 26 #[.int .i64 r, .int .i64 h, .int .i64 l] w fun e w' => e = .returned (.tuple #[.pointer none, .bool true]) ∧ Below w.heap.size w w' := by
  have HN : Hid (∀ w, Calls Tryz.prog 49 #[.agg #[.int .i64 r, .int .i64 h, .int .i64 l]] w fun e w' => e = .returned (.tuple #[.pointer none, .int .i64 1]) ∧ Below w.heap.size w w') := fun w => by
    refine (new_any r h l w).mono ?_
    rintro e w' ⟨h1, h2⟩
    rw [hs] at h2
    exact ⟨h2, h1⟩
  have HS : Hid (∀ w, Calls Tryz.prog 50 #[.int .i64 r, .int .i64 h, .int .i64 l] w fun e w' => e = .returned (.bool false) ∧ w' = w) := fun w => by
    have := settings_any r h l w
    rwa [hs] at this
  have HNM : Hid (∀ n w, Calls Tryz.prog 33 #[.int .i64 n] w fun e w' => e = .returned (.int .i64 n) ∧ w' = w) := fun n w => num_any n w
  have HB : Hid (∀ x, Below w.heap.size w (w.alloc x)) := fun x => (Below.refl _ _).alloc (Nat.le_refl _) x
  go_enter Tryz.func26, Tryz.ntmps26
  go_wp2_with fail
  refine (unhide HN _).mono ?_
  rintro e w2 ⟨rfl, hb2⟩
  have HB2 : Hid (Below w.heap.size w w2) := (HB.out _).trans (hb2.mono (by simp))
  clear hb2 HB
  go_wp2_with (first
    | (go_at_call 50; refine (unhide HS _).mono ?_; rintro e w' ⟨rfl, hw⟩; obtain rfl := hw.symm)
    | (go_at_call 33; refine (unhide HNM _ _).mono ?_; rintro e w' ⟨rfl, hw⟩; obtain rfl := hw.symm))
  go_ret2
  exact ⟨rfl, HB2.out⟩

set_option maxHeartbeats 4000000 in
theorem made_yes (B : Nat) (r h l : Int) (w : World) (hs : settingsB r h l = true) (hB : B ≤ w.heap.size) :
    Calls Tryz.prog 26 #[.int .i64 r, .int .i64 h, .int .i64 l] w fun e w' => ∃ d, e = .returned (.tuple #[.pointer (some ⟨d.cb, 0, none⟩), .bool true]) ∧ SolI w' B d ∧ (∀ b, d.At b → w.heap.size ≤ b) ∧ d.nh = 0 ∧ d.given = [] ∧ Below w.heap.size w w' := by
  have HN : Hid (∀ w, Calls Tryz.prog 49 #[.agg #[.int .i64 r, .int .i64 h, .int .i64 l]] w fun e w' => ∃ g, w.heap.size ≤ g ∧ e = .returned (.tuple #[.pointer (some ⟨g, 0, none⟩), .int .i64 0]) ∧ Row w' g 107 (solCells r h l none 0 0 0 0) ∧ Below w.heap.size w w') := fun w => by
    refine (new_any r h l w).mono ?_
    rintro e w' ⟨h1, h2⟩
    rw [hs] at h2
    obtain ⟨g, q1, q2, q3⟩ := h2
    exact ⟨g, q1, q2, q3, h1⟩
  have HS : Hid (∀ w, Calls Tryz.prog 50 #[.int .i64 r, .int .i64 h, .int .i64 l] w fun e w' => e = .returned (.bool true) ∧ w' = w) := fun w => by
    have := settings_any r h l w
    rwa [hs] at this
  have m := fun j u hu => new_cells1 w [.int .i64 r, .int .i64 h, .int .i64 l] 42 j u hu
  have m0 := m 0 _ rfl
  have m1 := m 1 _ rfl
  have m2 := m 2 _ rfl
  rw [addr0] at m0 m1 m2
  simp only [Nat.zero_add] at m0 m1 m2
  have HB1 : Hid (Below w.heap.size w (w.alloc (.cells #[.int .i64 r, .int .i64 h, .int .i64 l] 42))) := (Below.refl _ _).alloc (Nat.le_refl _) _
  have e3 : w.heap.size < (w.alloc (.cells #[.int .i64 r, .int .i64 h, .int .i64 l] 42)).heap.size := by simp
  clear m
  go_enter Tryz.func26, Tryz.ntmps26
  go_wp2_with fail
  refine (unhide HN _).mono ?_
  generalize w.alloc (.cells #[.int .i64 r, .int .i64 h, .int .i64 l] 42) = w1 at *
  rintro e w2 ⟨g, hg, rfl, hr2, hb2⟩
  have k0 := (hb2.cell (p := ⟨w.heap.size, 0, none⟩) e3).trans m0
  have k1 := (hb2.cell (p := ⟨w.heap.size, 1, none⟩) e3).trans m1
  have k2 := (hb2.cell (p := ⟨w.heap.size, 2, none⟩) e3).trans m2
  have hs2 := hb2.size
  have R2 := hide hr2
  have HB2 : Hid (Below w.heap.size w w2) := HB1.out.trans (hb2.mono (Nat.le_of_lt e3))
  have e4 : w.heap.size < w2.heap.size := by omega
  clear hb2 hr2 m0 m1 m2 HB1
  go_wp2_with (go_at_call 50; refine (unhide HS _).mono ?_; rintro e w' ⟨rfl, hw⟩; obtain rfl := hw.symm)
  refine (unhide HN _).mono ?_
  rintro e w3 ⟨g', hg', rfl, hr3, hb3⟩
  have q0 := (hb3.cell (p := ⟨w.heap.size, 0, none⟩) e4).trans k0
  have q1 := (hb3.cell (p := ⟨w.heap.size, 1, none⟩) e4).trans k1
  have q2 := (hb3.cell (p := ⟨w.heap.size, 2, none⟩) e4).trans k2
  have hs3 := hb3.size
  have R3 := hide hr3
  have R2' := hide (row_below R2.out hb3)
  have HB3 : Hid (Below w.heap.size w w3) := HB2.out.trans (hb3.mono (Nat.le_of_lt e4))
  have hgl : g < w2.heap.size := R2.out.lt
  have hgl' : g' < w3.heap.size := R3.out.lt
  clear hb3 hr3 k0 k1 k2 HB2 R2 HS HN
  have r4 := hide (heap_alloc_new w3 (.cells (newD w3.heap.size g g' r h l).cells.toArray 44))
  have hb4 : Hid (Below w3.heap.size w3 (w3.alloc (.cells (newD w3.heap.size g g' r h l).cells.toArray 44))) := (Below.refl _ _).alloc (Nat.le_refl _) _
  have x4 := hide (TrI.fresh (B := B) (row_below R2'.out hb4.out))
  have y4 := hide (TrI.fresh (B := B) (row_below R3.out hb4.out))
  have HRD := hide (reads_any B g (.slice none 0 0) (newD w3.heap.size g g' r h l) _ r4.out x4.out (Nat.zero_le _))
  have I4 : Hid (SolI (w3.alloc (.cells (newD w3.heap.size g g' r h l).cells.toArray 44)) B (newD w3.heap.size g g' r h l)) := ⟨r4.out, ⟨by show B ≤ w3.heap.size; omega, by show B ≤ g; omega, by show B ≤ g'; omega⟩, x4.out, y4.out, by show g ≠ g'; omega, apart_nil _, ⟨rfl, .inl ⟨rfl, rfl⟩⟩, trivial, ⟨rfl, .inl ⟨rfl, rfl⟩⟩, fun u hu => by simp [newD] at hu⟩
  have HB4 : Hid (Below w.heap.size w (w3.alloc (.cells (newD w3.heap.size g g' r h l).cells.toArray 44))) := HB3.out.trans (hb4.out.mono (by omega))
  clear r4 hb4 x4 y4 R2' R3 HB3
  go_wp2_with fail
  refine (unhide HRD).mono ?_
  rintro e w5 ⟨rfl, hb5⟩
  have I5 := hide (I4.out.below hb5)
  have HB5 : Hid (Below w.heap.size w w5) := HB4.out.trans (hb5.mono HB4.out.size)
  clear hb5
  go_wp2
  go_ret2
  refine ⟨newD w3.heap.size g g' r h l, rfl, I5.out, fun b hb => ?_, rfl, rfl, HB5.out⟩
  rcases newD_at hb with e | e | e <;> omega

end Go.Proofs.YthboeppmlhbofaaGreatDoor
