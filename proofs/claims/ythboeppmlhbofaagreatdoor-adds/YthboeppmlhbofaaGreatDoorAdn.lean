/-
  traillaw's added, where the clause is not taken: the walk.
-/
import Derived.Test.YthboeppmlhbofaaGreatDoorRds
namespace Go.Proofs.YthboeppmlhbofaaGreatDoor
open Go.RowKit Txt
set_option maxRecDepth 100000

/-- a solver behind a call -/
structure SolN (w w' : World) (B : Nat) (d d' : SolD) (xs : List Int) : Prop where
  i : SolI w' B d'
  cb : d'.cb = d.cb
  chg : Chg d.At w w'
  at_ : ∀ b, d'.At b → d.At b ∨ w.heap.size ≤ b
  nh : d'.nh ≤ d.nh + 1
  gl : d'.given.length ≤ d.given.length + 1
  g1 : ∀ g ∈ d'.given, g ∈ d.given ∨ g = xs

theorem Two5.blk {w w5 : World} {B cnt lits seen : Nat} {d : SolD} {tx ty : Value} (t : Two5 w w5 B d cnt lits seen tx ty) (h : SolI w B d) : Row w5 d.cb 44 d.cells := (t.chg.block _ h.blk.lt h.notXY.1).trans h.blk
theorem Two5.gv {w w5 : World} {B cnt lits seen : Nat} {d : SolD} {tx ty : Value} (t : Two5 w w5 B d cnt lits seen tx ty) (h : SolI w B d) : w5.ownsRow B 24 1 d.vg d.given.length d.vgs := own_frame h.gv (fun b e => t.chg.block b (own_lt h.gv b e) (h.notXY.2.1 b e))
theorem Two5.hv {w w5 : World} {B cnt lits seen : Nat} {d : SolD} {tx ty : Value} (t : Two5 w w5 B d cnt lits seen tx ty) (h : SolI w B d) : w5.ownsRow B 3 1 d.vh d.nh d.vhs := own_frame h.hv (fun b e => t.chg.block b (own_lt h.hv b e) (h.notXY.2.2.1 b e))
theorem Two5.ge {w w5 : World} {B cnt lits seen : Nat} {d : SolD} {tx ty : Value} (t : Two5 w w5 B d cnt lits seen tx ty) (h : SolI w B d) : AllOwn w5 B 3 d.vgs d.given := h.ge.map (fun u hu _ _ ho => own_frame ho (fun b e => t.chg.block b (own_lt ho b e) (h.notXY.2.2.2 u hu b e)))
theorem Two5.sol {w w5 : World} {B : Nat} {d : SolD} {tx ty : Value} (t : Two5 w w5 B d d.nh d.lits d.seen tx ty) (h : SolI w B d) : SolI w5 B { d with tx := tx, ty := ty } :=
  ⟨t.blk h, h.base, t.x, t.y, h.xy, t.txy, t.gv h, t.ge h, t.hv h, h.gh⟩
theorem Two5.solN {w w5 : World} {B : Nat} {d : SolD} {tx ty : Value} (t : Two5 w w5 B d d.nh d.lits d.seen tx ty) (h : SolI w B d) (xs : List Int) : SolN w w5 B d { d with tx := tx, ty := ty } xs := by
  refine ⟨t.sol h, rfl, t.chg.mono (fun _ _ hq => hq.at), fun b hb => ?_, Nat.le_succ _, Nat.le_succ _, fun g hg => .inl hg⟩
  rcases hb with e | e | e | e | e | e | e | e
  · exact .inl (.inl e)
  · exact .inl (.inr (.inl e))
  · exact .inl (.inr (.inr (.inl e)))
  · exact (t.nx b e).imp (fun e => .inr (.inr (.inr (.inl e)))) id
  · exact (t.ny b e).imp (fun e => .inr (.inr (.inr (.inr (.inl e))))) id
  · exact .inl (.inr (.inr (.inr (.inr (.inr (.inl e))))))
  · exact .inl (.inr (.inr (.inr (.inr (.inr (.inr (.inl e)))))))
  · exact .inl (.inr (.inr (.inr (.inr (.inr (.inr (.inr e)))))))
theorem SolN.below {w w5 w6 : World} {B : Nat} {d d' : SolD} {xs : List Int} (h : SolN w w5 B d d' xs) (hb : Below w5.heap.size w5 w6) : SolN w w6 B d d' xs :=
  ⟨h.i.below hb, h.cb, h.chg.below hb, h.at_, h.nh, h.gl, h.g1⟩

/-- the first solver's blocks -/
def SolD.PX (d : SolD) (b : Nat) : Prop := b = d.gx ∨ d.tx.ownBlock = some b
theorem SolD.PX.xy {d : SolD} {b : Nat} (h : d.PX b) : d.XY b := h.elim .inl (fun e => .inr (.inr (.inl e)))
theorem SolI.yAt {w w4 : World} {B : Nat} {d : SolD} (h : SolI w B d) (c : Chg d.PX w w4) : TrI w4 B d.gy d.ty d.nh d.lits d.seen := by
  obtain ⟨⟨_, _, x1⟩, x3⟩ := h.x.types
  obtain ⟨⟨_, _, y1⟩, y3⟩ := h.y.types
  refine h.y.frame (c.block _ h.y.lt.1 (fun hq => ?_)) (fun b e => c.block b (h.y.lt.2 b e) (fun hq => ?_))
  · rcases hq with e | e
    · exact h.xy e.symm
    · obtain ⟨_, _, q⟩ := x3 _ e
      exact ne_types q y1 u_ss rfl
  · rcases hq with e' | e'
    · subst e'
      obtain ⟨_, _, q⟩ := y3 _ e
      exact ne_types q x1 u_ss rfl
    · exact h.txy b e' e

theorem ret_no {k : Tk} {xs : List Int} (h : k.tk = false) : k.ret xs = .tuple #[.int .i64 0, .bool false, .int .i64 (errOf k)] := by
  cases k <;> first | rfl | simp [Tk.tk] at h
theorem adPost_no {w w' : World} {B g cnt lits seen : Nat} {tv : Value} {xs : List Int} {e : Ending} (h : AdPost w B g tv cnt lits seen xs e w') (hk : (takenK xs lits).tk = false) :
    e = .returned (.int .i64 (errOf (takenK xs lits))) ∧ ∃ tv', TrI w' B g tv' cnt lits seen ∧ Kept w w' g tv ∧ (tv'.ownBlock = tv.ownBlock ∨ ∃ k, w.heap.size ≤ k ∧ tv'.ownBlock = some k) := by
  obtain ⟨h1, tv', h2, h3⟩ := h
  rw [hk] at h2
  exact ⟨h1, tv', h2, h3⟩

set_option maxHeartbeats 8000000 in
theorem added_no (B : Nat) (d : SolD) (a : Option Addr) (c : Nat) (xs : List Int) (w : World) (h : SolI w B d) (hi : IntsAt w a xs) (hd : ∀ g, a = some g → ¬ d.At g.block) (hx : xs.length ≤ 100000) (hB : B ≤ w.heap.size) (hn : d.nh ≤ 100000) (hk : (takenK xs d.lits).tk = false) :
    Calls Tryz.prog 18 #[.pointer (some ⟨d.cb, 0, none⟩), .slice a xs.length c] w fun e w' => e = .returned (.bool true) ∧ ∃ d', SolN w w' B d d' xs := by
  have HSP : Hid (∀ w', IntsAt w' a xs → Calls Tryz.prog 24 #[.slice a xs.length c] w' fun e w'' => e = .returned (.slice (some ⟨w'.heap.size, 0, none⟩) xs.length (xs.length + 2)) ∧ Row w'' w'.heap.size 3 (i64s xs ++ sevens) ∧ Below w'.heap.size w' w'') := fun w' hi => spare_any a c xs w' (by omega) hi
  have HTK : Hid (∀ w', IntsAt w' a xs → Calls Tryz.prog 32 #[.slice a xs.length c, .int .i64 d.lits] w' fun e w'' => e = .returned (.tuple #[.int .i64 0, .bool false, .int .i64 (errOf (takenK xs d.lits))]) ∧ w'' = w') := fun w' hi => by
    obtain ⟨r, h0, l, ta, ss, tc, em, se, e, h1, h2, h3, h4, h5, h6, h7⟩ := h.x
    have := taken_any a c xs d.lits w' (by omega) (by omega) hi
    rwa [ret_no hk] at this
  have HND := hide hd
  have HI := hide hi
  have H := hide h
  have HK := hide hk
  have HNM : Hid (∀ n w, Calls Tryz.prog 33 #[.int .i64 n] w fun e w' => e = .returned (.int .i64 n) ∧ w' = w) := fun n w => num_any n w
  clear hd hi h hk
  go_enter Tryz.func18, Tryz.ntmps18
  go_wp2_with fail
  refine (unhide HSP _ HI.out).mono ?_
  rintro e w1 ⟨rfl, hr1, hb1⟩
  have HR1 := hide hr1
  have HB1 := hide hb1
  have c0 : w1.cell? ⟨d.cb, 0, none⟩ = some (.pointer (some ⟨d.gx, 0, none⟩)) := ((row_below H.out.blk hb1).cell 0).trans rfl
  have HA := hide (addT_any B d.gx d.tx d.nh d.lits d.seen (some ⟨w.heap.size, 0, none⟩) (xs.length + 2) xs w1 (by omega) (spare_ints xs w1 _ hr1) (Nat.le_trans hB hb1.size) (H.out.x.below hb1) (by omega))
  clear hr1 hb1
  go_wp2_with fail
  refine (unhide HA).mono ?_
  intro e w2 hp
  obtain ⟨rfl, tx', x2, k2, l2⟩ := adPost_no hp HK.out
  have hq1 : w.heap.size < w1.heap.size := HR1.out.lt
  have hr2 : Row w2 w.heap.size 3 (i64s xs ++ sevens) := (k2.block _ hq1 (by have := H.out.x.lt.1; omega) (fun e => by have := H.out.x.lt.2 _ e; omega)).trans HR1.out
  have ch2 : Chg d.PX w w2 := (Chg.of HB1.out).kept k2 (.inl rfl) (fun b e => .inr e)
  have hi2 := ints_chg HI.out ch2 (fun g e hq => HND.out g e hq.xy.at)
  have HST := hide (still_any w.heap.size a c xs w2 (by omega) hr2 hi2)
  have CH2 := hide ch2
  have K2 := hide k2
  have X2 := hide x2
  have L2 := hide l2
  clear hp hr2 ch2 hi2 k2 x2 l2 HA c0
  go_wp2_with fail
  refine (unhide HST).mono ?_
  rintro e w3 ⟨rfl, g3⟩
  have ch3 : Chg d.PX w w3 := CH2.out.grown g3 (fun b e => .inr (by simp only [Option.some.injEq] at e; omega))
  have hi3 := ints_chg HI.out ch3 (fun g e hq => HND.out g e hq.xy.at)
  have CH3 := hide ch3
  have HI3 := hide hi3
  have G3 := hide g3
  clear ch3 hi3 g3 HST CH2
  go_wp2_with fail
  refine (unhide HSP _ HI3.out).mono ?_
  rintro e w4 ⟨rfl, hr4, hb4⟩
  have ch4 : Chg d.PX w w4 := CH3.out.below hb4
  have r4 : Row w4 d.cb 44 d.cells := (ch4.block _ H.out.blk.lt (fun hq => H.out.notXY.1 hq.xy)).trans H.out.blk
  have c1 : w4.cell? ⟨d.cb, 1, none⟩ = some (.pointer (some ⟨d.gy, 0, none⟩)) := (r4.cell 1).trans rfl
  have HA := hide (addT_any B d.gy d.ty d.nh d.lits d.seen (some ⟨w3.heap.size, 0, none⟩) (xs.length + 2) xs w4 (by omega) (spare_ints xs w4 _ hr4) (Nat.le_trans hB ch4.size) (H.out.yAt ch4) (by omega))
  have HB4 := hide hb4
  clear hr4 hb4 ch4 r4
  go_wp2_with fail
  refine (unhide HA).mono ?_
  intro e w5 hp
  obtain ⟨rfl, ty', y5, k5, l5⟩ := adPost_no hp HK.out
  have T := hide (two5 H.out HB1.out rfl hq1 K2.out X2.out L2.out G3.out HB4.out k5 y5 l5)
  have hi5 := ints_chg HI.out T.out.chg (fun g e hq => HND.out g e hq.at)
  have HI5 := hide hi5
  have r5 := T.out.blk H.out
  have d0 : w5.cell? ⟨d.cb, 0, none⟩ = some (.pointer (some ⟨d.gx, 0, none⟩)) := (r5.cell 0).trans rfl
  have d7 : w5.cell? ⟨d.cb, 7, none⟩ = some (.int .i64 d.lits) := (r5.cell 7).trans rfl
  have HRD := hide (reads_any B d.gx tx' { d with tx := tx', ty := ty' } w5 r5 T.out.x (by show d.nh ≤ _; omega))
  clear hp y5 k5 l5 hi5 r5 HA c1 K2 X2 L2 G3 HB4 CH3 HI3 HB1 HR1
  generalize errOf (takenK xs d.lits) = E at *
  go_wp2_with (first
    | (go_at_call 32; refine (unhide HTK _ HI5.out).mono ?_; rintro e w' ⟨rfl, hw⟩; obtain rfl := hw.symm)
    | (go_at_call 33; refine (unhide HNM _ _).mono ?_; rintro e w' ⟨rfl, hw⟩; obtain rfl := hw.symm))
  refine (unhide HRD).mono ?_
  rintro e w6 ⟨rfl, hb6⟩
  have HN := hide ((T.out.solN H.out xs).below hb6)
  clear hb6
  go_wp2
  go_ret
  exact ⟨rfl, _, HN.out⟩

end Go.Proofs.YthboeppmlhbofaaGreatDoor

/-
  traillaw's added, where the clause is taken: what it comes to.
-/
namespace Go.Proofs.YthboeppmlhbofaaGreatDoor
open Go.RowKit Txt
set_option maxRecDepth 100000

/-- the blocks of the script's own part -/
def SolD.PC (d : SolD) (b : Nat) : Prop := b = d.cb ∨ d.vh.ownBlock = some b ∨ d.vg.ownBlock = some b
theorem SolD.PC.at {d : SolD} {b : Nat} (h : d.PC b) : d.At b := by
  rcases h with h | h | h
  · exact .inl h
  · exact .inr (.inr (.inr (.inr (.inr (.inr (.inl h))))))
  · exact .inr (.inr (.inr (.inr (.inr (.inl h)))))
/-- the solver with one clause more -/
def SolD.more (d : SolD) (tx ty : Value) (a9 : Option Addr) (c9 q9 : Nat) (a6 : Option Addr) (c6 : Nat) (xs : List Int) : SolD :=
  { d with tx := tx, ty := ty, ag := a9, cg := c9, vgs := d.vgs ++ [.slice (some ⟨q9, 0, none⟩) xs.length (xs.length + 2)], given := d.given ++ [xs], ah := a6, ch := c6, nh := d.nh + 1, vhs := d.vhs ++ [.int .i64 (setN xs : Nat)], lits := d.lits + sizeN (setN xs), seen := d.seen ||| varsN (setN xs) }

theorem added_end {w w5 w9 : World} {B : Nat} {d : SolD} {tx ty : Value} {a9 a6 : Option Addr} {c9 q9 c6 : Nat} {xs : List Int} (h : SolI w B d) (t : Two5 w w5 B d (d.nh + 1) (d.lits + sizeN (setN xs)) (d.seen ||| varsN (setN xs)) tx ty) (c : Chg d.PC w5 w9) (hq : w5.heap.size ≤ q9) (hx : xs.length ≤ 100000) (hB : B ≤ w.heap.size)
    (R : Row w9 d.cb 44 (d.more tx ty a9 c9 q9 a6 c6 xs).cells)
    (hv : w9.ownsRow B 3 1 (.slice a6 (d.nh + 1) c6) (d.nh + 1) (d.vhs ++ [.int .i64 (setN xs : Nat)]))
    (gv : w9.ownsRow B 24 1 (.slice a9 (d.given.length + 1) c9) (d.given.length + 1) (d.vgs ++ [.slice (some ⟨q9, 0, none⟩) xs.length (xs.length + 2)]))
    (hrow : Row w9 q9 3 (i64s xs ++ sevens)) (l6 : (Value.slice a6 (d.nh + 1) c6).ownBlock = d.vh.ownBlock ∨ ∃ k, w5.heap.size ≤ k ∧ k ≠ q9 ∧ (Value.slice a6 (d.nh + 1) c6).ownBlock = some k)
    (l9 : (Value.slice a9 (d.given.length + 1) c9).ownBlock = d.vg.ownBlock ∨ ∃ k, w5.heap.size ≤ k ∧ (Value.slice a9 (d.given.length + 1) c9).ownBlock = some k) : SolN w w9 B d (d.more tx ty a9 c9 q9 a6 c6 xs) xs := by
  have z5 := t.chg.size
  have r5 : w5.heap[d.cb]? = some (.cells d.cells.toArray 44 (0, 0)) := t.blk h
  have key : ∀ b e cs fr, w5.heap[b]? = some (.cells cs e fr) → e ≠ 44 → e ≠ 3 → e ≠ 24 → ¬ d.PC b := by
    intro b e cs fr hb e1 e2 e3 hq
    rcases hq with hq | hq | hq
    · exact ne_types hb r5 e1 hq
    · obtain ⟨_, _, x3⟩ := own_types (t.hv h) b hq
      exact ne_types hb x3 e2 rfl
    · obtain ⟨_, _, x3⟩ := own_types (t.gv h) b hq
      exact ne_types hb x3 e3 rfl
  obtain ⟨⟨_, _, x1⟩, x2⟩ := t.x.types
  obtain ⟨⟨_, _, y1⟩, y2⟩ := t.y.types
  have X := t.x.frame (c.block _ t.x.lt.1 (key _ _ _ _ x1 u_cS.symm u_iS.symm u_lS.symm)) (fun b e => c.block b (t.x.lt.2 b e) (by obtain ⟨_, _, q⟩ := x2 b e; exact key _ _ _ _ q u_cs.symm u_is.symm u_ls.symm))
  have Y := t.y.frame (c.block _ t.y.lt.1 (key _ _ _ _ y1 u_cS.symm u_iS.symm u_lS.symm)) (fun b e => c.block b (t.y.lt.2 b e) (by obtain ⟨_, _, q⟩ := y2 b e; exact key _ _ _ _ q u_cs.symm u_is.symm u_ls.symm))
  have hold : AllOwn w9 B 3 d.vgs d.given := (t.ge h).map (fun u hu _ _ ho => own_frame ho (fun b e => c.block b (own_lt ho b e) (by
    obtain ⟨_, _, q⟩ := own_types ho b e
    intro hp
    rcases hp with hp | hp | hp
    · exact ne_types q r5 u_ci.symm hp
    · exact h.gh u hu b e hp
    · obtain ⟨_, _, x3⟩ := own_types (t.gv h) b hp
      exact ne_types q x3 u_il rfl)))
  have hnew := own_spare (B := B) hrow (by omega) (by omega)
  refine ⟨⟨R, h.base, X, Y, h.xy, t.txy, ?_, hold.snoc hnew, hv, ?_⟩, rfl, ?_, ?_, Nat.le_refl _, by show (d.given ++ [xs]).length ≤ _; rw [snoc_len]; exact Nat.le_refl _, ?_⟩
  · show w9.ownsRow B 24 1 (.slice a9 (d.given ++ [xs]).length c9) (d.given ++ [xs]).length _
    rw [snoc_len]; exact gv
  · intro u hu b e e'
    have e2 : (Value.slice a6 (d.nh + 1) c6).ownBlock = some b := e'
    rcases List.mem_append.1 hu with hu | hu
    · rcases l6 with l | ⟨k, hk, _, l⟩
      · exact h.gh u hu b e (l ▸ e2)
      · rw [l, Option.some.injEq] at e2
        obtain ⟨zs, hz⟩ := (t.ge h).mem hu
        have := own_lt hz b e
        omega
    · simp only [List.mem_singleton] at hu
      subst hu
      simp only [Value.ownBlock, Option.some.injEq] at e
      subst e
      rcases l6 with l | ⟨k, hk, hn, l⟩
      · have := own_lt (t.hv h) q9 (l ▸ e2)
        omega
      · rw [l, Option.some.injEq] at e2
        omega
  · exact (t.chg.mono (fun _ _ hq => hq.at)).trans (c.mono (fun _ _ hq => hq.at))
  · intro b hb
    rcases hb with e | e | e | e | e | e | e | ⟨u, hu, e⟩
    · exact .inl (.inl e)
    · exact .inl (.inr (.inl e))
    · exact .inl (.inr (.inr (.inl e)))
    · exact (t.nx b e).imp (fun e => .inr (.inr (.inr (.inl e)))) id
    · exact (t.ny b e).imp (fun e => .inr (.inr (.inr (.inr (.inl e))))) id
    · have e2 : (Value.slice a9 (d.given ++ [xs]).length c9).ownBlock = some b := e
      have e3 : (Value.slice a9 (d.given.length + 1) c9).ownBlock = some b := by rw [← e2]; cases a9 <;> rfl
      rcases l9 with l | ⟨k, hk, l⟩
      · exact .inl (.inr (.inr (.inr (.inr (.inr (.inl (l ▸ e3)))))))
      · rw [l, Option.some.injEq] at e3
        right; omega
    · have e2 : (Value.slice a6 (d.nh + 1) c6).ownBlock = some b := e
      rcases l6 with l | ⟨k, hk, _, l⟩
      · exact .inl (.inr (.inr (.inr (.inr (.inr (.inr (.inl (l ▸ e2))))))))
      · rw [l, Option.some.injEq] at e2
        right; omega
    · rcases List.mem_append.1 hu with hu | hu
      · exact .inl (.inr (.inr (.inr (.inr (.inr (.inr (.inr ⟨u, hu, e⟩)))))))
      · simp only [List.mem_singleton] at hu
        subst hu
        simp only [Value.ownBlock, Option.some.injEq] at e
        right; omega
  · intro g hg
    rcases List.mem_append.1 hg with hg | hg
    · exact .inl hg
    · simp only [List.mem_singleton] at hg; exact .inr hg

theorem adPost_yes {w w' : World} {B g cnt lits seen : Nat} {tv : Value} {xs : List Int} {e : Ending} (h : AdPost w B g tv cnt lits seen xs e w') (hk : takenK xs lits = .takes) :
    e = .returned (.int .i64 0) ∧ ∃ tv', TrI w' B g tv' (cnt + 1) (lits + sizeN (setN xs)) (seen ||| varsN (setN xs)) ∧ Kept w w' g tv ∧ (tv'.ownBlock = tv.ownBlock ∨ ∃ k, w.heap.size ≤ k ∧ tv'.ownBlock = some k) := by
  obtain ⟨h1, tv', h2, h3⟩ := h
  rw [hk] at h1 h2
  exact ⟨h1, tv', h2, h3⟩

end Go.Proofs.YthboeppmlhbofaaGreatDoor
