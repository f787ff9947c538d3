/-
  traillaw's added, where the clause is taken: the walk.
-/
import Derived.Test.YthboeppmlhbofaaGreatDoorAdn
import Derived.Deep.RegionLaw
namespace Go.Proofs.YthboeppmlhbofaaGreatDoor
open Go.RowKit Txt
set_option maxRecDepth 100000

set_option maxHeartbeats 8000000 in
theorem added_yes (B : Nat) (d : SolD) (a : Option Addr) (c : Nat) (xs : List Int) (w : World) (h : SolI w B d) (hi : IntsAt w a xs) (hd : ∀ g, a = some g → ¬ d.At g.block) (hx : xs.length ≤ 100000) (hB : B ≤ w.heap.size) (hn : d.nh ≤ 100000) (hgl : d.given.length ≤ 100000) (hk : takenK xs d.lits = .takes) :
    Calls Tryz.prog 18 #[.pointer (some ⟨d.cb, 0, none⟩), .slice a xs.length c] w fun e w' => e = .returned (.bool true) ∧ ∃ d', SolN w w' B d d' xs := by
  have HSP : Hid (∀ w', IntsAt w' a xs → Calls Tryz.prog 24 #[.slice a xs.length c] w' fun e w'' => e = .returned (.slice (some ⟨w'.heap.size, 0, none⟩) xs.length (xs.length + 2)) ∧ Row w'' w'.heap.size 3 (i64s xs ++ sevens) ∧ Below w'.heap.size w' w'') := fun w' hi => spare_any a c xs w' (by omega) hi
  have HTK : Hid (∀ w', IntsAt w' a xs → Calls Tryz.prog 32 #[.slice a xs.length c, .int .i64 d.lits] w' fun e w'' => e = .returned (.tuple #[.int .i64 (setN xs : Nat), .bool true, .int .i64 0]) ∧ w'' = w') := fun w' hi => by
    obtain ⟨r, h0, l, ta, ss, tc, em, se, e, h1, h2, h3, h4, h5, h6, h7⟩ := h.x
    have := taken_any a c xs d.lits w' (by omega) (by omega) hi
    rw [hk] at this
    exact this
  have HND := hide hd
  have HI := hide hi
  have H := hide h
  have HK := hide hk
  have HNM : Hid (∀ n w, Calls Tryz.prog 33 #[.int .i64 n] w fun e w' => e = .returned (.int .i64 n) ∧ w' = w) := fun n w => num_any n w
  clear hd hi h hk
  go_enter Tryz.func18, Tryz.ntmps18
  go_wp2_with fail
  refine (unhide HSP _ HI.out).mono ?_
  rintro e w1 ⟨rfl, hr1, hb1⟩
  have HR1 := hide hr1
  have HB1 := hide hb1
  have c0 : w1.cell? ⟨d.cb, 0, none⟩ = some (.pointer (some ⟨d.gx, 0, none⟩)) := ((row_below H.out.blk hb1).cell 0).trans rfl
  have HA := hide (addT_any B d.gx d.tx d.nh d.lits d.seen (some ⟨w.heap.size, 0, none⟩) (xs.length + 2) xs w1 (by omega) (spare_ints xs w1 _ hr1) (Nat.le_trans hB hb1.size) (H.out.x.below hb1) (by omega))
  clear hr1 hb1
  go_wp2_with fail
  refine (unhide HA).mono ?_
  intro e w2 hp
  obtain ⟨rfl, tx', x2, k2, l2⟩ := adPost_yes hp HK.out
  have hq1 : w.heap.size < w1.heap.size := HR1.out.lt
  have hr2 : Row w2 w.heap.size 3 (i64s xs ++ sevens) := (k2.block _ hq1 (by have := H.out.x.lt.1; omega) (fun e => by have := H.out.x.lt.2 _ e; omega)).trans HR1.out
  have ch2 : Chg d.PX w w2 := (Chg.of HB1.out).kept k2 (.inl rfl) (fun b e => .inr e)
  have hi2 := ints_chg HI.out ch2 (fun g e hq => HND.out g e hq.xy.at)
  have HST := hide (still_any w.heap.size a c xs w2 (by omega) hr2 hi2)
  have CH2 := hide ch2
  have K2 := hide k2
  have X2 := hide x2
  have L2 := hide l2
  clear hp hr2 ch2 hi2 k2 x2 l2 HA c0
  go_wp2_with fail
  refine (unhide HST).mono ?_
  rintro e w3 ⟨rfl, g3⟩
  have ch3 : Chg d.PX w w3 := CH2.out.grown g3 (fun b e => .inr (by simp only [Option.some.injEq] at e; omega))
  have hi3 := ints_chg HI.out ch3 (fun g e hq => HND.out g e hq.xy.at)
  have CH3 := hide ch3
  have HI3 := hide hi3
  have G3 := hide g3
  clear ch3 hi3 g3 HST CH2
  go_wp2_with fail
  refine (unhide HSP _ HI3.out).mono ?_
  rintro e w4 ⟨rfl, hr4, hb4⟩
  have ch4 : Chg d.PX w w4 := CH3.out.below hb4
  have r4 : Row w4 d.cb 44 d.cells := (ch4.block _ H.out.blk.lt (fun hq => H.out.notXY.1 hq.xy)).trans H.out.blk
  have c1 : w4.cell? ⟨d.cb, 1, none⟩ = some (.pointer (some ⟨d.gy, 0, none⟩)) := (r4.cell 1).trans rfl
  have HA := hide (addT_any B d.gy d.ty d.nh d.lits d.seen (some ⟨w3.heap.size, 0, none⟩) (xs.length + 2) xs w4 (by omega) (spare_ints xs w4 _ hr4) (Nat.le_trans hB ch4.size) (H.out.yAt ch4) (by omega))
  have HB4 := hide hb4
  clear hr4 hb4 ch4 r4
  go_wp2_with fail
  refine (unhide HA).mono ?_
  intro e w5 hp
  obtain ⟨rfl, ty', y5, k5, l5⟩ := adPost_yes hp HK.out
  have T := hide (two5 H.out HB1.out rfl hq1 K2.out X2.out L2.out G3.out HB4.out k5 y5 l5)
  have hi5 := ints_chg HI.out T.out.chg (fun g e hq => HND.out g e hq.at)
  have HI5 := hide hi5
  have R5 := hide (T.out.blk H.out)
  have hv5 := hide (T.out.hv H.out)
  have gv5 := hide (T.out.gv H.out)
  have d6 : w5.cell? ⟨d.cb, 6, none⟩ = some (.slice d.ah d.nh d.ch) := (R5.out.cell 6).trans rfl
  have d7 : w5.cell? ⟨d.cb, 7, none⟩ = some (.int .i64 d.lits) := (R5.out.cell 7).trans rfl
  have hlt5 : d.cb < w5.heap.size := R5.out.lt
  have hB5 : B ≤ w5.heap.size := Nat.le_trans hB T.out.chg.size
  have hsl : setN xs < 2 ^ 20 := by
    have : xs.all litB = true := by
      have hq := HK.out
      unfold takenK at hq
      split at hq
      · assumption
      · simp at hq
    exact (Two.set xs this).top
  obtain ⟨i0, hi0, hz0, hz1, hz2⟩ := info_parts Tryz.infoInt
  obtain ⟨i1, gi, gz0, gz1, gz2⟩ := info_parts Tryz.infoInts
  have d1 : Hid (d.nh + 1 ≤ maxLen) := by show _ ≤ _; unfold maxLen; omega
  have d2 : Hid ((d.nh + 1) * 8 ≤ 140737488355328) := by show _ ≤ _; omega
  have d3 : Hid (d.given.length + 1 ≤ maxLen) := by show _ ≤ _; unfold maxLen; omega
  have d4 : Hid ((d.given.length + 1) * 24 ≤ 140737488355328) := by show _ ≤ _; omega
  clear hp y5 k5 l5 hi5 HA c1 K2 X2 L2 G3 HB4 CH3 HI3 HB1 HR1
  go_wp2_with (first
    | (go_at_call 32; refine (unhide HTK _ HI5.out).mono ?_; rintro e w' ⟨rfl, hw⟩; obtain rfl := hw.symm)
    | (go_at_call 33; refine (unhide HNM _ _).mono ?_; rintro e w' ⟨rfl, hw⟩; obtain rfl := hw.symm)
    | (at_builtin; refine wpList_append_full _ rfl (.tmp 60) (.tmp 62) 24 rfl B 3 i0 (.int .i64 0) 8 Tryz.undInts hi0 hz0 hz1 hz2 rfl (.slice d.ah d.nh d.ch) d.nh d.vhs rfl (hv5.out.alloc _) ⟨w5.heap.size, 0, none⟩ 1 1 [.int .i64 (setN xs : Nat)] rfl rfl (new_cells1 w5 [.int .i64 (setN xs : Nat)] 3) (by intro u hu; simp at hu; subst hu; rfl) (by decide) d1.out d2.out (by simp; omega) (w5.heap.size + 1) (by simp) ?_; intro a6 c6 w6 hown6 hg6 hl6;
        have R6 : Hid (Row w6 d.cb 44 d.cells) := row_grownN (row_below R5.out ((Below.refl _ _).alloc (Nat.le_refl _) _)) (hv5.out.alloc _) u_ci.symm hg6;
        have HO6 := hide hown6; have HG6 := hide hg6; have HL6 := hide hl6; clear hown6 hg6 hl6;
        have g6 : w6.cell? ⟨d.cb, 6, none⟩ = some (.slice d.ah d.nh d.ch) := (R6.out.cell 6).trans rfl;
        have g6' := R6.out.frozen 6))
  have r7 : Row (w6.setCell ⟨d.cb, 6, none⟩ (.slice a6 (d.nh + 1) c6)) d.cb 44 (d.cells.set 6 (.slice a6 (d.nh + 1) c6)) := R6.out.set 6 _
  have o7 : (w6.setCell ⟨d.cb, 6, none⟩ (.slice a6 (d.nh + 1) c6)).ownsRow B 3 1 (.slice a6 (d.nh + 1) c6) (d.nh + 1) (d.vhs ++ [.int .i64 (setN xs : Nat)]) := own_setN R6.out 6 _ u_ci.symm HO6.out
  have v7 : (w6.setCell ⟨d.cb, 6, none⟩ (.slice a6 (d.nh + 1) c6)).ownsRow B 24 1 d.vg d.given.length d.vgs := own_setN R6.out 6 _ u_cl.symm (own_apart_kept (gv5.out.alloc _) HG6.out (apart_types u_il.symm gv5.out hv5.out))
  have ch7 : Chg d.PC w5 (w6.setCell ⟨d.cb, 6, none⟩ (.slice a6 (d.nh + 1) c6)) := ((Chg.of ((Below.refl _ _).alloc (Nat.le_refl _) _)).grown HG6.out (fun b e => .inl (.inr (.inl e)))).set d.cb 6 _ (.inl (.inl rfl))
  have hz7 : w5.heap.size + 1 < (w6.setCell ⟨d.cb, 6, none⟩ (.slice a6 (d.nh + 1) c6)).heap.size ∨ (Value.slice a6 (d.nh + 1) c6).ownBlock = d.vh.ownBlock := by
    rcases lies_own (N := d.nh + 1) HL6.out with e | e
    · exact .inr e
    · exact .inl (own_lt o7 _ e)
  have HZ7 := hide hz7
  have R7 := hide r7
  have O7 := hide o7
  have V7 := hide v7
  have CH7 := hide ch7
  have HI7 := hide (ints_chg HI5.out ch7 (fun g e hq => HND.out g e hq.at))
  have LO6 := hide (lies_own (N := d.nh + 1) HL6.out)
  clear r7 o7 v7 ch7 hz7 g6 g6' R6 HO6 HG6 HL6 hv5 gv5 d6 d7 HTK HNM
  generalize w6.setCell ⟨d.cb, 6, none⟩ (.slice a6 (d.nh + 1) c6) = w7 at *
  have f5 : w7.cell? ⟨d.cb, 5, none⟩ = some (.slice d.ag d.given.length d.cg) := (R7.out.cell 5).trans rfl
  have hlt7 : d.cb < w7.heap.size := R7.out.lt
  have hB7 : B ≤ w7.heap.size := Nat.le_trans hB5 CH7.out.size
  have hri : Hid (IntsAt w7.drew a xs) := by
    show IntsAt _ _ _
    exact HI7.out.kept fun _ _ _ h => h
  go_region_law (
    first
    | (refine step_append_full _ rfl (.tmp 70) (.tmp 73) 30 rfl B 24 i1 (.slice none 0 0) 24 Tryz.undLists gi gz0 gz1 gz2 rfl (.slice d.ag d.given.length d.cg) d.given.length d.vgs rfl (V8.out.alloc _) ⟨w8.heap.size, 0, none⟩ 1 1 [.slice (some ⟨w7.heap.size, 0, none⟩) xs.length (xs.length + 2)] rfl rfl (new_cells1 w8 [.slice (some ⟨w7.heap.size, 0, none⟩) xs.length (xs.length + 2)] 24) (by intro u hu; simp at hu; subst hu; rfl) (by decide) d3.out d4.out (by simp; omega) (w8.heap.size + 1) (by simp) ?_; intro a9 c9 w9 hown9 hg9 hl9;
        have HO9 := hide hown9; have HG9 := hide hg9; have LO9 := hide (lies_own (N := d.given.length + 1) hl9); clear hown9 hg9 hl9;
        have R9 : Hid (Row w9 d.cb 44 (d.cells.set 6 (.slice a6 (d.nh + 1) c6))) := row_grownN (row_below R8.out ((Below.refl _ _).alloc (Nat.le_refl _) _)) (V8.out.alloc _) u_cl.symm HG9.out;
        have g2 : w9.cell? ⟨d.cb, 5, none⟩ = some (.slice d.ag d.given.length d.cg) := (R9.out.cell 5).trans rfl;
        have g2' := R9.out.frozen 5)
    | (go_simp; go_at_call 24; refine (unhide HSP _ hri.out).mono ?_; rintro e w8 ⟨rfl, hrow8, hb8⟩;
        have HRW : Hid (Row w8 w7.heap.size 3 (i64s xs ++ sevens)) := hrow8;
        have HB8 : Hid (Below w7.heap.size w7 w8) := (below_drewN (Below.refl _ _) 1).trans hb8;
        have R8 := hide (row_below R7.out HB8.out);
        have V8 : Hid (w8.ownsRow B 24 1 d.vg d.given.length d.vgs) := own_below V7.out HB8.out;
        have hz8 : w7.heap.size ≤ w8.heap.size := HB8.out.size;
        have k1 : w8.cell? ⟨d.cb, 5, none⟩ = some (.slice d.ag d.given.length d.cg) := (R8.out.cell 5).trans rfl;
        have k1a : ∀ o, (w8.alloc o).cell? ⟨d.cb, 5, none⟩ = some (.slice d.ag d.given.length d.cg) := fun o => (((Below.refl w8.heap.size w8).alloc (Nat.le_refl _) o).cell (p := ⟨d.cb, 5, none⟩) (show d.cb < w8.heap.size by omega)).trans k1;
        clear hrow8 hb8; go_wp2_with fail))
  all_goals
    have r10 : Row (w9.setCell ⟨d.cb, 5, none⟩ (.slice a9 (d.given.length + 1) c9)) d.cb 44 ((d.cells.set 6 (.slice a6 (d.nh + 1) c6)).set 5 (.slice a9 (d.given.length + 1) c9)) := R9.out.set 5 _
    have hap : Apart (.slice a6 (d.nh + 1) c6) d.vg := apart_types u_il O7.out V7.out
    have o8 := own_below O7.out HB8.out
    have o10 : (w9.setCell ⟨d.cb, 5, none⟩ (.slice a9 (d.given.length + 1) c9)).ownsRow B 3 1 (.slice a6 (d.nh + 1) c6) (d.nh + 1) (d.vhs ++ [.int .i64 (setN xs : Nat)]) := own_setN R9.out 5 _ u_ci.symm (own_apart_kept (o8.alloc _) HG9.out hap)
    have v10 : (w9.setCell ⟨d.cb, 5, none⟩ (.slice a9 (d.given.length + 1) c9)).ownsRow B 24 1 (.slice a9 (d.given.length + 1) c9) (d.given.length + 1) (d.vgs ++ [.slice (some ⟨w7.heap.size, 0, none⟩) xs.length (xs.length + 2)]) := own_setN R9.out 5 _ u_cl.symm HO9.out
    have ch10 : Chg d.PC w5 (w9.setCell ⟨d.cb, 5, none⟩ (.slice a9 (d.given.length + 1) c9)) := (((CH7.out.below HB8.out).below ((Below.refl _ _).alloc (Nat.le_refl _) _)).grown HG9.out (fun b e => .inl (.inr (.inr e)))).set d.cb 5 _ (.inl (.inl rfl))
    have hne : d.cb ≠ w7.heap.size := by omega
    have w10 : Row (w9.setCell ⟨d.cb, 5, none⟩ (.slice a9 (d.given.length + 1) c9)) w7.heap.size 3 (i64s xs ++ sevens) := by
      have q1 := HRW.out.lt
      refine (Below.heap_setCell w9 ⟨d.cb, 5, none⟩ _ w7.heap.size (fun e => hne e.symm)).trans ((HG9.out.block w7.heap.size (by simp; omega) (fun e => ?_)).trans ((heap_alloc_old w8 _ q1).trans HRW.out))
      have := own_lt V7.out _ e.symm
      omega
    have L9 : Hid ((Value.slice a9 (d.given.length + 1) c9).ownBlock = d.vg.ownBlock ∨ ∃ k, w5.heap.size ≤ k ∧ (Value.slice a9 (d.given.length + 1) c9).ownBlock = some k) := LO9.out.imp id (fun e => ⟨_, by have := CH7.out.size; omega, e⟩)
    have R10 := hide r10
    have O10 := hide o10
    have V10 := hide v10
    have CH10 := hide ch10
    have W10 := hide w10
    clear r10 hap o8 o10 v10 ch10 w10 R9 HG9 HO9 LO9 g2 g2' R8 V8 k1 k1a HB8 HRW f5
    generalize w9.setCell ⟨d.cb, 5, none⟩ (.slice a9 (d.given.length + 1) c9) = wA at *
    have HS : Hid (∀ w, Calls Tryz.prog 34 #[.int .i64 (setN xs : Nat)] w fun e w' => e = .returned (.int .i64 (sizeN (setN xs) : Nat)) ∧ w' = w) := fun w => size_any (setN xs) hsl w
    have HV : Hid (∀ w, Calls Tryz.prog 35 #[.int .i64 (setN xs : Nat)] w fun e w' => e = .returned (.int .i64 (varsN (setN xs) : Nat)) ∧ w' = w) := fun w => vars_any (setN xs) hsl w
    have hsz := sizeN_le (setN xs)
    have hvl := varsN_lt (setN xs)
    have hsn : d.seen < 2 ^ 20 := by
      obtain ⟨_, _, _, _, _, _, _, _, _, _, _, _, _, _, _, h7⟩ := H.out.x
      exact h7.top
    have hll : d.lits ≤ 150 := by
      obtain ⟨_, _, _, _, _, _, _, _, _, _, _, _, _, h5, _, _⟩ := H.out.x
      exact h5
    have ho := or64 d.seen (varsN (setN xs)) (by omega) (by omega)
    have p7 : wA.cell? ⟨d.cb, 7, none⟩ = some (.int .i64 d.lits) := (R10.out.cell 7).trans rfl
    have p7' := R10.out.frozen 7
    have hwrap : IntKind.i64.wrap ((d.lits : Int) + (sizeN (setN xs) : Nat)) = (d.lits : Int) + (sizeN (setN xs) : Nat) := by rw [IntKind.wrap_i64]; omega
    go_wp2_with fail
    go_region_with (go_at_call 34; refine (unhide HS _).mono ?_; rintro e w' ⟨rfl, rfl⟩)
    all_goals
      have R11 : Hid (Row (wA.setCell ⟨d.cb, 7, none⟩ (.int .i64 ((d.lits : Int) + (sizeN (setN xs) : Nat)))).drew d.cb 44 (((d.cells.set 6 (.slice a6 (d.nh + 1) c6)).set 5 (.slice a9 (d.given.length + 1) c9)).set 7 (.int .i64 ((d.lits : Int) + (sizeN (setN xs) : Nat))))) := R10.out.set 7 _
      have HB11 : Hid (∀ b, b ≠ d.cb → (wA.setCell ⟨d.cb, 7, none⟩ (.int .i64 ((d.lits : Int) + (sizeN (setN xs) : Nat)))).drew.heap[b]? = wA.heap[b]?) := fun b hb => Below.heap_setCell wA ⟨d.cb, 7, none⟩ _ b hb
      have CH11 : Hid (Chg d.PC w5 (wA.setCell ⟨d.cb, 7, none⟩ (.int .i64 ((d.lits : Int) + (sizeN (setN xs) : Nat)))).drew) := (CH10.out.set d.cb 7 _ (.inl (.inl rfl))).below (below_drewN (Below.refl _ _) 1)
      generalize (wA.setCell ⟨d.cb, 7, none⟩ (.int .i64 ((d.lits : Int) + (sizeN (setN xs) : Nat)))).drew = wB at *
      have p8 : wB.cell? ⟨d.cb, 8, none⟩ = some (.int .i64 d.seen) := (R11.out.cell 8).trans rfl
      have p8' := R11.out.frozen 8
      clear p7 p7'
      go_wp2_with fail
      go_region_with (go_at_call 35; refine (unhide HV _).mono ?_; rintro e w' ⟨rfl, rfl⟩)
      all_goals
        have R12 : Hid (Row (wB.setCell ⟨d.cb, 8, none⟩ (.int .i64 (d.seen ||| varsN (setN xs) : Nat))).drew d.cb 44 ((((d.cells.set 6 (.slice a6 (d.nh + 1) c6)).set 5 (.slice a9 (d.given.length + 1) c9)).set 7 (.int .i64 ((d.lits : Int) + (sizeN (setN xs) : Nat)))).set 8 (.int .i64 (d.seen ||| varsN (setN xs) : Nat)))) := R11.out.set 8 _
        have HB12 : Hid (∀ b, b ≠ d.cb → (wB.setCell ⟨d.cb, 8, none⟩ (.int .i64 (d.seen ||| varsN (setN xs) : Nat))).drew.heap[b]? = wA.heap[b]?) := fun b hb => (Below.heap_setCell wB ⟨d.cb, 8, none⟩ _ b hb).trans (HB11.out b hb)
        have CH12 : Hid (Chg d.PC w5 (wB.setCell ⟨d.cb, 8, none⟩ (.int .i64 (d.seen ||| varsN (setN xs) : Nat))).drew) := (CH11.out.set d.cb 8 _ (.inl (.inl rfl))).below (below_drewN (Below.refl _ _) 1)
        generalize (wB.setCell ⟨d.cb, 8, none⟩ (.int .i64 (d.seen ||| varsN (setN xs) : Nat))).drew = wC at *
        have e7 : ((d.lits : Int) + (sizeN (setN xs) : Nat)) = ((d.lits + sizeN (setN xs) : Nat) : Int) := by omega
        have rf : Row wC d.cb 44 (d.more tx' ty' a9 c9 w7.heap.size a6 c6 xs).cells := by
          have := R12.out
          rw [e7] at this
          simp only [SolD.cells, SolD.more, SolD.vg, SolD.vh, snoc_len]
          exact this
        have vf : wC.ownsRow B 24 1 (.slice a9 (d.given.length + 1) c9) (d.given.length + 1) (d.vgs ++ [.slice (some ⟨w7.heap.size, 0, none⟩) xs.length (xs.length + 2)]) := own_frame V10.out (fun b e => HB12.out b (by
          obtain ⟨_, _, q⟩ := own_types V10.out b e
          exact ne_types q R10.out u_cl.symm))
        have of : wC.ownsRow B 3 1 (.slice a6 (d.nh + 1) c6) (d.nh + 1) (d.vhs ++ [.int .i64 (setN xs : Nat)]) := own_frame O10.out (fun b e => HB12.out b (by
          obtain ⟨_, _, q⟩ := own_types O10.out b e
          exact ne_types q R10.out u_ci.symm))
        have wf : Row wC w7.heap.size 3 (i64s xs ++ sevens) := (HB12.out _ (fun e => hne e.symm)).trans W10.out
        have l6 : (Value.slice a6 (d.nh + 1) c6).ownBlock = d.vh.ownBlock ∨ ∃ k, w5.heap.size ≤ k ∧ k ≠ w7.heap.size ∧ (Value.slice a6 (d.nh + 1) c6).ownBlock = some k := by
          rcases LO6.out with e | e
          · exact .inl e
          · rcases HZ7.out with hz | e'
            · exact .inr ⟨_, by omega, by omega, e⟩
            · exact .inl e'
        have HN := hide (added_end H.out T.out CH12.out CH7.out.size hx hB rf of vf wf l6 L9.out)
        have c0 : wC.cell? ⟨d.cb, 0, none⟩ = some (.pointer (some ⟨d.gx, 0, none⟩)) := (rf.cell 0).trans rfl
        have HRD := hide (reads_any B d.gx tx' (d.more tx' ty' a9 c9 w7.heap.size a6 c6 xs) wC rf HN.out.i.x (by show d.nh + 1 ≤ _; omega))
        clear rf vf of wf l6 R12 HB12 CH12 R11 HB11 CH11 p8 p8' HS HV
        go_wp2_with fail
        refine (unhide HRD).mono ?_
        rintro e wD ⟨rfl, hbD⟩
        have HND' := hide (HN.out.below hbD)
        clear hbD
        go_wp2
        rename_i vq hvq
        cases hvq
        go_ret
        exact ⟨rfl, _, HND'.out⟩

end Go.Proofs.YthboeppmlhbofaaGreatDoor
