/-
  traillaw's hold: the walk.
-/
import Derived.Test.YthboeppmlhbofaaGreatDoorFrr
namespace Go.Proofs.YthboeppmlhbofaaGreatDoor
open Go.RowKit Txt
set_option maxRecDepth 100000

/-- what a change of the held lists keeps -/
structure Held (w w' : World) (B : Nat) (V V' : WV) (s s' : St) : Prop where
  al : V'.al = V.al
  cl : V'.cl = V.cl
  oth : ∀ e u n xs, e ≠ 34 → w.ownsRow B e 1 u n xs → Apart u (V.vo s) → Apart u (V.vw s) → w'.ownsRow B e 1 u n xs ∧ Apart u (V'.vo s') ∧ Apart u (V'.vw s')
  below : Below B w w'
  vcs : V'.vcs = V.vcs
  xs : V'.nx = V.nx ∧ V'.vxs = V.vxs ∧ V'.ax = V.ax ∧ V'.cx = V.cx
  vws : ∀ v ∈ V'.vws, v ∈ V.vws ∨ ∃ k n m, w.heap.size ≤ k ∧ v = .slice (some ⟨k, 0, none⟩) n m

theorem splice_zero (xs : List Int) : splice (List.replicate xs.length (.int .i64 0)) 0 (i64s xs) = i64s xs := by
  simp only [splice, List.take_zero, List.nil_append, Nat.zero_add, i64s_length, List.drop_replicate, Nat.sub_self, List.replicate_zero, List.append_nil]
theorem own_of_row {w : World} {g B : Nat} {e : TypeId} {zs : List Value} (h : Row w g e zs) (hB : B ≤ g) (hz : zs.length ≤ maxLen) : w.ownsRow B e 1 (.slice (some ⟨g, 0, none⟩) zs.length zs.length) zs.length zs :=
  ⟨by simp, .inr ⟨g, zs.length, zs.toArray, rfl, hB, h, Nat.le_refl _, hz, by simp, by simp⟩⟩

theorem copy_own {w2 : World} {g B : Nat} {xs : List Int} (h : Hid (w2.heap[g]? = some (.cells (splice (List.replicate xs.length (.int .i64 0)) 0 (i64s xs)).toArray 3 (0, 0)))) (hB : B ≤ g) (b3 : xs.length ≤ maxLen) :
    w2.ownsRow B 3 1 (.slice (some ⟨g, 0, none⟩) xs.length xs.length) xs.length (i64s xs) := by
  have hq := own_of_row (B := B) (show Row w2 g 3 (i64s xs) from (splice_zero xs) ▸ h.out) hB (by rw [i64s_length]; exact b3)
  rw [i64s_length] at hq
  exact hq

theorem new_cells2 (w : World) (k : Nat) (hk : w.heap.size = k) (l : List Value) (e : TypeId) : ∀ j u, l[j]? = some u → (w.alloc (.cells l.toArray e)).cell? ((⟨k, 0, none⟩ : Addr).add j) = some u := by
  subst hk; exact new_cells1 w l e
/-- what must be read is kept while the lists that came out grow -/
theorem want_now {w2 w3 : World} {Wb B : Nat} {V : WV} {s : St} (h : WI w2 Wb B V s) {o : Obj} (hg : (w2.alloc o).grownBy w3 (V.vo s).ownBlock) (hr : Row w3 Wb 34 (V.cells s)) (x : Value) (o' : Obj) :
    ((w3.setCell ⟨Wb, 4, none⟩ x).alloc o').ownsRow B 24 1 (V.vw s) s.want.length V.vws :=
  (own_setW hr 4 x t_ints (own_apart_kept (h.wt.alloc o) hg h.a3.symm)).alloc o'

theorem apart_new {w : World} {b e s : Nat} {u : Value} {n : Nat} {xs : List Value} (h : w.ownsRow b e s u n xs) {k : Nat} (hk : w.heap.size ≤ k) (a c : Nat) : Apart (.slice (some ⟨k, 0, none⟩) a c) u := by
  intro j hj hu
  simp only [Value.ownBlock, Option.some.injEq] at hj
  have := (h.lt j hu).2
  omega
theorem snoc_len {α : Type} (l : List α) (x : α) : (l ++ [x]).length = l.length + 1 := by simp

/-- what hold does, step by step -/
theorem hold_end {w w2 w3 w5 : World} {Wb B : Nat} {V : WV} {s : St} {xs : List Int} {a a3 a5 : Option Addr} {c c3 c5 : Nat} {o1 o2 : Obj} (H : WI w Wb B V s) (hb2 : Below w.heap.size w w2)
    (HL2 : w2.ownsRow B 3 1 (.slice a xs.length c) xs.length (i64s xs)) (HC : w2.ownsRow B 3 1 (.slice (some ⟨w.heap.size, 0, none⟩) xs.length xs.length) xs.length (i64s xs)) (HAP : Apart (.slice a xs.length c) (V.vl s))
    (hg3 : (w2.alloc o1).grownBy w3 (V.vo s).ownBlock) (HR3 : Row w3 Wb 34 (V.cells s)) (HO3 : w3.ownsRow B 24 1 (.slice a3 (s.outs.length + 1) c3) (s.outs.length + 1) (V.vos ++ [.slice a xs.length c]))
    (hh3 : (Value.slice a3 (s.outs.length + 1) c3).ownBlock = (V.vo s).ownBlock ∨ (Value.slice a3 (s.outs.length + 1) c3).ownBlock = some (w2.alloc o1).heap.size)
    (hg5 : ((w3.setCell ⟨Wb, 4, none⟩ (.slice a3 (s.outs.length + 1) c3)).alloc o2).grownBy w5 (V.vw s).ownBlock) (HR5 : Row w5 Wb 34 ((V.cells s).set 4 (.slice a3 (s.outs.length + 1) c3)))
    (HO5 : w5.ownsRow B 24 1 (.slice a5 (s.want.length + 1) c5) (s.want.length + 1) (V.vws ++ [.slice (some ⟨w.heap.size, 0, none⟩) xs.length xs.length]))
    (hh5 : (Value.slice a5 (s.want.length + 1) c5).ownBlock = (V.vw s).ownBlock ∨ (Value.slice a5 (s.want.length + 1) c5).ownBlock = some ((w3.setCell ⟨Wb, 4, none⟩ (.slice a3 (s.outs.length + 1) c3)).alloc o2).heap.size) :
    ∃ V', WI (w5.setCell ⟨Wb, 5, none⟩ (.slice a5 (s.want.length + 1) c5)) Wb B V' { s with outs := s.outs ++ [xs], want := s.want ++ [xs] } ∧ Held w (w5.setCell ⟨Wb, 5, none⟩ (.slice a5 (s.want.length + 1) c5)) B V V' s { s with outs := s.outs ++ [xs], want := s.want ++ [xs] } ∧ V'.vos = V.vos ++ [.slice a xs.length c] ∧ HFr w (w5.setCell ⟨Wb, 5, none⟩ (.slice a5 (s.want.length + 1) c5)) Wb V V' (.slice a xs.length c) := by
  have H2 := H.below hb2
  have ho3 : Oth w2 (w3.setCell ⟨Wb, 4, none⟩ (.slice a3 (s.outs.length + 1) c3)) B (V.vo s) := oth_alloc o1 (oth_trans (oth_grown hg3) (oth_setW HR3 4 _))
  have sz1 : w2.heap.size ≤ (w2.alloc o1).heap.size := by simp
  have I3 : WI (w3.setCell ⟨Wb, 4, none⟩ (.slice a3 (s.outs.length + 1) c3)) Wb B { V with ao := a3, co := c3, vos := V.vos ++ [.slice a xs.length c] } { s with outs := s.outs ++ [xs] } := by
    refine H2.setOuts ho3 a3 c3 (s.outs ++ [xs]) (V.vos ++ [.slice a xs.length c]) ?_ ?_ ?_ ?_ ?_ ?_
    · rw [snoc_len]; exact HR3.set 4 _
    · rw [snoc_len]; exact own_setW HR3 4 _ t_ints HO3
    · exact AllOwn.snoc (H2.oe.map (fun _ _ _ _ hh => ho3 _ _ _ _ t_int hh (apart_types n_il hh H2.ot))) (ho3 _ _ _ _ t_int HL2 (apart_types n_il HL2 H2.ot))
    · intro u hu
      rcases List.mem_append.1 hu with hu | hu
      · exact H2.b2 u hu
      · simp at hu; subst hu; exact HAP
    · rw [snoc_len]; exact apart_moved H2.clt H2.a1 sz1 hh3
    · rw [snoc_len]; exact (apart_moved H2.wt H2.a3.symm sz1 hh3).symm
  have ho5 : Oth (w3.setCell ⟨Wb, 4, none⟩ (.slice a3 (s.outs.length + 1) c3)) (w5.setCell ⟨Wb, 5, none⟩ (.slice a5 (s.want.length + 1) c5)) B (V.vw s) := oth_alloc o2 (oth_trans (oth_grown hg5) (oth_setW HR5 5 _))
  have sz2 : (w3.setCell ⟨Wb, 4, none⟩ (.slice a3 (s.outs.length + 1) c3)).heap.size ≤ ((w3.setCell ⟨Wb, 4, none⟩ (.slice a3 (s.outs.length + 1) c3)).alloc o2).heap.size := by simp
  have hC3 := ho3 _ _ _ _ t_int HC (apart_types n_il HC H2.ot)
  refine ⟨{ V with ao := a3, co := c3, vos := V.vos ++ [.slice a xs.length c], aw := a5, cw := c5, vws := V.vws ++ [.slice (some ⟨w.heap.size, 0, none⟩) xs.length xs.length] }, ?_, ⟨rfl, rfl, ?_, ?_, rfl, ⟨rfl, rfl, rfl, rfl⟩, ?_⟩, rfl, ?_⟩
  · refine I3.setWant ho5 a5 c5 (s.want ++ [xs]) (V.vws ++ [.slice (some ⟨w.heap.size, 0, none⟩) xs.length xs.length]) ?_ ?_ ?_ ?_ ?_ ?_
    · have := HR5.set 5 (.slice a5 (s.want.length + 1) c5)
      simp only [WV.cells, WV.vo, WV.vl, WV.vc, WV.vt, WV.vx, WV.vw, snoc_len]
      exact this
    · rw [snoc_len]; exact own_setW HR5 5 _ t_ints HO5
    · exact AllOwn.snoc (I3.we.map (fun _ _ _ _ hh => ho5 _ _ _ _ t_int hh (apart_types n_il hh I3.wt))) (ho5 _ _ _ _ t_int hC3 (apart_types n_il hC3 I3.wt))
    · intro u hu
      rcases List.mem_append.1 hu with hu | hu
      · exact I3.b3 u hu
      · simp at hu; subst hu; exact apart_new H.list (Nat.le_refl _) _ _
    · rw [snoc_len]; exact apart_moved I3.clt I3.a2 sz2 hh5
    · rw [snoc_len]
      have := apart_moved I3.ot I3.a3 sz2 hh5
      simpa only [WV.vo, snoc_len] using this
  · intro e u n zs he hu h1 h2
    have u2 := own_below hu hb2
    have u3 := ho3 _ _ _ _ he u2 h1
    refine ⟨ho5 _ _ _ _ he u3 h2, ?_, ?_⟩
    · show Apart u (.slice a3 (s.outs ++ [xs]).length c3)
      rw [snoc_len]; exact apart_moved u2 h1 sz1 hh3
    · show Apart u (.slice a5 (s.want ++ [xs]).length c5)
      rw [snoc_len]; exact apart_moved u3 h2 sz2 hh5
  · have hBs : B ≤ w.heap.size := Nat.le_trans H.base (Nat.le_of_lt H.blk.lt)
    have b2 : Below B w w2 := hb2.mono hBs
    have b2a : Below B w (w2.alloc o1) := b2.alloc (Nat.le_trans hBs b2.size) _
    have b3 := (b2a.grown hg3 (Nat.le_trans hBs b2a.size) (fun k hk => (H2.ot.lt k hk).1)).setCell (p := ⟨Wb, 4, none⟩) H.base (.slice a3 (s.outs.length + 1) c3)
    have b3a := b3.alloc (Nat.le_trans hBs b3.size) o2
    exact (b3a.grown hg5 (Nat.le_trans hBs b3a.size) (fun k hk => (H.wt.lt k hk).1)).setCell (p := ⟨Wb, 5, none⟩) H.base _
  · intro v hv
    rcases List.mem_append.1 hv with hv | hv
    · exact .inl hv
    · simp at hv; subst hv; exact .inr ⟨_, _, _, Nat.le_refl _, rfl⟩
  · intro b h1 h2 h3 h4
    have e3 : (w3.setCell ⟨Wb, 4, none⟩ (.slice a3 (s.outs.length + 1) c3)).heap[b]? = w.heap[b]? := grow_kept (a := V.ao) (n := s.outs.length) (c := V.co) hb2 hg3 4 _ h1 h2 h3.o
    have zs2 := hb2.size
    have zs3 : (w2.alloc o1).heap.size ≤ w3.heap.size := hg3.size
    have zs4 : (w3.setCell ⟨Wb, 4, none⟩ (.slice a3 (s.outs.length + 1) c3)).heap.size = w3.heap.size := by simp [World.setCell]
    simp only [World.size_alloc] at zs3
    have e5 : (w5.setCell ⟨Wb, 5, none⟩ (.slice a5 (s.want.length + 1) c5)).heap[b]? = (w3.setCell ⟨Wb, 4, none⟩ (.slice a3 (s.outs.length + 1) c3)).heap[b]? := grow_kept (a := V.aw) (n := s.want.length) (c := V.cw) (Below.refl _ _) hg5 5 _ (by omega) h2 h3.w
    refine ⟨e5.trans e3, h3.l, h3.c, h3.t, h3.x, off_lies (n := s.outs.length) (c := V.co) h3.o hh3 (by simp; omega), off_lies (n := s.want.length) (c := V.cw) h3.w hh5 (by simp; omega), h3.cs, ?_, ?_⟩
    · intro u hu
      rcases List.mem_append.1 hu with hu | hu
      · exact h3.os u hu
      · simp at hu; subst hu; exact h4
    · intro u hu
      rcases List.mem_append.1 hu with hu | hu
      · exact h3.ws u hu
      · simp at hu; subst hu
        simp only [Value.ownBlock, ne_eq, Option.some.injEq]
        omega

set_option maxHeartbeats 4000000 in
theorem hold_any (Wb B : Nat) (V : WV) (s : St) (w : World) (h : WI w Wb B V s) (a : Option Addr) (c : Nat) (xs : List Int) (hl : w.ownsRow B 3 1 (.slice a xs.length c) xs.length (i64s xs)) (hap : Apart (.slice a xs.length c) (V.vl s))
    (hx : xs.length ≤ 4294967296) (ho : s.outs.length ≤ 4294967296) (hw : s.want.length ≤ 4294967296) :
    Calls Tryz.prog 48 #[.pointer (some ⟨Wb, 0, none⟩), .slice a xs.length c] w fun e w' => e = .returned (.tuple #[]) ∧ ∃ V', WI w' Wb B V' { s with outs := s.outs ++ [xs], want := s.want ++ [xs] } ∧ Held w w' B V V' s { s with outs := s.outs ++ [xs], want := s.want ++ [xs] } ∧ V'.vos = V.vos ++ [.slice a xs.length c] ∧ HFr w w' Wb V V' (.slice a xs.length c) := by
  obtain ⟨i0, hi, hz0, hz1, hz2⟩ := info_parts Tryz.infoInt
  obtain ⟨i1, gi, gz0, gz1, gz2⟩ := info_parts Tryz.infoInts
  have b2 : Hid (i0.bytes * xs.length ≤ 281474976710656) := by show _ ≤ _; rw [hz2]; omega
  have b3 : Hid (xs.length ≤ maxLen) := by show _ ≤ _; unfold maxLen; omega
  have hsz : Hid ((Tryz.prog.info? 3).map (·.size) = some 1) := by show _ = _; rw [hi]; simp [hz1]
  have hBs : B ≤ w.heap.size := Nat.le_trans h.base (Nat.le_of_lt h.blk.lt)
  have hr := own_intsAt hl
  have d1 : Hid (s.outs.length + 1 ≤ maxLen) := by show _ ≤ _; unfold maxLen; omega
  have d2 : Hid ((s.outs.length + 1) * 24 ≤ 140737488355328) := by show _ ≤ _; omega
  have d3 : Hid (s.want.length + 1 ≤ maxLen) := by show _ ≤ _; unfold maxLen; omega
  have d4 : Hid ((s.want.length + 1) * 24 ≤ 140737488355328) := by show _ ≤ _; omega
  have H := hide h
  have HL := hide hl
  have HAP := hide hap
  clear h hl hap
  go_enter Tryz.func48, Tryz.ntmps48
  go_wp2_with (first
    | (at_make; refine wpList_make_full _ rfl (.tmp 8) (.tmp 8) 24 rfl w.heap.size 3 i0 (.int .i64 0) 1 Tryz.undInts hi hz0 hz1 .i64 .i64 _ _ xs.length rfl rfl rfl rfl b2.out b3.out (Nat.le_refl _) ?_; intro w1 hown1 hg1; have hrow1 := row_of_own hown1; rw [made_zeros] at hrow1; have hb1 : Below w.heap.size w w1 := (Below.refl _ _).grown hg1 (Nat.le_refl _) (by simp); have hr1 := hr.below hb1; clear hown1 hg1 hr)
    | (refine wpList_copy_splice rfl (.tmp 10) (.tmp 11) 24 24 rfl 3 Tryz.undInts hsz.out _ _ _ _ _ _ rfl rfl w.heap.size 0 (List.replicate xs.length (.int .i64 0)) 3 hrow1 (i64s xs) (by rw [i64s_length]; exact (Nat.min_self _).symm) (fun hp => ⟨rfl, intsAt_src hr1 hp⟩) (by rw [i64s_length, List.length_replicate]; omega) (i64s_one xs) w.heap.size w hb1 (Nat.le_refl _) ?_; intro w2 hrow2 hb2; clear hrow1 hb1 hr1;
        have H2 : Hid (WI w2 Wb B V s) := H.out.below hb2;
        have HC := hide (copy_own hrow2 hBs b3.out);
        have HL2 : Hid (w2.ownsRow B 3 1 (.slice a xs.length c) xs.length (i64s xs)) := own_below HL.out hb2;
        have HB2 := hide hb2;
        have f4 : w2.cell? ⟨Wb, 4, none⟩ = some (.slice V.ao s.outs.length V.co) := (H2.out.blk.cell 4).trans rfl;
        have f4' := H2.out.blk.frozen 4;
        have f5 : w2.cell? ⟨Wb, 5, none⟩ = some (.slice V.aw s.want.length V.cw) := (H2.out.blk.cell 5).trans rfl;
        have f5' := H2.out.blk.frozen 5; clear hrow2 hb2)
    | (at_builtin; refine wpList_append_sl _ rfl (.tmp 16) (.tmp 18) 30 rfl B 24 i1 (.slice none 0 0) 24 Tryz.undLists gi gz0 gz1 gz2 rfl (.slice V.ao s.outs.length V.co) s.outs.length V.vos rfl (H2.out.ot.alloc _) ⟨w2.heap.size, 0, none⟩ 1 1 [.slice a xs.length c] rfl rfl (new_cells1 w2 [.slice a xs.length c] 24) (by intro u hu; simp at hu; subst hu; rfl) (by decide) d1.out d2.out (by simp; exact Nat.le_succ_of_le (Nat.le_trans hBs HB2.out.size)) (s.outs.length + 1) rfl ?_; intro a3 c3 w3 hown3 hg3 hwh3;
        have HX3 := hide hg3;
        have HR3 : Hid (Row w3 Wb 34 (V.cells s)) := row_grown (row_below H2.out.blk ((Below.refl _ _).alloc (Nat.le_refl _) _)) (H2.out.ot.alloc _) t_ints hg3;
        have g4 : w3.cell? ⟨Wb, 4, none⟩ = some (.slice V.ao s.outs.length V.co) := (HR3.out.cell 4).trans rfl;
        have g4' := HR3.out.frozen 4;
        have g5 : w3.cell? ⟨Wb, 5, none⟩ = some (.slice V.aw s.want.length V.cw) := (HR3.out.cell 5).trans rfl;
        have g5' := HR3.out.frozen 5;
        have hz3 : B ≤ w3.heap.size := Nat.le_trans hBs (Nat.le_trans HB2.out.size (Nat.le_trans (by simp) hg3.size));
        have HH3 := hide hwh3;
        have HO3 := hide hown3;
        have HO3' : Hid True := trivial; clear hown3 hg3 hwh3)
    | (at_builtin; have _t := HO3'; refine wpList_append_sl _ rfl (.tmp 27) (.tmp 29) 30 rfl B 24 i1 (.slice none 0 0) 24 Tryz.undLists gi gz0 gz1 gz2 rfl (.slice V.aw s.want.length V.cw) s.want.length V.vws rfl (want_now H2.out HX3.out HR3.out (.slice a3 (s.outs.length + 1) c3) _) ⟨w3.heap.size, 0, none⟩ 1 1 [.slice (some ⟨w.heap.size, 0, none⟩) xs.length xs.length] rfl rfl (new_cells2 (w3.setCell ⟨Wb, 4, none⟩ (.slice a3 (s.outs.length + 1) c3)) w3.heap.size (by simp [World.setCell]) [.slice (some ⟨w.heap.size, 0, none⟩) xs.length xs.length] 24) (by intro u hu; simp at hu; subst hu; rfl) (by decide) d3.out d4.out (by simp [World.setCell]; omega) (s.want.length + 1) rfl ?_; intro a5 c5 w5 hown5 hg5 hwh5;
        have HR4 : Hid (Row (w3.setCell ⟨Wb, 4, none⟩ (.slice a3 (s.outs.length + 1) c3)) Wb 34 ((V.cells s).set 4 (.slice a3 (s.outs.length + 1) c3))) := HR3.out.set 4 _;
        have HR5 : Hid (Row w5 Wb 34 ((V.cells s).set 4 (.slice a3 (s.outs.length + 1) c3))) := row_grown (row_below HR4.out ((Below.refl _ _).alloc (Nat.le_refl _) _)) (want_now H2.out HX3.out HR3.out (.slice a3 (s.outs.length + 1) c3) _) t_ints hg5;
        have q5 : w5.cell? ⟨Wb, 5, none⟩ = some (.slice V.aw s.want.length V.cw) := (HR5.out.cell 5).trans rfl;
        have q5' := HR5.out.frozen 5;
        have HG5 := hide hg5;
        have HH5 := hide hwh5;
        have HO5 := hide hown5; clear hown5 hg5 hwh5 HO3'))
  go_end0
  exact ⟨rfl, hold_end H.out HB2.out HL2.out HC.out HAP.out HX3.out HR3.out HO3.out HH3.out HG5.out HR5.out HO5.out HH5.out⟩

end Go.Proofs.YthboeppmlhbofaaGreatDoor
