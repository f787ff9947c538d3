/-
  traillaw's texted: the walks.
-/
import Derived.Test.YthboeppmlhbofaaGreatDoorLok
import Derived.Lib.ConvBytes
namespace Go.Proofs.YthboeppmlhbofaaGreatDoor
open Go.RowKit Txt
set_option maxRecDepth 100000

theorem Tryz.infoString : (Tryz.prog.info? 9).map (fun i => (i.zero, i.size, i.bytes)) = some (some (.string ByteArray.empty), 1, 16) := by kernel_rfl
theorem Tryz.undStrings : Tryz.prog.underlying 31 = some (.slice 9) := by kernel_rfl

/-- a step's five fields -/
structure OpD where
  k : Int
  a : Int
  b : Int
  c : Int
  s : ByteArray
def OpD.cells (o : OpD) : Array Value := #[.int .i64 o.k, .int .i64 o.a, .int .i64 o.b, .int .i64 o.c, .string o.s]
structure OpD.Ok (o : OpD) : Prop where
  a : -9223372036854775808 ≤ o.a ∧ o.a ≤ 9223372036854775807
  b : -9223372036854775808 ≤ o.b ∧ o.b ≤ 9223372036854775807
  s : o.s.size ≤ 16384

/-- behind a step: the world is as it may be, one step on -/
def Nxt (n : Nat) (w w' : World) (Wb B : Nat) (V : WV) : Prop := ∃ V' s', WI w' Wb B V' s' ∧ Bd n s' ∧ Below B w w' ∧ V'.nx = V.nx ∧ V'.vxs = V.vxs ∧ Frm w w' Wb V V'
/-- the same, where it isn't said what stays -/
def Nxw (n : Nat) (w w' : World) (Wb B : Nat) (V : WV) : Prop := ∃ V' s', WI w' Wb B V' s' ∧ Bd n s' ∧ Below B w w' ∧ V'.nx = V.nx ∧ V'.vxs = V.vxs
theorem Nxt.weak {n : Nat} {w w' : World} {Wb B : Nat} {V : WV} (h : Nxt n w w' Wb B V) : Nxw n w w' Wb B V := by
  obtain ⟨V', s', i1, i2, i3, i4, i5, _⟩ := h
  exact ⟨V', s', i1, i2, i3, i4, i5⟩

theorem Bd.next {n : Nat} {s : St} (h : Bd n s) : Bd (n + 1) s :=
  ⟨by have := h.list; omega, by have := h.cls; omega, h.cl1, by have := h.txs; omega, h.tx1, by have := h.outs; omega, h.out1, by have := h.mark; omega, h.same⟩
theorem Nxt.stay {n : Nat} {w w' : World} {Wb B : Nat} {V : WV} {s : St} (h : WI w Wb B V s) (hb : Bd n s) (hw : Below w.heap.size w w') : Nxt (n + 1) w w' Wb B V :=
  ⟨V, s, h.below hw, hb.next, hw.mono (Nat.le_trans h.base (Nat.le_of_lt h.blk.lt)), rfl, rfl, Frm.of Wb V hw⟩

/-- a text more -/
theorem text_end {n : Nat} {w0 w w3 : World} {Wb B : Nat} {V : WV} {s : St} {t : ByteArray} {a3 : Option Addr} {c3 k : Nat} {o : Obj} {p : Prop} (H : WI w Wb B V s) (hbd : Bd n s) (hbs : Below w0.heap.size w0 w) (hB : B ≤ w0.heap.size) (ht : t.size ≤ 4194304) (hg3 : (w.alloc o).grownBy w3 (V.vt s).ownBlock) (hl3 : V.vt s = .slice a3 s.texts.length c3 ∨ a3 = some ⟨k, 0, none⟩ ∧ p) (hk : w0.heap.size ≤ k)
    (hown3 : w3.ownsRow B 9 1 (.slice a3 (s.texts.length + 1) c3) (s.texts.length + 1) (strs s.texts ++ [.string t])) : Nxt (n + 1) w0 (w3.setCell ⟨Wb, 2, none⟩ (.slice a3 (s.texts.length + 1) c3)) Wb B V := by
  have hrow : Row w3 Wb 34 (V.cells s) := row_grown (row_below H.blk ((Below.refl _ _).alloc (Nat.le_refl _) _)) (H.tx.alloc _) t_str hg3
  have hst : strs s.texts ++ [.string t] = strs (s.texts ++ [t]) := by simp [strs]
  have hb := hbs.mono hB
  refine ⟨{ V with at_ := a3, ct := c3 }, { s with texts := s.texts ++ [t] }, H.setTexts (oth_alloc o (oth_trans (oth_grown hg3) (oth_setW hrow 2 _))) a3 c3 (s.texts ++ [t]) ?_ ?_, ?_, ?_, rfl, rfl, fun b h1 h2 h3 => ⟨grow_kept hbs hg3 2 _ h1 h2 h3.t, h3.l, h3.c, off_moved h3.t hl3 (by omega), h3.x, h3.o, h3.w, h3.cs, h3.os, h3.ws⟩⟩
  · rw [snoc_len]; exact hrow.set 2 _
  · rw [snoc_len, ← hst]; exact own_setW hrow 2 _ t_str hown3
  · refine ⟨hbd.next.list, hbd.next.cls, hbd.cl1, ?_, ?_, hbd.next.outs, hbd.out1, hbd.next.mark, hbd.same⟩
    · show (s.texts ++ [t]).length ≤ _
      rw [snoc_len]; have := hbd.txs; omega
    · intro x hx
      rcases List.mem_append.1 hx with hx | hx
      · exact hbd.tx1 x hx
      · simp at hx; subst hx; exact ht
  · have hB2 : B ≤ w.heap.size := Nat.le_trans hB hb.size
    exact ((hb.alloc hB2 o).grown hg3 (by simp; omega) (fun j hj => (H.tx.lt j hj).1)).setCell (p := ⟨Wb, 2, none⟩) H.base _

set_option maxHeartbeats 1000000 in
theorem texted_none (Wb : Nat) (w : World) (o : OpD) (h5 : (o.k != 5) = true) (h6 : (o.k != 6) = true) (h7 : (o.k != 7) = true) :
    Calls Tryz.prog 25 #[.pointer (some ⟨Wb, 0, none⟩), .agg o.cells] w fun e w' => e = .returned (.bool false) ∧ Below w.heap.size w w' := by
  obtain ⟨k, a, b, c, t⟩ := o
  have HN : Hid (∀ x, Below w.heap.size w (w.alloc x)) := fun x => (Below.refl _ _).alloc (Nat.le_refl _) _
  simp only [OpD.cells] at *
  go_enter Tryz.func25, Tryz.ntmps25
  go_wp2
  go_ret
  exact ⟨rfl, HN.out _⟩

set_option maxHeartbeats 2000000 in
theorem texted_text (Wb B n : Nat) (V : WV) (s : St) (w : World) (o : OpD) (ho : o.Ok) (hk : o.k = 5) (h : WI w Wb B V s) (hbd : Bd n s) (hn : n ≤ 20000) :
    Calls Tryz.prog 25 #[.pointer (some ⟨Wb, 0, none⟩), .agg o.cells] w fun e w' => e = .returned (.bool true) ∧ Nxt (n + 1) w w' Wb B V := by
  obtain ⟨k, a, b, c, t⟩ := o
  subst hk
  have hts : t.size ≤ 16384 := ho.s
  obtain ⟨i0, hi, hz0, hz1, hz2⟩ := info_parts Tryz.infoString
  have hx := hbd.txs
  have hBs : B ≤ w.heap.size := Nat.le_trans h.base (Nat.le_of_lt h.blk.lt)
  have d1 : Hid (s.texts.length + 1 ≤ maxLen) := by show _ ≤ _; unfold maxLen; omega
  have d2 : Hid ((s.texts.length + 1) * 16 ≤ 140737488355328) := by show _ ≤ _; omega
  have hb1 : ∀ x, Below w.heap.size w (w.alloc x) := fun x => (Below.refl _ _).alloc (Nat.le_refl _) x
  have H1 := hide (h.below (hb1 (.cells #[.int .i64 5, .int .i64 a, .int .i64 b, .int .i64 c, .string t] 27)))
  have HBD := hide hbd
  have f2 : (w.alloc (.cells #[.int .i64 5, .int .i64 a, .int .i64 b, .int .i64 c, .string t] 27)).cell? ⟨Wb, 2, none⟩ = some (.slice V.at_ s.texts.length V.ct) := (H1.out.blk.cell 2).trans rfl
  have hlt : Wb < w.heap.size := h.blk.lt
  have f2w : w.cell? ⟨Wb, 2, none⟩ = some (.slice V.at_ s.texts.length V.ct) := (h.blk.cell 2).trans rfl
  simp only [OpD.cells] at *
  clear h hbd ho hb1 f2
  go_enter Tryz.func25, Tryz.ntmps25
  go_wp2_with (first
    | (at_builtin; refine wpList_append_full _ rfl (.tmp 102) (.tmp 104) 31 rfl B 9 i0 (.string ByteArray.empty) 16 Tryz.undStrings hi hz0 hz1 hz2 rfl (.slice V.at_ s.texts.length V.ct) s.texts.length (strs s.texts) rfl (H1.out.tx.alloc _) ⟨w.heap.size + 1, 0, none⟩ 1 1 [.string t] rfl rfl (new_cells2 _ (w.heap.size + 1) (by simp) [.string t] 9) (by intro u hu; simp at hu; subst hu; rfl) (by decide) d1.out d2.out (by simp; omega) (w.heap.size + 2) (by simp) ?_; intro a3 c3 w3 hown3 hg3 hl3; have HL3 := hide hl3; clear hl3;
        have HR3 : Hid (Row w3 Wb 34 (V.cells s)) := row_grown (row_below H1.out.blk ((Below.refl _ _).alloc (Nat.le_refl _) _)) (H1.out.tx.alloc _) t_str hg3;
        have g2 : w3.cell? ⟨Wb, 2, none⟩ = some (.slice V.at_ s.texts.length V.ct) := (HR3.out.cell 2).trans rfl;
        have g2' := HR3.out.frozen 2))
  go_ret
  exact ⟨rfl, text_end H1.out HBD.out ((Below.refl _ _).alloc (Nat.le_refl _) _) hBs (by omega) hg3 HL3.out (by omega) hown3⟩

end Go.Proofs.YthboeppmlhbofaaGreatDoor

/-
  traillaw's texted, where it joins and turns texts: the walks.
-/
namespace Go.Proofs.YthboeppmlhbofaaGreatDoor
open Go.RowKit Txt
set_option maxRecDepth 100000

theorem texts_at {w : World} {B n c k : Nat} {a : Option Addr} {ts : List ByteArray} (ht : w.ownsRow B 9 1 (.slice a n c) n (strs ts)) (hk : k < ts.length) :
    ∃ g, a = some ⟨g, 0, none⟩ ∧ w.cell? ⟨g, k, none⟩ = some (.string (ts.getD k ByteArray.empty)) := by
  have hl : (strs ts).length = ts.length := by simp [strs]
  rcases ht.2 with ⟨_, h0⟩ | ⟨g, cap, cur, hv, _⟩
  · have := ht.1; omega
  · simp only [Value.slice.injEq] at hv
    obtain ⟨rfl, _, rfl⟩ := hv
    have h4 := ht.cells (g := g) rfl k (.string (ts.getD k ByteArray.empty)) (by simp [strs, List.getElem?_eq_getElem hk, List.getD])
    rw [addr0, Nat.zero_add] at h4
    exact ⟨g, rfl, h4⟩

set_option maxHeartbeats 1000000 in
theorem texted_empty (Wb B n : Nat) (V : WV) (s : St) (w : World) (o : OpD) (hk : o.k = 6 ∨ o.k = 7) (h : WI w Wb B V s) (hbd : Bd n s) (h0 : s.texts.length = 0) :
    Calls Tryz.prog 25 #[.pointer (some ⟨Wb, 0, none⟩), .agg o.cells] w fun e w' => e = .returned (.bool true) ∧ Nxt (n + 1) w w' Wb B V := by
  obtain ⟨k, a, b, c, t⟩ := o
  have HN : Hid (∀ x, Nxt (n + 1) w (w.alloc x) Wb B V) := fun x => Nxt.stay h hbd ((Below.refl _ _).alloc (Nat.le_refl _) _)
  have hlt : Wb < w.heap.size := h.blk.lt
  have f2w : w.cell? ⟨Wb, 2, none⟩ = some (.slice V.at_ 0 V.ct) := (h.blk.cell 2).trans (by simp only [WV.cells, WV.vt, h0]; rfl)
  simp only [OpD.cells] at *
  clear h hbd h0
  rcases hk with rfl | rfl
  · go_enter Tryz.func25, Tryz.ntmps25
    go_wp2
    go_ret
    exact ⟨rfl, HN.out _⟩
  · go_enter Tryz.func25, Tryz.ntmps25
    go_wp2
    go_ret
    exact ⟨rfl, HN.out _⟩

set_option maxHeartbeats 4000000 in
theorem texted_join (Wb B n : Nat) (V : WV) (s : St) (w : World) (o : OpD) (ho : o.Ok) (hk : o.k = 7) (h : WI w Wb B V s) (hbd : Bd n s) (hn : n ≤ 20000) (h0 : 0 < s.texts.length) :
    Calls Tryz.prog 25 #[.pointer (some ⟨Wb, 0, none⟩), .agg o.cells] w fun e w' => e = .returned (.bool true) ∧ Nxt (n + 1) w w' Wb B V := by
  obtain ⟨k, a, b, c, t⟩ := o
  subst hk
  obtain ⟨i0, hi, hz0, hz1, hz2⟩ := info_parts Tryz.infoString
  have hx := hbd.txs
  have hBs : B ≤ w.heap.size := Nat.le_trans h.base (Nat.le_of_lt h.blk.lt)
  have d1 : Hid (s.texts.length + 1 ≤ maxLen) := by show _ ≤ _; unfold maxLen; omega
  have d2 : Hid ((s.texts.length + 1) * 16 ≤ 140737488355328) := by show _ ≤ _; omega
  have p1 := fun w => pick_any a s.texts.length w h0 (by omega) ho.a.1 ho.a.2
  have p2 := fun w => pick_any b s.texts.length w h0 (by omega) ho.b.1 ho.b.2
  have l1 := pickN_lt a s.texts.length h0
  have l2 := pickN_lt b s.texts.length h0
  generalize pickN a s.texts.length = j1 at p1 l1
  generalize pickN b s.texts.length = j2 at p2 l2
  obtain ⟨g, eg, c1⟩ := texts_at h.tx l1
  obtain ⟨g', eg', c2⟩ := texts_at h.tx l2
  have : g' = g := by rw [eg] at eg'; simpa using eg'.symm
  subst this
  have s1 := hbd.tx1 (s.texts.getD j1 ByteArray.empty) (by rw [List.getD_eq_getElem?_getD, List.getElem?_eq_getElem l1]; exact List.getElem_mem l1)
  have s2 := hbd.tx1 (s.texts.getD j2 ByteArray.empty) (by rw [List.getD_eq_getElem?_getD, List.getElem?_eq_getElem l2]; exact List.getElem_mem l2)
  generalize s.texts.getD j1 ByteArray.empty = t1 at c1 s1
  generalize s.texts.getD j2 ByteArray.empty = t2 at c2 s2
  have H := hide h
  have HBD := hide hbd
  have P1 := hide p1
  have P2 := hide p2
  have hlt : Wb < w.heap.size := h.blk.lt
  have hgt : g' < w.heap.size := World.block_lt_of_cell? w _ c1
  have f2w : w.cell? ⟨Wb, 2, none⟩ = some (.slice (some ⟨g', 0, none⟩) s.texts.length V.ct) := (h.blk.cell 2).trans (by simp only [WV.cells, WV.vt, eg]; rfl)
  have HEG := hide eg
  simp only [OpD.cells] at *
  clear h hbd ho p1 p2 eg eg'
  have q1 : (0 : Int) ≤ (j1 : Int) := by omega
  have q2 : (0 : Int) ≤ (j2 : Int) := by omega
  have q3 : (j1 : Int) < (s.texts.length : Int) := by omega
  have q4 : (j2 : Int) < (s.texts.length : Int) := by omega
  go_enter Tryz.func25, Tryz.ntmps25
  go_wp2
  go_quiet ((go_at_call 16; exact Calls.quiet_of_same (unhide P1 _)))
  go_wp2_with fail
  have e1 := new_cells1 w [.int .i64 7, .int .i64 a, .int .i64 b, .int .i64 c, .string t] 27 2 (.int .i64 b) rfl
  have hbw : Below w.heap.size w ((w.alloc (.cells #[.int .i64 7, .int .i64 a, .int .i64 b, .int .i64 c, .string t] 27)).drewN nq) := below_drewN ((Below.refl _ _).alloc (Nat.le_refl _) _) _
  have e2 : ((w.alloc (.cells #[.int .i64 7, .int .i64 a, .int .i64 b, .int .i64 c, .string t] 27)).drewN nq).cell? ⟨w.heap.size, 2, none⟩ = some (.int .i64 b) := e1
  have e3 : ((w.alloc (.cells #[.int .i64 7, .int .i64 a, .int .i64 b, .int .i64 c, .string t] 27)).drewN nq).heap.size = w.heap.size + 1 := by simp
  generalize (w.alloc (.cells #[.int .i64 7, .int .i64 a, .int .i64 b, .int .i64 c, .string t] 27)).drewN nq = w1 at *
  have H1 := hide (H.out.below hbw)
  have f2 : w1.cell? ⟨Wb, 2, none⟩ = some (.slice (some ⟨g', 0, none⟩) s.texts.length V.ct) := (H1.out.blk.cell 2).trans (by simp only [WV.cells, WV.vt, HEG.out]; rfl)
  have c2' : w1.cell? ⟨g', j2, none⟩ = some (.string t2) := (hbw.cell (p := ⟨g', j2, none⟩) hgt).trans c2
  have HBW := hide hbw
  clear e1 f2w c1 c2 hbw
  go_wp2
  go_quiet ((go_at_call 16; exact Calls.quiet_of_same (unhide P2 _)))
  have hb2 : Below w.heap.size w (w1.drewN nq) := below_drewN HBW.out _
  have e4 : (w1.drewN nq).heap.size = w.heap.size + 1 := e3
  generalize w1.drewN nq = w2 at *
  have H2 := hide (H.out.below hb2)
  have HX : Hid (w2.ownsRow B 9 1 (.slice (some ⟨g', 0, none⟩) s.texts.length V.ct) s.texts.length (strs s.texts)) := by
    have := H2.out.tx
    rw [WV.vt, HEG.out] at this
    exact this
  have f3 : w2.cell? ⟨Wb, 2, none⟩ = some (.slice (some ⟨g', 0, none⟩) s.texts.length V.ct) := (H2.out.blk.cell 2).trans (by simp only [WV.cells, WV.vt, HEG.out]; rfl)
  have HB2 := hide hb2
  have hz2s : w.heap.size ≤ w2.heap.size := hb2.size
  clear hb2 f2 c2' e2 H1 e3 e4
  by_cases hbig : 65536 < t1.size + t2.size
  · go_wp2
    go_ret
    exact ⟨rfl, Nxt.stay H.out HBD.out HB2.out⟩
  · have htz : (t1 ++ t2).size ≤ 4194304 := by rw [ByteArray.size_append]; omega
    have HTZ := hide htz
    clear htz
    go_wp2_with (first
      | (at_builtin; refine wpList_append_full _ rfl (.tmp 102) (.tmp 104) 31 rfl B 9 i0 (.string ByteArray.empty) 16 Tryz.undStrings hi hz0 hz1 hz2 rfl (.slice (some ⟨g', 0, none⟩) s.texts.length V.ct) s.texts.length (strs s.texts) rfl (HX.out.alloc _) ⟨w2.heap.size, 0, none⟩ 1 1 [.string (t1 ++ t2)] rfl rfl (new_cells1 w2 [.string (t1 ++ t2)] 9) (by intro u hu; simp at hu; subst hu; rfl) (by decide) d1.out d2.out (by simp; omega) (w2.heap.size + 1) (by simp) ?_; intro a3 c3 w3 hown3 hg3 hl3; have HL3 := hide hl3; clear hl3;
          have HR3 : Hid (Row w3 Wb 34 (V.cells s)) := row_grown (row_below H2.out.blk ((Below.refl _ _).alloc (Nat.le_refl _) _)) (HX.out.alloc _) t_str hg3;
          have g2 : w3.cell? ⟨Wb, 2, none⟩ = some (.slice V.at_ s.texts.length V.ct) := (HR3.out.cell 2).trans rfl;
          have g2' := HR3.out.frozen 2))
    go_ret
    exact ⟨rfl, text_end H2.out HBD.out HB2.out hBs HTZ.out (by rw [WV.vt, HEG.out]; exact hg3) (by rw [WV.vt, HEG.out]; exact HL3.out) (by omega) hown3⟩

end Go.Proofs.YthboeppmlhbofaaGreatDoor
