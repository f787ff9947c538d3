/-
  traillaw's texted: the walks.
-/
import Derived.Test.YtmbndcpneelllaaGreatDoorLok
import Derived.Lib.ConvBytes
namespace Go.Proofs.YtmbndcpneelllaaGreatDoor
open Go.RowKit Txt
set_option maxRecDepth 100000

theorem Tryz.infoString : (Tryz.prog.info? 9).map (fun i => (i.zero, i.size, i.bytes)) = some (some (.string ByteArray.empty), 1, 16) := by kernel_rfl
theorem Tryz.undStrings : Tryz.prog.underlying 31 = some (.slice 9) := by kernel_rfl

/-- a step's five fields -/
structure OpD where
  k : Int
  a : Int
  b : Int
  c : Int
  s : ByteArray
def OpD.cells (o : OpD) : Array Value := #[.int .i64 o.k, .int .i64 o.a, .int .i64 o.b, .int .i64 o.c, .string o.s]
structure OpD.Ok (o : OpD) : Prop where
  a : -9223372036854775808 ≤ o.a ∧ o.a ≤ 9223372036854775807
  b : -9223372036854775808 ≤ o.b ∧ o.b ≤ 9223372036854775807
  s : o.s.size ≤ 16384

/-- behind a step: the world is as it may be, one step on -/
def Nxt (n : Nat) (w w' : World) (Wb B : Nat) (V : WV) : Prop := ∃ V' s', WI w' Wb B V' s' ∧ Bd n s' ∧ Below B w w' ∧ V'.nx = V.nx ∧ V'.vxs = V.vxs

theorem Bd.next {n : Nat} {s : St} (h : Bd n s) : Bd (n + 1) s :=
  ⟨by have := h.list; omega, by have := h.cls; omega, h.cl1, by have := h.txs; omega, h.tx1, by have := h.outs; omega, h.out1, by have := h.mark; omega, h.same⟩
theorem Nxt.stay {n : Nat} {w w' : World} {Wb B : Nat} {V : WV} {s : St} (h : WI w Wb B V s) (hb : Bd n s) (hw : Below w.heap.size w w') : Nxt (n + 1) w w' Wb B V :=
  ⟨V, s, h.below hw, hb.next, hw.mono (Nat.le_trans h.base (Nat.le_of_lt h.blk.lt)), rfl, rfl⟩

/-- a text more -/
theorem text_end {n : Nat} {w0 w w3 : World} {Wb B : Nat} {V : WV} {s : St} {t : ByteArray} {a3 : Option Addr} {c3 : Nat} {o : Obj} (H : WI w Wb B V s) (hbd : Bd n s) (hb : Below B w0 w) (hB : B ≤ w0.heap.size) (ht : t.size ≤ 65536) (hg3 : (w.alloc o).grownBy w3 (V.vt s).ownBlock)
    (hown3 : w3.ownsRow B 9 1 (.slice a3 (s.texts.length + 1) c3) (s.texts.length + 1) (strs s.texts ++ [.string t])) : Nxt (n + 1) w0 (w3.setCell ⟨Wb, 2, none⟩ (.slice a3 (s.texts.length + 1) c3)) Wb B V := by
  have hrow : Row w3 Wb 34 (V.cells s) := row_grown (row_below H.blk ((Below.refl _ _).alloc (Nat.le_refl _) _)) (H.tx.alloc _) t_str hg3
  have hst : strs s.texts ++ [.string t] = strs (s.texts ++ [t]) := by simp [strs]
  refine ⟨{ V with at_ := a3, ct := c3 }, { s with texts := s.texts ++ [t] }, H.setTexts (oth_alloc o (oth_trans (oth_grown hg3) (oth_setW hrow 2 _))) a3 c3 (s.texts ++ [t]) ?_ ?_, ?_, ?_, rfl, rfl⟩
  · rw [snoc_len]; exact hrow.set 2 _
  · rw [snoc_len, ← hst]; exact own_setW hrow 2 _ t_str hown3
  · refine ⟨hbd.next.list, hbd.next.cls, hbd.cl1, ?_, ?_, hbd.next.outs, hbd.out1, hbd.next.mark, hbd.same⟩
    · show (s.texts ++ [t]).length ≤ _
      rw [snoc_len]; have := hbd.txs; omega
    · intro x hx
      rcases List.mem_append.1 hx with hx | hx
      · exact hbd.tx1 x hx
      · simp at hx; subst hx; exact ht
  · have hB2 : B ≤ w.heap.size := Nat.le_trans hB hb.size
    exact ((hb.alloc hB2 o).grown hg3 (by simp; omega) (fun j hj => (H.tx.lt j hj).1)).setCell (p := ⟨Wb, 2, none⟩) H.base _

set_option maxHeartbeats 1000000 in
theorem texted_none (Wb : Nat) (w : World) (o : OpD) (h5 : (o.k != 5) = true) (h6 : (o.k != 6) = true) (h7 : (o.k != 7) = true) :
    Calls Tryz.prog 21 #[.pointer (some ⟨Wb, 0, none⟩), .agg o.cells] w fun e w' => e = .returned (.bool false) ∧ Below w.heap.size w w' := by
  obtain ⟨k, a, b, c, t⟩ := o
  have HN : Hid (∀ x, Below w.heap.size w (w.alloc x)) := fun x => (Below.refl _ _).alloc (Nat.le_refl _) _
  simp only [OpD.cells] at *
  go_enter Tryz.func21, Tryz.ntmps21
  go_wp2
  go_ret
  exact ⟨rfl, HN.out _⟩

set_option maxHeartbeats 2000000 in
theorem texted_text (Wb B n : Nat) (V : WV) (s : St) (w : World) (o : OpD) (ho : o.Ok) (hk : o.k = 5) (h : WI w Wb B V s) (hbd : Bd n s) (hn : n ≤ 20000) :
    Calls Tryz.prog 21 #[.pointer (some ⟨Wb, 0, none⟩), .agg o.cells] w fun e w' => e = .returned (.bool true) ∧ Nxt (n + 1) w w' Wb B V := by
  obtain ⟨k, a, b, c, t⟩ := o
  subst hk
  have hts : t.size ≤ 16384 := ho.s
  obtain ⟨i0, hi, hz0, hz1, hz2⟩ := info_parts Tryz.infoString
  have hx := hbd.txs
  have hBs : B ≤ w.heap.size := Nat.le_trans h.base (Nat.le_of_lt h.blk.lt)
  have d1 : Hid (s.texts.length + 1 ≤ maxLen) := by show _ ≤ _; unfold maxLen; omega
  have d2 : Hid ((s.texts.length + 1) * 16 ≤ 140737488355328) := by show _ ≤ _; omega
  have hb1 : ∀ x, Below w.heap.size w (w.alloc x) := fun x => (Below.refl _ _).alloc (Nat.le_refl _) x
  have H1 := hide (h.below (hb1 (.cells #[.int .i64 5, .int .i64 a, .int .i64 b, .int .i64 c, .string t] 27)))
  have HBD := hide hbd
  have f2 : (w.alloc (.cells #[.int .i64 5, .int .i64 a, .int .i64 b, .int .i64 c, .string t] 27)).cell? ⟨Wb, 2, none⟩ = some (.slice V.at_ s.texts.length V.ct) := (H1.out.blk.cell 2).trans rfl
  have hlt : Wb < w.heap.size := h.blk.lt
  have f2w : w.cell? ⟨Wb, 2, none⟩ = some (.slice V.at_ s.texts.length V.ct) := (h.blk.cell 2).trans rfl
  simp only [OpD.cells] at *
  clear h hbd ho hb1 f2
  go_enter Tryz.func21, Tryz.ntmps21
  go_wp2_with (first
    | (at_builtin; refine wpList_append_full _ rfl (.tmp 102) (.tmp 104) 31 rfl B 9 i0 (.string ByteArray.empty) 16 Tryz.undStrings hi hz0 hz1 hz2 rfl (.slice V.at_ s.texts.length V.ct) s.texts.length (strs s.texts) rfl (H1.out.tx.alloc _) ⟨w.heap.size + 1, 0, none⟩ 1 1 [.string t] rfl rfl (new_cells2 _ (w.heap.size + 1) (by simp) [.string t] 9) (by intro u hu; simp at hu; subst hu; rfl) (by decide) d1.out d2.out (by simp; omega) (w.heap.size + 2) (by simp) ?_; intro a3 c3 w3 hown3 hg3 _;
        have HR3 : Hid (Row w3 Wb 34 (V.cells s)) := row_grown (row_below H1.out.blk ((Below.refl _ _).alloc (Nat.le_refl _) _)) (H1.out.tx.alloc _) t_str hg3;
        have g2 : w3.cell? ⟨Wb, 2, none⟩ = some (.slice V.at_ s.texts.length V.ct) := (HR3.out.cell 2).trans rfl;
        have g2' := HR3.out.frozen 2))
  go_ret
  exact ⟨rfl, text_end H1.out HBD.out ((Below.refl _ _).alloc hBs _) hBs (by omega) hg3 hown3⟩

end Go.Proofs.YtmbndcpneelllaaGreatDoor
