/-
  traillaw's step, for the steps of Reads: the walk.
-/
import Derived.Test.YtgohikopopgokaaGreatDoorPrd
namespace Go.Proofs.YtgohikopopgokaaGreatDoor
open Go.RowKit Txt
set_option maxRecDepth 100000

/-- a step that Reads plays -/
def kindRd (k : Int) : Prop := k < 10 ∨ k = 10 ∨ k = 11

theorem pure_rd (Wb B n : Nat) (V : WV) (s : St) (w : World) (o : OpD) (ho : o.Ok) (hk : kindRd o.k) (h : WI w Wb B V s) (hbd : Bd n s) (hn : n ≤ 16384) (hB0 : 0 < B) (htab : Hid (Tab w)) :
    Calls Tryz.prog 14 #[.pointer (some ⟨Wb, 0, none⟩), .agg o.cells] w fun e w' => e = .returned (.bool true) ∧ Nxw (n + 1) w w' Wb B V := by
  have n1 : (o.k == 12) = false := by simp; rcases hk with h | h | h <;> omega
  have n2 : (o.k == 13) = false := by simp; rcases hk with h | h | h <;> omega
  have n3 : (o.k == 19) = false := by simp; rcases hk with h | h | h <;> omega
  by_cases h10 : o.k = 10
  · by_cases h0 : s.texts.length = 0
    · exact (pure_none Wb B n V s w o h hbd hn (.inl ⟨by simpa using h10, h0⟩) n1 n2 n3).mono (fun _ _ h => ⟨h.1, h.2.weak⟩)
    · exact pure_read Wb B n V s w o ho h10 h hbd hn (by omega)
  · by_cases h11 : o.k = 11
    · exact (pure_write Wb B n V s w o h11 h hbd hn hB0 htab).mono (fun _ _ h => ⟨h.1, h.2.weak⟩)
    · exact (pure_none Wb B n V s w o h hbd hn (.inr ⟨by simpa using h10, by simpa using h11⟩) n1 n2 n3).mono (fun _ _ h => ⟨h.1, h.2.weak⟩)

set_option maxHeartbeats 2000000 in
theorem step_own (Wb B n : Nat) (V : WV) (s : St) (w : World) (o : OpD) (ho : o.Ok) (hio : isOwn o.k = true) (h : WI w Wb B V s) (hbd : Bd n s) (hn : n ≤ 16384) :
    Calls Tryz.prog 11 #[.pointer (some ⟨Wb, 0, none⟩), .agg o.cells] w fun e w' => e = .returned (.bool true) ∧ Nxt (n + 1) w w' Wb B V := by
  have hBs : B ≤ w.heap.size := Nat.le_trans h.base (Nat.le_of_lt h.blk.lt)
  have HB : Hid (∀ x, Below w.heap.size w (w.alloc x)) := fun x => (Below.refl _ _).alloc (Nat.le_refl _) x
  have HT : Hid (∀ x, Calls Tryz.prog 13 #[.pointer (some ⟨Wb, 0, none⟩), .agg o.cells] (w.alloc x) fun e w' => e = .returned (.bool true) ∧ Nxt (n + 1) w w' Wb B V) := by
    intro x
    refine (owner_any Wb B n V s (w.alloc x) o ho (h.below (HB.out x)) hbd hn).mono ?_
    rintro e w' ⟨rfl, hm⟩
    obtain ⟨V', s', i1, i2, i3, i4, i5, i6⟩ := hm.yes hio
    exact ⟨by rw [hio], V', s', i1, i2, ((HB.out _).mono hBs).trans i3, i4, i5, Frm.pre (HB.out _) i6⟩
  obtain ⟨k, a, b, c, t⟩ := o
  simp only [OpD.cells] at *
  clear h hbd ho hio
  go_enter Tryz.func11, Tryz.ntmps11
  go_wp2_with fail
  refine (unhide HT _).mono ?_
  rintro e w' ⟨rfl, hN⟩
  have HN := hide hN
  clear hN
  go_wp2
  go_ret
  exact ⟨rfl, HN.out⟩

set_option maxHeartbeats 4000000 in
theorem step_pure (Wb B n : Nat) (V : WV) (s : St) (w : World) (o : OpD) (ho : o.Ok) (hio : isOwn o.k = false) (hk : kindRd o.k) (h9 : (o.k == 9) = false) (h : WI w Wb B V s) (hbd : Bd n s) (hn : n ≤ 16384) (hB0 : 0 < B) (htab : Hid (Tab w)) :
    Calls Tryz.prog 11 #[.pointer (some ⟨Wb, 0, none⟩), .agg o.cells] w fun e w' => e = .returned (.bool true) ∧ Nxw (n + 1) w w' Wb B V := by
  have hBs : B ≤ w.heap.size := Nat.le_trans h.base (Nat.le_of_lt h.blk.lt)
  have HB : Hid (∀ x, Below w.heap.size w (w.alloc x)) := fun x => (Below.refl _ _).alloc (Nat.le_refl _) x
  have HT : Hid (∀ x, Calls Tryz.prog 13 #[.pointer (some ⟨Wb, 0, none⟩), .agg o.cells] (w.alloc x) fun e w' => e = .returned (.bool false) ∧ Below (w.alloc x).heap.size (w.alloc x) w') := by
    intro x
    refine (owner_any Wb B n V s (w.alloc x) o ho (h.below (HB.out x)) hbd hn).mono ?_
    rintro e w' ⟨rfl, hm⟩
    exact ⟨by rw [hio], hm.no hio⟩
  have HP : Hid (∀ w1, Below w.heap.size w w1 → Calls Tryz.prog 14 #[.pointer (some ⟨Wb, 0, none⟩), .agg o.cells] w1 fun e w' => e = .returned (.bool true) ∧ Nxw (n + 1) w w' Wb B V) := by
    intro w1 hb
    refine (pure_rd Wb B n V s w1 o ho hk (h.below hb) hbd hn hB0 (Tab.below htab.out hb (by omega))).mono ?_
    rintro e w' ⟨rfl, V', s', i1, i2, i3, i4, i5⟩
    exact ⟨rfl, V', s', i1, i2, (hb.mono hBs).trans i3, i4, i5⟩
  obtain ⟨k, a, b, c, t⟩ := o
  have hk14 : (k < 14) := by rcases hk with h | h | h <;> simp only at h <;> omega
  simp only [OpD.cells] at *
  have h9' : ¬ k = 9 := by simpa using h9
  clear h hbd ho hio hk
  go_enter Tryz.func11, Tryz.ntmps11
  go_wp2_with fail
  refine (unhide HT _).mono ?_
  have e1 := fun j u hu => new_cells1 w [.int .i64 k, .int .i64 a, .int .i64 b, .int .i64 c, .string t] 27 j u hu
  have hb1 : Below w.heap.size w (w.alloc (.cells #[.int .i64 k, .int .i64 a, .int .i64 b, .int .i64 c, .string t] 27)) := (Below.refl _ _).alloc (Nat.le_refl _) _
  have e3 : w.heap.size < (w.alloc (.cells #[.int .i64 k, .int .i64 a, .int .i64 b, .int .i64 c, .string t] 27)).heap.size := by simp
  have m0 := e1 0 _ rfl
  have m1 := e1 1 _ rfl
  have m2 := e1 2 _ rfl
  have m3 := e1 3 _ rfl
  have m4 := e1 4 _ rfl
  rw [addr0] at m0 m1 m2 m3 m4
  simp only [Nat.zero_add] at m0 m1 m2 m3 m4
  clear e1
  generalize w.alloc (.cells #[.int .i64 k, .int .i64 a, .int .i64 b, .int .i64 c, .string t] 27) = w1 at *
  rintro e w2 ⟨rfl, hb2⟩
  have k0 := (hb2.cell (p := ⟨w.heap.size, 0, none⟩) e3).trans m0
  have k1 := (hb2.cell (p := ⟨w.heap.size, 1, none⟩) e3).trans m1
  have k2 := (hb2.cell (p := ⟨w.heap.size, 2, none⟩) e3).trans m2
  have k3 := (hb2.cell (p := ⟨w.heap.size, 3, none⟩) e3).trans m3
  have k4 := (hb2.cell (p := ⟨w.heap.size, 4, none⟩) e3).trans m4
  have HW2 : Hid (Below w.heap.size w w2) := hb1.trans (hb2.mono (Nat.le_of_lt e3))
  clear m0 m1 m2 m3 m4 hb1 hb2 HT
  go_wp2_with fail
  refine (unhide HP _ HW2.out).mono ?_
  rintro e w' ⟨rfl, hN⟩
  have HN := hide hN
  clear hN
  go_wp2
  go_ret
  exact ⟨rfl, HN.out⟩

set_option maxHeartbeats 4000000 in
theorem step_those (Wb B n : Nat) (V : WV) (s : St) (w : World) (o : OpD) (ho : o.Ok) (hk : o.k = 9) (h : WI w Wb B V s) (hbd : Bd n s) (hn : n ≤ 16384) (hx0 : V.nx = 0) :
    Calls Tryz.prog 11 #[.pointer (some ⟨Wb, 0, none⟩), .agg o.cells] w fun e w' => e = .returned (.bool true) ∧ Nxt (n + 1) w w' Wb B V := by
  have hBs : B ≤ w.heap.size := Nat.le_trans h.base (Nat.le_of_lt h.blk.lt)
  have HB : Hid (∀ x, Below w.heap.size w (w.alloc x)) := fun x => (Below.refl _ _).alloc (Nat.le_refl _) x
  have HT : Hid (∀ x, Calls Tryz.prog 13 #[.pointer (some ⟨Wb, 0, none⟩), .agg o.cells] (w.alloc x) fun e w' => e = .returned (.bool false) ∧ Below (w.alloc x).heap.size (w.alloc x) w') := by
    intro x
    refine (owner_any Wb B n V s (w.alloc x) o ho (h.below (HB.out x)) hbd hn).mono ?_
    have hio : isOwn o.k = false := by rw [hk]; rfl
    rintro e w' ⟨rfl, hm⟩
    exact ⟨by rw [hio], hm.no hio⟩
  have H := hide h
  have HBD := hide hbd
  obtain ⟨k, a, b, c, t⟩ := o
  subst hk
  simp only [OpD.cells] at *
  clear h hbd ho
  go_enter Tryz.func11, Tryz.ntmps11
  go_wp2_with fail
  refine (unhide HT _).mono ?_
  have m0 := new_cells1 w [.int .i64 9, .int .i64 a, .int .i64 b, .int .i64 c, .string t] 27 0 _ rfl
  have hb1 : Below w.heap.size w (w.alloc (.cells #[.int .i64 9, .int .i64 a, .int .i64 b, .int .i64 c, .string t] 27)) := (Below.refl _ _).alloc (Nat.le_refl _) _
  have e3 : w.heap.size < (w.alloc (.cells #[.int .i64 9, .int .i64 a, .int .i64 b, .int .i64 c, .string t] 27)).heap.size := by simp
  rw [addr0] at m0
  simp only [Nat.zero_add] at m0
  generalize w.alloc (.cells #[.int .i64 9, .int .i64 a, .int .i64 b, .int .i64 c, .string t] 27) = w1 at *
  rintro e w2 ⟨rfl, hb2⟩
  have k0 := (hb2.cell (p := ⟨w.heap.size, 0, none⟩) e3).trans m0
  have hbw : Below w.heap.size w w2 := hb1.trans (hb2.mono (Nat.le_of_lt e3))
  have HW2 := hide hbw
  have k3 : w2.cell? ⟨Wb, 3, none⟩ = some (.slice V.ax 0 V.cx) := ((H.out.below hbw).blk.cell 3).trans (by simp only [WV.cells, WV.vx, hx0]; rfl)
  clear m0 hb1 hb2 HT hbw
  go_wp2
  go_ret
  exact ⟨rfl, Nxt.stay H.out HBD.out HW2.out⟩

theorem step_rd (Wb B n : Nat) (V : WV) (s : St) (w : World) (o : OpD) (ho : o.Ok) (hk : kindRd o.k) (h : WI w Wb B V s) (hbd : Bd n s) (hn : n ≤ 16384) (hB0 : 0 < B) (htab : Hid (Tab w)) (hx0 : V.nx = 0) :
    Calls Tryz.prog 11 #[.pointer (some ⟨Wb, 0, none⟩), .agg o.cells] w fun e w' => e = .returned (.bool true) ∧ Nxw (n + 1) w w' Wb B V := by
  cases hio : isOwn o.k with
  | true => exact (step_own Wb B n V s w o ho hio h hbd hn).mono (fun _ _ h => ⟨h.1, h.2.weak⟩)
  | false =>
    by_cases h9 : o.k = 9
    · exact (step_those Wb B n V s w o ho h9 h hbd hn hx0).mono (fun _ _ h => ⟨h.1, h.2.weak⟩)
    · exact step_pure Wb B n V s w o ho hio hk (by simpa using h9) h hbd hn hB0 htab

end Go.Proofs.YtgohikopopgokaaGreatDoor
