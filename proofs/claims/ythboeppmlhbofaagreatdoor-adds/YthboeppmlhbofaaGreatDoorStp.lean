/-
  traillaw's step, for the steps of Reads: the walk.
-/
import Derived.Test.YthboeppmlhbofaaGreatDoorPur
namespace Go.Proofs.YthboeppmlhbofaaGreatDoor
open Go.RowKit Txt
set_option maxRecDepth 100000

/-- a step that Reads plays -/
def kindRd (k : Int) : Prop := k < 10 ∨ k = 10 ∨ k = 11

theorem pure_rd (Wb B n : Nat) (V : WV) (s : St) (w : World) (o : OpD) (ho : o.Ok) (hk : kindRd o.k) (h : WI w Wb B V s) (hbd : Bd n s) (hn : n ≤ 16384) (hB0 : 0 < B) (htab : Hid (Tab w)) :
    Calls Tryz.prog 15 #[.pointer (some ⟨Wb, 0, none⟩), .agg o.cells] w fun e w' => e = .returned (.bool true) ∧ Nxw (n + 1) w w' Wb B V := by
  have n1 : (o.k == 12) = false := by simp; rcases hk with h | h | h <;> omega
  have n2 : (o.k == 13) = false := by simp; rcases hk with h | h | h <;> omega
  have n3 : (o.k == 19) = false := by simp; rcases hk with h | h | h <;> omega
  by_cases h10 : o.k = 10
  · by_cases h0 : s.texts.length = 0
    · exact (pure_none Wb B n V s w o h hbd hn (.inl ⟨by simpa using h10, h0⟩) n1 n2 n3).mono (fun _ _ h => ⟨h.1, h.2.weak⟩)
    · exact pure_read Wb B n V s w o ho h10 h hbd hn (by omega)
  · by_cases h11 : o.k = 11
    · exact (pure_write Wb B n V s w o h11 h hbd hn hB0 htab).mono (fun _ _ h => ⟨h.1, h.2.weak⟩)
    · exact (pure_none Wb B n V s w o h hbd hn (.inr ⟨by simpa using h10, by simpa using h11⟩) n1 n2 n3).mono (fun _ _ h => ⟨h.1, h.2.weak⟩)

set_option maxHeartbeats 2000000 in
theorem step_own (Wb B n : Nat) (V : WV) (s : St) (w : World) (o : OpD) (ho : o.Ok) (hio : isOwn o.k = true) (h : WI w Wb B V s) (hbd : Bd n s) (hn : n ≤ 16384) :
    Calls Tryz.prog 12 #[.pointer (some ⟨Wb, 0, none⟩), .agg o.cells] w fun e w' => e = .returned (.bool true) ∧ Nxt (n + 1) w w' Wb B V := by
  have hBs : B ≤ w.heap.size := Nat.le_trans h.base (Nat.le_of_lt h.blk.lt)
  have HB : Hid (∀ x, Below w.heap.size w (w.alloc x)) := fun x => (Below.refl _ _).alloc (Nat.le_refl _) x
  have HT : Hid (∀ x, Calls Tryz.prog 14 #[.pointer (some ⟨Wb, 0, none⟩), .agg o.cells] (w.alloc x) fun e w' => e = .returned (.bool true) ∧ Nxt (n + 1) w w' Wb B V) := by
    intro x
    refine (owner_any Wb B n V s (w.alloc x) o ho (h.below (HB.out x)) hbd hn).mono ?_
    rintro e w' ⟨rfl, hm⟩
    obtain ⟨V', s', i1, i2, i3, i4, i5, i6⟩ := hm.yes hio
    exact ⟨by rw [hio], V', s', i1, i2, ((HB.out _).mono hBs).trans i3, i4, i5, Frm.pre (HB.out _) i6⟩
  obtain ⟨k, a, b, c, t⟩ := o
  simp only [OpD.cells] at *
  clear h hbd ho hio
  go_enter Tryz.func12, Tryz.ntmps12
  go_wp2_with fail
  refine (unhide HT _).mono ?_
  rintro e w' ⟨rfl, hN⟩
  have HN := hide hN
  clear hN
  go_wp2
  go_ret
  exact ⟨rfl, HN.out⟩

set_option maxHeartbeats 4000000 in
theorem step_pure (Wb B n : Nat) (V : WV) (s : St) (w : World) (o : OpD) (ho : o.Ok) (hio : isOwn o.k = false) (hk : kindRd o.k) (h9 : (o.k == 9) = false) (h : WI w Wb B V s) (hbd : Bd n s) (hn : n ≤ 16384) (hB0 : 0 < B) (htab : Hid (Tab w)) :
    Calls Tryz.prog 12 #[.pointer (some ⟨Wb, 0, none⟩), .agg o.cells] w fun e w' => e = .returned (.bool true) ∧ Nxw (n + 1) w w' Wb B V := by
  have hBs : B ≤ w.heap.size := Nat.le_trans h.base (Nat.le_of_lt h.blk.lt)
  have HB : Hid (∀ x, Below w.heap.size w (w.alloc x)) := fun x => (Below.refl _ _).alloc (Nat.le_refl _) x
  have HT : Hid (∀ x, Calls Tryz.prog 14 #[.pointer (some ⟨Wb, 0, none⟩), .agg o.cells] (w.alloc x) fun e w' => e = .returned (.bool false) ∧ Below (w.alloc x).heap.size (w.alloc x) w') := by
    intro x
    refine (owner_any Wb B n V s (w.alloc x) o ho (h.below (HB.out x)) hbd hn).mono ?_
    rintro e w' ⟨rfl, hm⟩
    exact ⟨by rw [hio], hm.no hio⟩
  have HP : Hid (∀ w1, Below w.heap.size w w1 → Calls Tryz.prog 15 #[.pointer (some ⟨Wb, 0, none⟩), .agg o.cells] w1 fun e w' => e = .returned (.bool true) ∧ Nxw (n + 1) w w' Wb B V) := by
    intro w1 hb
    refine (pure_rd Wb B n V s w1 o ho hk (h.below hb) hbd hn hB0 (Tab.below htab.out hb (by omega))).mono ?_
    rintro e w' ⟨rfl, V', s', i1, i2, i3, i4, i5⟩
    exact ⟨rfl, V', s', i1, i2, (hb.mono hBs).trans i3, i4, i5⟩
  obtain ⟨k, a, b, c, t⟩ := o
  have hk14 : (k < 14) := by rcases hk with h | h | h <;> simp only at h <;> omega
  simp only [OpD.cells] at *
  have h9' : ¬ k = 9 := by simpa using h9
  clear h hbd ho hio hk
  go_enter Tryz.func12, Tryz.ntmps12
  go_wp2_with fail
  refine (unhide HT _).mono ?_
  have e1 := fun j u hu => new_cells1 w [.int .i64 k, .int .i64 a, .int .i64 b, .int .i64 c, .string t] 27 j u hu
  have hb1 : Below w.heap.size w (w.alloc (.cells #[.int .i64 k, .int .i64 a, .int .i64 b, .int .i64 c, .string t] 27)) := (Below.refl _ _).alloc (Nat.le_refl _) _
  have e3 : w.heap.size < (w.alloc (.cells #[.int .i64 k, .int .i64 a, .int .i64 b, .int .i64 c, .string t] 27)).heap.size := by simp
  have m0 := e1 0 _ rfl
  have m1 := e1 1 _ rfl
  have m2 := e1 2 _ rfl
  have m3 := e1 3 _ rfl
  have m4 := e1 4 _ rfl
  rw [addr0] at m0 m1 m2 m3 m4
  simp only [Nat.zero_add] at m0 m1 m2 m3 m4
  clear e1
  generalize w.alloc (.cells #[.int .i64 k, .int .i64 a, .int .i64 b, .int .i64 c, .string t] 27) = w1 at *
  rintro e w2 ⟨rfl, hb2⟩
  have k0 := (hb2.cell (p := ⟨w.heap.size, 0, none⟩) e3).trans m0
  have k1 := (hb2.cell (p := ⟨w.heap.size, 1, none⟩) e3).trans m1
  have k2 := (hb2.cell (p := ⟨w.heap.size, 2, none⟩) e3).trans m2
  have k3 := (hb2.cell (p := ⟨w.heap.size, 3, none⟩) e3).trans m3
  have k4 := (hb2.cell (p := ⟨w.heap.size, 4, none⟩) e3).trans m4
  have HW2 : Hid (Below w.heap.size w w2) := hb1.trans (hb2.mono (Nat.le_of_lt e3))
  clear m0 m1 m2 m3 m4 hb1 hb2 HT
  go_wp2_with fail
  refine (unhide HP _ HW2.out).mono ?_
  rintro e w' ⟨rfl, hN⟩
  have HN := hide hN
  clear hN
  go_wp2
  go_ret
  exact ⟨rfl, HN.out⟩

set_option maxHeartbeats 4000000 in
theorem step_those (Wb B n : Nat) (V : WV) (s : St) (w : World) (o : OpD) (ho : o.Ok) (hk : o.k = 9) (h : WI w Wb B V s) (hbd : Bd n s) (hn : n ≤ 16384) (hx0 : V.nx = 0) :
    Calls Tryz.prog 12 #[.pointer (some ⟨Wb, 0, none⟩), .agg o.cells] w fun e w' => e = .returned (.bool true) ∧ Nxt (n + 1) w w' Wb B V := by
  have hBs : B ≤ w.heap.size := Nat.le_trans h.base (Nat.le_of_lt h.blk.lt)
  have HB : Hid (∀ x, Below w.heap.size w (w.alloc x)) := fun x => (Below.refl _ _).alloc (Nat.le_refl _) x
  have HT : Hid (∀ x, Calls Tryz.prog 14 #[.pointer (some ⟨Wb, 0, none⟩), .agg o.cells] (w.alloc x) fun e w' => e = .returned (.bool false) ∧ Below (w.alloc x).heap.size (w.alloc x) w') := by
    intro x
    refine (owner_any Wb B n V s (w.alloc x) o ho (h.below (HB.out x)) hbd hn).mono ?_
    have hio : isOwn o.k = false := by rw [hk]; rfl
    rintro e w' ⟨rfl, hm⟩
    exact ⟨by rw [hio], hm.no hio⟩
  have H := hide h
  have HBD := hide hbd
  obtain ⟨k, a, b, c, t⟩ := o
  subst hk
  simp only [OpD.cells] at *
  clear h hbd ho
  go_enter Tryz.func12, Tryz.ntmps12
  go_wp2_with fail
  refine (unhide HT _).mono ?_
  have m0 := new_cells1 w [.int .i64 9, .int .i64 a, .int .i64 b, .int .i64 c, .string t] 27 0 _ rfl
  have hb1 : Below w.heap.size w (w.alloc (.cells #[.int .i64 9, .int .i64 a, .int .i64 b, .int .i64 c, .string t] 27)) := (Below.refl _ _).alloc (Nat.le_refl _) _
  have e3 : w.heap.size < (w.alloc (.cells #[.int .i64 9, .int .i64 a, .int .i64 b, .int .i64 c, .string t] 27)).heap.size := by simp
  rw [addr0] at m0
  simp only [Nat.zero_add] at m0
  generalize w.alloc (.cells #[.int .i64 9, .int .i64 a, .int .i64 b, .int .i64 c, .string t] 27) = w1 at *
  rintro e w2 ⟨rfl, hb2⟩
  have k0 := (hb2.cell (p := ⟨w.heap.size, 0, none⟩) e3).trans m0
  have hbw : Below w.heap.size w w2 := hb1.trans (hb2.mono (Nat.le_of_lt e3))
  have HW2 := hide hbw
  have k3 : w2.cell? ⟨Wb, 3, none⟩ = some (.slice V.ax 0 V.cx) := ((H.out.below hbw).blk.cell 3).trans (by simp only [WV.cells, WV.vx, hx0]; rfl)
  clear m0 hb1 hb2 HT hbw
  go_wp2
  go_ret
  exact ⟨rfl, Nxt.stay H.out HBD.out HW2.out⟩

theorem step_rd (Wb B n : Nat) (V : WV) (s : St) (w : World) (o : OpD) (ho : o.Ok) (hk : kindRd o.k) (h : WI w Wb B V s) (hbd : Bd n s) (hn : n ≤ 16384) (hB0 : 0 < B) (htab : Hid (Tab w)) (hx0 : V.nx = 0) :
    Calls Tryz.prog 12 #[.pointer (some ⟨Wb, 0, none⟩), .agg o.cells] w fun e w' => e = .returned (.bool true) ∧ Nxw (n + 1) w w' Wb B V := by
  cases hio : isOwn o.k with
  | true => exact (step_own Wb B n V s w o ho hio h hbd hn).mono (fun _ _ h => ⟨h.1, h.2.weak⟩)
  | false =>
    by_cases h9 : o.k = 9
    · exact (step_those Wb B n V s w o ho h9 h hbd hn hx0).mono (fun _ _ h => ⟨h.1, h.2.weak⟩)
    · exact step_pure Wb B n V s w o ho hio hk (by simpa using h9) h hbd hn hB0 htab

end Go.Proofs.YthboeppmlhbofaaGreatDoor

/-
  traillaw's small: the walk.
-/
namespace Go.Proofs.YthboeppmlhbofaaGreatDoor
open Go.RowKit Txt
set_option maxRecDepth 100000

def opZ : OpD := ⟨0, 0, 0, 0, ByteArray.empty⟩
/-- a list of steps lies there -/
def OpsAt (w : World) (a : Option Addr) (ops : List OpD) : Prop :=
  ops = [] ∨ ∃ b off, a = some ⟨b, off, none⟩ ∧ ∀ j, j < ops.length → ∀ i v, (ops.getD j opZ).cells[i]? = some v → w.cell? ⟨b, off + j * 5 + i, none⟩ = some v
theorem OpsAt.get {w : World} {a : Option Addr} {ops : List OpD} (h : OpsAt w a ops) (hp : 0 < ops.length) :
    ∃ b off, a = some ⟨b, off, none⟩ ∧ ∀ j, j < ops.length → ∀ i v, (ops.getD j opZ).cells[i]? = some v → w.cell? ⟨b, off + j * 5 + i, none⟩ = some v := by
  rcases h with rfl | h
  · simp at hp
  · exact h
theorem OpsAt.kept {w w' : World} {a : Option Addr} {ops : List OpD} (h : OpsAt w a ops) (hk : ∀ b off v, w.cell? ⟨b, off, none⟩ = some v → w'.cell? ⟨b, off, none⟩ = some v) : OpsAt w' a ops := by
  rcases h with rfl | ⟨b, off, rfl, h⟩
  · exact .inl rfl
  · exact .inr ⟨b, off, rfl, fun j hj i v hv => hk _ _ _ (h j hj i v hv)⟩
theorem OpsAt.below {w w' : World} {a : Option Addr} {ops : List OpD} (h : OpsAt w a ops) (hb : Below w.heap.size w w') : OpsAt w' a ops :=
  h.kept fun b off _ hv => (hb.cell (p := ⟨b, off, none⟩) (World.block_lt_of_cell? w _ hv)).trans hv

/-- the bytes of their texts -/
def bytesOf (ops : List OpD) : Nat := (ops.map fun o => o.s.size).sum
theorem bytesOf_take (ops : List OpD) (k : Nat) (h : k < ops.length) : bytesOf (ops.take (k + 1)) = bytesOf (ops.take k) + (ops.getD k opZ).s.size := by
  rw [List.take_succ_eq_append_getElem h, List.getD_eq_getElem?_getD, List.getElem?_eq_getElem h]
  simp only [bytesOf, List.map_append, List.sum_append, List.map_cons, List.map_nil, List.sum_cons, List.sum_nil, Nat.add_zero, Option.getD_some]
theorem bytesOf_le (ops : List OpD) (k : Nat) : bytesOf (ops.take k) ≤ bytesOf ops := by
  have h : bytesOf ops = bytesOf (ops.take k) + bytesOf (ops.drop k) := by
    unfold bytesOf
    rw [← List.sum_append, ← List.map_append, List.take_append_drop]
  omega
theorem bytesOf_mem {ops : List OpD} {o : OpD} (h : o ∈ ops) : o.s.size ≤ bytesOf ops := by
  induction ops with
  | nil => simp at h
  | cons x xs ih =>
    simp only [bytesOf, List.map_cons, List.sum_cons]
    rcases List.mem_cons.1 h with rfl | h
    · omega
    · have := ih h
      simp only [bytesOf] at this
      omega
def smallB (ops : List OpD) : Bool := decide (ops.length + bytesOf ops ≤ 16384)

set_option maxHeartbeats 2000000 in
theorem small_any (a : Option Addr) (c : Nat) (ops : List OpD) (w : World) (h : OpsAt w a ops) (hlen : ops.length ≤ 9223372036854775807) (hs : Hid (∀ o ∈ ops, o.s.size ≤ 4611686018427387904)) :
    Calls Tryz.prog 10 #[.slice a ops.length c] w fun e w' => e = .returned (.bool (smallB ops)) ∧ w' = w := by
  by_cases hbig : 16384 < ops.length
  · have hsb : Hid (smallB ops = false) := by show _ = _; simp [smallB]; omega
    have hbi : ((ops.length : Int) > 16384) := by omega
    go_enter Tryz.func10, Tryz.ntmps10
    go_wp2
    go_ret
    exact ⟨by rw [hsb.out]; rfl, rfl⟩
  · have H := hide h
    have hbi : ((ops.length : Int) ≤ 16384) := by omega
    clear h
    go_enter Tryz.func10, Tryz.ntmps10
    go_wp2
    go_loop [3, 4] (fun n i => ∃ k : Nat, k ≤ ops.length ∧ i = .int .i64 k ∧ n = .int .i64 ((ops.length + bytesOf (ops.take k) : Nat) : Int) ∧ ops.length + bytesOf (ops.take k) ≤ 16384) (fun _ i => ops.length - (intOf i).toNat)
    case atStart => exact ⟨0, Nat.zero_le _, rfl, by simp [bytesOf], by simp [bytesOf]; omega⟩
    case round =>
      obtain ⟨k, hk, rfl, rfl, hle⟩ := hrel
      by_cases hlt : k < ops.length
      · have hb1 := bytesOf_take ops k hlt
        have hb2 := bytesOf_le ops (k + 1)
        have hsk := hs.out _ (show ops.getD k opZ ∈ ops by rw [List.getD_eq_getElem?_getD, List.getElem?_eq_getElem hlt]; exact List.getElem_mem hlt)
        obtain ⟨b, off, rfl, hc⟩ := H.out.get (by omega)
        have c4 := hc k hlt 4 (.string (ops.getD k opZ).s) rfl
        clear hc
        generalize hm1 : bytesOf (ops.take (k + 1)) = m1 at hb1 hb2
        generalize hm0 : bytesOf (ops.take k) = m0 at hb1 hle ⊢
        generalize (ops.getD k opZ).s = t at *
        by_cases hov : 16384 < ops.length + m1
        · have hsb : Hid (smallB ops = false) := by show _ = _; simp [smallB]; omega
          have hoi : ((ops.length : Int) + m0 + t.size > 16384) := by omega
          go_wp2
          go_ret
          exact ⟨by rw [hsb.out]; rfl, rfl⟩
        · have hoi : ((ops.length : Int) + m0 + t.size ≤ 16384) := by omega
          have HM1 := hide hm1
          have HM0 := hide hm0
          clear hm1 hm0
          go_wp2
          go_round
          case rel => exact ⟨k + 1, by omega, by go_num, by rw [HM1.out, hb1]; go_num, by rw [HM1.out]; omega⟩
          case measure => simp [intOf]; omega
      · obtain rfl : k = ops.length := by omega
        have hsb : Hid (smallB ops = true) := by
          show _ = _
          rw [List.take_length] at hle
          simpa [smallB] using hle
        go_wp2
        go_ret
        exact ⟨by rw [hsb.out]; rfl, rfl⟩

end Go.Proofs.YthboeppmlhbofaaGreatDoor

/-
  traillaw's upTo, over the steps of Reads: the walk.
-/
namespace Go.Proofs.YthboeppmlhbofaaGreatDoor
open Go.RowKit Txt
set_option maxRecDepth 100000

def V0 : WV := ⟨none, none, none, none, none, none, 0, 0, 0, 0, 0, 0, 0, [], [], [], []⟩
def s0 : St := ⟨[], [], [], [], [], 0⟩
theorem wi_new (w : World) : WI (w.alloc (.cells #[.slice none 0 0, .slice none 0 0, .slice none 0 0, .slice none 0 0, .slice none 0 0, .slice none 0 0, .int .i64 0] 34)) w.heap.size w.heap.size V0 s0 := by
  have hn : ∀ (w : World) (B e : Nat), w.ownsRow B e 1 (.slice none 0 0) 0 [] := fun w B e => ⟨rfl, .inl ⟨rfl, rfl⟩⟩
  refine ⟨?_, Nat.le_refl _, hn _ _ _, hn _ _ _, trivial, hn _ _ _, hn _ _ _, hn _ _ _, trivial, hn _ _ _, trivial, apart_nil _, apart_nil _, apart_nil _, fun u hu => ?_, fun u hu => ?_, fun u hu => ?_⟩
  · show (w.alloc _).heap[w.heap.size]? = _
    simp [World.alloc, WV.cells, V0, s0, WV.vl, WV.vc, WV.vt, WV.vx, WV.vo, WV.vw, -World.alloc_eq]
  · simp [V0] at hu
  · simp [V0] at hu
  · simp [V0] at hu
theorem bd_new : Bd 0 s0 := ⟨Nat.le_refl _, by simp [s0], fun c hc => by simp [s0] at hc, Nat.le_refl _, fun c hc => by simp [s0] at hc, Nat.le_refl _, fun c hc => by simp [s0] at hc, by simp [s0], rfl⟩

set_option maxHeartbeats 4000000 in
theorem upTo_rd (a : Option Addr) (c : Nat) (ops : List OpD) (w : World) (h : OpsAt w a ops) (hlen : ops.length ≤ 16384) (hok : Hid (∀ o ∈ ops, o.Ok ∧ kindRd o.k)) (h0 : 0 < w.heap.size) (htab : Hid (Tab w)) :
    Calls Tryz.prog 11 #[.slice a ops.length c] w fun e w' => e = .returned (.int .i64 (-1)) ∧ Below w.heap.size w w' := by
  have HW := hide (wi_new w)
  have HB : Hid (∀ x, Below w.heap.size w (w.alloc x)) := fun x => (Below.refl _ _).alloc (Nat.le_refl _) x
  have H := hide h
  clear h
  go_enter Tryz.func11, Tryz.ntmps11
  go_wp2
  go_loopw [4] (fun i wr => ∃ (k : Nat) (V : WV) (s : St), k ≤ ops.length ∧ i = .int .i64 k ∧ Hid (WI wr w.heap.size w.heap.size V s) ∧ Hid (Bd k s) ∧ Hid (Below w.heap.size w wr) ∧ V.nx = 0) (fun i _ => ops.length - (intOf i).toNat)
  case atStart => exact ⟨0, V0, s0, Nat.zero_le _, rfl, HW, bd_new, HB.out _, rfl⟩
  case round =>
    clear HW
    obtain ⟨k, V, s, hk, rfl, HI, HD, HL, hx0⟩ := hrel
    by_cases hlt : k < ops.length
    · have hmem : ops.getD k opZ ∈ ops := by rw [List.getD_eq_getElem?_getD, List.getElem?_eq_getElem hlt]; exact List.getElem_mem hlt
      obtain ⟨o1, o2⟩ := hok.out _ hmem
      obtain ⟨b, off, rfl, hc⟩ := (H.out.below HL.out).get (by omega)
      have c0 := hc k hlt 0 _ rfl
      have c1 := hc k hlt 1 _ rfl
      have c2 := hc k hlt 2 _ rfl
      have c3 := hc k hlt 3 _ rfl
      have c4 := hc k hlt 4 _ rfl
      clear hc hmem
      generalize ops.getD k opZ = o at *
      have HS := hide (step_rd w.heap.size w.heap.size k V s wr o o1 o2 HI.out HD.out (by omega) h0 (Tab.below htab.out HL.out h0) hx0)
      obtain ⟨ok, oa, ob, oc, os⟩ := o
      simp only [OpD.cells, Nat.add_zero] at *
      clear o1 o2
      go_wp2_with fail
      refine (unhide HS).mono ?_
      rintro e w1 ⟨rfl, V', s', i1, i2, i3, i4, _⟩
      have HI1 := hide i1
      have HD1 := hide i2
      have HL1 := hide (HL.out.trans i3)
      have hx1 : V'.nx = 0 := i4.trans hx0
      have LK := hide (looks_any w.heap.size w.heap.size (k + 1) V' s' w1 i1 i2 (by omega))
      clear i1 i2 i3 i4 HS c0 c1 c2 c3 c4 HI HD HL hx0
      go_wp2_with fail
      refine (unhide LK).mono ?_
      rintro e w2 ⟨rfl, m, hw⟩
      have HI2 : Hid (WI w2 w.heap.size w.heap.size V' s') := by rw [hw]; exact HI1.out.below (below_drew_size _ _)
      have HL2 : Hid (Below w.heap.size w w2) := by rw [hw]; exact below_drewN HL1.out _
      clear hw LK HI1 HL1
      go_wp2
      go_roundw
      case rel => exact ⟨k + 1, V', s', by omega, by go_num, HI2, HD1, HL2, hx1⟩
      case measure => simp [intOf]; omega
    · obtain rfl : k = ops.length := by omega
      go_wp2
      go_ret
      exact ⟨rfl, HL.out⟩

end Go.Proofs.YthboeppmlhbofaaGreatDoor
