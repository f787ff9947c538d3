/-
  traillaw's step, of the kind 14: the walk.
-/
import Derived.Test.YthboeppmlhbofaaGreatDoorAin
import Derived.Deep.RegionLaw
import Derived.Test.YthboeppmlhbofaaGreatDoorStp
namespace Go.Proofs.YthboeppmlhbofaaGreatDoor
open Go.RowKit Txt
set_option maxRecDepth 100000

set_option maxHeartbeats 4000000 in
theorem step_14 (Wb B n : Nat) (V : WV) (s : St) (ds : List SolD) (w : World) (o : OpD) (ho : o.Ok) (hk : o.k = 14) (h : AI w Wb B n V s ds) (hn : n ≤ 16384) (hp : 0 < ds.length) :
    Calls Tryz.prog 12 #[.pointer (some ⟨Wb, 0, none⟩), .agg o.cells] w fun e w' => e = .returned (.bool true) ∧ AN (n + 1) w w' Wb B := by
  have hBs := h.hB
  have HB : Hid (∀ x, Below w.heap.size w (w.alloc x)) := fun x => (Below.refl _ _).alloc (Nat.le_refl _) x
  have HT : Hid (∀ x, Calls Tryz.prog 14 #[.pointer (some ⟨Wb, 0, none⟩), .agg o.cells] (w.alloc x) fun e w' => e = .returned (.bool false) ∧ Below (w.alloc x).heap.size (w.alloc x) w') := by
    intro x
    refine (owner_any Wb B n V s (w.alloc x) o ho (h.i.below (HB.out x)) h.b hn).mono ?_
    have hio : isOwn o.k = false := by rw [hk]; rfl
    rintro e w' ⟨rfl, hm⟩
    exact ⟨by rw [hio], hm.no hio⟩
  have HK : Hid (∀ w, Calls Tryz.prog 22 #[.pointer (some ⟨Wb, 0, none⟩), .slice none 0 0] w fun e w' => e = .returned (.tuple #[]) ∧ w' = w) := fun w => keep_none Wb w
  have hdl := h.dl
  have hnx := h.nx
  have p1 := fun w => pick_any o.a V.nx w (by omega) (by omega) ho.a.1 ho.a.2
  have l1 := pickN_lt o.a V.nx (by omega)
  generalize pickN o.a V.nx = j1 at p1 l1
  obtain ⟨g, d, eg, hd, c1⟩ := h.at_ (j := j1) (by omega)
  obtain ⟨bd1, bd2, bd3⟩ := h.bd j1 d hd
  have hgt : g < w.heap.size := World.block_lt_of_cell? w _ c1
  have BD3 := hide bd3
  have P1 := hide p1
  have HD := hide hd
  have H := hide h
  have HEG := hide eg
  have q1 : (0 : Int) ≤ (j1 : Int) := by omega
  have q3 : (j1 : Int) < (V.nx : Int) := by omega
  have hnz : ((V.nx : Int) == 0) = false := by simp; omega
  have hlt : Wb < w.heap.size := h.i.blk.lt
  obtain ⟨k, a, b, c, t⟩ := o
  subst hk
  simp only [OpD.cells] at *
  clear h ho p1 hd eg hnx bd3 hdl
  go_enter Tryz.func12, Tryz.ntmps12
  go_wp2_with fail
  refine (unhide HT _).mono ?_
  have m0 := new_cells1 w [.int .i64 14, .int .i64 a, .int .i64 b, .int .i64 c, .string t] 27 0 _ rfl
  have m1 := new_cells1 w [.int .i64 14, .int .i64 a, .int .i64 b, .int .i64 c, .string t] 27 1 _ rfl
  have hb1 : Below w.heap.size w (w.alloc (.cells #[.int .i64 14, .int .i64 a, .int .i64 b, .int .i64 c, .string t] 27)) := (Below.refl _ _).alloc (Nat.le_refl _) _
  have e3 : w.heap.size < (w.alloc (.cells #[.int .i64 14, .int .i64 a, .int .i64 b, .int .i64 c, .string t] 27)).heap.size := by simp
  rw [addr0] at m0 m1
  simp only [Nat.zero_add] at m0 m1
  generalize w.alloc (.cells #[.int .i64 14, .int .i64 a, .int .i64 b, .int .i64 c, .string t] 27) = w1 at *
  rintro e w2 ⟨rfl, hb2⟩
  have k0 := (hb2.cell (p := ⟨w.heap.size, 0, none⟩) e3).trans m0
  have k1 := (hb2.cell (p := ⟨w.heap.size, 1, none⟩) e3).trans m1
  have hbw : Below w.heap.size w w2 := hb1.trans (hb2.mono (Nat.le_of_lt e3))
  have HW2 := hide hbw
  have k3 : w2.cell? ⟨Wb, 3, none⟩ = some (.slice (some ⟨g, 0, none⟩) V.nx V.cx) := ((H.out.i.below hbw).blk.cell 3).trans (by simp only [WV.cells, WV.vx, HEG.out]; rfl)
  have kx : w2.cell? ⟨g, j1, none⟩ = some (.pointer (some ⟨d.cb, 0, none⟩)) := (hbw.cell (p := ⟨g, j1, none⟩) hgt).trans c1
  have he2 : w.heap.size < w2.heap.size := Nat.lt_of_lt_of_le e3 hb2.size
  clear m0 m1 hb1 hb2 HT hbw c1 HB
  go_wp2_with fail
  go_quiet ((go_at_call 16; exact Calls.quiet_of_same (unhide P1 _)))
  have hb3 : Below w2.heap.size w2 (w2.drewN nq) := below_drewN (Below.refl _ _) _
  generalize w2.drewN nq = w3 at *
  have HW3 : Hid (Below w.heap.size w w3) := HW2.out.trans (hb3.mono HW2.out.size)
  have y0 := (hb3.cell (p := ⟨w.heap.size, 0, none⟩) he2).trans k0
  have H3 := hide (H.out.below HW3.out)
  have I3 := hide (H3.out.each j1 d HD.out)
  clear hb3 k0 k1 k3 kx HW2 P1 q1 q3 hnz
  have z0 : w3.cell? ⟨Wb, 0, none⟩ = some (.slice V.al s.list.length V.cl) := (H3.out.i.blk.cell 0).trans rfl
  have hll := H3.out.b.list
  have HA := hide (added_any B d V.al V.cl s.list w3 I3.out (own_intsAt H3.out.i.list) (fun ga e hat => (H3.out.out j1 d HD.out _ hat).2.l ga e rfl) (by omega) H3.out.hB (by omega) (by omega))
  go_wp2_with fail
  refine (unhide HA).mono ?_
  rintro e w4 ⟨rfl, d', hs⟩
  have HN := hide ((H3.out.sol HD.out hs (by omega)).pre (HW3.out.mono hBs))
  clear hs HA
  go_wp2_with (go_at_call 22; refine (unhide HK _).mono ?_; rintro e w' ⟨rfl, hw⟩; obtain rfl := hw.symm)
  go_ret
  exact ⟨rfl, HN.out⟩

end Go.Proofs.YthboeppmlhbofaaGreatDoor

/-
  traillaw's step, of the kind 15: the walk.
-/
namespace Go.Proofs.YthboeppmlhbofaaGreatDoor
open Go.RowKit Txt
set_option maxRecDepth 100000

set_option maxHeartbeats 4000000 in
theorem step_15 (Wb B n : Nat) (V : WV) (s : St) (ds : List SolD) (w : World) (o : OpD) (ho : o.Ok) (hk : o.k = 15) (h : AI w Wb B n V s ds) (hn : n ≤ 16384) (hp : 0 < ds.length) :
    Calls Tryz.prog 12 #[.pointer (some ⟨Wb, 0, none⟩), .agg o.cells] w fun e w' => e = .returned (.bool true) ∧ AN (n + 1) w w' Wb B := by
  have hBs := h.hB
  have HB : Hid (∀ x, Below w.heap.size w (w.alloc x)) := fun x => (Below.refl _ _).alloc (Nat.le_refl _) x
  have HT : Hid (∀ x, Calls Tryz.prog 14 #[.pointer (some ⟨Wb, 0, none⟩), .agg o.cells] (w.alloc x) fun e w' => e = .returned (.bool false) ∧ Below (w.alloc x).heap.size (w.alloc x) w') := by
    intro x
    refine (owner_any Wb B n V s (w.alloc x) o ho (h.i.below (HB.out x)) h.b hn).mono ?_
    have hio : isOwn o.k = false := by rw [hk]; rfl
    rintro e w' ⟨rfl, hm⟩
    exact ⟨by rw [hio], hm.no hio⟩
  have HK : Hid (∀ w, Calls Tryz.prog 22 #[.pointer (some ⟨Wb, 0, none⟩), .slice none 0 0] w fun e w' => e = .returned (.tuple #[]) ∧ w' = w) := fun w => keep_none Wb w
  have hdl := h.dl
  have hnx := h.nx
  have p1 := fun w => pick_any o.a V.nx w (by omega) (by omega) ho.a.1 ho.a.2
  have l1 := pickN_lt o.a V.nx (by omega)
  generalize pickN o.a V.nx = j1 at p1 l1
  obtain ⟨g, d, eg, hd, c1⟩ := h.at_ (j := j1) (by omega)
  obtain ⟨bd1, bd2, bd3⟩ := h.bd j1 d hd
  have hgt : g < w.heap.size := World.block_lt_of_cell? w _ c1
  have BD3 := hide bd3
  have P1 := hide p1
  have HD := hide hd
  have H := hide h
  have HEG := hide eg
  have q1 : (0 : Int) ≤ (j1 : Int) := by omega
  have q3 : (j1 : Int) < (V.nx : Int) := by omega
  have hnz : ((V.nx : Int) == 0) = false := by simp; omega
  have hlt : Wb < w.heap.size := h.i.blk.lt
  obtain ⟨k, a, b, c, t⟩ := o
  subst hk
  simp only [OpD.cells] at *
  clear h ho p1 hd eg hnx bd3 hdl
  go_enter Tryz.func12, Tryz.ntmps12
  go_wp2_with fail
  refine (unhide HT _).mono ?_
  have m0 := new_cells1 w [.int .i64 15, .int .i64 a, .int .i64 b, .int .i64 c, .string t] 27 0 _ rfl
  have m1 := new_cells1 w [.int .i64 15, .int .i64 a, .int .i64 b, .int .i64 c, .string t] 27 1 _ rfl
  have hb1 : Below w.heap.size w (w.alloc (.cells #[.int .i64 15, .int .i64 a, .int .i64 b, .int .i64 c, .string t] 27)) := (Below.refl _ _).alloc (Nat.le_refl _) _
  have e3 : w.heap.size < (w.alloc (.cells #[.int .i64 15, .int .i64 a, .int .i64 b, .int .i64 c, .string t] 27)).heap.size := by simp
  rw [addr0] at m0 m1
  simp only [Nat.zero_add] at m0 m1
  generalize w.alloc (.cells #[.int .i64 15, .int .i64 a, .int .i64 b, .int .i64 c, .string t] 27) = w1 at *
  rintro e w2 ⟨rfl, hb2⟩
  have k0 := (hb2.cell (p := ⟨w.heap.size, 0, none⟩) e3).trans m0
  have k1 := (hb2.cell (p := ⟨w.heap.size, 1, none⟩) e3).trans m1
  have hbw : Below w.heap.size w w2 := hb1.trans (hb2.mono (Nat.le_of_lt e3))
  have HW2 := hide hbw
  have k3 : w2.cell? ⟨Wb, 3, none⟩ = some (.slice (some ⟨g, 0, none⟩) V.nx V.cx) := ((H.out.i.below hbw).blk.cell 3).trans (by simp only [WV.cells, WV.vx, HEG.out]; rfl)
  have kx : w2.cell? ⟨g, j1, none⟩ = some (.pointer (some ⟨d.cb, 0, none⟩)) := (hbw.cell (p := ⟨g, j1, none⟩) hgt).trans c1
  have he2 : w.heap.size < w2.heap.size := Nat.lt_of_lt_of_le e3 hb2.size
  clear m0 m1 hb1 hb2 HT hbw c1 HB
  go_wp2_with fail
  go_quiet ((go_at_call 16; exact Calls.quiet_of_same (unhide P1 _)))
  have hb3 : Below w2.heap.size w2 (w2.drewN nq) := below_drewN (Below.refl _ _) _
  generalize w2.drewN nq = w3 at *
  have HW3 : Hid (Below w.heap.size w w3) := HW2.out.trans (hb3.mono HW2.out.size)
  have y0 := (hb3.cell (p := ⟨w.heap.size, 0, none⟩) he2).trans k0
  have H3 := hide (H.out.below HW3.out)
  have I3 := hide (H3.out.each j1 d HD.out)
  clear hb3 k0 k1 k3 kx HW2 P1 q1 q3 hnz
  have HA := hide (reset_any B d w3 I3.out [])
  go_wp2_with fail
  refine (unhide HA).mono ?_
  rintro e w4 ⟨rfl, d', hs⟩
  have HN := hide ((H3.out.sol HD.out hs (by simp)).pre (HW3.out.mono hBs))
  clear hs HA
  go_wp2_with (go_at_call 22; refine (unhide HK _).mono ?_; rintro e w' ⟨rfl, hw⟩; obtain rfl := hw.symm)
  go_ret
  exact ⟨rfl, HN.out⟩

end Go.Proofs.YthboeppmlhbofaaGreatDoor

/-
  traillaw's step, of the kind 20: the walk.
-/
namespace Go.Proofs.YthboeppmlhbofaaGreatDoor
open Go.RowKit Txt
set_option maxRecDepth 100000

set_option maxHeartbeats 4000000 in
theorem step_20 (Wb B n : Nat) (V : WV) (s : St) (ds : List SolD) (w : World) (o : OpD) (ho : o.Ok) (hk : o.k = 20) (h : AI w Wb B n V s ds) (hn : n ≤ 16384) (hp : 0 < ds.length) :
    Calls Tryz.prog 12 #[.pointer (some ⟨Wb, 0, none⟩), .agg o.cells] w fun e w' => e = .returned (.bool true) ∧ AN (n + 1) w w' Wb B := by
  have hBs := h.hB
  have HB : Hid (∀ x, Below w.heap.size w (w.alloc x)) := fun x => (Below.refl _ _).alloc (Nat.le_refl _) x
  have HT : Hid (∀ x, Calls Tryz.prog 14 #[.pointer (some ⟨Wb, 0, none⟩), .agg o.cells] (w.alloc x) fun e w' => e = .returned (.bool false) ∧ Below (w.alloc x).heap.size (w.alloc x) w') := by
    intro x
    refine (owner_any Wb B n V s (w.alloc x) o ho (h.i.below (HB.out x)) h.b hn).mono ?_
    have hio : isOwn o.k = false := by rw [hk]; rfl
    rintro e w' ⟨rfl, hm⟩
    exact ⟨by rw [hio], hm.no hio⟩
  have HK : Hid (∀ w, Calls Tryz.prog 22 #[.pointer (some ⟨Wb, 0, none⟩), .slice none 0 0] w fun e w' => e = .returned (.tuple #[]) ∧ w' = w) := fun w => keep_none Wb w
  have hdl := h.dl
  have hnx := h.nx
  have p1 := fun w => pick_any o.a V.nx w (by omega) (by omega) ho.a.1 ho.a.2
  have l1 := pickN_lt o.a V.nx (by omega)
  generalize pickN o.a V.nx = j1 at p1 l1
  obtain ⟨g, d, eg, hd, c1⟩ := h.at_ (j := j1) (by omega)
  obtain ⟨bd1, bd2, bd3⟩ := h.bd j1 d hd
  have hgt : g < w.heap.size := World.block_lt_of_cell? w _ c1
  have BD3 := hide bd3
  have P1 := hide p1
  have HD := hide hd
  have H := hide h
  have HEG := hide eg
  have q1 : (0 : Int) ≤ (j1 : Int) := by omega
  have q3 : (j1 : Int) < (V.nx : Int) := by omega
  have hnz : ((V.nx : Int) == 0) = false := by simp; omega
  have hlt : Wb < w.heap.size := h.i.blk.lt
  obtain ⟨k, a, b, c, t⟩ := o
  subst hk
  simp only [OpD.cells] at *
  clear h ho p1 hd eg hnx bd3 hdl
  go_enter Tryz.func12, Tryz.ntmps12
  go_wp2_with fail
  refine (unhide HT _).mono ?_
  have m0 := new_cells1 w [.int .i64 20, .int .i64 a, .int .i64 b, .int .i64 c, .string t] 27 0 _ rfl
  have m1 := new_cells1 w [.int .i64 20, .int .i64 a, .int .i64 b, .int .i64 c, .string t] 27 1 _ rfl
  have hb1 : Below w.heap.size w (w.alloc (.cells #[.int .i64 20, .int .i64 a, .int .i64 b, .int .i64 c, .string t] 27)) := (Below.refl _ _).alloc (Nat.le_refl _) _
  have e3 : w.heap.size < (w.alloc (.cells #[.int .i64 20, .int .i64 a, .int .i64 b, .int .i64 c, .string t] 27)).heap.size := by simp
  rw [addr0] at m0 m1
  simp only [Nat.zero_add] at m0 m1
  generalize w.alloc (.cells #[.int .i64 20, .int .i64 a, .int .i64 b, .int .i64 c, .string t] 27) = w1 at *
  rintro e w2 ⟨rfl, hb2⟩
  have k0 := (hb2.cell (p := ⟨w.heap.size, 0, none⟩) e3).trans m0
  have k1 := (hb2.cell (p := ⟨w.heap.size, 1, none⟩) e3).trans m1
  have hbw : Below w.heap.size w w2 := hb1.trans (hb2.mono (Nat.le_of_lt e3))
  have HW2 := hide hbw
  have k3 : w2.cell? ⟨Wb, 3, none⟩ = some (.slice (some ⟨g, 0, none⟩) V.nx V.cx) := ((H.out.i.below hbw).blk.cell 3).trans (by simp only [WV.cells, WV.vx, HEG.out]; rfl)
  have kx : w2.cell? ⟨g, j1, none⟩ = some (.pointer (some ⟨d.cb, 0, none⟩)) := (hbw.cell (p := ⟨g, j1, none⟩) hgt).trans c1
  have he2 : w.heap.size < w2.heap.size := Nat.lt_of_lt_of_le e3 hb2.size
  clear m0 m1 hb1 hb2 HT hbw c1 HB
  go_wp2_with fail
  go_quiet ((go_at_call 16; exact Calls.quiet_of_same (unhide P1 _)))
  have hb3 : Below w2.heap.size w2 (w2.drewN nq) := below_drewN (Below.refl _ _) _
  generalize w2.drewN nq = w3 at *
  have HW3 : Hid (Below w.heap.size w w3) := HW2.out.trans (hb3.mono HW2.out.size)
  have y0 := (hb3.cell (p := ⟨w.heap.size, 0, none⟩) he2).trans k0
  have H3 := hide (H.out.below HW3.out)
  have I3 := hide (H3.out.each j1 d HD.out)
  clear hb3 k0 k1 k3 kx HW2 P1 q1 q3 hnz
  have z1 : w3.cell? ⟨d.cb, 1, none⟩ = some (.pointer (some ⟨d.gy, 0, none⟩)) := (I3.out.blk.cell 1).trans rfl
  have HA := hide (reads_any B d.gy d.ty d w3 I3.out.blk I3.out.y (by omega))
  go_wp2_with fail
  refine (unhide HA).mono ?_
  rintro e w4 ⟨rfl, hb4⟩
  have HN : Hid (AN (n + 1) w w4 Wb B) := ⟨V, s, ds, (H3.out.below hb4).on, (HW3.out.trans (hb4.mono HW3.out.size)).mono hBs⟩
  clear hb4 HA
  go_wp2_with (go_at_call 22; refine (unhide HK _).mono ?_; rintro e w' ⟨rfl, hw⟩; obtain rfl := hw.symm)
  go_ret
  exact ⟨rfl, HN.out⟩

end Go.Proofs.YthboeppmlhbofaaGreatDoor

/-
  traillaw's step, of the kind 9: the walk.
-/
namespace Go.Proofs.YthboeppmlhbofaaGreatDoor
open Go.RowKit Txt
set_option maxRecDepth 100000

set_option maxHeartbeats 4000000 in
theorem step_9 (Wb B n : Nat) (V : WV) (s : St) (ds : List SolD) (w : World) (o : OpD) (ho : o.Ok) (hk : o.k = 9) (h : AI w Wb B n V s ds) (hn : n ≤ 16384) (hp : 0 < ds.length) :
    Calls Tryz.prog 12 #[.pointer (some ⟨Wb, 0, none⟩), .agg o.cells] w fun e w' => e = .returned (.bool true) ∧ AN (n + 1) w w' Wb B := by
  have hBs := h.hB
  have HB : Hid (∀ x, Below w.heap.size w (w.alloc x)) := fun x => (Below.refl _ _).alloc (Nat.le_refl _) x
  have HT : Hid (∀ x, Calls Tryz.prog 14 #[.pointer (some ⟨Wb, 0, none⟩), .agg o.cells] (w.alloc x) fun e w' => e = .returned (.bool false) ∧ Below (w.alloc x).heap.size (w.alloc x) w') := by
    intro x
    refine (owner_any Wb B n V s (w.alloc x) o ho (h.i.below (HB.out x)) h.b hn).mono ?_
    have hio : isOwn o.k = false := by rw [hk]; rfl
    rintro e w' ⟨rfl, hm⟩
    exact ⟨by rw [hio], hm.no hio⟩
  have HK : Hid (∀ w, Calls Tryz.prog 22 #[.pointer (some ⟨Wb, 0, none⟩), .slice none 0 0] w fun e w' => e = .returned (.tuple #[]) ∧ w' = w) := fun w => keep_none Wb w
  have hdl := h.dl
  have hnx := h.nx
  have p1 := fun w => pick_any o.a V.nx w (by omega) (by omega) ho.a.1 ho.a.2
  have l1 := pickN_lt o.a V.nx (by omega)
  generalize pickN o.a V.nx = j1 at p1 l1
  obtain ⟨g, d, eg, hd, c1⟩ := h.at_ (j := j1) (by omega)
  obtain ⟨bd1, bd2, bd3⟩ := h.bd j1 d hd
  have hgt : g < w.heap.size := World.block_lt_of_cell? w _ c1
  have BD3 := hide bd3
  have P1 := hide p1
  have HD := hide hd
  have H := hide h
  have HEG := hide eg
  have q1 : (0 : Int) ≤ (j1 : Int) := by omega
  have q3 : (j1 : Int) < (V.nx : Int) := by omega
  have hnz : ((V.nx : Int) == 0) = false := by simp; omega
  have hlt : Wb < w.heap.size := h.i.blk.lt
  obtain ⟨k, a, b, c, t⟩ := o
  subst hk
  simp only [OpD.cells] at *
  clear h ho p1 hd eg hnx bd3 hdl
  go_enter Tryz.func12, Tryz.ntmps12
  go_wp2_with fail
  refine (unhide HT _).mono ?_
  have m0 := new_cells1 w [.int .i64 9, .int .i64 a, .int .i64 b, .int .i64 c, .string t] 27 0 _ rfl
  have m1 := new_cells1 w [.int .i64 9, .int .i64 a, .int .i64 b, .int .i64 c, .string t] 27 1 _ rfl
  have hb1 : Below w.heap.size w (w.alloc (.cells #[.int .i64 9, .int .i64 a, .int .i64 b, .int .i64 c, .string t] 27)) := (Below.refl _ _).alloc (Nat.le_refl _) _
  have e3 : w.heap.size < (w.alloc (.cells #[.int .i64 9, .int .i64 a, .int .i64 b, .int .i64 c, .string t] 27)).heap.size := by simp
  rw [addr0] at m0 m1
  simp only [Nat.zero_add] at m0 m1
  generalize w.alloc (.cells #[.int .i64 9, .int .i64 a, .int .i64 b, .int .i64 c, .string t] 27) = w1 at *
  rintro e w2 ⟨rfl, hb2⟩
  have k0 := (hb2.cell (p := ⟨w.heap.size, 0, none⟩) e3).trans m0
  have k1 := (hb2.cell (p := ⟨w.heap.size, 1, none⟩) e3).trans m1
  have hbw : Below w.heap.size w w2 := hb1.trans (hb2.mono (Nat.le_of_lt e3))
  have HW2 := hide hbw
  have k3 : w2.cell? ⟨Wb, 3, none⟩ = some (.slice (some ⟨g, 0, none⟩) V.nx V.cx) := ((H.out.i.below hbw).blk.cell 3).trans (by simp only [WV.cells, WV.vx, HEG.out]; rfl)
  have kx : w2.cell? ⟨g, j1, none⟩ = some (.pointer (some ⟨d.cb, 0, none⟩)) := (hbw.cell (p := ⟨g, j1, none⟩) hgt).trans c1
  have he2 : w.heap.size < w2.heap.size := Nat.lt_of_lt_of_le e3 hb2.size
  clear m0 m1 hb1 hb2 HT hbw c1 HB
  go_wp2_with fail
  go_quiet ((go_at_call 16; exact Calls.quiet_of_same (unhide P1 _)))
  have hb3 : Below w2.heap.size w2 (w2.drewN nq) := below_drewN (Below.refl _ _) _
  generalize w2.drewN nq = w3 at *
  have HW3 : Hid (Below w.heap.size w w3) := HW2.out.trans (hb3.mono HW2.out.size)
  have y0 := (hb3.cell (p := ⟨w.heap.size, 0, none⟩) he2).trans k0
  have H3 := hide (H.out.below HW3.out)
  have I3 := hide (H3.out.each j1 d HD.out)
  clear hb3 k0 k1 k3 kx HW2 P1 q1 q3 hnz
  have z5 : w3.cell? ⟨d.cb, 5, none⟩ = some (.slice d.ag d.given.length d.cg) := (I3.out.blk.cell 5).trans rfl
  obtain ⟨RA, RC, hrr⟩ := own_rowsAt I3.out.gv I3.out.ge (fun x hx => Nat.le_trans (BD3.out x hx) (by decide))
  have HA := hide (spares_any d.ag d.cg RA RC d.given w3 (by omega) hrr (fun x hx => Nat.le_trans (BD3.out x hx) (by decide)))
  clear hrr
  go_wp2_with fail
  refine (unhide HA).mono ?_
  rintro e w4 ⟨G, gs, gl, rfl, hsp, hb4⟩
  have HN := hide ((H3.out.nxt (those_end H3.out.i H3.out.b hsp hb4 bd2 hn BD3.out)).pre (HW3.out.mono hBs))
  have r4 := (H3.out.i.below hb4).blk
  have s1 : w4.cell? ⟨Wb, 1, none⟩ = some (.slice V.ac s.clauses.length V.cc) := (r4.cell 1).trans rfl
  have s1' := r4.frozen 1
  clear hsp hb4 r4 HA
  go_wp2_with (go_at_call 22; refine (unhide HK _).mono ?_; rintro e w' ⟨rfl, hw⟩; obtain rfl := hw.symm)
  go_ret
  exact ⟨rfl, HN.out⟩

end Go.Proofs.YthboeppmlhbofaaGreatDoor

/-
  traillaw's step, of the kind 16: the walk.
-/
namespace Go.Proofs.YthboeppmlhbofaaGreatDoor
open Go.RowKit Txt
set_option maxRecDepth 100000

set_option maxHeartbeats 4000000 in
theorem step_16 (Wb B n : Nat) (V : WV) (s : St) (ds : List SolD) (w : World) (o : OpD) (ho : o.Ok) (hk : o.k = 16) (h : AI w Wb B n V s ds) (hn : n ≤ 16384) (hp : 0 < ds.length) :
    Calls Tryz.prog 12 #[.pointer (some ⟨Wb, 0, none⟩), .agg o.cells] w fun e w' => e = .returned (.bool true) ∧ AN (n + 1) w w' Wb B := by
  have hBs := h.hB
  have HB : Hid (∀ x, Below w.heap.size w (w.alloc x)) := fun x => (Below.refl _ _).alloc (Nat.le_refl _) x
  have HT : Hid (∀ x, Calls Tryz.prog 14 #[.pointer (some ⟨Wb, 0, none⟩), .agg o.cells] (w.alloc x) fun e w' => e = .returned (.bool false) ∧ Below (w.alloc x).heap.size (w.alloc x) w') := by
    intro x
    refine (owner_any Wb B n V s (w.alloc x) o ho (h.i.below (HB.out x)) h.b hn).mono ?_
    have hio : isOwn o.k = false := by rw [hk]; rfl
    rintro e w' ⟨rfl, hm⟩
    exact ⟨by rw [hio], hm.no hio⟩
  have HK : Hid (∀ w, Calls Tryz.prog 22 #[.pointer (some ⟨Wb, 0, none⟩), .slice none 0 0] w fun e w' => e = .returned (.tuple #[]) ∧ w' = w) := fun w => keep_none Wb w
  have hdl := h.dl
  have hnx := h.nx
  have p1 := fun w => pick_any o.a V.nx w (by omega) (by omega) ho.a.1 ho.a.2
  have l1 := pickN_lt o.a V.nx (by omega)
  generalize pickN o.a V.nx = j1 at p1 l1
  obtain ⟨g, d, eg, hd, c1⟩ := h.at_ (j := j1) (by omega)
  obtain ⟨bd1, bd2, bd3⟩ := h.bd j1 d hd
  have hgt : g < w.heap.size := World.block_lt_of_cell? w _ c1
  have BD3 := hide bd3
  have P1 := hide p1
  have HD := hide hd
  have H := hide h
  have HEG := hide eg
  have q1 : (0 : Int) ≤ (j1 : Int) := by omega
  have q3 : (j1 : Int) < (V.nx : Int) := by omega
  have hnz : ((V.nx : Int) == 0) = false := by simp; omega
  have hlt : Wb < w.heap.size := h.i.blk.lt
  obtain ⟨k, a, b, c, t⟩ := o
  subst hk
  simp only [OpD.cells] at *
  clear h ho p1 hd eg hnx bd3 hdl
  go_enter Tryz.func12, Tryz.ntmps12
  go_wp2_with fail
  refine (unhide HT _).mono ?_
  have m0 := new_cells1 w [.int .i64 16, .int .i64 a, .int .i64 b, .int .i64 c, .string t] 27 0 _ rfl
  have m1 := new_cells1 w [.int .i64 16, .int .i64 a, .int .i64 b, .int .i64 c, .string t] 27 1 _ rfl
  have hb1 : Below w.heap.size w (w.alloc (.cells #[.int .i64 16, .int .i64 a, .int .i64 b, .int .i64 c, .string t] 27)) := (Below.refl _ _).alloc (Nat.le_refl _) _
  have e3 : w.heap.size < (w.alloc (.cells #[.int .i64 16, .int .i64 a, .int .i64 b, .int .i64 c, .string t] 27)).heap.size := by simp
  rw [addr0] at m0 m1
  simp only [Nat.zero_add] at m0 m1
  generalize w.alloc (.cells #[.int .i64 16, .int .i64 a, .int .i64 b, .int .i64 c, .string t] 27) = w1 at *
  rintro e w2 ⟨rfl, hb2⟩
  have k0 := (hb2.cell (p := ⟨w.heap.size, 0, none⟩) e3).trans m0
  have k1 := (hb2.cell (p := ⟨w.heap.size, 1, none⟩) e3).trans m1
  have hbw : Below w.heap.size w w2 := hb1.trans (hb2.mono (Nat.le_of_lt e3))
  have HW2 := hide hbw
  have k3 : w2.cell? ⟨Wb, 3, none⟩ = some (.slice (some ⟨g, 0, none⟩) V.nx V.cx) := ((H.out.i.below hbw).blk.cell 3).trans (by simp only [WV.cells, WV.vx, HEG.out]; rfl)
  have kx : w2.cell? ⟨g, j1, none⟩ = some (.pointer (some ⟨d.cb, 0, none⟩)) := (hbw.cell (p := ⟨g, j1, none⟩) hgt).trans c1
  have he2 : w.heap.size < w2.heap.size := Nat.lt_of_lt_of_le e3 hb2.size
  clear m0 m1 hb1 hb2 HT hbw c1 HB
  go_wp2_with fail
  go_quiet ((go_at_call 16; exact Calls.quiet_of_same (unhide P1 _)))
  have hb3 : Below w2.heap.size w2 (w2.drewN nq) := below_drewN (Below.refl _ _) _
  generalize w2.drewN nq = w3 at *
  have HW3 : Hid (Below w.heap.size w w3) := HW2.out.trans (hb3.mono HW2.out.size)
  have y0 := (hb3.cell (p := ⟨w.heap.size, 0, none⟩) he2).trans k0
  have H3 := hide (H.out.below HW3.out)
  have I3 := hide (H3.out.each j1 d HD.out)
  clear hb3 k0 k1 k3 kx HW2 P1 q1 q3 hnz
  obtain ⟨i0, hi, hz0, hz1, hz2⟩ := info_parts Tryz.infoString
  have hxt := H3.out.b.txs
  have d1 : Hid (s.texts.length + 1 ≤ maxLen) := by show _ ≤ _; unfold maxLen; omega
  have d2 : Hid ((s.texts.length + 1) * 16 ≤ 140737488355328) := by show _ ≤ _; omega
  have z1 : w3.cell? ⟨d.cb, 0, none⟩ = some (.pointer (some ⟨d.gx, 0, none⟩)) := (I3.out.blk.cell 0).trans rfl
  have HA := hide (reads_any B d.gx d.tx d w3 I3.out.blk I3.out.x (by omega))
  go_wp2_with fail
  refine (unhide HA).mono ?_
  rintro e w4 ⟨rfl, hb4⟩
  have H4 := hide (H3.out.below hb4)
  have HW4 : Hid (Below w.heap.size w w4) := HW3.out.trans (hb4.mono HW3.out.size)
  have I4 := hide (H4.out.each j1 d HD.out)
  have s2 : w4.cell? ⟨Wb, 2, none⟩ = some (.slice V.at_ s.texts.length V.ct) := (H4.out.i.blk.cell 2).trans rfl
  have s13 : w4.cell? ⟨d.cb, 13, none⟩ = some (.string ⟨#[]⟩) := (I4.out.blk.cell 13).trans rfl
  have hlt4 : Wb < w4.heap.size := H4.out.i.blk.lt
  have hcb4 : d.cb < w4.heap.size := I4.out.blk.lt
  have hB4 : B ≤ w4.heap.size := H4.out.hB
  have s2a : ∀ o, (w4.alloc o).cell? ⟨Wb, 2, none⟩ = some (.slice V.at_ s.texts.length V.ct) := fun o => (((Below.refl w4.heap.size w4).alloc (Nat.le_refl _) o).cell (p := ⟨Wb, 2, none⟩) hlt4).trans s2
  have s13a : ∀ o, (w4.alloc o).cell? ⟨d.cb, 13, none⟩ = some (.string ⟨#[]⟩) := fun o => (((Below.refl w4.heap.size w4).alloc (Nat.le_refl _) o).cell (p := ⟨d.cb, 13, none⟩) hcb4).trans s13
  clear hb4 HA z1
  go_wp2_with fail
  go_region_law (
    (refine step_append_full _ (by rfl) (.tmp 93) (.tmp 98) 31 (by rfl) B 9 i0 (.string ByteArray.empty) 16 Tryz.undStrings hi hz0 hz1 hz2 rfl (.slice V.at_ s.texts.length V.ct) s.texts.length (strs s.texts) (by rfl) (by exact H4.out.i.tx.alloc _) ⟨w4.heap.size, 0, none⟩ 1 1 [.string ⟨#[]⟩] (by rfl) rfl (by exact new_cells1 w4 [.string ⟨#[]⟩] 9) (by intro u hu; simp at hu; subst hu; rfl) (by decide) d1.out d2.out (by simp; omega) (w4.heap.size + 1) (by simp) ?_; intro a3 c3 w5 hown3 hg3 hl3;
      have HR3 : Hid (Row w5 Wb 34 (V.cells s)) := row_grown (row_below H4.out.i.blk ((Below.refl _ _).alloc (Nat.le_refl _) _)) (H4.out.i.tx.alloc _) t_str (grown_undrew hg3);
      have g2 : w5.cell? ⟨Wb, 2, none⟩ = some (.slice V.at_ s.texts.length V.ct) := (HR3.out.cell 2).trans rfl;
      have g2' := HR3.out.frozen 2))
  all_goals
    have HN := hide ((H4.out.nxt (text_end H4.out.i H4.out.b (Below.refl _ _) H4.out.hB (by decide) (grown_undrew hg3) hl3 (by omega) hown3)).pre (HW4.out.mono hBs))
    clear hown3 hg3 hl3
    go_wp2_with (go_at_call 22; refine (unhide HK _).mono ?_; rintro e w' ⟨rfl, hw⟩; obtain rfl := hw.symm)
    go_ret
    exact ⟨rfl, HN.out⟩

end Go.Proofs.YthboeppmlhbofaaGreatDoor

/-
  traillaw's step, for the steps of Adds: the walk.
-/
namespace Go.Proofs.YthboeppmlhbofaaGreatDoor
open Go.RowKit Txt
set_option maxRecDepth 100000

/-- a step that Adds plays -/
def kindAd (k : Int) : Prop := k < 10 ∨ k = 12 ∨ k = 13 ∨ k = 14 ∨ k = 15 ∨ k = 16 ∨ k = 20

theorem pure_ad (Wb B n : Nat) (V : WV) (s : St) (ds : List SolD) (w : World) (o : OpD) (hk : kindAd o.k) (hk14 : o.k < 14) (h : AI w Wb B n V s ds) (hn : n ≤ 16384) :
    Calls Tryz.prog 15 #[.pointer (some ⟨Wb, 0, none⟩), .agg o.cells] w fun e w' => e = .returned (.bool true) ∧ AN (n + 1) w w' Wb B := by
  by_cases h12 : o.k = 12
  · exact pure_made Wb B n V s ds w o (.inl h12) h hn
  · by_cases h13 : o.k = 13
    · exact pure_made Wb B n V s ds w o (.inr h13) h hn
    · have n0 : (o.k == 10) = false := by simp; rcases hk with h | h | h | h | h | h | h <;> omega
      have n1 : (o.k == 11) = false := by simp; rcases hk with h | h | h | h | h | h | h <;> omega
      have n3 : (o.k == 19) = false := by simp; omega
      refine (pure_none Wb B n V s w o h.i h.b hn (.inr ⟨n0, n1⟩) (by simpa using h12) (by simpa using h13) n3).mono ?_
      rintro e w' ⟨rfl, hN⟩
      exact ⟨rfl, h.nxt hN⟩

set_option maxHeartbeats 4000000 in
theorem step_pad (Wb B n : Nat) (V : WV) (s : St) (ds : List SolD) (w : World) (o : OpD) (ho : o.Ok) (hio : isOwn o.k = false) (hk : kindAd o.k) (hk14 : o.k < 14) (h9 : (o.k == 9) = false) (h : AI w Wb B n V s ds) (hn : n ≤ 16384) :
    Calls Tryz.prog 12 #[.pointer (some ⟨Wb, 0, none⟩), .agg o.cells] w fun e w' => e = .returned (.bool true) ∧ AN (n + 1) w w' Wb B := by
  have hBs := h.hB
  have HB : Hid (∀ x, Below w.heap.size w (w.alloc x)) := fun x => (Below.refl _ _).alloc (Nat.le_refl _) x
  have HT : Hid (∀ x, Calls Tryz.prog 14 #[.pointer (some ⟨Wb, 0, none⟩), .agg o.cells] (w.alloc x) fun e w' => e = .returned (.bool false) ∧ Below (w.alloc x).heap.size (w.alloc x) w') := by
    intro x
    refine (owner_any Wb B n V s (w.alloc x) o ho (h.i.below (HB.out x)) h.b hn).mono ?_
    rintro e w' ⟨rfl, hm⟩
    exact ⟨by rw [hio], hm.no hio⟩
  have HP : Hid (∀ w1, Below w.heap.size w w1 → Calls Tryz.prog 15 #[.pointer (some ⟨Wb, 0, none⟩), .agg o.cells] w1 fun e w' => e = .returned (.bool true) ∧ AN (n + 1) w w' Wb B) := by
    intro w1 hb
    refine (pure_ad Wb B n V s ds w1 o hk hk14 (h.below hb) hn).mono ?_
    rintro e w' ⟨rfl, hN⟩
    exact ⟨rfl, hN.pre (hb.mono hBs)⟩
  obtain ⟨k, a, b, c, t⟩ := o
  simp only [OpD.cells] at *
  have h9' : ¬ k = 9 := by simpa using h9
  clear h ho hio hk
  go_enter Tryz.func12, Tryz.ntmps12
  go_wp2_with fail
  refine (unhide HT _).mono ?_
  have e1 := fun j u hu => new_cells1 w [.int .i64 k, .int .i64 a, .int .i64 b, .int .i64 c, .string t] 27 j u hu
  have hb1 : Below w.heap.size w (w.alloc (.cells #[.int .i64 k, .int .i64 a, .int .i64 b, .int .i64 c, .string t] 27)) := (Below.refl _ _).alloc (Nat.le_refl _) _
  have e3 : w.heap.size < (w.alloc (.cells #[.int .i64 k, .int .i64 a, .int .i64 b, .int .i64 c, .string t] 27)).heap.size := by simp
  have m0 := e1 0 _ rfl
  have m1 := e1 1 _ rfl
  have m2 := e1 2 _ rfl
  have m3 := e1 3 _ rfl
  have m4 := e1 4 _ rfl
  rw [addr0] at m0 m1 m2 m3 m4
  simp only [Nat.zero_add] at m0 m1 m2 m3 m4
  clear e1
  generalize w.alloc (.cells #[.int .i64 k, .int .i64 a, .int .i64 b, .int .i64 c, .string t] 27) = w1 at *
  rintro e w2 ⟨rfl, hb2⟩
  have k0 := (hb2.cell (p := ⟨w.heap.size, 0, none⟩) e3).trans m0
  have k1 := (hb2.cell (p := ⟨w.heap.size, 1, none⟩) e3).trans m1
  have k2 := (hb2.cell (p := ⟨w.heap.size, 2, none⟩) e3).trans m2
  have k3 := (hb2.cell (p := ⟨w.heap.size, 3, none⟩) e3).trans m3
  have k4 := (hb2.cell (p := ⟨w.heap.size, 4, none⟩) e3).trans m4
  have HW2 : Hid (Below w.heap.size w w2) := hb1.trans (hb2.mono (Nat.le_of_lt e3))
  clear m0 m1 m2 m3 m4 hb1 hb2 HT
  go_wp2_with fail
  refine (unhide HP _ HW2.out).mono ?_
  rintro e w' ⟨rfl, hN⟩
  have HN := hide hN
  clear hN
  go_wp2
  go_ret
  exact ⟨rfl, HN.out⟩

set_option maxHeartbeats 4000000 in
theorem step_none (Wb B n : Nat) (V : WV) (s : St) (ds : List SolD) (w : World) (o : OpD) (ho : o.Ok) (hio : isOwn o.k = false) (hk : o.k = 9 ∨ (o.k < 14) = False ∧ (o.k == 19) = false) (h : AI w Wb B n V s ds) (hn : n ≤ 16384) (hx0 : V.nx = 0) :
    Calls Tryz.prog 12 #[.pointer (some ⟨Wb, 0, none⟩), .agg o.cells] w fun e w' => e = .returned (.bool true) ∧ AN (n + 1) w w' Wb B := by
  have hBs := h.hB
  have HB : Hid (∀ x, Below w.heap.size w (w.alloc x)) := fun x => (Below.refl _ _).alloc (Nat.le_refl _) x
  have HT : Hid (∀ x, Calls Tryz.prog 14 #[.pointer (some ⟨Wb, 0, none⟩), .agg o.cells] (w.alloc x) fun e w' => e = .returned (.bool false) ∧ Below (w.alloc x).heap.size (w.alloc x) w') := by
    intro x
    refine (owner_any Wb B n V s (w.alloc x) o ho (h.i.below (HB.out x)) h.b hn).mono ?_
    rintro e w' ⟨rfl, hm⟩
    exact ⟨by rw [hio], hm.no hio⟩
  have H := hide h
  obtain ⟨k, a, b, c, t⟩ := o
  simp only [OpD.cells] at *
  clear h ho hio
  rcases hk with rfl | ⟨hk, hk19⟩
  · go_enter Tryz.func12, Tryz.ntmps12
    go_wp2_with fail
    refine (unhide HT _).mono ?_
    have m0 := new_cells1 w [.int .i64 9, .int .i64 a, .int .i64 b, .int .i64 c, .string t] 27 0 _ rfl
    have hb1 : Below w.heap.size w (w.alloc (.cells #[.int .i64 9, .int .i64 a, .int .i64 b, .int .i64 c, .string t] 27)) := (Below.refl _ _).alloc (Nat.le_refl _) _
    have e3 : w.heap.size < (w.alloc (.cells #[.int .i64 9, .int .i64 a, .int .i64 b, .int .i64 c, .string t] 27)).heap.size := by simp
    rw [addr0] at m0
    simp only [Nat.zero_add] at m0
    generalize w.alloc (.cells #[.int .i64 9, .int .i64 a, .int .i64 b, .int .i64 c, .string t] 27) = w1 at *
    rintro e w2 ⟨rfl, hb2⟩
    have k0 := (hb2.cell (p := ⟨w.heap.size, 0, none⟩) e3).trans m0
    have hbw : Below w.heap.size w w2 := hb1.trans (hb2.mono (Nat.le_of_lt e3))
    have HW2 := hide hbw
    have k3 : w2.cell? ⟨Wb, 3, none⟩ = some (.slice V.ax 0 V.cx) := ((H.out.i.below hbw).blk.cell 3).trans (by simp only [WV.cells, WV.vx, hx0]; rfl)
    clear m0 hb1 hb2 HT hbw
    go_wp2
    go_ret
    exact ⟨rfl, V, s, ds, (H.out.below HW2.out).on, HW2.out.mono hBs⟩
  · have hk14 : ¬ k < 14 := by simp [hk]
    clear hk
    go_enter Tryz.func12, Tryz.ntmps12
    go_wp2_with fail
    refine (unhide HT _).mono ?_
    have m0 := new_cells1 w [.int .i64 k, .int .i64 a, .int .i64 b, .int .i64 c, .string t] 27 0 _ rfl
    have hb1 : Below w.heap.size w (w.alloc (.cells #[.int .i64 k, .int .i64 a, .int .i64 b, .int .i64 c, .string t] 27)) := (Below.refl _ _).alloc (Nat.le_refl _) _
    have e3 : w.heap.size < (w.alloc (.cells #[.int .i64 k, .int .i64 a, .int .i64 b, .int .i64 c, .string t] 27)).heap.size := by simp
    rw [addr0] at m0
    simp only [Nat.zero_add] at m0
    generalize w.alloc (.cells #[.int .i64 k, .int .i64 a, .int .i64 b, .int .i64 c, .string t] 27) = w1 at *
    rintro e w2 ⟨rfl, hb2⟩
    have k0 := (hb2.cell (p := ⟨w.heap.size, 0, none⟩) e3).trans m0
    have hbw : Below w.heap.size w w2 := hb1.trans (hb2.mono (Nat.le_of_lt e3))
    have HW2 := hide hbw
    have k3 : w2.cell? ⟨Wb, 3, none⟩ = some (.slice V.ax 0 V.cx) := ((H.out.i.below hbw).blk.cell 3).trans (by simp only [WV.cells, WV.vx, hx0]; rfl)
    clear m0 hb1 hb2 HT hbw
    go_wp2
    go_ret
    exact ⟨rfl, V, s, ds, (H.out.below HW2.out).on, HW2.out.mono hBs⟩

theorem step_ad (Wb B n : Nat) (V : WV) (s : St) (ds : List SolD) (w : World) (o : OpD) (ho : o.Ok) (hk : kindAd o.k) (h : AI w Wb B n V s ds) (hn : n ≤ 16384) :
    Calls Tryz.prog 12 #[.pointer (some ⟨Wb, 0, none⟩), .agg o.cells] w fun e w' => e = .returned (.bool true) ∧ AN (n + 1) w w' Wb B := by
  cases hio : isOwn o.k with
  | true =>
    refine (step_own Wb B n V s w o ho hio h.i h.b hn).mono ?_
    rintro e w' ⟨rfl, hN⟩
    exact ⟨rfl, h.nxt hN⟩
  | false =>
    by_cases h9 : o.k = 9
    · by_cases h0 : 0 < ds.length
      · exact step_9 Wb B n V s ds w o ho h9 h hn h0
      · exact step_none Wb B n V s ds w o ho hio (.inl h9) h hn (by rw [h.nx]; omega)
    · by_cases h14 : o.k < 14
      · exact step_pad Wb B n V s ds w o ho hio hk h14 (by simpa using h9) h hn
      · by_cases h0 : 0 < ds.length
        · rcases hk with hk | hk | hk | hk | hk | hk | hk
          · omega
          · omega
          · omega
          · exact step_14 Wb B n V s ds w o ho hk h hn h0
          · exact step_15 Wb B n V s ds w o ho hk h hn h0
          · exact step_16 Wb B n V s ds w o ho hk h hn h0
          · exact step_20 Wb B n V s ds w o ho hk h hn h0
        · refine step_none Wb B n V s ds w o ho hio (.inr ⟨by simp [h14], ?_⟩) h hn (by rw [h.nx]; omega)
          simp
          rcases hk with hk | hk | hk | hk | hk | hk | hk <;> omega

end Go.Proofs.YthboeppmlhbofaaGreatDoor
