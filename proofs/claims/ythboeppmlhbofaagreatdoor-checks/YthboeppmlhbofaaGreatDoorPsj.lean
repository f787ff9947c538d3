/-
  pushing: New, Drop, the walks.
-/
import Derived.Test.YthboeppmlhbofaaGreatDoorPse
namespace Go.Proofs.YthboeppmlhbofaaGreatDoor
open Go.RowKit Txt
set_option maxRecDepth 100000

set_option maxHeartbeats 2000000 in
theorem newC_any (B : Nat) (w : World) (hB : B ≤ w.heap.size) :
    Calls Tryz.prog 96 #[] w fun e w' => ∃ cb na nc, e = .returned (.pointer (some ⟨cb, 0, none⟩)) ∧ TreeI w' B cb na nc [nd0] ∧ Below w.heap.size w w' ∧ w.heap.size ≤ cb := by
  have HB : Hid (∀ x y, Below w.heap.size w ((w.alloc x).alloc y)) := fun x y => ((Below.refl _ _).alloc (Nat.le_refl _) _).alloc (by simp) _
  have HT : Hid (TreeI ((w.alloc (.cells #[.int .i64 0, .int .i64 0, .int .i64 0, .int .i64 0, .int .i64 0] 158)).alloc (.cells #[.slice (some ⟨w.heap.size, 0, none⟩) 1 1] 161)) B (w.heap.size + 1) (some ⟨w.heap.size, 0, none⟩) 1 [nd0]) := by
    refine ⟨heap_alloc2_new w _ _, ?_, by decide, by omega⟩
    have := World.ownsRow_lit (base := B) (e := 158) (size := 5) w #[.int .i64 0, .int .i64 0, .int .i64 0, .int .i64 0, .int .i64 0] 1 hB (by decide) rfl
    exact this.alloc _
  go_enter Tryz.func96, Tryz.ntmps96
  go_wp2
  go_ret
  exact ⟨w.heap.size + 1, some ⟨w.heap.size, 0, none⟩, 1, rfl, HT.out, HB.out _ _, Nat.le_succ _⟩

/-- the way down to a clause's node, if it is there -/
def dropTo (ns : List Nd) (t f : Nat) : Nat → Option Nat
  | 0 => some 0
  | k + 1 => match dropTo ns t f k with
    | none => none
    | some a => if (ns.getD a nd0).nx (wayN t f ((k + 1 : Nat) : Int)) = 0 then none else some ((ns.getD a nd0).nx (wayN t f ((k + 1 : Nat) : Int)))
theorem dropTo_lt {ns : List Nd} (h : Wf ns) (hp : 0 < ns.length) (t f : Nat) : ∀ (k a : Nat), dropTo ns t f k = some a → a < ns.length := by
  intro k
  induction k with
  | zero => intro a e; simp only [dropTo, Option.some.injEq] at e; omega
  | succ k ih =>
    intro a e
    simp only [dropTo] at e
    split at e
    · simp at e
    · rename_i b hb
      split at e
      · simp at e
      · simp only [Option.some.injEq] at e
        rw [← e]
        exact h.nx (ih b hb) _
theorem dropTo_none {ns : List Nd} {t f : Nat} : ∀ (j k : Nat), dropTo ns t f k = none → dropTo ns t f (k + j) = none := by
  intro j
  induction j with
  | zero => intro k h; exact h
  | succ j ih =>
    intro k h
    have := ih k h
    show dropTo ns t f (k + j + 1) = none
    simp only [dropTo, this]
def dropN (ns : List Nd) (t f : Nat) : Option (List Nd) := match dropTo ns t f 10 with
  | none => none
  | some a => if (ns.getD a nd0).c = 0 then none else some (ns.set a { ns.getD a nd0 with c := (ns.getD a nd0).c - 1 })
/-- behind Drop -/
def DropPost (w : World) (B cb : Nat) (na : Option Addr) (nc : Nat) (ns : List Nd) (r : Option (List Nd)) (e : Ending) (w' : World) : Prop := match r with
  | none => e = .returned (.bool false) ∧ Below w.heap.size w w'
  | some ns' => e = .returned (.bool true) ∧ ∃ na' nc', TreeN w w' B cb na nc ns.length na' nc' ns'

set_option maxHeartbeats 8000000 in
theorem drop_any (w : World) (B cb : Nat) (na : Option Addr) (nc : Nat) (ns : List Nd) (h : TreeI w B cb na nc ns) (hw : Wf ns) (M : Nat) (hcb : CB ns M) (t f : Nat) (ht : t < 2 ^ 11) (hf : f < 2 ^ 11) (hM : M ≤ 9223372036854775807) :
    Calls Tryz.prog 136 #[.pointer (some ⟨cb, 0, none⟩), .agg #[.int .i64 t, .int .i64 f]] w (DropPost w B cb na nc ns (dropN ns t f)) := by
  have hp := h.pos
  have HWY : Hid (∀ v w, 1 ≤ v → v ≤ 10 → Calls Tryz.prog 119 #[.agg #[.int .i64 t, .int .i64 f], .int .i64 v] w fun e w' => e = .returned (.int .i64 (wayN t f v : Nat)) ∧ Below w.heap.size w w') := fun v w q1 q2 => way_any t f v ht hf q1 q2 w
  have hb1 : Below w.heap.size w (w.alloc (.cells #[.int .i64 t, .int .i64 f] 101)) := (Below.refl _ _).alloc (Nat.le_refl _) _
  have r1 : Row (w.alloc (.cells #[.int .i64 t, .int .i64 f] 101)) w.heap.size 101 [.int .i64 t, .int .i64 f] := heap_alloc_new w _
  obtain ⟨b, rfl, hb, hn⟩ := nodes_own h.own h.pos
  have HB1 := hide hb1
  have R1 := hide r1
  have HI := hide h
  have HW := hide hw
  have HCB := hide hcb
  have HN := hide hn
  have HDR : Hid (dropN ns t f = match dropTo ns t f 10 with | none => none | some a => if (ns.getD a nd0).c = 0 then none else some (ns.set a { ns.getD a nd0 with c := (ns.getD a nd0).c - 1 })) := rfl
  generalize dropN ns t f = DR at *
  clear h hw hcb hb1 r1 hn
  go_enter Tryz.func136, Tryz.ntmps136
  go_wp2_with fail
  go_loopw [5, 6] (fun a v wr => ∃ (k x : Nat), k ≤ 10 ∧ Hid (dropTo ns t f k = some x) ∧ a = .int .i64 (x : Nat) ∧ v = .int .i64 ((k : Int) + 1) ∧ Hid (Below w.heap.size w wr) ∧ Hid (Row wr w.heap.size 101 [.int .i64 t, .int .i64 f])) (fun _ v _ => 11 - (intOf v).toNat)
  case atStart => exact ⟨0, 0, by omega, rfl, rfl, rfl, HB1, R1⟩
  case round =>
    clear HB1 R1
    obtain ⟨k, x, hk, HD, rfl, rfl, HB, RS⟩ := hrel
    have hxl := dropTo_lt HW.out hp t f k x HD.out
    have i1 : (0 : Int) ≤ (x : Int) := by omega
    have i2 : (x : Int) < (ns.length : Int) := by omega
    have F : Hid (∀ w', Below wr.heap.size wr w' → (w'.cell? ⟨cb, 0, none⟩ = some (.slice (some ⟨b, 0, none⟩) ns.length nc) ∧ w'.cell? ⟨w.heap.size, 0, none⟩ = some (.int .i64 t) ∧ w'.cell? ⟨w.heap.size, 1, none⟩ = some (.int .i64 f)) ∧ Below w.heap.size w w' ∧ Row w' w.heap.size 101 [.int .i64 t, .int .i64 f] ∧ ∀ i v, (ns.getD x nd0).cells[i]? = some v → w'.cell? ⟨b, x * 5 + i, none⟩ = some v) := by
      intro w' hb'
      have hw' := HB.out.trans (hb'.mono HB.out.size)
      have hs' := row_below RS.out hb'
      refine ⟨⟨((row_below HI.out.row hw').cell 0).trans rfl, (hs'.cell 0).trans rfl, (hs'.cell 1).trans rfl⟩, hw', hs', fun i v hv => ?_⟩
      have := (hw'.cell (p := ⟨b, 0 + x * 5 + i, none⟩) hb).trans (HN.out x hxl i v hv)
      rw [Nat.zero_add] at this
      exact this
    obtain ⟨⟨f0, f1, f2⟩, _⟩ := F.out wr (Below.refl _ _)
    by_cases hlt : k < 10
    · have hv : ((k : Int) + 1 ≤ 10) := by omega
      have hwl := wayN_lt t f ((k : Int) + 1)
      have HE : Hid (dropTo ns t f (k + 1) = if (ns.getD x nd0).nx (wayN t f ((k : Int) + 1)) = 0 then none else some ((ns.getD x nd0).nx (wayN t f ((k : Int) + 1)))) := by
        show _ = _
        simp only [dropTo, HD.out]
        rw [show ((k + 1 : Nat) : Int) = (k : Int) + 1 by omega]
      have HC := hide (fun (w' : World) (hb' : Below wr.heap.size wr w') => (F.out w' hb').2.2.2 _ _ (Nd.cell_nx (ns.getD x nd0) hwl))
      have i3 : (0 : Int) ≤ ((wayN t f ((k : Int) + 1) : Nat) : Int) := by omega
      have i4 : ((wayN t f ((k : Int) + 1) : Nat) : Int) < 4 := by omega
      generalize (ns.getD x nd0).nx (wayN t f ((k : Int) + 1)) = y at *
      have HWK := hide (fun w' => HWY.out ((k : Int) + 1) w' (by omega) hv)
      generalize wayN t f ((k : Int) + 1) = wy at *
      have Bc : Hid (Below wr.heap.size wr wr.drew) := below_drewN (Below.refl _ _) 1
      go_wp2_with fail
      go_region_with (go_at_call 119; refine (unhide HWK _).mono ?_; rintro e wa ⟨rfl, hba⟩; have Bc : Hid (Below wr.heap.size wr wa) := Bc.out.trans (hba.mono Bc.out.size); clear hba; obtain ⟨⟨f0, f1, f2⟩, _⟩ := F.out wa Bc.out; have g0 := HC.out wa Bc.out)
      all_goals
        have HBW : Hid (Below w.heap.size w wa) := (F.out wa Bc.out).2.1
        have RS2 := hide (F.out wa Bc.out).2.2.1
        clear F HC HWK
        by_cases hy : y = 0
        · subst hy
          have hdr : DR = none := by
            have h1 : dropTo ns t f (k + 1) = none := by rw [HE.out]; simp
            have h2 := dropTo_none (10 - (k + 1)) (k + 1) h1
            rw [show k + 1 + (10 - (k + 1)) = 10 by omega] at h2
            rw [HDR.out, h2]
          have HDN := hide hdr
          clear hdr HDR HE
          go_wp2
          go_ret
          rw [HDN.out]
          exact ⟨rfl, HBW.out⟩
        · have hyi : (((y : Nat) : Int) == 0) = false := by simp; exact hy
          have HE2 : Hid (dropTo ns t f (k + 1) = some y) := by show _ = _; rw [HE.out, if_neg hy]
          clear HE hy
          go_wp2
          go_roundw
          case rel => exact ⟨k + 1, y, by omega, HE2, rfl, by go_num, HBW, RS2⟩
          case measure => simp [intOf]; omega
    · obtain rfl : k = 10 := by omega
      have c4 := (F.out wr (Below.refl _ _)).2.2.2 4 _ rfl
      have hwr := hide (F.out wr (Below.refl _ _)).2.1
      have T5 := hide (HI.out.below hwr.out)
      have hcx := HCB.out x
      have hdr := HDR.out
      rw [HD.out] at hdr
      simp only at hdr
      have hne : cb ≠ b := by
        intro e
        subst e
        exact own_ty HI.out.own HI.out.row u_nc rfl
      by_cases hc : (ns.getD x nd0).c = 0
      · rw [if_pos hc] at hdr
        rw [hc] at c4
        have HDN := hide hdr
        clear hdr HDR F
        go_wp2
        go_ret
        rw [HDN.out]
        exact ⟨rfl, hwr.out⟩
      · rw [if_neg hc] at hdr
        have f4 := T5.out.own.frozenAt (x * 5 + 4)
        have ST := hide (T5.out.own.stored (x * 5 + 4) (.int .i64 (((ns.getD x nd0).c : Int) - 1)))
        have EQ : Hid ((ndCells ns).set (x * 5 + 4) (.int .i64 (((ns.getD x nd0).c : Int) - 1)) = ndCells (ns.set x { ns.getD x nd0 with c := (ns.getD x nd0).c - 1 })) := by
          show _ = _
          refine ndCells_set _ _ hxl 4 (by decide) _ _ ?_
          simp only [Nd.cells, List.set_cons_succ, List.set_cons_zero]
          rw [show (((ns.getD x nd0).c - 1 : Nat) : Int) = ((ns.getD x nd0).c : Int) - 1 by omega]
        have LEN : Hid ((ns.set x { ns.getD x nd0 with c := (ns.getD x nd0).c - 1 }).length = ns.length) := by show _ = _; rw [List.length_set]
        have HDN := hide hdr
        have hci : ((((ns.getD x nd0).c : Nat) : Int) == 0) = false := by simp; exact hc
        have hwrap : IntKind.i64.wrap (((ns.getD x nd0).c : Int) - 1) = ((ns.getD x nd0).c : Int) - 1 := by rw [IntKind.wrap_i64]; omega
        generalize ns.set x { ns.getD x nd0 with c := (ns.getD x nd0).c - 1 } = NS at *
        generalize ns.getD x nd0 = d at *
        clear hdr HDR F hc
        go_wp2
        go_ret
        rw [HDN.out]
        refine ⟨rfl, some ⟨b, 0, none⟩, nc, ?_⟩
        have h5 := ST.out.1
        rw [EQ.out] at h5
        have k5 : Kept wr (wr.setCell ⟨b, x * 5 + 4, none⟩ (.int .i64 ((d.c : Int) - 1))) cb (.slice (some ⟨b, 0, none⟩) ns.length nc) := ⟨ST.out.2.os, ST.out.2.tape, ST.out.2.output, ST.out.2.size, fun q hq _ hv => ST.out.2.block q hq (fun e => hv (by rw [e]; rfl))⟩
        have t5 : TreeI (wr.setCell ⟨b, x * 5 + 4, none⟩ (.int .i64 ((d.c : Int) - 1))) B cb (some ⟨b, 0, none⟩) nc NS := ⟨by rw [LEN.out]; exact (Below.heap_setCell wr ⟨b, x * 5 + 4, none⟩ _ cb hne).trans T5.out.row, by rw [LEN.out]; exact h5, by rw [LEN.out]; exact T5.out.pos, T5.out.base⟩
        exact (TreeN.of HI.out hwr.out).trans (n1 := ns.length) ⟨t5, k5, .inl own_len⟩

end Go.Proofs.YthboeppmlhbofaaGreatDoor
