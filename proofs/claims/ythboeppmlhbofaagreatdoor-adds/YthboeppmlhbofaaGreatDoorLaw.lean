/-
  traillaw's helpers on lists: the walks.
-/
import Derived.Test.YthboeppmlhbofaaGreatDoorWrd
import Derived.Test.YthboeppmlhbofaaGreatDoorRdd
import Derived.Laws.CopyOwn
namespace Go.Proofs.YthboeppmlhbofaaGreatDoor
open Go.RowKit Txt
set_option maxRecDepth 100000

/-- a block that is known whole -/
def Row (w : World) (g : Nat) (e : TypeId) (zs : List Value) : Prop := w.heap[g]? = some (.cells zs.toArray e (0, 0))
theorem Row.cell {w : World} {g : Nat} {e : TypeId} {zs : List Value} (h : Row w g e zs) (j : Nat) : w.cell? ⟨g, j, none⟩ = zs[j]? := by
  rw [cell_of_row w g j zs.toArray e (0, 0) h]; simp
theorem Row.frozen {w : World} {g : Nat} {e : TypeId} {zs : List Value} (h : Row w g e zs) (j : Nat) : w.frozen? ⟨g, j, none⟩ = false := by
  have h' : w.heap[g]? = some (.cells zs.toArray e (0, 0)) := h
  simp [World.frozen?, h']
theorem Row.lt {w : World} {g : Nat} {e : TypeId} {zs : List Value} (h : Row w g e zs) : g < w.heap.size := (Array.getElem?_eq_some_iff.1 h).1
theorem Row.set {w : World} {g : Nat} {e : TypeId} {zs : List Value} (h : Row w g e zs) (j : Nat) (v : Value) : Row (w.setCell ⟨g, j, none⟩ v) g e (zs.set j v) := by
  have h' : w.heap[g]? = some (.cells zs.toArray e (0, 0)) := h
  unfold Row
  simp only [World.setCell, Array.getElem?_modify, h']
  simp

set_option maxHeartbeats 1000000 in
theorem sameInts_any (a1 a2 : Option Addr) (c1 c2 : Nat) (xs ys : List Int) (w : World) (hx : xs.length ≤ 9223372036854775807) (q1 : IntsAt w a1 xs) (q2 : IntsAt w a2 ys) :
    Calls Tryz.prog 23 #[.slice a1 xs.length c1, .slice a2 ys.length c2] w fun e w' => e = .returned (.bool (eqB xs ys)) ∧ ∃ m, w' = w.drewN m := by
  by_cases hlen : ¬ xs.length = ys.length
  · have hne : ((xs.length : Int) != (ys.length : Int)) = true := by rw [bne_iff_ne]; omega
    have H : Hid (eqB xs ys = false) := eqB_len _ _ hlen
    clear hlen
    go_enter Tryz.func23, Tryz.ntmps23
    go_wp2
    go_ret
    exact ⟨ret_bool H.out.symm, 0, rfl⟩
  have hne : ((xs.length : Int) != (ys.length : Int)) = false := by rw [bne_eq_false_iff_eq]; omega
  have hlen' := Decidable.not_not.1 hlen
  have HM := hide hlen'
  clear hlen hlen'
  go_enter Tryz.func23, Tryz.ntmps23
  go_wp2
  go_loopw [5] (fun i wr => ∃ j m : Nat, j ≤ xs.length ∧ i = .int .i64 j ∧ Hid (eqB xs ys = eqB (xs.drop j) (ys.drop j)) ∧ wr = w.drewN m) (fun i _ => xs.length - (intOf i).toNat)
  case atStart => exact ⟨0, 0, Nat.zero_le _, rfl, rfl, rfl⟩
  case round =>
    obtain ⟨j, m, hj, rfl, hl, rfl⟩ := hrel
    by_cases hjl : j < xs.length
    · have hjl2 : j < ys.length := by have := HM.out; omega
      obtain ⟨b3, o3, rfl, hc3⟩ := q1.get (by omega)
      obtain ⟨b4, o4, rfl, hc4⟩ := q2.get (by omega)
      have r3 := hc3 j hjl
      have r4 := hc4 j hjl2
      have HE : Hid (eqB (xs.drop j) (ys.drop j) = (eqB (xs.getD j 0) (ys.getD j 0) && eqB (xs.drop (j + 1)) (ys.drop (j + 1)))) := eqB_drop xs ys 0 j hjl hjl2
      clear hc3 hc4 q1 q2 hne
      generalize xs.getD j 0 = x at r3 HE
      generalize ys.getD j 0 = y at r4 HE
      cases hb : (x != y)
      · have H : Hid (eqB x y = true) := by show _ = _; rw [bne_eq_false_iff_eq] at hb; simp [eqB, hb]
        go_wp2
        go_quiet (fail)
        go_wp2
        go_roundw
        case rel => exact ⟨j + 1, _, by omega, by go_num, by show _ = _; rw [hl.out, HE.out, H.out] <;> rfl, rfl⟩
        case measure => simp [intOf]; omega
      · have H : Hid (eqB x y = false) := by show _ = _; rw [bne_iff_ne] at hb; simp [eqB, hb]
        go_wp2
        go_quiet (fail)
        go_wp2
        go_ret
        exact ⟨ret_bool (by rw [hl.out, HE.out, H.out] <;> rfl), _, World.drewN_drewN _ _ _⟩
    · have HE : Hid (eqB (xs.drop j) (ys.drop j) = true) := eqB_end _ _ _ (by omega) (by have := HM.out; omega)
      go_wp2
      go_ret
      exact ⟨ret_bool (by rw [hl.out, HE.out] <;> rfl), m, rfl⟩

theorem num_any (n : Int) (w : World) : Calls Tryz.prog 33 #[.int .i64 n] w fun e w' => e = .returned (.int .i64 n) ∧ w' = w := by
  go_enter Tryz.func33, Tryz.ntmps33
  go_wp2
  go_ret
  exact ⟨rfl, rfl⟩

def sevens : List Value := [.int .i64 7, .int .i64 7]
theorem made_zeros (n : Nat) : (madeCells (Value.int .i64 0).cells (n * 1)).toList = List.replicate n (.int .i64 0) := by
  have := toList_madeCells_one (.int .i64 0) n
  simpa [Value.cells] using this

theorem row_of_own {w : World} {base e g n : Nat} {zs : List Value} (h : w.ownsRow base e 1 (.slice (some ⟨g, 0, none⟩) n n) n zs) : Row w g e zs := by
  rcases h.2 with ⟨hv, _⟩ | ⟨g', cap, cur, hv, _, hh, _, _, hsz, htake⟩
  · simp at hv
  · simp only [Value.slice.injEq, Option.some.injEq, Addr.mk.injEq, and_true] at hv
    obtain ⟨rfl, _, rfl⟩ := hv
    unfold Row
    rw [hh, ← htake, List.take_of_length_le (by simp [hsz])]
theorem splice_spare (xs : List Int) : splice (List.replicate (xs.length + 2) (.int .i64 0)) 0 (i64s xs) = i64s xs ++ [.int .i64 0, .int .i64 0] := by
  simp only [splice, List.take_zero, List.nil_append, Nat.zero_add, i64s_length, List.drop_replicate]
  rw [show xs.length + 2 - xs.length = 2 by omega]
  rfl
theorem intsAt_src {w : World} {a : Option Addr} {xs : List Int} (h : IntsAt w a xs) (hp : 0 < (i64s xs).length) : ∃ ad, a = some ad ∧ ∀ j v, (i64s xs)[j]? = some v → w.cell? (ad.add j) = some v := by
  rw [i64s_length] at hp
  obtain ⟨b, off, rfl, hc⟩ := h.get hp
  refine ⟨_, rfl, fun j v hv => ?_⟩
  have hj : j < xs.length := by have := (List.getElem?_eq_some_iff.1 hv).1; rwa [i64s_length] at this
  have hadd : (⟨b, off, none⟩ : Addr).add j = ⟨b, off + j, none⟩ := by unfold Addr.add; split <;> simp_all
  rw [hadd, hc j hj]
  simp only [i64s, List.getElem?_map, List.getElem?_eq_getElem hj, Option.map_some] at hv
  rw [← hv, List.getD_eq_getElem?_getD, List.getElem?_eq_getElem hj]
  rfl

set_option maxHeartbeats 1000000 in
theorem spare_any (a : Option Addr) (c : Nat) (xs : List Int) (w : World) (hbd : xs.length ≤ 4294967296) (hr : IntsAt w a xs) :
    Calls Tryz.prog 24 #[.slice a xs.length c] w fun e w' => e = .returned (.slice (some ⟨w.heap.size, 0, none⟩) xs.length (xs.length + 2)) ∧ Row w' w.heap.size 3 (i64s xs ++ sevens) ∧ Below w.heap.size w w' := by
  obtain ⟨i0, hi, hz0, hz1, hz2⟩ := info_parts Tryz.infoInt
  have b2 : Hid (i0.bytes * (xs.length + 2) ≤ 281474976710656) := by show _ ≤ _; rw [hz2]; omega
  have b3 : Hid (xs.length + 2 ≤ maxLen) := by show _ ≤ _; unfold maxLen; omega
  have hsz : (Tryz.prog.info? 3).map (·.size) = some 1 := by rw [hi]; simp [hz1]
  have HSZ := hide hsz
  clear hsz
  go_enter Tryz.func24, Tryz.ntmps24
  go_wp2_with (first
    | (at_make; refine wpList_make_full _ rfl (.tmp 8) (.tmp 8) 24 rfl w.heap.size 3 i0 (.int .i64 0) 1 Tryz.undInts hi hz0 hz1 .i64 .i64 _ _ (xs.length + 2) rfl rfl (by omega) (by omega) b2.out b3.out (Nat.le_refl _) ?_; intro w1 hown1 hg1; have hrow1 := row_of_own hown1; rw [made_zeros] at hrow1; have hb1 : Below w.heap.size w w1 := (Below.refl _ _).grown hg1 (Nat.le_refl _) (by simp); have hr1 := hr.below hb1; clear hown1 hg1)
    | (refine wpList_copy_splice rfl (.tmp 10) (.tmp 11) 24 24 rfl 3 Tryz.undInts HSZ.out _ _ _ _ _ _ rfl rfl w.heap.size 0 (List.replicate (xs.length + 2) (.int .i64 0)) 3 hrow1 (i64s xs) (by rw [i64s_length]; exact (Nat.min_eq_left (by omega)).symm) (fun hp => ⟨rfl, intsAt_src hr1 hp⟩) (by rw [i64s_length, List.length_replicate]; omega) (i64s_one xs) w.heap.size w hb1 (Nat.le_refl _) ?_; intro w2 hrow2 hb2; clear hrow1 hb1 hr1 hr;
        have hrow3 : Row w2 w.heap.size 3 (i64s xs ++ [.int .i64 0, .int .i64 0]) := (splice_spare xs) ▸ hrow2.out;
        have k1 : w2.cell? ⟨w.heap.size, xs.length, none⟩ = some (.int .i64 0) := (hrow3.cell xs.length).trans (by simp [i64s]);
        have k2 : w2.cell? ⟨w.heap.size, xs.length + 1, none⟩ = some (.int .i64 0) := (hrow3.cell (xs.length + 1)).trans (by simp [i64s]);
        have k3 := hrow3.frozen xs.length;
        have k4 := hrow3.frozen (xs.length + 1); clear hrow2))
  go_ret
  refine ⟨rfl, ?_, (hb2.setCell (Nat.le_refl _) _).setCell (Nat.le_refl _) _⟩
  have h5 := (hrow3.set xs.length (.int .i64 7)).set (xs.length + 1) (.int .i64 7)
  have e : ((i64s xs ++ [Value.int .i64 0, Value.int .i64 0]).set xs.length (.int .i64 7)).set (xs.length + 1) (.int .i64 7) = i64s xs ++ sevens := by
    rw [List.set_append_right _ _ (by rw [i64s_length]; exact Nat.le_refl _), List.set_append_right _ _ (by rw [i64s_length]; omega), i64s_length]
    simp [sevens]
  rwa [e] at h5

theorem spare_ints (xs : List Int) (w : World) (g : Nat) (h : Row w g 3 (i64s xs ++ sevens)) : IntsAt w (some ⟨g, 0, none⟩) xs := by
  refine .inr ⟨g, 0, rfl, fun j hj => ?_⟩
  rw [h.cell, Nat.zero_add, List.getElem?_append_left (by rw [i64s_length]; exact hj)]
  simp [i64s, hj]
theorem sev_get {zs : List Value} (k n : Nat) (hk : k ≤ n) (hz : zs.length = n) : (List.replicate k (Value.int .i64 7) ++ zs.drop k).length = n := by simp; omega
theorem sev_set {zs : List Value} (k : Nat) (hk : k < zs.length) : (List.replicate k (Value.int .i64 7) ++ zs.drop k).set k (.int .i64 7) = List.replicate (k + 1) (.int .i64 7) ++ zs.drop (k + 1) := by
  rw [List.set_append_right _ _ (by simp), List.length_replicate, Nat.sub_self, List.drop_eq_getElem_cons hk, List.set_cons_zero, List.replicate_succ', List.append_assoc]
  rfl
theorem grown_one {w w1 w2 : World} {r : Option Nat} (h : w.grownBy w1 r) (h' : w1.grownBy w2 r) : w.grownBy w2 r :=
  ⟨h'.os.trans h.os, h'.tape.trans h.tape, h'.output.trans h.output, Nat.le_trans h.size h'.size, fun k hk hn => (h'.block k (Nat.lt_of_lt_of_le hk h.size) hn).trans (h.block k hk hn)⟩
theorem grown_drewN (w : World) (m : Nat) (r : Option Nat) : w.grownBy (w.drewN m) r := ⟨rfl, rfl, rfl, Nat.le_refl _, fun _ _ _ => rfl⟩
theorem grown_setCell (w : World) (g j : Nat) (v : Value) : w.grownBy (w.setCell ⟨g, j, none⟩ v) (some g) :=
  ⟨rfl, rfl, rfl, by simp [World.setCell], fun k _ hn => Below.heap_setCell _ _ _ _ (by intro e; exact hn (by rw [e]))⟩

set_option maxHeartbeats 1000000 in
theorem still_any (g : Nat) (a : Option Addr) (c : Nat) (xs : List Int) (w : World) (hbd : xs.length ≤ 4294967296) (hrow : Row w g 3 (i64s xs ++ sevens)) (hr : IntsAt w a xs) :
    Calls Tryz.prog 31 #[.slice (some ⟨g, 0, none⟩) xs.length (xs.length + 2), .slice a xs.length c] w fun e w' => e = .returned (.bool true) ∧ w.grownBy w' (some g) := by
  have hsi := spare_ints xs w g hrow
  have hcs := sameInts_any (some ⟨g, 0, none⟩) a (xs.length + 2) c xs xs w (by omega) hsi hr
  rw [show eqB xs xs = true by simp [eqB]] at hcs
  have HCS := hide hcs
  have k1 : w.cell? ⟨g, xs.length, none⟩ = some (.int .i64 7) := (hrow.cell xs.length).trans (by simp [i64s, sevens])
  have k2 : w.cell? ⟨g, xs.length + 1, none⟩ = some (.int .i64 7) := (hrow.cell (xs.length + 1)).trans (by simp [i64s, sevens])
  have HR := hide hrow
  clear hcs hsi hr hrow
  go_enter Tryz.func31, Tryz.ntmps31
  go_wp2_with fail
  refine (unhide HCS).mono ?_
  rintro e w1 ⟨rfl, m1, rfl⟩
  go_wp2
  go_loopw [9] (fun i wr => ∃ k : Nat, k ≤ xs.length + 2 ∧ i = .int .i64 k ∧ Hid (Row wr g 3 (List.replicate k (.int .i64 7) ++ (i64s xs ++ sevens).drop k)) ∧ w.grownBy wr (some g)) (fun i _ => xs.length + 2 - (intOf i).toNat)
  case atStart => exact ⟨0, Nat.zero_le _, rfl, HR.out, grown_drewN _ _ _⟩
  case round =>
    obtain ⟨k, hk, rfl, hrow, hg⟩ := hrel
    by_cases hlt : k < xs.length + 2
    · have hz : (i64s xs ++ sevens).length = xs.length + 2 := by simp [i64s, sevens]
      have hcell : ∃ v, wr.cell? ⟨g, k, none⟩ = some v := by
        rw [hrow.out.cell]
        exact ⟨_, List.getElem?_eq_getElem (by rw [sev_get k (xs.length + 2) (by omega) hz]; exact hlt)⟩
      obtain ⟨v, hv⟩ := hcell
      have hf := hrow.out.frozen k
      have HN : Hid (Row (wr.setCell ⟨g, k, none⟩ (.int .i64 7)) g 3 (List.replicate (k + 1) (.int .i64 7) ++ (i64s xs ++ sevens).drop (k + 1))) := by
        have := hrow.out.set k (.int .i64 7)
        rwa [sev_set k (by rw [hz]; exact hlt)] at this
      clear hz
      go_wp2
      go_roundw
      case rel => exact ⟨k + 1, by omega, by go_num, HN, grown_one hg (grown_setCell _ _ _ _)⟩
      case measure => simp [intOf]; omega
    · go_wp2
      go_ret
      exact ⟨rfl, hg⟩

set_option maxHeartbeats 1000000 in
theorem sameListsL_any (a1 a2 : Option Addr) (c1 c2 : Nat) (A1 A2 : Nat → Option Addr) (C1 C2 : Nat → Nat) (xss yss : List (List Int)) (w : World)
    (hx : xss.length ≤ 9223372036854775807) (hr1 : RowsAt w a1 A1 C1 xss) (hr2 : RowsAt w a2 A2 C2 yss) :
    Calls Tryz.prog 53 #[.slice a1 xss.length c1, .slice a2 yss.length c2] w fun e w' => e = .returned (.bool (eqB xss yss)) ∧ ∃ m, w' = w.drewN m := by
  by_cases hlen : ¬ xss.length = yss.length
  · have hne : ((xss.length : Int) != (yss.length : Int)) = true := by rw [bne_iff_ne]; omega
    have H : Hid (eqB xss yss = false) := eqB_len _ _ hlen
    clear hlen
    go_enter Tryz.func53, Tryz.ntmps53
    go_wp2
    go_ret
    exact ⟨ret_bool H.out.symm, 0, rfl⟩
  have hne : ((xss.length : Int) != (yss.length : Int)) = false := by rw [bne_eq_false_iff_eq]; omega
  have hlen' := Decidable.not_not.1 hlen
  have HL := hide hlen'
  clear hlen hlen'
  go_enter Tryz.func53, Tryz.ntmps53
  go_wp2
  go_loopw [5] (fun i wr => ∃ k m : Nat, k ≤ xss.length ∧ i = .int .i64 k ∧ Hid (eqB xss yss = eqB (xss.drop k) (yss.drop k)) ∧ wr = w.drewN m) (fun i _ => xss.length - (intOf i).toNat)
  case atStart => exact ⟨0, 0, Nat.zero_le _, rfl, rfl, rfl⟩
  case round =>
    obtain ⟨k, m, hk, rfl, hl, hw⟩ := hrel
    have HW := hide hw
    by_cases hlt : k < xss.length
    · have hlt2 : k < yss.length := by have := HL.out; omega
      obtain ⟨b1, o1, rfl, hc1⟩ := (show RowsAt wr _ _ _ _ from hr1.kept (fun _ _ _ h => by rw [hw]; exact h)).get (by omega)
      obtain ⟨b2, o2, rfl, hc2⟩ := (show RowsAt wr _ _ _ _ from hr2.kept (fun _ _ _ h => by rw [hw]; exact h)).get (by omega)
      clear hw
      obtain ⟨p1, q1, s1⟩ := hc1 k hlt
      obtain ⟨p2, q2, s2⟩ := hc2 k hlt2
      have HD : Hid (eqB (xss.drop k) (yss.drop k) = (eqB (xss.getD k []) (yss.getD k []) && eqB (xss.drop (k + 1)) (yss.drop (k + 1)))) := eqB_drop xss yss [] k hlt hlt2
      clear hc1 hc2 hr1 hr2 hne
      generalize xss.getD k [] = xs at p1 q1 s1 HD
      generalize yss.getD k [] = ys at p2 q2 s2 HD
      generalize A1 k = a1 at p1 q1
      generalize A2 k = a2 at p2 q2
      generalize C1 k = c1 at p1
      generalize C2 k = c2 at p2
      have hcs : ∀ n, Calls Tryz.prog 23 #[.slice a1 xs.length c1, .slice a2 ys.length c2] (wr.drewN n) fun e w' => e = .returned (.bool (eqB xs ys)) ∧ ∃ m', w' = (wr.drewN n).drewN m' := fun n => sameInts_any a1 a2 c1 c2 xs ys (wr.drewN n) s1 (q1.kept fun _ _ _ h => h) (q2.kept fun _ _ _ h => h)
      have HCS := hide hcs
      clear hcs q1 q2 s1 s2
      go_wp2
      go_quiet ((go_at_call 23; exact Calls.quiet_of (unhide HCS _)))
      cases hb : eqB xs ys
      · go_wp2
        go_ret
        exact ⟨ret_bool (by rw [hl.out, HD.out, hb] <;> rfl), _, by rw [HW.out]; exact World.drewN_drewN _ _ _⟩
      · go_wp2
        go_roundw
        case rel => exact ⟨k + 1, _, by omega, by go_num, by show _ = _; rw [hl.out, HD.out, hb] <;> rfl, by rw [HW.out]; exact World.drewN_drewN _ _ _⟩
        case measure => simp [intOf]; omega
    · have HE : Hid (eqB (xss.drop k) (yss.drop k) = true) := eqB_end _ _ _ (by omega) (by have := HL.out; omega)
      clear hw
      go_wp2
      go_ret
      exact ⟨ret_bool (by rw [hl.out, HE.out] <;> rfl), m, HW.out⟩

end Go.Proofs.YthboeppmlhbofaaGreatDoor
