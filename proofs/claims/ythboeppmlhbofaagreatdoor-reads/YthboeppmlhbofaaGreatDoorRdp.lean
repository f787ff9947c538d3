/-
  traillaw.Reads: the walk.
-/
import Derived.Test.YthboeppmlhbofaaGreatDoorPly
namespace Go.Proofs.YthboeppmlhbofaaGreatDoor
open Go.RowKit Txt
set_option maxRecDepth 100000

theorem inK_rd {k : Int} (h : inK [10, 11] k = true) : kindRd k := by
  simp only [inK, List.any_cons, List.any_nil, Bool.or_false, Bool.or_eq_true, decide_eq_true_eq, beq_iff_eq] at h
  exact h

set_option maxHeartbeats 2000000 in
theorem reads_any (a : Option Addr) (c : Nat) (ops : List OpD) (w : World) (h : OpsAt w a ops) (hlen : ops.length ≤ 9223372036854775807) (hs : ∀ o ∈ ops, o.s.size ≤ 4611686018427387904)
    (hr : ∀ o ∈ ops, (-9223372036854775808 ≤ o.a ∧ o.a ≤ 9223372036854775807) ∧ (-9223372036854775808 ≤ o.b ∧ o.b ≤ 9223372036854775807)) (h0 : 0 < w.heap.size) (htab : Tab w) :
    Calls Tryz.prog 3 #[.slice a ops.length c] w fun e w' => e = .returned (.bool true) ∧ Below w.heap.size w w' := by
  have hb : Below w.heap.size w (w.alloc (.cells #[.int .i64 10, .int .i64 11] 3)) := (Below.refl _ _).alloc (Nat.le_refl _) _
  have hki : IntsAt (w.alloc (.cells #[.int .i64 10, .int .i64 11] 3)) (some ⟨w.heap.size, 0, none⟩) [10, 11] := by
    refine .inr ⟨w.heap.size, 0, rfl, fun j hj => ?_⟩
    have := new_cells1 w [.int .i64 10, .int .i64 11] 3 j (.int .i64 (([10, 11] : List Int).getD j 0)) (by
      have : j = 0 ∨ j = 1 := by simp at hj; omega
      rcases this with rfl | rfl <;> rfl)
    rwa [addr0] at this
  have HP := hide (plays_any a (some ⟨w.heap.size, 0, none⟩) c 2 ops [10, 11] (w.alloc (.cells #[.int .i64 10, .int .i64 11] 3)) (h.below hb) hlen hs hki (by simp) (by
    intro a' c' w' hsm hb' hops
    obtain ⟨p1, p2⟩ := small_parts hsm
    refine upTo_rd a' c' _ w' hops (Nat.le_trans (List.length_filter_le _ _) p1) (fun o ho => ?_) (Nat.lt_of_lt_of_le (by simp) hb'.size) (Tab.below (Tab.below htab hb h0) hb' (by simp))
    obtain ⟨m1, m2⟩ := List.mem_filter.1 ho
    exact ⟨⟨(hr o m1).1, (hr o m1).2, p2 o m1⟩, inK_rd m2⟩))
  have HB := hide hb
  clear hb hki h hs hr
  go_enter Tryz.func3, Tryz.ntmps3
  go_wp2_with fail
  refine (unhide HP).mono ?_
  rintro e w' ⟨rfl, hb'⟩
  have HZ : Hid (Below w.heap.size w w') := HB.out.trans (hb'.mono HB.out.size)
  clear hb'
  go_wp2
  go_ret
  exact ⟨rfl, HZ.out⟩

end Go.Proofs.YthboeppmlhbofaaGreatDoor
