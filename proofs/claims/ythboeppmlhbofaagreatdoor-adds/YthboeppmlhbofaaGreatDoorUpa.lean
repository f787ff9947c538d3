/-
  traillaw's upTo, over the steps of Adds: the walk.
-/
import Derived.Test.YthboeppmlhbofaaGreatDoorSta
import Derived.Test.YthboeppmlhbofaaGreatDoorStp
import Derived.Test.YthboeppmlhbofaaGreatDoorPly
namespace Go.Proofs.YthboeppmlhbofaaGreatDoor
open Go.RowKit Txt
set_option maxRecDepth 100000

theorem ai_new (w : World) : AI (w.alloc (.cells #[.slice none 0 0, .slice none 0 0, .slice none 0 0, .slice none 0 0, .slice none 0 0, .slice none 0 0, .int .i64 0] 34)) w.heap.size w.heap.size 0 V0 s0 [] :=
  ⟨wi_new w, bd_new, rfl, fun j d h => by simp at h, fun j d h => by simp at h, fun j d h => by simp at h, fun j k d d' h => by simp at h, fun j d h => by simp at h, Nat.le_refl _⟩

set_option maxHeartbeats 4000000 in
theorem upTo_ad (a : Option Addr) (c : Nat) (ops : List OpD) (w : World) (h : OpsAt w a ops) (hlen : ops.length ≤ 16384) (hok : Hid (∀ o ∈ ops, o.Ok ∧ kindAd o.k)) :
    Calls Tryz.prog 11 #[.slice a ops.length c] w fun e w' => e = .returned (.int .i64 (-1)) ∧ Below w.heap.size w w' := by
  have HW := hide (ai_new w)
  have HB : Hid (∀ x, Below w.heap.size w (w.alloc x)) := fun x => (Below.refl _ _).alloc (Nat.le_refl _) x
  have H := hide h
  clear h
  go_enter Tryz.func11, Tryz.ntmps11
  go_wp2
  go_loopw [4] (fun i wr => ∃ (k : Nat) (V : WV) (s : St) (ds : List SolD), k ≤ ops.length ∧ i = .int .i64 k ∧ Hid (AI wr w.heap.size w.heap.size k V s ds) ∧ Hid (Below w.heap.size w wr)) (fun i _ => ops.length - (intOf i).toNat)
  case atStart => exact ⟨0, V0, s0, [], Nat.zero_le _, rfl, HW, HB.out _⟩
  case round =>
    clear HW
    obtain ⟨k, V, s, ds, hk, rfl, HI, HL⟩ := hrel
    by_cases hlt : k < ops.length
    · have hmem : ops.getD k opZ ∈ ops := by rw [List.getD_eq_getElem?_getD, List.getElem?_eq_getElem hlt]; exact List.getElem_mem hlt
      obtain ⟨o1, o2⟩ := hok.out _ hmem
      obtain ⟨b, off, rfl, hc⟩ := (H.out.below HL.out).get (by omega)
      have c0 := hc k hlt 0 _ rfl
      have c1 := hc k hlt 1 _ rfl
      have c2 := hc k hlt 2 _ rfl
      have c3 := hc k hlt 3 _ rfl
      have c4 := hc k hlt 4 _ rfl
      clear hc hmem
      generalize ops.getD k opZ = o at *
      have HS := hide (step_ad w.heap.size w.heap.size k V s ds wr o o1 o2 HI.out (by omega))
      obtain ⟨ok, oa, ob, oc, os⟩ := o
      simp only [OpD.cells, Nat.add_zero] at *
      clear o1 o2
      go_wp2_with fail
      refine (unhide HS).mono ?_
      rintro e w1 ⟨rfl, V', s', ds', i1, i3⟩
      have HI1 := hide i1
      have HL1 := hide (HL.out.trans i3)
      have LK := hide (looks_any w.heap.size w.heap.size (k + 1) V' s' w1 i1.i i1.b (by omega))
      clear i1 i3 HS c0 c1 c2 c3 c4 HI HL
      go_wp2_with fail
      refine (unhide LK).mono ?_
      rintro e w2 ⟨rfl, m, hw⟩
      have HI2 : Hid (AI w2 w.heap.size w.heap.size (k + 1) V' s' ds') := by rw [hw]; exact HI1.out.below (below_drew_size _ _)
      have HL2 : Hid (Below w.heap.size w w2) := by rw [hw]; exact below_drewN HL1.out _
      clear hw LK HI1 HL1
      go_wp2
      go_roundw
      case rel => exact ⟨k + 1, V', s', ds', by omega, by go_num, HI2, HL2⟩
      case measure => simp [intOf]; omega
    · obtain rfl : k = ops.length := by omega
      go_wp2
      go_ret
      exact ⟨rfl, HL.out⟩

end Go.Proofs.YthboeppmlhbofaaGreatDoor

/-
  traillaw.Adds: the walk.
-/
namespace Go.Proofs.YthboeppmlhbofaaGreatDoor
open Go.RowKit Txt
set_option maxRecDepth 100000

theorem inK_ad {k : Int} (h : inK [12, 13, 14, 15, 16, 20] k = true) : kindAd k := by
  simp only [inK, List.any_cons, List.any_nil, Bool.or_false, Bool.or_eq_true, decide_eq_true_eq, beq_iff_eq] at h
  exact h

set_option maxHeartbeats 2000000 in
theorem adds_any (a : Option Addr) (c : Nat) (ops : List OpD) (w : World) (h : OpsAt w a ops) (hlen : ops.length ≤ 9223372036854775807) (hs : ∀ o ∈ ops, o.s.size ≤ 4611686018427387904)
    (hr : ∀ o ∈ ops, (-9223372036854775808 ≤ o.a ∧ o.a ≤ 9223372036854775807) ∧ (-9223372036854775808 ≤ o.b ∧ o.b ≤ 9223372036854775807)) :
    Calls Tryz.prog 4 #[.slice a ops.length c] w fun e w' => e = .returned (.bool true) ∧ Below w.heap.size w w' := by
  have hb : Below w.heap.size w (w.alloc (.cells #[.int .i64 12, .int .i64 13, .int .i64 14, .int .i64 15, .int .i64 16, .int .i64 20] 3)) := (Below.refl _ _).alloc (Nat.le_refl _) _
  have hki : IntsAt (w.alloc (.cells #[.int .i64 12, .int .i64 13, .int .i64 14, .int .i64 15, .int .i64 16, .int .i64 20] 3)) (some ⟨w.heap.size, 0, none⟩) [12, 13, 14, 15, 16, 20] := by
    refine .inr ⟨w.heap.size, 0, rfl, fun j hj => ?_⟩
    have := new_cells1 w [.int .i64 12, .int .i64 13, .int .i64 14, .int .i64 15, .int .i64 16, .int .i64 20] 3 j (.int .i64 (([12, 13, 14, 15, 16, 20] : List Int).getD j 0)) (by
      have : j = 0 ∨ j = 1 ∨ j = 2 ∨ j = 3 ∨ j = 4 ∨ j = 5 := by simp at hj; omega
      rcases this with rfl | rfl | rfl | rfl | rfl | rfl <;> rfl)
    rwa [addr0] at this
  have HP := hide (plays_any a (some ⟨w.heap.size, 0, none⟩) c 6 ops [12, 13, 14, 15, 16, 20] (w.alloc (.cells #[.int .i64 12, .int .i64 13, .int .i64 14, .int .i64 15, .int .i64 16, .int .i64 20] 3)) (h.below hb) hlen hs hki (by simp) (by
    intro a' c' w' hsm hb' hops
    obtain ⟨p1, p2⟩ := small_parts hsm
    refine upTo_ad a' c' _ w' hops (Nat.le_trans (List.length_filter_le _ _) p1) (fun o ho => ?_)
    obtain ⟨m1, m2⟩ := List.mem_filter.1 ho
    exact ⟨⟨(hr o m1).1, (hr o m1).2, p2 o m1⟩, inK_ad m2⟩))
  have HB := hide hb
  clear hb hki h hs hr
  go_enter Tryz.func4, Tryz.ntmps4
  go_wp2_with fail
  refine (unhide HP).mono ?_
  rintro e w' ⟨rfl, hb'⟩
  have HZ : Hid (Below w.heap.size w w') := HB.out.trans (hb'.mono HB.out.size)
  clear hb'
  go_wp2
  go_ret
  exact ⟨rfl, HZ.out⟩

end Go.Proofs.YthboeppmlhbofaaGreatDoor
