/-
  traillaw's upTo, over the steps of Reads: the walk.
-/
import Derived.Test.YtgohikopopgokaaGreatDoorSml
namespace Go.Proofs.YtgohikopopgokaaGreatDoor
open Go.RowKit Txt
set_option maxRecDepth 100000

def V0 : WV := ⟨none, none, none, none, none, none, 0, 0, 0, 0, 0, 0, 0, [], [], [], []⟩
def s0 : St := ⟨[], [], [], [], [], 0⟩
theorem wi_new (w : World) : WI (w.alloc (.cells #[.slice none 0 0, .slice none 0 0, .slice none 0 0, .slice none 0 0, .slice none 0 0, .slice none 0 0, .int .i64 0] 34)) w.heap.size w.heap.size V0 s0 := by
  have hn : ∀ (w : World) (B e : Nat), w.ownsRow B e 1 (.slice none 0 0) 0 [] := fun w B e => ⟨rfl, .inl ⟨rfl, rfl⟩⟩
  refine ⟨?_, Nat.le_refl _, hn _ _ _, hn _ _ _, trivial, hn _ _ _, hn _ _ _, hn _ _ _, trivial, hn _ _ _, trivial, apart_nil _, apart_nil _, apart_nil _, fun u hu => ?_, fun u hu => ?_, fun u hu => ?_⟩
  · show (w.alloc _).heap[w.heap.size]? = _
    simp [World.alloc, WV.cells, V0, s0, WV.vl, WV.vc, WV.vt, WV.vx, WV.vo, WV.vw, -World.alloc_eq]
  · simp [V0] at hu
  · simp [V0] at hu
  · simp [V0] at hu
theorem bd_new : Bd 0 s0 := ⟨Nat.le_refl _, by simp [s0], fun c hc => by simp [s0] at hc, Nat.le_refl _, fun c hc => by simp [s0] at hc, Nat.le_refl _, fun c hc => by simp [s0] at hc, by simp [s0], rfl⟩

set_option maxHeartbeats 4000000 in
theorem upTo_rd (a : Option Addr) (c : Nat) (ops : List OpD) (w : World) (h : OpsAt w a ops) (hlen : ops.length ≤ 16384) (hok : Hid (∀ o ∈ ops, o.Ok ∧ kindRd o.k)) (h0 : 0 < w.heap.size) (htab : Hid (Tab w)) :
    Calls Tryz.prog 10 #[.slice a ops.length c] w fun e w' => e = .returned (.int .i64 (-1)) ∧ Below w.heap.size w w' := by
  have HW := hide (wi_new w)
  have HB : Hid (∀ x, Below w.heap.size w (w.alloc x)) := fun x => (Below.refl _ _).alloc (Nat.le_refl _) x
  have H := hide h
  clear h
  go_enter Tryz.func10, Tryz.ntmps10
  go_wp2
  go_loopw [4] (fun i wr => ∃ (k : Nat) (V : WV) (s : St), k ≤ ops.length ∧ i = .int .i64 k ∧ Hid (WI wr w.heap.size w.heap.size V s) ∧ Hid (Bd k s) ∧ Hid (Below w.heap.size w wr) ∧ V.nx = 0) (fun i _ => ops.length - (intOf i).toNat)
  case atStart => exact ⟨0, V0, s0, Nat.zero_le _, rfl, HW, bd_new, HB.out _, rfl⟩
  case round =>
    clear HW
    obtain ⟨k, V, s, hk, rfl, HI, HD, HL, hx0⟩ := hrel
    by_cases hlt : k < ops.length
    · have hmem : ops.getD k opZ ∈ ops := by rw [List.getD_eq_getElem?_getD, List.getElem?_eq_getElem hlt]; exact List.getElem_mem hlt
      obtain ⟨o1, o2⟩ := hok.out _ hmem
      obtain ⟨b, off, rfl, hc⟩ := (H.out.below HL.out).get (by omega)
      have c0 := hc k hlt 0 _ rfl
      have c1 := hc k hlt 1 _ rfl
      have c2 := hc k hlt 2 _ rfl
      have c3 := hc k hlt 3 _ rfl
      have c4 := hc k hlt 4 _ rfl
      clear hc hmem
      generalize ops.getD k opZ = o at *
      have HS := hide (step_rd w.heap.size w.heap.size k V s wr o o1 o2 HI.out HD.out (by omega) h0 (Tab.below htab.out HL.out h0) hx0)
      obtain ⟨ok, oa, ob, oc, os⟩ := o
      simp only [OpD.cells, Nat.add_zero] at *
      clear o1 o2
      go_wp2_with fail
      refine (unhide HS).mono ?_
      rintro e w1 ⟨rfl, V', s', i1, i2, i3, i4, _⟩
      have HI1 := hide i1
      have HD1 := hide i2
      have HL1 := hide (HL.out.trans i3)
      have hx1 : V'.nx = 0 := i4.trans hx0
      have LK := hide (looks_any w.heap.size w.heap.size (k + 1) V' s' w1 i1 i2 (by omega))
      clear i1 i2 i3 i4 HS c0 c1 c2 c3 c4 HI HD HL hx0
      go_wp2_with fail
      refine (unhide LK).mono ?_
      rintro e w2 ⟨rfl, m, hw⟩
      have HI2 : Hid (WI w2 w.heap.size w.heap.size V' s') := by rw [hw]; exact HI1.out.below (below_drew_size _ _)
      have HL2 : Hid (Below w.heap.size w w2) := by rw [hw]; exact below_drewN HL1.out _
      clear hw LK HI1 HL1
      go_wp2
      go_roundw
      case rel => exact ⟨k + 1, V', s', by omega, by go_num, HI2, HD1, HL2, hx1⟩
      case measure => simp [intOf]; omega
    · obtain rfl : k = ops.length := by omega
      go_wp2
      go_ret
      exact ⟨rfl, HL.out⟩

end Go.Proofs.YtgohikopopgokaaGreatDoor
