/-
  traillaw's small: the walk.
-/
import Derived.Test.YtgohikopopgokaaGreatDoorStp
namespace Go.Proofs.YtgohikopopgokaaGreatDoor
open Go.RowKit Txt
set_option maxRecDepth 100000

def opZ : OpD := ⟨0, 0, 0, 0, ByteArray.empty⟩
/-- a list of steps lies there -/
def OpsAt (w : World) (a : Option Addr) (ops : List OpD) : Prop :=
  ops = [] ∨ ∃ b off, a = some ⟨b, off, none⟩ ∧ ∀ j, j < ops.length → ∀ i v, (ops.getD j opZ).cells[i]? = some v → w.cell? ⟨b, off + j * 5 + i, none⟩ = some v
theorem OpsAt.get {w : World} {a : Option Addr} {ops : List OpD} (h : OpsAt w a ops) (hp : 0 < ops.length) :
    ∃ b off, a = some ⟨b, off, none⟩ ∧ ∀ j, j < ops.length → ∀ i v, (ops.getD j opZ).cells[i]? = some v → w.cell? ⟨b, off + j * 5 + i, none⟩ = some v := by
  rcases h with rfl | h
  · simp at hp
  · exact h
theorem OpsAt.kept {w w' : World} {a : Option Addr} {ops : List OpD} (h : OpsAt w a ops) (hk : ∀ b off v, w.cell? ⟨b, off, none⟩ = some v → w'.cell? ⟨b, off, none⟩ = some v) : OpsAt w' a ops := by
  rcases h with rfl | ⟨b, off, rfl, h⟩
  · exact .inl rfl
  · exact .inr ⟨b, off, rfl, fun j hj i v hv => hk _ _ _ (h j hj i v hv)⟩
theorem OpsAt.below {w w' : World} {a : Option Addr} {ops : List OpD} (h : OpsAt w a ops) (hb : Below w.heap.size w w') : OpsAt w' a ops :=
  h.kept fun b off _ hv => (hb.cell (p := ⟨b, off, none⟩) (World.block_lt_of_cell? w _ hv)).trans hv

/-- the bytes of their texts -/
def bytesOf (ops : List OpD) : Nat := (ops.map fun o => o.s.size).sum
theorem bytesOf_take (ops : List OpD) (k : Nat) (h : k < ops.length) : bytesOf (ops.take (k + 1)) = bytesOf (ops.take k) + (ops.getD k opZ).s.size := by
  rw [List.take_succ_eq_append_getElem h, List.getD_eq_getElem?_getD, List.getElem?_eq_getElem h]
  simp only [bytesOf, List.map_append, List.sum_append, List.map_cons, List.map_nil, List.sum_cons, List.sum_nil, Nat.add_zero, Option.getD_some]
theorem bytesOf_le (ops : List OpD) (k : Nat) : bytesOf (ops.take k) ≤ bytesOf ops := by
  have h : bytesOf ops = bytesOf (ops.take k) + bytesOf (ops.drop k) := by
    unfold bytesOf
    rw [← List.sum_append, ← List.map_append, List.take_append_drop]
  omega
theorem bytesOf_mem {ops : List OpD} {o : OpD} (h : o ∈ ops) : o.s.size ≤ bytesOf ops := by
  induction ops with
  | nil => simp at h
  | cons x xs ih =>
    simp only [bytesOf, List.map_cons, List.sum_cons]
    rcases List.mem_cons.1 h with rfl | h
    · omega
    · have := ih h
      simp only [bytesOf] at this
      omega
def smallB (ops : List OpD) : Bool := decide (ops.length + bytesOf ops ≤ 16384)

set_option maxHeartbeats 2000000 in
theorem small_any (a : Option Addr) (c : Nat) (ops : List OpD) (w : World) (h : OpsAt w a ops) (hlen : ops.length ≤ 9223372036854775807) (hs : Hid (∀ o ∈ ops, o.s.size ≤ 4611686018427387904)) :
    Calls Tryz.prog 9 #[.slice a ops.length c] w fun e w' => e = .returned (.bool (smallB ops)) ∧ w' = w := by
  by_cases hbig : 16384 < ops.length
  · have hsb : Hid (smallB ops = false) := by show _ = _; simp [smallB]; omega
    have hbi : ((ops.length : Int) > 16384) := by omega
    go_enter Tryz.func9, Tryz.ntmps9
    go_wp2
    go_ret
    exact ⟨by rw [hsb.out]; rfl, rfl⟩
  · have H := hide h
    have hbi : ((ops.length : Int) ≤ 16384) := by omega
    clear h
    go_enter Tryz.func9, Tryz.ntmps9
    go_wp2
    go_loop [3, 4] (fun n i => ∃ k : Nat, k ≤ ops.length ∧ i = .int .i64 k ∧ n = .int .i64 ((ops.length + bytesOf (ops.take k) : Nat) : Int) ∧ ops.length + bytesOf (ops.take k) ≤ 16384) (fun _ i => ops.length - (intOf i).toNat)
    case atStart => exact ⟨0, Nat.zero_le _, rfl, by simp [bytesOf], by simp [bytesOf]; omega⟩
    case round =>
      obtain ⟨k, hk, rfl, rfl, hle⟩ := hrel
      by_cases hlt : k < ops.length
      · have hb1 := bytesOf_take ops k hlt
        have hb2 := bytesOf_le ops (k + 1)
        have hsk := hs.out _ (show ops.getD k opZ ∈ ops by rw [List.getD_eq_getElem?_getD, List.getElem?_eq_getElem hlt]; exact List.getElem_mem hlt)
        obtain ⟨b, off, rfl, hc⟩ := H.out.get (by omega)
        have c4 := hc k hlt 4 (.string (ops.getD k opZ).s) rfl
        clear hc
        generalize hm1 : bytesOf (ops.take (k + 1)) = m1 at hb1 hb2
        generalize hm0 : bytesOf (ops.take k) = m0 at hb1 hle ⊢
        generalize (ops.getD k opZ).s = t at *
        by_cases hov : 16384 < ops.length + m1
        · have hsb : Hid (smallB ops = false) := by show _ = _; simp [smallB]; omega
          have hoi : ((ops.length : Int) + m0 + t.size > 16384) := by omega
          go_wp2
          go_ret
          exact ⟨by rw [hsb.out]; rfl, rfl⟩
        · have hoi : ((ops.length : Int) + m0 + t.size ≤ 16384) := by omega
          have HM1 := hide hm1
          have HM0 := hide hm0
          clear hm1 hm0
          go_wp2
          go_round
          case rel => exact ⟨k + 1, by omega, by go_num, by rw [HM1.out, hb1]; go_num, by rw [HM1.out]; omega⟩
          case measure => simp [intOf]; omega
      · obtain rfl : k = ops.length := by omega
        have hsb : Hid (smallB ops = true) := by
          show _ = _
          rw [List.take_length] at hle
          simpa [smallB] using hle
        go_wp2
        go_ret
        exact ⟨by rw [hsb.out]; rfl, rfl⟩

end Go.Proofs.YtgohikopopgokaaGreatDoor
