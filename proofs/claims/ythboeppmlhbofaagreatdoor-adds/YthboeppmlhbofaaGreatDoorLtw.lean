/-
  literal's sets: the walks.
-/
import Derived.Test.YthboeppmlhbofaaGreatDoorOpp
import Derived.Laws.ResultCell
import Derived.Laws.Rows
namespace Go.Proofs.YthboeppmlhbofaaGreatDoor
open Go.RowKit Txt
set_option maxRecDepth 100000

set_option maxHeartbeats 1000000 in
theorem lbit_any (v : Nat) (h1 : 1 ≤ v) (h2 : v ≤ 10) (w : World) : Calls Tryz.prog 95 #[.int .i64 v] w fun e w' => e = .returned (.int .i64 (2 ^ v : Nat)) ∧ w' = w := by
  have hv : v = 1 ∨ v = 2 ∨ v = 3 ∨ v = 4 ∨ v = 5 ∨ v = 6 ∨ v = 7 ∨ v = 8 ∨ v = 9 ∨ v = 10 := by omega
  clear h1 h2
  rcases hv with rfl | rfl | rfl | rfl | rfl | rfl | rfl | rfl | rfl | rfl
  all_goals
    go_enter Tryz.func95, Tryz.ntmps95
    go_wp2
    go_ret
    exact ⟨rfl, rfl⟩

theorem and_pow (t j : Nat) : t &&& 2 ^ j = (t.testBit j).toNat * 2 ^ j := by
  apply Nat.eq_of_testBit_eq
  intro i
  rw [Nat.testBit_and, Nat.testBit_two_pow]
  cases h : t.testBit j with
  | true =>
    rw [Bool.toNat_true, Nat.one_mul, Nat.testBit_two_pow]
    by_cases e : j = i
    · subst e; simp [h]
    · simp [e]
  | false =>
    rw [Bool.toNat_false, Nat.zero_mul, Nat.zero_testBit]
    by_cases e : j = i
    · subst e; simp [h]
    · simp [e]
theorem cvTo_le (t k : Nat) : cvTo t k ≤ k := by
  induction k with
  | zero => exact Nat.le_refl _
  | succ k ih => simp only [cvTo]; have := Bool.toNat_le (t.testBit (k + 1)); omega
theorem cvN_le (t : Nat) : cvN t ≤ 10 := cvTo_le t 10

set_option maxHeartbeats 1000000 in
theorem countVars_any (t : Nat) (ht : t < 2 ^ 11) (w : World) : Calls Tryz.prog 66 #[.int .i64 t] w fun e w' => e = .returned (.int .i64 (cvN t : Nat)) ∧ w' = w := by
  go_enter Tryz.func66, Tryz.ntmps66
  go_wp2
  go_loop [3, 4] (fun n v => ∃ k : Nat, k ≤ 10 ∧ v = .int .i64 ((k : Int) + 1) ∧ n = .int .i64 (cvTo t k : Nat)) (fun _ v => 11 - (intOf v).toNat)
  case atStart => exact ⟨0, by omega, rfl, rfl⟩
  case round =>
    obtain ⟨k, hk, rfl, rfl⟩ := hrel
    have hle := cvTo_le t k
    by_cases hlt : k < 10
    · have hb := lbit_any (k + 1) (by omega) (by omega) w
      have hp : 2 ^ (k + 1) ≤ 2 ^ 10 := Nat.pow_le_pow_right (by decide) (by omega)
      have hp0 : 0 < 2 ^ (k + 1) := Nat.pow_pos (by decide)
      have ha := and64 t (2 ^ (k + 1)) (by omega) (by omega)
      rw [and_pow] at ha
      have HC : Hid (cvTo t (k + 1) = cvTo t k + (t.testBit (k + 1)).toNat) := rfl
      have hkc : ((k + 1 : Nat) : Int) = (k : Int) + 1 := by omega
      rw [hkc] at hb
      clear hkc
      generalize 2 ^ (k + 1) = p at *
      have HB := hide hb
      clear hb
      cases hbit : t.testBit (k + 1) with
      | true =>
        rw [hbit] at ha HC
        simp only [Bool.toNat_true, Nat.one_mul] at ha
        have hpn : (((p : Int) != 0) = true) := by simp; omega
        clear hbit
        go_wp2_with (go_at_call 95; refine (unhide HB).mono ?_; rintro e w' ⟨rfl, hw⟩; obtain rfl := hw.symm)
        go_round
        case rel => exact ⟨k + 1, by omega, by go_num, by rw [HC.out]; rfl⟩
        case measure => simp [intOf]; omega
      | false =>
        rw [hbit] at ha HC
        simp only [Bool.toNat_false, Nat.zero_mul] at ha
        clear hbit
        go_wp2_with (go_at_call 95; refine (unhide HB).mono ?_; rintro e w' ⟨rfl, hw⟩; obtain rfl := hw.symm)
        go_round
        case rel => exact ⟨k + 1, by omega, by go_num, by rw [HC.out]; rfl⟩
        case measure => simp [intOf]; omega
    · obtain rfl : k = 10 := by omega
      go_wp2
      go_ret
      exact ⟨rfl, rfl⟩

set_option maxHeartbeats 400000 in
theorem isTaut_any (t f : Nat) (ht : t < 2 ^ 11) (hf : f < 2 ^ 11) (w : World) : Calls Tryz.prog 60 #[.agg #[.int .i64 t, .int .i64 f]] w fun e w' => e = .returned (.bool (t &&& f != 0)) ∧ Below w.heap.size w w' := by
  have ha := and64 t f (by omega) (by omega)
  have hb : Hid ((((t &&& f : Nat) : Int) != 0) = (t &&& f != 0)) := by
    show _ = _
    cases h : t &&& f <;> rfl
  have HN : Hid (∀ x, Below w.heap.size w (w.alloc x)) := fun x => (Below.refl _ _).alloc (Nat.le_refl _) _
  generalize t &&& f = z at *
  go_enter Tryz.func60, Tryz.ntmps60
  go_wp2
  go_ret
  exact ⟨by rw [← hb.out]; rfl, HN.out _⟩

set_option maxHeartbeats 400000 in
theorem lvars_any (t f : Nat) (ht : t < 2 ^ 11) (hf : f < 2 ^ 11) (w : World) : Calls Tryz.prog 63 #[.agg #[.int .i64 t, .int .i64 f]] w fun e w' => e = .returned (.int .i64 (t ||| f : Nat)) ∧ Below w.heap.size w w' := by
  have ha := hide (or64 t f (by omega) (by omega))
  have HN : Hid (∀ x, Below w.heap.size w (w.alloc x)) := fun x => (Below.refl _ _).alloc (Nat.le_refl _) _
  go_enter Tryz.func63, Tryz.ntmps63
  go_wp2
  go_ret
  exact ⟨ret_int ha.out, HN.out _⟩

set_option maxHeartbeats 1000000 in
theorem lsize_any (t f : Nat) (ht : t < 2 ^ 11) (hf : f < 2 ^ 11) (w : World) : Calls Tryz.prog 61 #[.agg #[.int .i64 t, .int .i64 f]] w fun e w' => e = .returned (.int .i64 (cvN t + cvN f : Nat)) ∧ Below w.heap.size w w' := by
  have h1 := cvN_le t
  have h2 := cvN_le f
  have HN : Hid (∀ x n, Below w.heap.size w ((w.alloc x).drewN n)) := fun x n => below_drewN ((Below.refl _ _).alloc (Nat.le_refl _) _) n
  go_enter Tryz.func61, Tryz.ntmps61
  go_wp2
  go_quiet ((go_at_call 66; exact Calls.quiet_of_same (countVars_any _ (by assumption) _)))
  go_wp2
  go_ret
  exact ⟨ret_int (by go_num), HN.out _ _⟩

end Go.Proofs.YthboeppmlhbofaaGreatDoor
