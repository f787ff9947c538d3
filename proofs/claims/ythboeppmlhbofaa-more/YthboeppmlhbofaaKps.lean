/-
  trailkeep: the small functions, the walks.
-/
import Derived.Test.YthboeppmlhbofaaSnf
import Derived.Test.YthboeppmlhbofaaChm
namespace Go.Proofs.Ythboeppmlhbofaa
open Go.RowKit Txt
set_option maxRecDepth 100000

def pickK (c : Int) (n : Nat) : Nat := ((if c < 0 then -(c + 1) else c) % (n : Int)).toNat
def soB (v : Nat) (x : Int) : Bool := litB x && (if 0 < x then v.testBit (x.toNat - 1) else !(v.testBit ((-x).toNat - 1)))
theorem and_one (v k : Nat) (hv : v < 1024) : bits .and .i64 ((v : Int) / 2 ^ k) 1 = (((v.testBit k).toNat : Nat) : Int) := by
  have h1 : ((v : Int) / 2 ^ k) = ((v / 2 ^ k : Nat) : Int) := by rw [Int.natCast_ediv, Int.natCast_pow]; rfl
  have h2 : v / 2 ^ k ≤ v := Nat.div_le_self _ _
  have h3 : bits .and .i64 ((v / 2 ^ k : Nat) : Int) 1 = ((v / 2 ^ k &&& 1 : Nat) : Int) := and64 (v / 2 ^ k) 1 (by omega) (by decide)
  rw [h1, h3, Nat.and_one_is_mod, Nat.toNat_testBit]

set_option maxHeartbeats 2000000 in
theorem pickK_any (c : Int) (w : World) (h1 : -9223372036854775808 ≤ c) (h2 : c ≤ 9223372036854775807) :
    Calls Try.prog 7 #[.int .i64 c, .int .i64 1024] w fun e w' => e = .returned (.int .i64 (pickK c 1024 : Nat)) ∧ w' = w := by
  by_cases hc : c < 0
  · have e : Hid (((pickK c 1024 : Nat) : Int) = -(c + 1) % 1024) := by
      show _ = _
      unfold pickK
      rw [if_pos hc]
      have := Int.emod_nonneg (-(c + 1)) (show (1024 : Int) ≠ 0 by omega)
      omega
    have t1 : Hid (Int.tmod (-(c + 1)) 1024 = -(c + 1) % 1024) := by show _ = _; exact Int.tmod_eq_emod_of_nonneg (by omega)
    go_enter Try.func7, Try.ntmps7
    go_wp2
    go_ret
    refine ⟨ret_int ?_, rfl⟩
    rw [e.out, ← t1.out, Int.neg_tmod]
  · have e : Hid (((pickK c 1024 : Nat) : Int) = c % 1024) := by
      show _ = _
      unfold pickK
      rw [if_neg hc]
      have := Int.emod_nonneg c (show (1024 : Int) ≠ 0 by omega)
      omega
    have t1 : Hid (Int.tmod c 1024 = c % 1024) := by show _ = _; exact Int.tmod_eq_emod_of_nonneg (by omega)
    go_enter Try.func7, Try.ntmps7
    go_wp2
    go_ret
    refine ⟨ret_int ?_, rfl⟩
    rw [e.out]
    first | done | exact t1.out | rw [← t1.out]

set_option maxHeartbeats 2000000 in
theorem so_any (x : Int) (v : Nat) (hv : v < 1024) (w : World) :
    Calls Try.prog 13 #[.int .i64 x, .int .i64 v] w fun e w' => e = .returned (.bool (soB v x)) ∧ w' = w := by
  have hA := fun k => and_one v k hv
  cases hl : litB x with
  | false =>
    have HE : Hid (soB v x = false) := by show _ = _; simp [soB, hl]
    simp only [litB, Bool.and_eq_false_iff, bne_eq_false_iff_eq, decide_eq_false_iff_not] at hl
    clear hA
    by_cases h0 : x = 0
    · subst h0
      go_enter Try.func13, Try.ntmps13
      go_wp2
      go_ret
      exact ⟨by rw [HE.out]; rfl, rfl⟩
    · have h0' : (x == 0) = false := by simpa using h0
      by_cases h1 : x < -10
      · clear hl
        go_enter Try.func13, Try.ntmps13
        go_wp2
        go_ret
        exact ⟨by rw [HE.out]; rfl, rfl⟩
      · have h2 : x > 10 := by rcases hl with (hl | hl) | hl <;> omega
        clear hl
        go_enter Try.func13, Try.ntmps13
        go_wp2
        go_ret
        exact ⟨by rw [HE.out]; rfl, rfl⟩
  | true =>
    have hl' := hl
    simp only [litB, Bool.and_eq_true, bne_iff_ne, decide_eq_true_eq] at hl
    by_cases hp : 0 < x
    · obtain ⟨k, rfl⟩ : ∃ k : Nat, x = (k : Int) + 1 := ⟨(x - 1).toNat, by omega⟩
      have HE : Hid (soB v ((k : Int) + 1) = v.testBit k) := by
        show _ = _
        unfold soB
        rw [hl', if_pos hp, show ((k : Int) + 1).toNat - 1 = k by omega]; rfl
      have ha := hA k
      have h0 : (((k : Int) + 1) == 0) = false := by simp; omega
      have hk10 : k < 10 := by omega
      clear hA hl hl'
      generalize soB v ((k : Int) + 1) = R at *
      cases hb : v.testBit k with
      | true =>
        rw [hb] at ha
        go_enter Try.func13, Try.ntmps13
        go_wp2
        go_ret
        exact ⟨by rw [HE.out, hb]; rfl, rfl⟩
      | false =>
        rw [hb] at ha
        go_enter Try.func13, Try.ntmps13
        go_wp2
        go_ret
        exact ⟨by rw [HE.out, hb]; rfl, rfl⟩
    · obtain ⟨k, rfl⟩ : ∃ k : Nat, x = -((k : Int) + 1) := ⟨(-x - 1).toNat, by omega⟩
      have HE : Hid (soB v (-((k : Int) + 1)) = !(v.testBit k)) := by
        show _ = _
        unfold soB
        rw [hl', if_neg hp, Int.neg_neg, show ((k : Int) + 1).toNat - 1 = k by omega]; rfl
      have ha := hA k
      have h0 : ((-((k : Int) + 1)) == 0) = false := by simp; omega
      have hk10 : k < 10 := by omega
      have hwn : IntKind.i64.wrap (-(-((k : Int) + 1))) = (k : Int) + 1 := by rw [IntKind.wrap_i64]; omega
      clear hA hl hl'
      generalize hxx : -((k : Int) + 1) = xx at *
      have hn1 : ¬ xx > 0 := by omega
      have hn2 : ¬ xx > 10 := by omega
      have hn3 : ¬ xx < -10 := by omega
      have hwx : -xx = (k : Int) + 1 := by omega
      generalize soB v xx = R at *
      clear hxx
      cases hb : v.testBit k with
      | true =>
        rw [hb] at ha
        go_enter Try.func13, Try.ntmps13
        go_wp2
        go_ret
        exact ⟨by rw [HE.out, hb]; rfl, rfl⟩
      | false =>
        rw [hb] at ha
        go_enter Try.func13, Try.ntmps13
        go_wp2
        go_ret
        exact ⟨by rw [HE.out, hb]; rfl, rfl⟩

end Go.Proofs.Ythboeppmlhbofaa
