/-
  trailref's Opposite, Twin, Size, Vars: the walks.
-/
import Derived.Test.YthboeppmlhbofaaSet
namespace Go.Proofs.Ythboeppmlhbofaa
open Go.RowKit Txt
set_option maxRecDepth 100000

/-- the opposites of a set's literals -/
def oppN (s : Nat) : Nat := ((s &&& 349525) * 2) ||| ((s / 2) &&& 349525)
theorem oppN_lt (s : Nat) : oppN s < 1048576 := by
  have h1 : (s &&& 349525) * 2 < 1048576 := by have := @Nat.and_le_right s 349525; omega
  have h2 : (s / 2) &&& 349525 < 1048576 := by have := @Nat.and_le_right (s / 2) 349525; omega
  exact Nat.or_lt_two_pow (n := 20) h1 h2
theorem opp_int (s : Nat) (hs : s < 1048576) : bits .or .i64 (wrap64 (bits .and .i64 (s : Int) 349525 * 2)) (bits .and .i64 ((s : Int) / 2) 349525) = ((oppN s : Nat) : Int) := by
  have e1 : bits .and .i64 (s : Int) 349525 = ((s &&& 349525 : Nat) : Int) := and64 s 349525 (by omega) (by decide)
  have e2 : bits .and .i64 ((s : Int) / 2) 349525 = ((s / 2 &&& 349525 : Nat) : Int) := and64 (s / 2) 349525 (by omega) (by decide)
  have h1 := @Nat.and_le_right s 349525
  have h2 := @Nat.and_le_right (s / 2) 349525
  rw [e1, e2]
  have e3 : wrap64 (((s &&& 349525 : Nat) : Int) * 2) = (((s &&& 349525) * 2 : Nat) : Int) := by
    unfold wrap64
    omega
  rw [e3]
  exact or64 _ _ (by omega) (by omega)

def twinB (s : Nat) : Bool := s &&& oppN s != 0
def varsN (s : Nat) : Nat := (s ||| oppN s) &&& 349525
theorem varsN_lt (s : Nat) : varsN s < 1048576 := by
  have := @Nat.and_le_right (s ||| oppN s) 349525
  unfold varsN
  omega
/-- how many of the first k literals are in the set -/
def sizeTo (s : Nat) : Nat → Nat
  | 0 => 0
  | k + 1 => sizeTo s k + s / 2 ^ k % 2
theorem sizeTo_le (s k : Nat) : sizeTo s k ≤ k := by
  induction k with
  | zero => exact Nat.le_refl _
  | succ k ih => simp only [sizeTo]; omega
theorem size_int (s k : Nat) (hs : s < 1048576) (hk : k < 20) : wrap64 (((sizeTo s k : Nat) : Int) + bits .and .i64 ((s : Int) / 2 ^ k) 1) = ((sizeTo s (k + 1) : Nat) : Int) := by
  have h1 : ((s : Int) / 2 ^ k) = ((s / 2 ^ k : Nat) : Int) := by rw [Int.natCast_ediv, Int.natCast_pow]; rfl
  have h2 : s / 2 ^ k ≤ s := Nat.div_le_self _ _
  have h3 : bits .and .i64 ((s / 2 ^ k : Nat) : Int) 1 = ((s / 2 ^ k &&& 1 : Nat) : Int) := and64 (s / 2 ^ k) 1 (by omega) (by decide)
  have h4 := sizeTo_le s k
  rw [h1, h3, Nat.and_one_is_mod]
  simp only [sizeTo]
  unfold wrap64
  omega
def sizeN (s : Nat) : Nat := sizeTo s 20
theorem sizeN_le (s : Nat) : sizeN s ≤ 20 := sizeTo_le s 20

/-- what Add says of a clause -/
inductive Tk where
  | lit
  | taut
  | full
  | takes
def takenK (xs : List Int) (lits : Nat) : Tk := if xs.all litB then (if twinB (setN xs) then .taut else if 150 < lits + sizeN (setN xs) then .full else .takes) else .lit
def Tk.ret (k : Tk) (xs : List Int) : Value := match k with
  | .lit => .tuple #[.int .i64 0, .bool false, .int .i64 4]
  | .taut => .tuple #[.int .i64 0, .bool false, .int .i64 0]
  | .full => .tuple #[.int .i64 0, .bool false, .int .i64 5]
  | .takes => .tuple #[.int .i64 (setN xs : Nat), .bool true, .int .i64 0]

/-- may there be a solver of these settings? -/
def settingsB (r h l : Int) : Bool := (r == 0 || decide (12 ≤ r) && decide (r ≤ 64)) && decide (0 ≤ h) && decide (h ≤ 1048576) && decide (0 ≤ l) && decide (l ≤ 1048576)

end Go.Proofs.Ythboeppmlhbofaa
