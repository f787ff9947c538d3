/-
  trail's Add: the walk.
-/
import Derived.Test.YthboeppmlhbofaaTke
namespace Go.Proofs.Ythboeppmlhbofaa
open Go.RowKit Txt
set_option maxRecDepth 100000

theorem posN_lt (xs : List Int) (h : xs.all litB = true) : posN xs < 2 ^ 11 := (Two.set xs h).lt
theorem negN_lt (xs : List Int) (h : xs.all litB = true) : negN xs < 2 ^ 11 := (Two.set xs h).lf
def errOf (k : Tk) : Int := match k with
  | .lit => 4
  | .taut => 0
  | .full => 5
  | .takes => 0

set_option maxHeartbeats 2000000 in
theorem add_lit (g : Nat) (a : Option Addr) (c : Nat) (xs : List Int) (w : World) (hx : xs.length ≤ 9223372036854775807) (hi : IntsAt w a xs) (hall : xs.all litB = false) :
    Calls Try.prog 10 #[.pointer (some ⟨g, 0, none⟩), .slice a xs.length c] w fun e w' => e = .returned (.int .i64 4) ∧ Below w.heap.size w w' := by
  have HO := hide (of_any a c xs w hx hi)
  have e1 : posOk xs = 0 := by simp [posOk, hall]
  have e2 : negOk xs = 0 := by simp [negOk, hall]
  rw [hall, e1, e2] at HO
  clear hi hall e1 e2
  go_enter Try.func10, Try.ntmps10
  go_wp2_with fail
  refine (unhide HO).mono ?_
  rintro e w2 ⟨rfl, hb2⟩
  have HB : Hid (∀ x, Below w.heap.size w (w2.alloc x)) := fun x => hb2.alloc hb2.size x
  clear hb2
  go_wp2
  go_ret
  exact ⟨rfl, HB.out _⟩

set_option maxHeartbeats 2000000 in
theorem add_taut (g : Nat) (a : Option Addr) (c : Nat) (xs : List Int) (w : World) (hx : xs.length ≤ 9223372036854775807) (hi : IntsAt w a xs) (hall : xs.all litB = true) (ht : (posN xs &&& negN xs != 0) = true) :
    Calls Try.prog 10 #[.pointer (some ⟨g, 0, none⟩), .slice a xs.length c] w fun e w' => e = .returned (.int .i64 0) ∧ Below w.heap.size w w' := by
  have HO := hide (of_any a c xs w hx hi)
  have e1 : posOk xs = posN xs := by simp [posOk, hall]
  have e2 : negOk xs = negN xs := by simp [negOk, hall]
  have HT : Hid (∀ w, Calls Try.prog 15 #[.agg #[.int .i64 (posN xs : Nat), .int .i64 (negN xs : Nat)]] w fun e w' => e = .returned (.bool true) ∧ Below w.heap.size w w') := fun w => by
    have := isTaut_any (posN xs) (negN xs) (posN_lt xs hall) (negN_lt xs hall) w
    rwa [ht] at this
  rw [hall, e1, e2] at HO
  generalize posN xs = t at *
  generalize negN xs = f at *
  clear hi hall e1 e2 ht
  go_enter Try.func10, Try.ntmps10
  go_wp2_with fail
  refine (unhide HO).mono ?_
  rintro e w2 ⟨rfl, hb2⟩
  have HB : Hid (∀ x, Below w.heap.size w (w2.alloc x)) := fun x => hb2.alloc hb2.size x
  have hs2 : w.heap.size ≤ w2.heap.size := hb2.size
  clear hb2
  go_wp2_with fail
  refine (unhide HT _).mono ?_
  rintro e w3 ⟨rfl, hb3⟩
  have HB3 : Hid (Below w.heap.size w w3) := (HB.out _).trans (hb3.mono (by simp; omega))
  clear hb3
  go_wp2
  go_ret
  exact ⟨rfl, HB3.out⟩

end Go.Proofs.Ythboeppmlhbofaa
