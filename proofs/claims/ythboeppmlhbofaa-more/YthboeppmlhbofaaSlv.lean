/-
  trail's New and Proof: the walks.
-/
import Derived.Test.YthboeppmlhbofaaLtx
namespace Go.Proofs.Ythboeppmlhbofaa
open Go.RowKit Txt
set_option maxRecDepth 100000

/-- a solver's ten cells, as long as nothing is learnt -/
def solCells (r h l : Int) (ta : Option Addr) (n tc : Nat) (empty seen : Nat) : List Value :=
  [.int .i64 r, .int .i64 h, .int .i64 l, .slice ta n tc, .int .i64 empty, .int .i64 seen, .slice none 0 0, .slice none 0 0, .int .i64 0, .int .i64 0]

def reduceB (r : Int) : Bool := r == 0 || decide (12 ≤ r) && decide (r ≤ 64)
def roomB (h : Int) : Bool := decide (0 ≤ h) && decide (h ≤ 1048576)
theorem settings_parts (r h l : Int) : settingsB r h l = (reduceB r && roomB h && roomB l) := by
  unfold settingsB reduceB roomB
  simp only [Bool.and_assoc]

/-- what New hands back -/
def NewPost (r h l : Int) (w : World) (e : Ending) (w' : World) : Prop :=
  Below w.heap.size w w' ∧ if settingsB r h l then ∃ g, w.heap.size ≤ g ∧ e = .returned (.tuple #[.pointer (some ⟨g, 0, none⟩), .int .i64 0]) ∧ Row w' g 38 (solCells r h l none 0 0 0 0) else e = .returned (.tuple #[.pointer none, .int .i64 1])

end Go.Proofs.Ythboeppmlhbofaa
