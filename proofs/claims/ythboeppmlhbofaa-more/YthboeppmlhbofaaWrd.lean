/-
  The document's Write: the walk.
-/
import Derived.Test.YthboeppmlhbofaaSet
namespace Go.Proofs.Ythboeppmlhbofaa
open Go.RowKit Txt
set_option maxRecDepth 100000

theorem ret_empty {a b : Int} (s : List UInt8) (h : s = []) (h' : a = b) : Ending.returned (.tuple #[.string ⟨#[]⟩, .int .i64 a]) = .returned (.tuple #[.string ⟨s.toArray⟩, .int .i64 b]) := by rw [h, h']

end Go.Proofs.Ythboeppmlhbofaa
