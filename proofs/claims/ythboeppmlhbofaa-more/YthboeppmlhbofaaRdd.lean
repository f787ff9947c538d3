/-
  The document's Read: the walk.
-/
import Derived.Test.YthboeppmlhbofaaRef
namespace Go.Proofs.Ythboeppmlhbofaa
open Go.RowKit Txt
set_option maxRecDepth 100000

theorem cm_false1 {s : ByteArray} {j : Nat} (h : j < s.size) (h9 : ((s[j].toNat : Int) == 99) = false) : cmB (bs s) j = false := by
  rw [cmB, bs_getD s j h, h9]; rfl
theorem cm_false2 {s : ByteArray} {i : Nat} (h : i + 1 < s.size) (h1 : ((s[i].toNat : Int) == 10) = false) : cmB (bs s) (i + 1) = false := by
  have h' : i < s.size := by omega
  have hn : nlB ((bs s).getD i 0) = false := by rw [bs_getD s i h']; exact h1
  simp only [cmB, Nat.add_sub_cancel, hn, Nat.add_one_ne_zero, decide_false, Bool.or_false, Bool.and_false]
theorem cm_true1 {s : ByteArray} (h : 0 < s.size) (h9 : ((s[0].toNat : Int) == 99) = true) : cmB (bs s) 0 = true := by
  rw [cmB, bs_getD s 0 h, h9]; rfl
theorem cm_true2 {s : ByteArray} {i : Nat} (h : i + 1 < s.size) (h9 : ((s[i + 1].toNat : Int) == 99) = true) (h1 : ((s[i].toNat : Int) == 10) = true) : cmB (bs s) (i + 1) = true := by
  have h' : i < s.size := by omega
  have hn : nlB ((bs s).getD i 0) = true := by rw [bs_getD s i h']; exact h1
  rw [cmB, bs_getD s (i + 1) h, h9]
  simp only [Nat.add_sub_cancel, hn, Bool.or_true, Bool.and_true]

end Go.Proofs.Ythboeppmlhbofaa
