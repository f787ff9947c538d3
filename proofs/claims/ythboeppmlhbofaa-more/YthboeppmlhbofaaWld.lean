/-
  The script's world: what it owns, and what each change to it keeps.
-/
import Derived.Test.YthboeppmlhbofaaRdw
import Derived.Deep.AppendLies
namespace Go.Proofs.Ythboeppmlhbofaa
open Go.RowKit Txt
set_option maxRecDepth 100000

/-- what the script has made, read as data -/
structure St where
  list : List Int
  clauses : List (List Int)
  texts : List ByteArray
  outs : List (List Int)
  want : List (List Int)
  mark : Int
/-- where it lies -/
structure WV where
  al : Option Addr
  ac : Option Addr
  at_ : Option Addr
  ax : Option Addr
  ao : Option Addr
  aw : Option Addr
  cl : Nat
  cc : Nat
  ct : Nat
  cx : Nat
  co : Nat
  cw : Nat
  nx : Nat
  vcs : List Value
  vos : List Value
  vws : List Value
  vxs : List Value
def WV.vl (V : WV) (s : St) : Value := .slice V.al s.list.length V.cl
def WV.vc (V : WV) (s : St) : Value := .slice V.ac s.clauses.length V.cc
def WV.vt (V : WV) (s : St) : Value := .slice V.at_ s.texts.length V.ct
def WV.vx (V : WV) : Value := .slice V.ax V.nx V.cx
def WV.vo (V : WV) (s : St) : Value := .slice V.ao s.outs.length V.co
def WV.vw (V : WV) (s : St) : Value := .slice V.aw s.want.length V.cw
def WV.cells (V : WV) (s : St) : List Value := [V.vl s, V.vc s, V.vt s, V.vx, V.vo s, V.vw s, .int .i64 s.mark]
def strs (ts : List ByteArray) : List Value := ts.map Value.string

theorem n_is : (3 : Nat) ≠ 9 := by decide
theorem n_il : (3 : Nat) ≠ 24 := by decide
theorem n_ls : (24 : Nat) ≠ 9 := by decide
/-- an owned list that is apart from what lay there before, when it moved -/
theorem apart_moved2 {w : World} {b e s : Nat} {u v v' : Value} {n : Nat} {xs : List Value} (h : w.ownsRow b e s u n xs) (ha : Apart v u) {k : Nat} (hk : w.heap.size ≤ k) (hv : v'.ownBlock = v.ownBlock ∨ v'.ownBlock = some k) : Apart v' u := (apart_moved h ha.symm hk hv).symm

end Go.Proofs.Ythboeppmlhbofaa
