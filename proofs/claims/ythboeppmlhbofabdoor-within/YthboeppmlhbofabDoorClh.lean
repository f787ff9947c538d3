import Derived.Test.YthboeppmlhbofabDoorMoo
import Derived.Test.YthboeppmlhbofabDoorHac
import Derived.Test.YthboeppmlhbofabDoorClf
import Derived.Test.YthboeppmlhbofabDoorDca
namespace Go.Proofs.YthboeppmlhbofabDoor
open Go.RowKit Txt
set_option maxRecDepth 100000
theorem setOk_lt(xs:List Int):setOk xs<1048576:=(Two.ok xs).top
theorem own_nat{w:World}{B e c:Nat}{a:Option Addr}{cs:List Nat}(h:w.ownsRow B e 1 (.slice a cs.length c) cs.length (i64s (natI cs))):IntsAt w a (natI cs):=by
 have h':w.ownsRow B e 1 (.slice a cs.length c) (natI cs).length (i64s (natI cs)):=by rw[natI_len];exact h
 exact own_intsAt h'
structure SE where
 cb:Nat
 gx:Nat
 gy:Nat
 r:Int
 h:Int
 l:Int
 vg:Value
 ah:Option Addr
 ch:Nat
 hv:List Nat
 lits:Nat
 seen:Nat
 al:Option Addr
 cl:Nat
 lr:List Nat
 held:Nat
 log:Nat
 unsat:Nat
 pf:ByteArray
 st:Nat
def SE.cells(d:SE):List Value:=[.pointer (some ⟨d.gx,0,none⟩),.pointer (some ⟨d.gy,0,none⟩),.int .i64 d.r,.int .i64 d.h,.int .i64 d.l,d.vg,.slice d.ah d.hv.length d.ch,.int .i64 d.lits,.int .i64 d.seen,.slice d.al d.lr.length d.cl,.int .i64 d.held,.int .i64 d.log,.int .i64 d.unsat,.string d.pf,.int .i64 d.st]
def clauseD(hv lr:List Nat)(xs:List Int)(tail:Bool):Bool :=
 xs.all litB && (sizeN (setOk xs) == xs.length) && joinedD hv (varsN (setOk xs)) && clashD (hv++lr) (oppN (setOk xs)) && (tail || (!twinB (setOk xs) && !decide (setOk xs∈hv++lr)))
end Go.Proofs.YthboeppmlhbofabDoor
