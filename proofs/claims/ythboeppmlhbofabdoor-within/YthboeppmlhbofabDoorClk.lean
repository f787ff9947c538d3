import Derived.Test.YthboeppmlhbofabDoorClh
import Derived.Test.YthboeppmlhbofabDoorDcd
import Derived.Test.YthboeppmlhbofabDoorSps
import Derived.Test.YthboeppmlhbofabDoorRdd
namespace Go.Proofs.YthboeppmlhbofabDoor
open Go.RowKit Txt
set_option maxRecDepth 100000
def lastOf:List Lin→List Int
 | []=>[]
 | p :: ps=>match ps with
  | []=>p.2
  | _=>lastOf ps
def closedOf(ls:List Lin):Bool:=ls.any fun p=>p.1 == 101
theorem lastOf_snoc:∀ (ls:List Lin) (p:Lin),lastOf (ls++[p])=p.2:=by
 intro ls
 induction ls with
 | nil=>intro p;rfl
 | cons q ls ih =>
  intro p
  have:=ih p
  cases ls with
  | nil=>rfl
  | cons r ls=>exact this
theorem closedOf_snoc(ls:List Lin)(p:Lin):closedOf (ls++[p])=(closedOf ls || p.1 == 101):=by simp[closedOf]
theorem linesTo_snoc(j:JV)(ls:List Lin)(p:Lin):linesTo j (ls++[p])=lineTo (linesTo j ls) p:=by simp[linesTo]
theorem linesOk_lits{r h l:Int}{hv:List Nat}:∀ (ls:List Lin) (j:JV),linesOk r h l hv j ls→∀ p∈ls,p.2.all litB=true:=by
 intro ls
 induction ls with
 | nil=>intro j _ p hp;simp at hp
 | cons q ls ih =>
  intro j h p hp
  rcases List.mem_cons.1 hp with rfl | hp
  ·exact h.1
  ·exact ih _ h.2.2.2 p hp
def amongTo(core:List Int):List Int→Nat→Nat
 | [],k=>k
 | x :: l,k=>amongTo core l (if k<core.length∧core.getD k 0=x then k+1 else k)
def amongD(core l:List Int):Bool:=amongTo core l 0 == core.length
structure Ans where
 st:Int
 re:Int
 vs:List Int
 co:List Int
 cl:List Int
structure A3 where
 a1:Option Addr
 a2:Option Addr
 a3:Option Addr
 c1:Nat
 c2:Nat
 c3:Nat
def Ans.cells(x:Ans)(p:A3):List Value:=[.int .i64 x.st,.int .i64 x.re,.slice p.a1 x.vs.length p.c1,.slice p.a2 x.co.length p.c2,.slice p.a3 x.cl.length p.c3]
structure AnsAt(w:World)(x:Ans)(p:A3):Prop where
 vs:IntsAt w p.a1 x.vs
 co:IntsAt w p.a2 x.co
 cl:IntsAt w p.a3 x.cl
theorem AnsAt.below{w w':World}{x:Ans}{p:A3}(h:AnsAt w x p)(hb:Below w.heap.size w w'):AnsAt w' x p:=⟨h.vs.below hb,h.co.below hb,h.cl.below hb⟩
def pow3:Nat→Nat
 | 0=>1
 | n+1=>3*pow3 n
def enoughD(r h l budget:Int)(seen unsat:Nat):Bool :=
 budget == 0 && r == 0 && decide (((sizeN seen*pow3 (sizeN seen):Nat):Int)≤h) && decide ((((sizeN seen+1)*pow3 (sizeN seen)+(2*sizeN seen+1)*(unsat+1):Nat):Int)≤l)
end Go.Proofs.YthboeppmlhbofabDoor
