import Derived.Test.YthboeppmlhbofabDoorClk
namespace Go.Proofs.YthboeppmlhbofabDoor
open Go.RowKit Txt
set_option maxRecDepth 100000
structure UnsatOk(hv:List Nat)(x:Ans)(assume last:List Int):Prop where
 vs:x.vs=[]
 cl:x.cl=[]
 re:x.re=0
 am:amongD x.co assume=true
 sz:sizeN (setOk x.co)=x.co.length
 op:setOk last=oppN (setOk x.co)
 no:someD hv (setOk x.co)=false
structure UnknownOk(d:SE)(x:Ans)(budget:Int):Prop where
 vs:x.vs=[]
 co:x.co=[]
 room:enoughD d.r d.h d.l budget d.seen d.unsat=false
 why:(x.re=1∧0<budget∧(d.st:Int)=budget∧x.cl=[])∨(x.re=2∧clauseD d.hv d.lr x.cl false=true∧d.h<(d.held:Int)+x.cl.length)∨(x.re=3∧clauseD d.hv d.lr x.cl true=true∧d.l<(d.log:Int)+x.cl.length+1)
end Go.Proofs.YthboeppmlhbofabDoor
