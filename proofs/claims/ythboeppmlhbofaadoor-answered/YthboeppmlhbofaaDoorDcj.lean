import Derived.Test.YthboeppmlhbofaaDoorClk
namespace Go.Proofs.YthboeppmlhbofaaDoor
open Go.RowKit Txt
set_option maxRecDepth 100000
structure Jv(hv:List Nat)(x:Gg)(assume last:List Int):Prop where
 vs:x.vs=[]
 cl:x.cl=[]
 re:x.re=0
 am:Ex x.co assume=true
 sz:AG (AO x.co)=x.co.length
 op:AO last=AS (AO x.co)
 no:Ky hv (AO x.co)=false
structure LZ(d:SE)(x:Gg)(budget:Int):Prop where
 vs:x.vs=[]
 co:x.co=[]
 room:DC d.r d.h d.l budget d.seen d.unsat=false
 why:(x.re=1∧0<budget∧(d.st:Int)=budget∧x.cl=[])∨(x.re=2∧Bz d.hv d.lr x.cl false=true∧d.h<(d.held:Int)+x.cl.length)∨(x.re=3∧Bz d.hv d.lr x.cl true=true∧d.l<(d.log:Int)+x.cl.length+1)
end Go.Proofs.YthboeppmlhbofaaDoor
