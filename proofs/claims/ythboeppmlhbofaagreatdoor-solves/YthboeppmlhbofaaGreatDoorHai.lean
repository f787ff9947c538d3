import Derived.Test.YthboeppmlhbofaaGreatDoorHag
namespace Go.Proofs.YthboeppmlhbofaaGreatDoor
open Go.RowKit Txt
set_option maxRecDepth 100000
structure Cx where
 E:Sg
 h:Int
 l:Int
 lr0:List Nat
 log0:Nat
 un0:Nat
 sn:Nat
 ws:List Nat
def Cx.j0(X:Cx):JV:=⟨X.lr0,Ad X.lr0,X.log0,0⟩
structure Il(X:Cx):Prop where
 hvt:∀ c∈X.E.hv,c<2^20
 hvs:∀ c∈X.E.hv,AM (vN c) X.sn
 xs:X.E.xs.all AT=true
 asm:AM (vN X.E.as) X.sn
 sn:X.sn<2^11
 set:X.E.r=0∨12≤X.E.r
 bud:0≤X.E.b
 cmp:Uk X.E.hv X.sn X.ws
structure dm(X:Cx)(c:Nat):Prop where
 top:c<2^20
 ne:c≠0
 twin:BN c=false
 sub:AM (vN c) X.sn
 join:Cj X.E.hv (An c)=true
structure SI(X:Cx)(s:Sr):Prop where
 ok:EO X.E.r X.h X.l X.E.hv X.j0 s.ls
 opn:∀ p∈s.ls,p.1≠101
 to:∃ log:Nat,Ag X.j0 s.ls=⟨s.lr,Ad s.lr,log,s.sp⟩∧(log:Int)=X.l - s.l∧(X.E.r=0→log≤Ad s.lr+s.lr.length+(2*Da X.sn+1)*X.un0)
 held:s.h=X.h - Ad s.lr
 lr:∀ c∈s.lr,dm X c
 nod:s.lr.Nodup
 sem:∀ u,(∀ c∈X.E.hv,c&&&Cf u≠0)→∀ c∈s.lr,c&&&Cf u≠0
 len:X.E.r=0∨(s.lr.length:Int)≤X.E.r
 bud:X.E.b=0∨(s.sp:Int)≤X.E.b
 rh:0≤s.h
 rl:0≤s.l
theorem QP(X:Cx):X.E.as<2^20:=DX X.E.xs
theorem SI.csok{X:Cx}(hX:Il X){s:Sr}(h:SI X s){w:Nat}(hw:w=0∨w∈X.ws):Et (X.E.hv++s.lr) X.E.as w:=by
 have top:∀ c∈X.E.hv++s.lr,c<2^20:=fun c hc=>(List.mem_append.1 hc).elim (hX.hvt c) (fun hc=>(h.lr c hc).top)
 refine⟨top,fun c hc=>?_,QP X⟩
 have hin:vN c=0∨∃ w∈X.ws,AM (vN c) w:=by
  rcases List.mem_append.1 hc with q | q
  ·exact hX.cmp.own c q
  ·have:=h.lr c q
   exact V6 hX.hvt hX.cmp this.top this.sub this.join
 rcases hw with rfl | hw
 ·right
  rw[RY (top c hc)]
  intro i _
  simp
 ·rcases hin with e | ⟨w',hw',e⟩
  ·left
   rw[Fv (top c hc),e]
   intro i q
   rw[Nat.zero_testBit] at q
   simp at q
  ·by_cases ew:w'=w
   ·subst ew
    left
    rw[Fv (top c hc)]
    exact e
   ·right
    rw[RY (top c hc)]
    exact Cz.2 (OG e (Rd hX.cmp.dis hw' hw ew))
theorem IP{r h l:Int}{hv:List Nat}:∀ (ls:List FO) (j:JV) (p:FO),EO r h l hv j ls→(∀ q∈ls,q.1≠101)→p.2.all AT=true→PZ r h l hv (Ag j ls) p→EO r h l hv j (ls++[p]):=by
 intro ls
 induction ls with
 | nil=>intro j p _ _ hl ho;exact⟨hl,ho,fun _=>rfl,trivial⟩
 | cons q ls ih =>
  intro j p h hn hl ho
  obtain⟨a1,a2,_,a4⟩:=h
  exact⟨a1,a2,fun e=>absurd e (hn q (List.mem_cons_self ..)),ih (Bh j q) p a4 (fun x hx=>hn x (List.mem_cons_of_mem _ hx)) hl ho⟩
theorem Q6:∀ (lr:List Nat) (c:Nat),c∈lr→Ad (lr.erase c)+AG c=Ad lr:=by
 intro lr
 induction lr with
 | nil=>intro c hc;simp at hc
 | cons x lr ih =>
  intro c hc
  by_cases e:x=c
  ·subst e
   rw[List.erase_cons_head]
   simp only[Ad,List.map_cons,List.sum_cons]
   omega
  ·rw[List.erase_cons_tail (by simpa using e)]
   have:=ih c ((List.mem_cons.1 hc).resolve_left fun q=>e q.symm)
   simp only[Ad,List.map_cons,List.sum_cons] at this ⊢
   omega
theorem GD{hv lr:List Nat}{c:Nat}(hc:c<2^20)(tail:Bool):CA hv lr (AZ c) tail=(Cj hv (An c) && Ab (hv++lr) (AW c) && (tail || (!BN c && !decide (c∈hv++lr)))):=by
 unfold CA
 rw[FU,GP hc,Bk]
 simp
theorem Xt{cs:List Nat}{D u:Nat}(hc:∀ c∈cs,c<2^20)(hD:D<2^20)(hcl:Ab cs D=true)(ha:∀ c∈cs,c&&&Cf u≠0):AW D&&&Cf u≠0:=by
 intro e
 have hs:AM D (Cf u):=by
  intro i hi
  have hi20:=Bl hD hi
  have:=Cz.2 e (Fs i) (by rw[CQ _ (Hk hi20),Dt];exact hi)
  have ho:=Nc u i hi20
  rw[CQ _ hi20,this] at ho
  simpa using ho.symm
 rw[Lr hc ha hs] at hcl
 simp at hcl
theorem SI.learn{X:Cx}(hX:Il X){s:Sr}(h:SI X s){D:Nat}(hD:D<2^20)(hne:AW D≠0)(ht:BN (AW D)=false)(hsub:AM (vN (AW D)) X.sn)(hj:Cj X.E.hv (An (AW D))=true)(hcl:Ab (X.E.hv++s.lr) D=true)(hnew:AW D ∉ X.E.hv++s.lr)
  (hh:(AG (AW D):Int)≤s.h) (hl:(AG (AW D):Int)+1≤s.l) (hr:X.E.r=0∨(s.lr.length:Int)<X.E.r) (hb:X.E.b=0∨(s.sp:Int)<X.E.b) :
  SI X { s with l:=s.l - ((AG (AW D):Int)+1),ls:=s.ls++[(97,AZ (AW D))],h:=s.h - (AG (AW D):Int),sp:=s.sp+1,lr:=s.lr++[AW D] }:=by
 obtain⟨log,t1,t2,t3⟩:=h.to
 have hc20:=C6 D
 have top:∀ c∈X.E.hv++s.lr,c<2^20:=fun c hc=>(List.mem_append.1 hc).elim (hX.hvt c) (fun hc=>(h.lr c hc).top)
 have hcd:CA X.E.hv s.lr (AZ (AW D)) false=true:=by
  rw[GD hc20,hj,Pj hD,hcl,ht]
  simp[hnew]
 have hheld:=h.held
 refine⟨IP _ _ _ h.ok h.opn (FU _) ?_,?_,⟨log+AG (AW D)+1,?_,?_,fun hr0=>?_⟩,?_,?_,?_,?_,?_,?_,?_,?_⟩
 ·rw[t1]
  refine⟨?_,.inl ⟨rfl,hcd,?_,?_⟩⟩
  ·show(log:Int)+(AZ (AW D)).length+1≤X.l
   rw[Bk];omega
  ·show((Ad s.lr:Nat):Int)+(AZ (AW D)).length≤X.h
   rw[Bk];omega
  ·show X.E.r=0∨(s.lr.length:Int)+1≤X.E.r
   omega
 ·intro p hp
  rcases List.mem_append.1 hp with hp | hp
  ·exact h.opn p hp
  ·rw[List.mem_singleton.1 hp];simp only;decide
 ·rw[GF,t1]
  simp only[Bh,GP hc20,Bk,FW]
  simp
 ·show((log+AG (AW D)+1:Nat):Int)=X.l - (s.l - ((AG (AW D):Int)+1))
  omega
 ·have:=t3 hr0
  show log+AG (AW D)+1≤Ad (s.lr++[AW D])+(s.lr++[AW D]).length+(2*Da X.sn+1)*X.un0
  rw[FW,List.length_append,List.length_singleton]
  omega
 ·show s.h - (AG (AW D):Int)=X.h - ((Ad (s.lr++[AW D]):Nat):Int)
  rw[FW]
  omega
 ·intro c hc
  rcases List.mem_append.1 hc with hc | hc
  ·exact h.lr c hc
  ·rw[List.mem_singleton.1 hc];exact⟨hc20,hne,ht,hsub,hj⟩
 ·exact List.nodup_append.2 ⟨h.nod,by simp,fun a ha b hb=>by rw[List.mem_singleton.1 hb];exact fun e=>hnew (List.mem_append_right _ (by rw[← e];exact ha))⟩
 ·intro u hu c hc
  rcases List.mem_append.1 hc with hc | hc
  ·exact h.sem u hu c hc
  ·rw[List.mem_singleton.1 hc]
   exact Xt top hD hcl (fun x hx=>(List.mem_append.1 hx).elim (hu x) (h.sem u hu x))
 ·show X.E.r=0∨(((s.lr++[AW D]).length:Nat):Int)≤X.E.r
  rw[List.length_append,List.length_singleton]
  omega
 ·show X.E.b=0∨((s.sp+1:Nat):Int)≤X.E.b
  omega
 ·show 0≤s.h - (AG (AW D):Int)
  omega
 ·show 0≤s.l - ((AG (AW D):Int)+1)
  omega
theorem SI.drop{X:Cx}{s:Sr}(h:SI X s){c:Nat}(hc:c∈s.lr)(hr:X.E.r≠0)(hl:(AG c:Int)+1≤s.l) :
  SI X { s with l:=s.l - ((AG c:Int)+1),ls:=s.ls++[(100,AZ c)],h:=s.h+(AG c:Int),lr:=s.lr.erase c }:=by
 obtain⟨log,t1,t2,t3⟩:=h.to
 have hcl:=h.lr c hc
 have hle:=Q6 s.lr c hc
 have hheld:=h.held
 have hrh:=h.rh
 refine⟨IP _ _ _ h.ok h.opn (FU _) ?_,?_,⟨log+AG c+1,?_,?_,fun hr0=>absurd hr0 hr⟩,?_,?_,?_,?_,?_,h.bud,?_,?_⟩
 ·rw[t1]
  refine⟨?_,.inr (.inr ⟨rfl,?_,hr,?_,?_⟩)⟩
  ·show(log:Int)+(AZ c).length+1≤X.l
   rw[Bk];omega
  ·show AJ (AZ c)∈s.lr
   rw[GP hcl.top];exact hc
  ·show AG (AJ (AZ c))=(AZ c).length
   rw[GP hcl.top,Bk]
  ·show(AZ c).length≤Ad s.lr
   rw[Bk];omega
 ·intro p hp
  rcases List.mem_append.1 hp with hp | hp
  ·exact h.opn p hp
  ·rw[List.mem_singleton.1 hp];simp only;decide
 ·rw[GF,t1]
  simp only[Bh,GP hcl.top,Bk]
  simp
  omega
 ·show((log+AG c+1:Nat):Int)=X.l - (s.l - ((AG c:Int)+1))
  omega
 ·show s.h+(AG c:Int)=X.h - ((Ad (s.lr.erase c):Nat):Int)
  omega
 ·exact fun x hx=>h.lr x (List.mem_of_mem_erase hx)
 ·exact h.nod.erase c
 ·exact fun u hu x hx=>h.sem u hu x (List.mem_of_mem_erase hx)
 ·have:=h.len
  have hl:(s.lr.erase c).length≤s.lr.length:=List.length_erase_le
  show X.E.r=0∨(((s.lr.erase c).length:Nat):Int)≤X.E.r
  omega
 ·show 0≤s.h+(AG c:Int)
  omega
 ·show 0≤s.l - ((AG c:Int)+1)
  omega
theorem SI.path{X:Cx}{s:Sr}(h:SI X s)(p d:List Jy)(v:Nat):SI X { s with path:=p,done:=d,vals:=v }:=⟨h.ok,h.opn,h.to,h.held,h.lr,h.nod,h.sem,h.len,h.bud,h.rh,h.rl⟩
def If(V:Nat):Nat→List Nat
 | 0=>[0]
 | v+1=>if V.testBit (v+1) then If V v++((If V v).map (·|||2^(2*v))++(If V v).map (·|||2^(2*v+1))) else If V v
theorem Vb(V:Nat):∀ k,(If V k).length=Fw (Iu V k):=by
 intro k
 induction k with
 | zero=>rfl
 | succ k ih =>
  simp only[If,Iu]
  cases hb:V.testBit (k+1) with
  | false=>simp[ih]
  | true=>simp only[if_true,List.length_append,List.length_map,ih,Bool.toNat_true,Fw];omega
theorem Vc(V:Nat):∀ k c,c<2^(2*k)→AM c (AQ V)→BN c=false→k≤10→c∈If V k:=by
 intro k
 induction k with
 | zero=>intro c hc _ _ _;simp at hc;simp[If,hc]
 | succ k ih =>
  intro c hc hs ht hk
  have hbits:∀ i,2*(k+1)≤i→c.testBit i=false:=fun i hi=>Nat.testBit_lt_two_pow (Nat.lt_of_lt_of_le hc (Nat.pow_le_pow_right (by decide) hi))
  have htw:=(FK c).1 ht
  have e1:Fs (2*k)=2*k+1:=by unfold Fs;rw[if_pos (by omega)]
  have less:∀ c',AM c' c→(∀ i,2*k≤i→c'.testBit i=false)→c'∈If V k:=fun c' h1 h2=>ih c' (B7 h2) (h1.trans hs) (h1.twin ht) (by omega)
  simp only[If]
  have hv:∀ i,i / 2=k→c.testBit i=true→V.testBit (k+1)=true:=fun i hi hb=>by
   have:=hs i hb
   rw[BM,Bool.and_eq_true,hi] at this
   exact this.2
  cases h0:c.testBit (2*k) with
  | true =>
   rw[if_pos (hv (2*k) (by omega) h0)]
   have hb1:=htw (2*k) (by omega) h0
   rw[e1] at hb1
   refine List.mem_append_right _ (List.mem_append_left _ (List.mem_map.2 ⟨c - 2^(2*k),less _ (fun i hi=>?_) (fun i hi=>?_),?_⟩))
   ·rw[Hb rfl h0,Bool.and_eq_true] at hi;exact hi.1
   ·rw[Hb rfl h0]
    by_cases e:i=2*k
    ·subst e;simp
    ·by_cases e':i=2*k+1
     ·subst e';rw[hb1];rfl
     ·rw[hbits i (by omega)];rfl
   ·apply Nat.eq_of_testBit_eq
    intro i
    rw[Nat.testBit_or,Hb rfl h0,Nat.testBit_two_pow]
    by_cases e:i=2*k
    ·subst e;rw[h0];simp
    ·rw[decide_eq_true e,decide_eq_false (fun q=>e q.symm)];simp
  | false =>
   cases h1:c.testBit (2*k+1) with
   | true =>
    rw[if_pos (hv (2*k+1) (by omega) h1)]
    refine List.mem_append_right _ (List.mem_append_right _ (List.mem_map.2 ⟨c - 2^(2*k+1),less _ (fun i hi=>?_) (fun i hi=>?_),?_⟩))
    ·rw[Hb rfl h1,Bool.and_eq_true] at hi;exact hi.1
    ·rw[Hb rfl h1]
     by_cases e:i=2*k+1
     ·subst e;simp
     ·by_cases e':i=2*k
      ·subst e';rw[h0];rfl
      ·rw[hbits i (by omega)];rfl
    ·apply Nat.eq_of_testBit_eq
     intro i
     rw[Nat.testBit_or,Hb rfl h1,Nat.testBit_two_pow]
     by_cases e:i=2*k+1
     ·subst e;rw[h1];simp
     ·rw[decide_eq_true e,decide_eq_false (fun q=>e q.symm)];simp
   | false =>
    have hm:c∈If V k:=less c (AM.refl c) (fun i hi=>by
     by_cases e:i=2*k
     ·subst e;exact h0
     ·by_cases e':i=2*k+1
      ·subst e';exact h1
      ·exact hbits i (by omega))
    split
    ·exact List.mem_append_left _ hm
    ·exact hm
theorem Mk{V:Nat}{l:List Nat}(hn:l.Nodup)(h:∀ c∈l,c<2^20∧BN c=false∧AM (vN c) V):l.length≤Fw (Da V)∧Ad l≤Da V*l.length:=by
 refine⟨?_,?_⟩
 ·have:=RV l (If V 10) hn (fun c hc=>Vc V 10 c (h c hc).1 ((Fv (h c hc).1).2 (h c hc).2.2) (h c hc).2.1 (by omega))
  rw[Vb] at this
  exact this
 ·clear hn
  induction l with
  | nil=>simp[Ad]
  | cons c l ih =>
   have a:=ih (fun x hx=>h x (List.mem_cons_of_mem _ hx))
   obtain⟨h1,h2,h3⟩:=h c (List.mem_cons_self ..)
   have b:=MY ((Fv h1).2 h3) h2
   simp only[Ad,List.map_cons,List.sum_cons,List.length_cons] at a ⊢
   rw[Nat.mul_add]
   omega
theorem QD{D:Nat}(hD:D<2^20):vN (AW D)=vN D:=by
 obtain⟨a,b⟩:=(CT.of hD).opp.eq
 unfold vN
 rw[← a,← b,Nat.or_comm]
theorem MN{a b:Nat}(h:AM a b):Da a≤Da b:=by
 have:=TO (a:=a) (b:=0) (w:=b) 10 (fun u _ _=>by
  cases ha:a.testBit u with
  | false=>simp
  | true=>rw[h u ha];simp)
 simp only[Da]
 omega
theorem ZZ{D V:Nat}(hD:D<2^20)(h:AM (vN D) V):AG D≤2*Da V:=by
 rw[(CT.of hD).size]
 have a:AM (tN D) V:=AM.trans (AM.or_left _ _) h
 have b:AM (fN D) V:=AM.trans (fun i hi=>by unfold vN;rw[Nat.testBit_or,hi,Bool.or_true]) h
 have:=MN a
 have:=MN b
 omega
theorem Om{seen V:Nat}(h:CT seen V 0):AG seen=Da V:=by rw[h.size,QZ];omega
structure Un(X:Cx)(s:Sr)(x:Fe):Prop where
 st:x.st=3
 vs:x.vs=[]
 co:x.co=[]
 len:x.cl.length≤20
 room:∀ seen,CT seen X.sn 0→EL X.E.r X.h X.l X.E.b seen X.un0=false
 why:(x.re=1∧0<X.E.b∧(s.sp:Int)=X.E.b∧x.cl=[])∨(x.re=2∧CA X.E.hv s.lr x.cl false=true∧X.h<(Ad s.lr:Int)+x.cl.length)∨(x.re=3∧CA X.E.hv s.lr x.cl true=true∧s.l<(x.cl.length:Int)+1)
theorem Jb{r h l b:Int}{seen un:Nat}(hn:r≠0∨b≠0):EL r h l b seen un=false:=by
 unfold EL
 rcases hn with hn | hn
 ·have:(r == 0)=false:=by simpa using hn
  simp[this]
 ·have:(b == 0)=false:=by simpa using hn
  simp[this]
theorem SI.count{X:Cx}{s:Sr}(h:SI X s):s.lr.length≤Fw (Da X.sn)∧Ad s.lr≤Da X.sn*s.lr.length:=Mk h.nod fun c hc=>⟨(h.lr c hc).top,(h.lr c hc).twin,(h.lr c hc).sub⟩
theorem SI.count1{X:Cx}{s:Sr}(h:SI X s){c:Nat}(hc:dm X c)(hn:c ∉ s.lr):s.lr.length+1≤Fw (Da X.sn)∧Ad s.lr+AG c≤Da X.sn*(s.lr.length+1):=by
 have:=Mk (V:=X.sn) (l:=s.lr++[c]) (List.nodup_append.2 ⟨h.nod,by simp,fun a ha b hb=>by rw[List.mem_singleton.1 hb];exact fun e=>hn (by rw[← e];exact ha)⟩) (fun x hx=>by
  rcases List.mem_append.1 hx with hx | hx
  ·exact⟨(h.lr x hx).top,(h.lr x hx).twin,(h.lr x hx).sub⟩
  ·rw[List.mem_singleton.1 hx];exact⟨hc.top,hc.twin,hc.sub⟩)
 rw[FW,List.length_append,List.length_singleton] at this
 exact this
theorem W0{X:Cx}{s:Sr}(h:SI X s){c:Nat}(hc:dm X c)(hn:c ∉ s.lr)(hh:s.h<(AG c:Int)){seen:Nat}(hs:CT seen X.sn 0):EL X.E.r X.h X.l X.E.b seen X.un0=false:=by
 by_cases hr:X.E.r=0
 ·obtain⟨a,b⟩:=h.count1 hc hn
  have hm:Da X.sn*(s.lr.length+1)≤Da X.sn*Fw (Da X.sn):=Nat.mul_le_mul_left _ a
  have hheld:=h.held
  unfold EL
  rw[Om hs]
  have:decide (((Da X.sn*Fw (Da X.sn):Nat):Int)≤X.h)=false:=by
   apply decide_eq_false
   omega
  rw[this]
  simp
 ·exact Jb (.inl hr)
theorem Rr{X:Cx}{s:Sr}(h:SI X s){m k:Nat}(hl:s.l<(m:Int)+1)(hlen:s.lr.length+k≤Fw (Da X.sn))(hm:Ad s.lr+m+k≤Da X.sn*(s.lr.length+k)+k+(1 - k)*(2*Da X.sn))(hk:k≤1){seen:Nat}(hs:CT seen X.sn 0):EL X.E.r X.h X.l X.E.b seen X.un0=false:=by
 by_cases hr:X.E.r=0
 ·obtain⟨log,_,t2,t3⟩:=h.to
  have t3:=t3 hr
  have hq:Da X.sn*(s.lr.length+k)≤Da X.sn*Fw (Da X.sn):=Nat.mul_le_mul_left _ hlen
  have e1:(Da X.sn+1)*Fw (Da X.sn)=Da X.sn*Fw (Da X.sn)+Fw (Da X.sn):=by rw[Nat.add_mul,Nat.one_mul]
  have e2:(2*Da X.sn+1)*(X.un0+1)=(2*Da X.sn+1)*X.un0+(2*Da X.sn+1):=by rw[Nat.mul_add,Nat.mul_one]
  unfold EL
  rw[Om hs]
  have:decide ((((Da X.sn+1)*Fw (Da X.sn)+(2*Da X.sn+1)*(X.un0+1):Nat):Int)≤X.l)=false:=by
   apply decide_eq_false
   rw[e1,e2]
   have hk':k=0∨k=1:=by omega
   rcases hk' with rfl|rfl
   ·simp only[Nat.sub_zero,Nat.one_mul,Nat.add_zero] at hm hq hlen
    omega
   ·simp only[Nat.sub_self,Nat.zero_mul,Nat.add_zero] at hm
    omega
  rw[this]
  simp
 ·exact Jb (.inl hr)
theorem QB{X:Cx}{s:Sr}{c:Nat}(hcl:CA X.E.hv s.lr (AZ c) true=true)(hl:s.l<(AG c:Int)+1)(room:∀ seen,CT seen X.sn 0→EL X.E.r X.h X.l X.E.b seen X.un0=false):Un X s (Zy 3 c):=by
 refine⟨rfl,rfl,rfl,?_,room,.inr (.inr ⟨rfl,hcl,?_⟩)⟩
 ·show(AZ c).length≤20
  rw[Bk];exact Cw c
 ·show s.l<(((AZ c).length:Nat):Int)+1
  rw[Bk];exact hl
theorem Rw{k j:Nat}(hb:k.testBit j=false):∀ n,DF (k|||2^j) n=DF k n+(if j<n then 1 else 0):=by
 intro n
 induction n with
 | zero=>simp[DF]
 | succ n ih =>
  simp only[DF,Kc]
  rw[ih,Nat.testBit_or,Nat.testBit_two_pow]
  by_cases e:j=n
  ·subst e
   rw[hb]
   simp
  ·rw[decide_eq_false e,Bool.or_false]
   by_cases h:j<n
   ·rw[if_pos h,if_pos (by omega)];omega
   ·rw[if_neg h,if_neg (by omega)];omega
theorem ZX{k j:Nat}(hj:j<20)(hb:k.testBit j=false):AG (k|||2^j)=AG k+1:=by
 have:=Rw hb 20
 rw[if_pos hj] at this
 exact this
theorem cI{D:Nat}{n:Int}(h:D.testBit (Dz n)=true):wo D n|||2^Dz n=D:=by
 apply Nat.eq_of_testBit_eq
 intro i
 rw[Nat.testBit_or,Hm,Nat.testBit_two_pow]
 by_cases e:Dz n=i
 ·subst e;rw[h];simp
 ·have e':i≠Dz n:=fun q=>e q.symm
  simp[e,e']
theorem YI:∀ (xs:List Int) (D:Nat),xs.all AT=true→AM D (Ah xs)→(BK D xs).all AT=true∧Ah (BK D xs)=D∧(BK D xs).length=AG D∧∀ x∈BK D xs,D.testBit (Dz x)=true:=by
 intro xs
 induction xs with
 | nil =>
  intro D _ hs
  have e:D=0:=AM.anti hs (fun i q=>by rw[Nat.zero_testBit] at q;simp at q)
  subst e
  exact⟨rfl,rfl,rfl,fun x hx=>by simp[BK] at hx⟩
 | cons n xs ih =>
  intro D hx hs
  simp only[List.all_cons,Bool.and_eq_true] at hx
  have e:Ah (n :: xs)=Ah [n]|||Ah xs:=H8 [n] xs
  rw[e,H9] at hs
  simp only[BK]
  cases hb:D.testBit (Dz n) with
  | true =>
   rw[if_pos rfl]
   obtain⟨h1,h2,h3,h4⟩:=ih (wo D n) hx.2 (fun i hi=>by
    rw[Hm,Bool.and_eq_true] at hi
    have:=hs i hi.1
    rw[Nat.testBit_or,Bool.or_eq_true,Nat.testBit_two_pow] at this
    rcases this with q | q
    ·have q':Dz n=i:=by simpa using q
     have:=hi.2
     simp[q'] at this
    ·exact q)
   have hwb:(wo D n).testBit (Dz n)=false:=by rw[Hm];simp
   refine⟨by simp only[List.all_cons,hx.1,h1];rfl,?_,?_,fun x hx'=>?_⟩
   ·have e':Ah (n :: BK (wo D n) xs)=Ah [n]|||Ah (BK (wo D n) xs):=H8 [n] _
    rw[e',H9,h2,Nat.or_comm]
    exact cI hb
   ·simp only[List.length_cons,h3]
    have:=ZX (aN hx.1) hwb
    rw[cI hb] at this
    omega
   ·rcases List.mem_cons.1 hx' with rfl | hx'
    ·exact hb
    ·exact Ug D n _ (h4 x hx')
  | false =>
   simp only[Bool.false_eq_true,if_false]
   exact ih D hx.2 (fun i hi=>by
    have:=hs i hi
    rw[Nat.testBit_or,Bool.or_eq_true,Nat.testBit_two_pow] at this
    rcases this with q | q
    ·have q':Dz n=i:=by simpa using q
     rw[q',hi] at hb;simp at hb
    ·exact q)
theorem TZ:∀ (xs:List Int) (D:Nat),∀ x∈BK D xs,D.testBit (Dz x)=true:=by
 intro xs
 induction xs with
 | nil=>intro D x hx;simp[BK] at hx
 | cons n xs ih =>
  intro D x hx
  simp only[BK] at hx
  cases hb:D.testBit (Dz n) with
  | true =>
   rw[hb,if_pos rfl] at hx
   rcases List.mem_cons.1 hx with rfl | hx
   ·exact hb
   ·exact Ug D n _ (ih _ x hx)
  | false =>
   rw[hb] at hx
   simp only[Bool.false_eq_true,if_false] at hx
   exact ih D x hx
theorem Qo:∀ (xs pre:List Int) (D:Nat),GB (pre++BK D xs) xs pre.length=(pre++BK D xs).length:=by
 intro xs
 induction xs with
 | nil=>intro pre D;simp[GB,BK]
 | cons n xs ih =>
  intro pre D
  by_cases hb:D.testBit (Dz n)=true
  ·have eo:BK D (n :: xs)=n :: BK (wo D n) xs:=by simp only[BK];rw[if_pos hb]
   have e:pre++n :: BK (wo D n) xs=(pre++[n])++BK (wo D n) xs:=by simp
   rw[eo]
   simp only[GB]
   rw[if_pos ⟨by simp,by rw[List.getD_eq_getElem?_getD,List.getElem?_append_right (Nat.le_refl _),Nat.sub_self];rfl⟩,e]
   have:=ih (pre++[n]) (wo D n)
   rw[List.length_append,List.length_singleton] at this
   exact this
  ·have eo:BK D (n :: xs)=BK D xs:=by simp only[BK];rw[if_neg hb]
   rw[eo]
   simp only[GB]
   rw[if_neg]
   ·exact ih pre D
   ·rintro⟨h1,h2⟩
    rw[List.getD_eq_getElem?_getD,List.getElem?_append_right (Nat.le_refl _),Nat.sub_self] at h2
    cases ho:BK D xs with
    | nil=>rw[ho] at h1;simp at h1
    | cons y ys =>
     rw[ho] at h2
     have hy:y=n:=by simpa using h2
     have:=TZ xs D y (by rw[ho];exact List.mem_cons_self ..)
     rw[hy] at this
     exact hb this
def Xc(X:Cx)(s:Sr)(x:Fe):Prop:=(SI X s∧Un X s x)∨∃ s0 D,SI X s0∧s={ s0 with l:=s0.l - ((AG (AW D):Int)+1),ls:=s0.ls++[(101,AZ (AW D))] }∧(AG (AW D):Int)+1≤s0.l∧AG (AW D)≤2*Da X.sn∧CA X.E.hv s0.lr (AZ (AW D)) true=true∧x.st=2∧x.co.length≤20∧MH X.E.hv x X.E.xs (AZ (AW D))
theorem Lv(hv:List Nat):Cj hv 0=true:=by unfold Cj;rw[Nat.zero_and];rfl
theorem Y7:AW 0=0:=by decide
theorem XQ:An 0=0:=by decide
theorem cR{X:Cx}(hX:Il X){s:Sr}(h:SI X s)(hcl:Ab (X.E.hv++s.lr) X.E.as=true):∃ s' x,Nx X.E s=.fin s' x∧Xc X s' x:=by
 have h0:=h.csok hX (w:=0) (.inl rfl)
 have hDs:=Hx (X.E.hv++s.lr) X.E.xs X.E.as
 have hDc:=IS (X.E.hv++s.lr) X.E.xs X.E.as hcl
 have hD20:=EF hDs (QP X)
 have hvs:AM (vN (A4 (X.E.hv++s.lr) X.E.xs X.E.as)) X.sn:=by
  refine AM.trans (fun u hu=>?_) hX.asm
  obtain⟨_,_,i,e,hi⟩:=Jx hD20 hu
  rw[← e]
  exact Hf (QP X) (hDs i hi)
 have hj:Cj X.E.hv (An (AW (A4 (X.E.hv++s.lr) X.E.xs X.E.as)))=true:=by
  by_cases hz:A4 (X.E.hv++s.lr) X.E.xs X.E.as=0
  ·rw[hz,Y7,XQ];exact Lv _
  ·have:∃ j,(A4 (X.E.hv++s.lr) X.E.xs X.E.as).testBit j=true:=by
    apply Classical.byContradiction
    intro hn
    apply hz
    apply Nat.eq_of_testBit_eq
    intro i
    rw[Nat.zero_testBit]
    cases hb:(A4 (X.E.hv++s.lr) X.E.xs X.E.as).testBit i with
    | false=>rfl
    | true=>exact absurd ⟨i,hb⟩ hn
   obtain⟨j,hj⟩:=this
   obtain⟨w,hw,hwu⟩:=hX.cmp.cov _ (hvs _ (Hf hD20 hj))
   have hlw:(AQ w).testBit j=true:=by rw[BM,decide_eq_true (Bl hD20 hj),hwu];rfl
   have hin:=aT (h.csok hX (.inr hw)) hX.xs rfl hcl hj hlw
   refine Ls hX.hvt (hX.cmp.con w hw) (C6 _) ?_
   rw[QD hD20]
   exact(Fv hD20).1 hin
 have hcd:CA X.E.hv s.lr (AZ (AW (A4 (X.E.hv++s.lr) X.E.xs X.E.as))) true=true:=by
  rw[GD (C6 _),hj,Pj hD20,hDc]
  rfl
 have hsz:AG (AW (A4 (X.E.hv++s.lr) X.E.xs X.E.as))≤2*Da X.sn:=ZZ (C6 _) (by rw[QD hD20];exact hvs)
 have hno:LF X.E.hv (A4 (X.E.hv++s.lr) X.E.xs X.E.as)=false:=by
  unfold LF
  rw[List.any_eq_false]
  intro u _ hal
  unfold EH at hal
  rw[Bool.and_eq_true,List.all_eq_true] at hal
  have h1:∀ c∈X.E.hv,c&&&Cf u≠0:=fun c hc=>by simpa using hal.1 c hc
  have h2:A4 (X.E.hv++s.lr) X.E.xs X.E.as&&&Cf u=A4 (X.E.hv++s.lr) X.E.xs X.E.as:=by simpa using hal.2
  have:=Lr (cs:=X.E.hv++s.lr) (u:=u) h0.top (fun c hc=>(List.mem_append.1 hc).elim (h1 c) (h.sem u h1 c)) (k:=A4 (X.E.hv++s.lr) X.E.xs X.E.as) (fun i hi=>by rw[← h2] at hi;exact FJ _ _ i hi)
  rw[this] at hDc
  simp at hDc
 have hAs:X.E.as=Ah X.E.xs:=KG hX.xs
 obtain⟨i1,i2,i3,_⟩:=YI X.E.xs (A4 (X.E.hv++s.lr) X.E.xs X.E.as) hX.xs (by rw[← hAs];exact hDs)
 unfold Nx LW
 by_cases hl:s.l<(AG (AW (A4 (X.E.hv++s.lr) X.E.xs X.E.as)):Int)+1
 ·rw[if_pos hl]
  refine⟨s,_,rfl,.inl ⟨h,QB hcd hl fun seen hs=>?_⟩⟩
  obtain⟨c1,c2⟩:=h.count
  exact Rr h (m:=AG (AW (A4 (X.E.hv++s.lr) X.E.xs X.E.as))) (k:=0) hl (by omega) (by simp only[Nat.add_zero,Nat.sub_zero,Nat.one_mul];omega) (by omega) hs
 ·rw[if_neg hl]
  refine⟨_,_,rfl,.inr ⟨s,A4 (X.E.hv++s.lr) X.E.xs X.E.as,h,rfl,by omega,hsz,hcd,rfl,?_,?_⟩⟩
  ·show(BK _ X.E.xs).length≤20
   rw[i3];exact Cw _
  ·refine⟨rfl,rfl,rfl,?_,?_,?_,?_⟩
   ·show LZ (BK _ X.E.xs) X.E.xs=true
    have:=Qo X.E.xs [] (A4 (X.E.hv++s.lr) X.E.xs X.E.as)
    unfold LZ
    simpa using this
   ·show AG (AJ (BK _ X.E.xs))=(BK _ X.E.xs).length
    rw[KG i1,i2,i3]
   ·show AJ (AZ (AW _))=AW (AJ (BK _ X.E.xs))
    rw[GP (C6 _),KG i1,i2]
   ·show LF X.E.hv (AJ (BK _ X.E.xs))=false
    rw[KG i1,i2];exact hno
theorem TH{cs:List Nat}(hc:∀ c∈cs,c<2^20){c:Nat}(h:c∈cs):Ab cs (AW c)=true:=by
 cases hb:Ab cs (AW c) with
 | true=>rfl
 | false =>
  obtain⟨K,_,h2,_,h4⟩:=Db cs hc (AW c) (C6 c) hb
  exfalso
  apply (h4 c h).1
  apply Nat.eq_of_testBit_eq
  intro i
  rw[Nat.zero_testBit,EZ]
  cases hi:c.testBit i with
  | false=>rfl
  | true =>
   have hi20:=Bl (hc c h) hi
   have:=h2 (Fs i) (by rw[CQ _ (Hk hi20),Dt];exact hi)
   rw[CQ _ hi20,this];rfl
theorem Q8{a b:Nat}(h:a&&&b=0){i:Nat}(hi:(AQ a).testBit i=true):(AQ b).testBit i=false:=by
 rw[BM,Bool.and_eq_true] at hi
 rw[BM,Cz.2 h _ hi.2,Bool.and_false]
theorem YJ{cs:List Nat}{c w t:Nat}(hc:AM c (AQ w))(h0:c≠0)(hd:t&&&w=0):OT (cs++[c]) (AQ t)=OT cs (AQ t):=by
 unfold OT
 rw[List.filter_append]
 have:(c&&&AQ t == c)=false:=by
  have e:c&&&AQ t=0:=by
   rw[← Cz]
   intro i hi
   exact Q8 (EI hd) (hc i hi)
  rw[e]
  simpa using fun q=>h0 q.symm
 simp[this]
theorem XH{cs cs':List Nat}{A w k:Nat}(h:QF cs A w k)(hok:Et cs' A w)(he:OT cs' (AQ w)=OT cs (AQ w)):QF cs' A w k∧Cd cs' A w (k+1)=Cd cs A w (k+1):=by
 have hl:∀ d,Ba cs' (AQ w) d=Ba cs (AQ w) d:=fun d=>by unfold Ba;rw[he]
 obtain⟨d,kn,h1,h2⟩:=h.is
 exact⟨⟨hok,d,kn,by rw[Gg (k:=k) (fun j d _ _=>hl d) k (Nat.le_refl _)];exact h1,by rw[hl];exact h2⟩,Oh (k:=k+1) (fun j d _ _=>hl d) (k+1) (Nat.le_refl _)⟩
theorem UU{cs cs':List Nat}{A:Nat}:∀ (T:List (Nat × Nat)),(∀ t∈T,QF cs A t.1 t.2)→(∀ t∈T,Et cs' A t.1∧OT cs' (AQ t.1)=OT cs (AQ t.1))→(∀ t∈T,QF cs' A t.1 t.2)∧DG cs' A T=DG cs A T:=by
 intro T
 induction T with
 | nil=>intro _ _;exact⟨fun t ht=>by simp at ht,rfl⟩
 | cons t T ih =>
  intro h hr
  obtain⟨a1,a2⟩:=ih (fun x hx=>h x (List.mem_cons_of_mem _ hx)) (fun x hx=>hr x (List.mem_cons_of_mem _ hx))
  obtain⟨r1,r2⟩:=hr t (List.mem_cons_self ..)
  obtain⟨b1,b2⟩:=XH (h t (List.mem_cons_self ..)) r1 r2
  refine⟨fun x hx=>?_,?_⟩
  ·rcases List.mem_cons.1 hx with rfl | hx
   ·exact b1
   ·exact a1 x hx
  ·simp only[DG,List.flatMap_cons] at a2 ⊢
   rw[b2,a2]
structure Xf(X:Cx)(T:List (Nat × Nat))(w:Nat):Prop where
 me:w=0∨w∈X.ws
 all:∀ t∈T,t.1=0∨t.1∈X.ws
 dis:((T.map fun t=>t.1)++[w]).Pairwise fun a b=>a&&&b=0
theorem Xf.off{X:Cx}{T:List (Nat × Nat)}{w:Nat}(h:Xf X T w){t:Nat × Nat}(ht:t∈T):t.1&&&w=0:=(List.pairwise_append.1 h.dis).2.2 t.1 (List.mem_map.2 ⟨t,ht,rfl⟩) w (List.mem_singleton.2 rfl)
structure Hd(X:Cx)(T:List (Nat × Nat))(w i dec:Nat)(s:Sr):Prop where
 si:SI X s
 trk:∀ t∈T,QF (X.E.hv++s.lr) X.E.as t.1 t.2
 done:s.done=DG (X.E.hv++s.lr) X.E.as T
 dec:Bp (X.E.hv++s.lr) X.E.as w i=some dec
 path:s.path=Cd (X.E.hv++s.lr) X.E.as w i
 no:0<i→Ab (X.E.hv++s.lr) X.E.as=false
theorem Yo{X:Cx}(hX:Il X){T:List (Nat × Nat)}{w k dec:Nat}{s:Sr}(hW:Xf X T w)(h:Hd X T w (k+1) dec s)(hcl:Ab (X.E.hv++s.lr) dec=true) :
  (∃ x,XZ X.E s dec=.fin s x∧Un X s x)∨∃ s',XZ X.E s dec=.go s'∧Hd X T w (k+1) dec s'∧Ab (X.E.hv++s'.lr) dec=true∧(X.E.r=0∨(s'.lr.length:Int)<X.E.r)∧s'.sp=s.sp∧s'.vals=s.vals∧Gr (X.E.hv++s'.lr) X.E.as w 12=Gr (X.E.hv++s.lr) X.E.as w 12:=by
 have hok:=h.si.csok hX hW.me
 have hno:=h.no (by omega)
 unfold XZ
 by_cases hr:X.E.r=0∨(s.lr.length:Int)<X.E.r
 ·rw[if_pos hr]
  exact .inr ⟨s,rfl,h,hcl,hr,rfl,rfl,rfl⟩
 ·rw[if_neg hr]
  have hr0:X.E.r≠0:=fun e=>hr (.inl e)
  have hge:X.E.r≤(s.lr.length:Int):=by omega
  have h12:12≤X.E.r:=hX.set.resolve_left hr0
  obtain⟨c0,hc0,hi0⟩:=U3 h.si.nod (by omega) hok h.trk h.done h.dec h.path hcl hno hW.dis
  have hlong:DC X.E s dec s.lr 0∈s.lr∧G6 X.E s (DC X.E s dec s.lr 0) dec=true:=by
   rcases Oa X.E s dec s.lr 0 with⟨_,b⟩ | b
   ·exfalso
    rcases b c0 hc0 with q | q
    ·have l:=h.si.lr c0 hc0
     have:AG 0<AG c0:=Du (fun i q=>by rw[Nat.zero_testBit] at q;simp at q) l.top (fun e=>l.ne e.symm)
     omega
    ·rw[hi0] at q;simp at q
   ·exact b
  obtain⟨hmem,hidle⟩:=hlong
  generalize DC X.E s dec s.lr 0=c at *
  have hlc:=h.si.lr c hmem
  have hcd:CA X.E.hv s.lr (AZ c) true=true:=by
   rw[GD hlc.top,hlc.join,TH hok.top (List.mem_append_right _ hmem)]
   rfl
  unfold LW
  by_cases hl:s.l<(AG c:Int)+1
  ·rw[if_pos hl]
   exact .inl ⟨_,rfl,QB hcd hl fun _ _=>Jb (.inl hr0)⟩
  ·rw[if_neg hl]
   right
   have hsub:∀ x∈X.E.hv++s.lr.erase c,x∈X.E.hv++s.lr:=fun x hx=>by
    rcases List.mem_append.1 hx with q | q
    ·exact List.mem_append_left _ q
    ·exact List.mem_append_right _ (List.mem_of_mem_erase q)
   unfold G6 at hidle
   rw[Bool.and_eq_true,Bool.and_eq_true] at hidle
   obtain⟨⟨i1,i2⟩,i3⟩:=hidle
   rw[h.path] at i2
   rw[h.done] at i3
   obtain⟨p1,p2,p3,_⟩:=X7 hok hsub h.dec hno i1 i2
   obtain⟨t1,t2⟩:=XI hsub T h.trk i3
   refine⟨_,rfl,⟨?_,t1,?_,p1,?_,fun _=>Gf hok.top hok.asm hsub (AM.refl _) hno⟩,i1,?_,rfl,rfl,p2⟩
   ·have:=h.si.drop hmem hr0 (by omega)
    exact this
   ·show s.done=_
    rw[h.done];exact t2.symm
   ·show s.path=_
    rw[h.path];exact p3.symm
   ·have hp:0<s.lr.length:=List.length_pos_of_mem hmem
    have hle:=h.si.len
    right
    show(((s.lr.erase c).length:Nat):Int)<X.E.r
    rw[List.length_erase_of_mem hmem]
    omega
theorem ZK{X:Cx}(hX:Il X){T:List (Nat × Nat)}{w k dec:Nat}{s:Sr}(hW:Xf X T w)(h:Hd X T w (k+1) dec s)(hcl:Ab (X.E.hv++s.lr) dec=true) :
  (∃ s' x,bN X.E s dec=.fin s' x∧SI X s'∧Un X s' x)∨∃ s',bN X.E s dec=.go s'∧Hd X T w 0 X.E.as { s' with path:=[] }∧s'.vals=s.vals∧Gr (X.E.hv++s.lr) X.E.as w 12<Gr (X.E.hv++s'.lr) X.E.as w 12:=by
 unfold bN
 by_cases hb:0<X.E.b∧X.E.b≤(s.sp:Int)
 ·rw[if_pos hb]
  left
  refine⟨s,_,rfl,h.si,rfl,rfl,rfl,by decide,fun _ _=>Jb (.inr (by omega)),.inl ⟨rfl,hb.1,?_,by decide⟩⟩
  rcases h.si.bud with q | q
  ·omega
  ·omega
 ·rw[if_neg hb]
  rcases Yo hX hW h hcl with⟨x,e,hu⟩ | ⟨s1,e,h1,hcl1,hr1,hsp,hvals,hpot⟩
  ·rw[e]
   exact .inl ⟨s,x,rfl,h.si,hu⟩
  ·rw[e]
   simp only
   have hok:=h1.si.csok hX hW.me
   have hno:=h1.no (by omega)
   obtain⟨dk,kn,a1,a2,a3,ed⟩:=Bz h1.dec
   obtain⟨d20,_,dA⟩:=CO hok h1.dec
   obtain⟨dk20,_,_⟩:=CO hok a1
   have hDs:=Hx (X.E.hv++s1.lr) X.E.xs dec
   have hDc:=IS (X.E.hv++s1.lr) X.E.xs dec hcl1
   have hDW:=ay hok hX.xs rfl d20 dA hcl1 hno
   have hD20:=EF hDs d20
   obtain⟨j,ej,hj,hjw,hjb,hjp,hjD⟩:=RJ (cs':=X.E.hv++s1.lr) hok hX.xs rfl h1.dec (Nat.le_refl k) a1 a2 a3
   rw[ej] at ed
   have hdd:∀ i d' kn',i<k→Bp (X.E.hv++s1.lr) X.E.as w i=some d'→Ba (X.E.hv++s1.lr) (AQ w) d'=some kn'→∃ j',j'<20∧kn'.testBit j'=false∧(A4 (X.E.hv++s1.lr) X.E.xs dec).testBit j'=true∧∃ d1 kn1,Bp (X.E.hv++s1.lr) X.E.as w (i+1)=some d1∧Ba (X.E.hv++s1.lr) (AQ w) d1=some kn1∧kn1.testBit j'=true:=by
    intro i d' kn' hi hd' hk'
    obtain⟨d1,hd1⟩:=IM h1.dec (by omega:i+1+1≤k+1)
    obtain⟨d2,kn1,b1,b2,_,_⟩:=Bz hd1
    obtain⟨d3,kn3,c1,c2,c3,c4⟩:=Bz b1
    rw[hd'] at c1
    simp only[Option.some.injEq] at c1
    subst c1
    rw[hk'] at c2
    simp only[Option.some.injEq] at c2
    subst c2
    obtain⟨j',e',hj',hw',hb',_,hD'⟩:=RJ (cs':=X.E.hv++s1.lr) hok hX.xs rfl h1.dec (by omega:i≤k) hd' hk' c3
    rw[e'] at c4
    obtain⟨q20,_,_⟩:=CO hok b1
    refine⟨j',hj',hb',hD',d2,kn1,b1,b2,(En hok q20 b2).1.sub j' ?_⟩
    rw[Nat.testBit_and,c4,IV,hw'];rfl
   generalize A4 (X.E.hv++s1.lr) X.E.xs dec=D at *
   have hnew:=WD hok dk20 a2 hj hjb hjp (by rw[← ed];exact hDs) hDW hjD
   obtain⟨ok',hpot'⟩:=Th hok a1 a2 hj hjb hjp (by rw[← ed];exact hDs) hDW hjD hdd
   have hDt:BN D=false:=by
    have hk0:AM D (kn|||2^j):=by
     intro x hx
     have hxw:=hDW x hx
     have:=hDs x hx
     rw[ed,Nat.testBit_or,Bool.or_eq_true] at this
     rw[Nat.testBit_or,Bool.or_eq_true]
     rcases this with z | z
     ·exact .inl ((En hok dk20 a2).1.sub x (by rw[Nat.testBit_and,z,hxw];rfl))
     ·exact .inr z
    exact hk0.twin (Nf (En hok dk20 a2).1.twin hjp)
   have hot:BN (AW D)=false:=by
    rw[FK] at hDt ⊢
    intro i hi hib
    rw[CQ _ hi] at hib
    rw[CQ _ (Hk hi),Dt]
    have:=hDt (Fs i) (Hk hi) hib
    rw[Dt] at this
    exact this
   have hne:AW D≠0:=fun e=>by
    have:(AW D).testBit (Fs j)=true:=by rw[CQ _ (Hk hj),Dt];exact hjD
    rw[e] at this;simp at this
   have hvD:AM (vN D) w:=(Fv hD20).1 hDW
   have hw0:w∈X.ws:=by
    rcases hW.me with e | e
    ·exfalso
     rw[e,BM] at hjw
     simp at hjw
    ·exact e
   have hlrn:dm X (AW D):=⟨C6 D,hne,hot,by rw[QD hD20];exact hvD.trans (hX.cmp.sub w hw0),Ls hX.hvt (hX.cmp.con w hw0) (C6 D) (by rw[QD hD20];exact hvD)⟩
   have hcf:∀ tail,CA X.E.hv s1.lr (AZ (AW D)) tail=true:=fun tail=>by
    rw[GD (C6 D),hlrn.join,Pj hD20,hDc,hot]
    simp[hnew]
   have hnl:AW D ∉ s1.lr:=fun q=>hnew (List.mem_append_right _ q)
   unfold aD
   by_cases hh:s1.h<(AG (AW D):Int)
   ·rw[if_pos hh]
    left
    refine⟨s1,_,rfl,h1.si,rfl,rfl,rfl,?_,fun seen hs=>W0 h1.si hlrn hnl hh hs,.inr (.inl ⟨rfl,hcf false,?_⟩)⟩
    ·show(AZ (AW D)).length≤20
     rw[Bk];exact Cw _
    ·show X.h<(Ad s1.lr:Int)+(((AZ (AW D)).length:Nat):Int)
     have:=h1.si.held
     rw[Bk];omega
   ·rw[if_neg hh]
    unfold LW
    by_cases hl:s1.l<(AG (AW D):Int)+1
    ·rw[if_pos hl]
     left
     refine⟨s1,_,rfl,h1.si,QB (hcf true) hl fun seen hs=>?_⟩
     obtain⟨c1,c2⟩:=h1.si.count1 hlrn hnl
     exact Rr h1.si (m:=AG (AW D)) (k:=1) hl c1 (by simp only[Nat.sub_self,Nat.zero_mul];omega) (by omega) hs
    ·rw[if_neg hl]
     right
     have hsi:=h1.si.learn hX hD20 hne hot hlrn.sub hlrn.join hDc hnew (by omega) (by omega) hr1 (by
      rw[hsp]
      have:=hX.bud
      omega)
     have htr:=UU (cs':=(X.E.hv++s1.lr)++[AW D]) T h1.trk (fun t ht=>⟨by
      have:=(hsi.path [] s1.done s1.vals).csok hX (hW.all t ht)
      rw[List.append_assoc]
      exact this,YJ (JJ (CI w) hDW) hne (hW.off ht)⟩)
     rw[List.append_assoc] at htr hpot'
     refine⟨_,rfl,⟨hsi.path [] s1.done s1.vals,htr.1,?_,rfl,rfl,fun q=>by omega⟩,hvals,?_⟩
     ·show s1.done=_
      rw[h1.done]
      exact htr.2.symm
     ·rw[← hpot]
      exact hpot'
end Go.Proofs.YthboeppmlhbofaaGreatDoor
