import Derived.Test.YthboeppmlhbofaaDoorHag
namespace Go.Proofs.YthboeppmlhbofaaDoor
open Go.RowKit Txt
set_option maxRecDepth 100000
structure Cx where
 E:Sg
 h:Int
 l:Int
 lr0:List Nat
 log0:Nat
 un0:Nat
 sn:Nat
 ws:List Nat
def Cx.j0(X:Cx):JV:=⟨X.lr0,AT X.lr0,X.log0,0⟩
structure Gi(X:Cx):Prop where
 hvt:∀ c∈X.E.hv,c<2^20
 hvs:∀ c∈X.E.hv,AH (vN c) X.sn
 xs:X.E.xs.all AK=true
 asm:AH (vN X.E.as) X.sn
 sn:X.sn<2^11
 set:X.E.r=0∨12≤X.E.r
 bud:0≤X.E.b
 cmp:QO X.E.hv X.sn X.ws
structure Yl(X:Cx)(c:Nat):Prop where
 top:c<2^20
 ne:c≠0
 twin:A4 c=false
 sub:AH (vN c) X.sn
 join:Ca X.E.hv (Ag c)=true
structure SI(X:Cx)(s:Sr):Prop where
 ok:Eg X.E.r X.h X.l X.E.hv X.j0 s.ls
 opn:∀ p∈s.ls,p.1≠101
 to:∃ log:Nat,Ay X.j0 s.ls=⟨s.lr,AT s.lr,log,s.sp⟩∧(log:Int)=X.l - s.l∧(X.E.r=0→log≤AT s.lr+s.lr.length+(2*CU X.sn+1)*X.un0)
 held:s.h=X.h - AT s.lr
 lr:∀ c∈s.lr,Yl X c
 nod:s.lr.Nodup
 sem:∀ u,(∀ c∈X.E.hv,c&&&Be u≠0)→∀ c∈s.lr,c&&&Be u≠0
 len:X.E.r=0∨(s.lr.length:Int)≤X.E.r
 bud:X.E.b=0∨(s.sp:Int)≤X.E.b
 rh:0≤s.h
 rl:0≤s.l
theorem NI(X:Cx):X.E.as<2^20:=Dw X.E.xs
theorem SI.csok{X:Cx}(hX:Gi X){s:Sr}(h:SI X s){w:Nat}(hw:w=0∨w∈X.ws):Dl (X.E.hv++s.lr) X.E.as w:=by
 have top:∀ c∈X.E.hv++s.lr,c<2^20:=fun c hc=>(List.mem_append.1 hc).elim (hX.hvt c) (fun hc=>(h.lr c hc).top)
 refine⟨top,fun c hc=>?_,NI X⟩
 have hin:vN c=0∨∃ w∈X.ws,AH (vN c) w:=by
  rcases List.mem_append.1 hc with q | q
  ·exact hX.cmp.own c q
  ·have:=h.lr c q
   exact Rk hX.hvt hX.cmp this.top this.sub this.join
 rcases hw with rfl | hw
 ·right
  rw[N2 (top c hc)]
  intro i _
  simp
 ·rcases hin with e | ⟨w',hw',e⟩
  ·left
   rw[EW (top c hc),e]
   intro i q
   rw[Nat.zero_testBit] at q
   simp at q
  ·by_cases ew:w'=w
   ·subst ew
    left
    rw[EW (top c hc)]
    exact e
   ·right
    rw[N2 (top c hc)]
    exact CC.2 (La e (OC hX.cmp.dis hw' hw ew))
theorem GO{r h l:Int}{hv:List Nat}:∀ (ls:List EY) (j:JV) (p:EY),Eg r h l hv j ls→(∀ q∈ls,q.1≠101)→p.2.all AK=true→PQ r h l hv (Ay j ls) p→Eg r h l hv j (ls++[p]):=by
 intro ls
 induction ls with
 | nil=>intro j p _ _ hl ho;exact⟨hl,ho,fun _=>rfl,trivial⟩
 | cons q ls ih =>
  intro j p h hn hl ho
  obtain⟨a1,a2,_,a4⟩:=h
  exact⟨a1,a2,fun e=>absurd e (hn q (List.mem_cons_self ..)),ih (Bu j q) p a4 (fun x hx=>hn x (List.mem_cons_of_mem _ hx)) hl ho⟩
theorem Nq:∀ (lr:List Nat) (c:Nat),c∈lr→AT (lr.erase c)+AG c=AT lr:=by
 intro lr
 induction lr with
 | nil=>intro c hc;simp at hc
 | cons x lr ih =>
  intro c hc
  by_cases e:x=c
  ·subst e
   rw[List.erase_cons_head]
   simp only[AT,List.map_cons,List.sum_cons]
   omega
  ·rw[List.erase_cons_tail (by simpa using e)]
   have:=ih c ((List.mem_cons.1 hc).resolve_left fun q=>e q.symm)
   simp only[AT,List.map_cons,List.sum_cons] at this ⊢
   omega
theorem Ef{hv lr:List Nat}{c:Nat}(hc:c<2^20)(tail:Bool):Bz hv lr (AM c) tail=(Ca hv (Ag c) && AU (hv++lr) (AS c) && (tail || (!A4 c && !decide (c∈hv++lr)))):=by
 unfold Bz
 rw[ED,En hc,BH]
 simp
theorem TR{cs:List Nat}{D u:Nat}(hc:∀ c∈cs,c<2^20)(hD:D<2^20)(hcl:AU cs D=true)(ha:∀ c∈cs,c&&&Be u≠0):AS D&&&Be u≠0:=by
 intro e
 have hs:AH D (Be u):=by
  intro i hi
  have hi20:=A8 hD hi
  have:=CC.2 e (Dk i) (by rw[Bh _ (Fm hi20),Cm];exact hi)
  have ho:=K9 u i hi20
  rw[Bh _ hi20,this] at ho
  simpa using ho.symm
 rw[Jd hc ha hs] at hcl
 simp at hcl
theorem SI.learn{X:Cx}(hX:Gi X){s:Sr}(h:SI X s){D:Nat}(hD:D<2^20)(hne:AS D≠0)(ht:A4 (AS D)=false)(hsub:AH (vN (AS D)) X.sn)(hj:Ca X.E.hv (Ag (AS D))=true)(hcl:AU (X.E.hv++s.lr) D=true)(hnew:AS D ∉ X.E.hv++s.lr)
  (hh:(AG (AS D):Int)≤s.h) (hl:(AG (AS D):Int)+1≤s.l) (hr:X.E.r=0∨(s.lr.length:Int)<X.E.r) (hb:X.E.b=0∨(s.sp:Int)<X.E.b) :
  SI X { s with l:=s.l - ((AG (AS D):Int)+1),ls:=s.ls++[(97,AM (AS D))],h:=s.h - (AG (AS D):Int),sp:=s.sp+1,lr:=s.lr++[AS D] }:=by
 obtain⟨log,t1,t2,t3⟩:=h.to
 have hc20:=Cl D
 have top:∀ c∈X.E.hv++s.lr,c<2^20:=fun c hc=>(List.mem_append.1 hc).elim (hX.hvt c) (fun hc=>(h.lr c hc).top)
 have hcd:Bz X.E.hv s.lr (AM (AS D)) false=true:=by
  rw[Ef hc20,hj,Mg hD,hcl,ht]
  simp[hnew]
 have hheld:=h.held
 refine⟨GO _ _ _ h.ok h.opn (ED _) ?_,?_,⟨log+AG (AS D)+1,?_,?_,fun hr0=>?_⟩,?_,?_,?_,?_,?_,?_,?_,?_⟩
 ·rw[t1]
  refine⟨?_,.inl ⟨rfl,hcd,?_,?_⟩⟩
  ·show(log:Int)+(AM (AS D)).length+1≤X.l
   rw[BH];omega
  ·show((AT s.lr:Nat):Int)+(AM (AS D)).length≤X.h
   rw[BH];omega
  ·show X.E.r=0∨(s.lr.length:Int)+1≤X.E.r
   omega
 ·intro p hp
  rcases List.mem_append.1 hp with hp | hp
  ·exact h.opn p hp
  ·rw[List.mem_singleton.1 hp];simp only;decide
 ·rw[GP,t1]
  simp only[Bu,En hc20,BH,FE]
  simp
 ·show((log+AG (AS D)+1:Nat):Int)=X.l - (s.l - ((AG (AS D):Int)+1))
  omega
 ·have:=t3 hr0
  show log+AG (AS D)+1≤AT (s.lr++[AS D])+(s.lr++[AS D]).length+(2*CU X.sn+1)*X.un0
  rw[FE,List.length_append,List.length_singleton]
  omega
 ·show s.h - (AG (AS D):Int)=X.h - ((AT (s.lr++[AS D]):Nat):Int)
  rw[FE]
  omega
 ·intro c hc
  rcases List.mem_append.1 hc with hc | hc
  ·exact h.lr c hc
  ·rw[List.mem_singleton.1 hc];exact⟨hc20,hne,ht,hsub,hj⟩
 ·exact List.nodup_append.2 ⟨h.nod,by simp,fun a ha b hb=>by rw[List.mem_singleton.1 hb];exact fun e=>hnew (List.mem_append_right _ (by rw[← e];exact ha))⟩
 ·intro u hu c hc
  rcases List.mem_append.1 hc with hc | hc
  ·exact h.sem u hu c hc
  ·rw[List.mem_singleton.1 hc]
   exact TR top hD hcl (fun x hx=>(List.mem_append.1 hx).elim (hu x) (h.sem u hu x))
 ·show X.E.r=0∨(((s.lr++[AS D]).length:Nat):Int)≤X.E.r
  rw[List.length_append,List.length_singleton]
  omega
 ·show X.E.b=0∨((s.sp+1:Nat):Int)≤X.E.b
  omega
 ·show 0≤s.h - (AG (AS D):Int)
  omega
 ·show 0≤s.l - ((AG (AS D):Int)+1)
  omega
theorem SI.drop{X:Cx}{s:Sr}(h:SI X s){c:Nat}(hc:c∈s.lr)(hr:X.E.r≠0)(hl:(AG c:Int)+1≤s.l) :
  SI X { s with l:=s.l - ((AG c:Int)+1),ls:=s.ls++[(100,AM c)],h:=s.h+(AG c:Int),lr:=s.lr.erase c }:=by
 obtain⟨log,t1,t2,t3⟩:=h.to
 have hcl:=h.lr c hc
 have hle:=Nq s.lr c hc
 have hheld:=h.held
 have hrh:=h.rh
 refine⟨GO _ _ _ h.ok h.opn (ED _) ?_,?_,⟨log+AG c+1,?_,?_,fun hr0=>absurd hr0 hr⟩,?_,?_,?_,?_,?_,h.bud,?_,?_⟩
 ·rw[t1]
  refine⟨?_,.inr (.inr ⟨rfl,?_,hr,?_,?_⟩)⟩
  ·show(log:Int)+(AM c).length+1≤X.l
   rw[BH];omega
  ·show AO (AM c)∈s.lr
   rw[En hcl.top];exact hc
  ·show AG (AO (AM c))=(AM c).length
   rw[En hcl.top,BH]
  ·show(AM c).length≤AT s.lr
   rw[BH];omega
 ·intro p hp
  rcases List.mem_append.1 hp with hp | hp
  ·exact h.opn p hp
  ·rw[List.mem_singleton.1 hp];simp only;decide
 ·rw[GP,t1]
  simp only[Bu,En hcl.top,BH]
  simp
  omega
 ·show((log+AG c+1:Nat):Int)=X.l - (s.l - ((AG c:Int)+1))
  omega
 ·show s.h+(AG c:Int)=X.h - ((AT (s.lr.erase c):Nat):Int)
  omega
 ·exact fun x hx=>h.lr x (List.mem_of_mem_erase hx)
 ·exact h.nod.erase c
 ·exact fun u hu x hx=>h.sem u hu x (List.mem_of_mem_erase hx)
 ·have:=h.len
  have hl:(s.lr.erase c).length≤s.lr.length:=List.length_erase_le
  show X.E.r=0∨(((s.lr.erase c).length:Nat):Int)≤X.E.r
  omega
 ·show 0≤s.h+(AG c:Int)
  omega
 ·show 0≤s.l - ((AG c:Int)+1)
  omega
theorem SI.path{X:Cx}{s:Sr}(h:SI X s)(p d:List H9)(v:Nat):SI X { s with path:=p,done:=d,vals:=v }:=⟨h.ok,h.opn,h.to,h.held,h.lr,h.nod,h.sem,h.len,h.bud,h.rh,h.rl⟩
def Gb(V:Nat):Nat→List Nat
 | 0=>[0]
 | v+1=>if V.testBit (v+1) then Gb V v++((Gb V v).map (·|||2^(2*v))++(Gb V v).map (·|||2^(2*v+1))) else Gb V v
theorem Q9(V:Nat):∀ k,(Gb V k).length=GC (Gp V k):=by
 intro k
 induction k with
 | zero=>rfl
 | succ k ih =>
  simp only[Gb,Gp]
  cases hb:V.testBit (k+1) with
  | false=>simp[ih]
  | true=>simp only[if_true,List.length_append,List.length_map,ih,Bool.toNat_true,GC];omega
theorem RC(V:Nat):∀ k c,c<2^(2*k)→AH c (AI V)→A4 c=false→k≤10→c∈Gb V k:=by
 intro k
 induction k with
 | zero=>intro c hc _ _ _;simp at hc;simp[Gb,hc]
 | succ k ih =>
  intro c hc hs ht hk
  have hbits:∀ i,2*(k+1)≤i→c.testBit i=false:=fun i hi=>Nat.testBit_lt_two_pow (Nat.lt_of_lt_of_le hc (Nat.pow_le_pow_right (by decide) hi))
  have htw:=(DS c).1 ht
  have e1:Dk (2*k)=2*k+1:=by unfold Dk;rw[if_pos (by omega)]
  have less:∀ c',AH c' c→(∀ i,2*k≤i→c'.testBit i=false)→c'∈Gb V k:=fun c' h1 h2=>ih c' (BX h2) (h1.trans hs) (h1.twin ht) (by omega)
  simp only[Gb]
  have hv:∀ i,i / 2=k→c.testBit i=true→V.testBit (k+1)=true:=fun i hi hb=>by
   have:=hs i hb
   rw[Av,Bool.and_eq_true,hi] at this
   exact this.2
  cases h0:c.testBit (2*k) with
  | true =>
   rw[if_pos (hv (2*k) (by omega) h0)]
   have hb1:=htw (2*k) (by omega) h0
   rw[e1] at hb1
   refine List.mem_append_right _ (List.mem_append_left _ (List.mem_map.2 ⟨c - 2^(2*k),less _ (fun i hi=>?_) (fun i hi=>?_),?_⟩))
   ·rw[Ff rfl h0,Bool.and_eq_true] at hi;exact hi.1
   ·rw[Ff rfl h0]
    by_cases e:i=2*k
    ·subst e;simp
    ·by_cases e':i=2*k+1
     ·subst e';rw[hb1];rfl
     ·rw[hbits i (by omega)];rfl
   ·apply Nat.eq_of_testBit_eq
    intro i
    rw[Nat.testBit_or,Ff rfl h0,Nat.testBit_two_pow]
    by_cases e:i=2*k
    ·subst e;rw[h0];simp
    ·rw[decide_eq_true e,decide_eq_false (fun q=>e q.symm)];simp
  | false =>
   cases h1:c.testBit (2*k+1) with
   | true =>
    rw[if_pos (hv (2*k+1) (by omega) h1)]
    refine List.mem_append_right _ (List.mem_append_right _ (List.mem_map.2 ⟨c - 2^(2*k+1),less _ (fun i hi=>?_) (fun i hi=>?_),?_⟩))
    ·rw[Ff rfl h1,Bool.and_eq_true] at hi;exact hi.1
    ·rw[Ff rfl h1]
     by_cases e:i=2*k+1
     ·subst e;simp
     ·by_cases e':i=2*k
      ·subst e';rw[h0];rfl
      ·rw[hbits i (by omega)];rfl
    ·apply Nat.eq_of_testBit_eq
     intro i
     rw[Nat.testBit_or,Ff rfl h1,Nat.testBit_two_pow]
     by_cases e:i=2*k+1
     ·subst e;rw[h1];simp
     ·rw[decide_eq_true e,decide_eq_false (fun q=>e q.symm)];simp
   | false =>
    have hm:c∈Gb V k:=less c (AH.refl c) (fun i hi=>by
     by_cases e:i=2*k
     ·subst e;exact h0
     ·by_cases e':i=2*k+1
      ·subst e';exact h1
      ·exact hbits i (by omega))
    split
    ·exact List.mem_append_left _ hm
    ·exact hm
theorem KR{V:Nat}{l:List Nat}(hn:l.Nodup)(h:∀ c∈l,c<2^20∧A4 c=false∧AH (vN c) V):l.length≤GC (CU V)∧AT l≤CU V*l.length:=by
 refine⟨?_,?_⟩
 ·have:=N1 l (Gb V 10) hn (fun c hc=>RC V 10 c (h c hc).1 ((EW (h c hc).1).2 (h c hc).2.2) (h c hc).2.1 (by omega))
  rw[Q9] at this
  exact this
 ·clear hn
  induction l with
  | nil=>simp[AT]
  | cons c l ih =>
   have a:=ih (fun x hx=>h x (List.mem_cons_of_mem _ hx))
   obtain⟨h1,h2,h3⟩:=h c (List.mem_cons_self ..)
   have b:=J8 ((EW h1).2 h3) h2
   simp only[AT,List.map_cons,List.sum_cons,List.length_cons] at a ⊢
   rw[Nat.mul_add]
   omega
theorem Mx{D:Nat}(hD:D<2^20):vN (AS D)=vN D:=by
 obtain⟨a,b⟩:=(Bf.of hD).opp.eq
 unfold vN
 rw[← a,← b,Nat.or_comm]
theorem Jy{a b:Nat}(h:AH a b):CU a≤CU b:=by
 have:=PB (a:=a) (b:=0) (w:=b) 10 (fun u _ _=>by
  cases ha:a.testBit u with
  | false=>simp
  | true=>rw[h u ha];simp)
 simp only[CU]
 omega
theorem Uv{D V:Nat}(hD:D<2^20)(h:AH (vN D) V):AG D≤2*CU V:=by
 rw[(Bf.of hD).size]
 have a:AH (tN D) V:=AH.trans (AH.or_left _ _) h
 have b:AH (fN D) V:=AH.trans (fun i hi=>by unfold vN;rw[Nat.testBit_or,hi,Bool.or_true]) h
 have:=Jy a
 have:=Jy b
 omega
theorem Lr{seen V:Nat}(h:Bf seen V 0):AG seen=CU V:=by rw[h.size,NR];omega
structure QR(X:Cx)(s:Sr)(x:Gg):Prop where
 st:x.st=3
 vs:x.vs=[]
 co:x.co=[]
 len:x.cl.length≤20
 room:∀ seen,Bf seen X.sn 0→DC X.E.r X.h X.l X.E.b seen X.un0=false
 why:(x.re=1∧0<X.E.b∧(s.sp:Int)=X.E.b∧x.cl=[])∨(x.re=2∧Bz X.E.hv s.lr x.cl false=true∧X.h<(AT s.lr:Int)+x.cl.length)∨(x.re=3∧Bz X.E.hv s.lr x.cl true=true∧s.l<(x.cl.length:Int)+1)
theorem Hb{r h l b:Int}{seen un:Nat}(hn:r≠0∨b≠0):DC r h l b seen un=false:=by
 unfold DC
 rcases hn with hn | hn
 ·have:(r == 0)=false:=by simpa using hn
  simp[this]
 ·have:(b == 0)=false:=by simpa using hn
  simp[this]
theorem SI.count{X:Cx}{s:Sr}(h:SI X s):s.lr.length≤GC (CU X.sn)∧AT s.lr≤CU X.sn*s.lr.length:=KR h.nod fun c hc=>⟨(h.lr c hc).top,(h.lr c hc).twin,(h.lr c hc).sub⟩
theorem SI.count1{X:Cx}{s:Sr}(h:SI X s){c:Nat}(hc:Yl X c)(hn:c ∉ s.lr):s.lr.length+1≤GC (CU X.sn)∧AT s.lr+AG c≤CU X.sn*(s.lr.length+1):=by
 have:=KR (V:=X.sn) (l:=s.lr++[c]) (List.nodup_append.2 ⟨h.nod,by simp,fun a ha b hb=>by rw[List.mem_singleton.1 hb];exact fun e=>hn (by rw[← e];exact ha)⟩) (fun x hx=>by
  rcases List.mem_append.1 hx with hx | hx
  ·exact⟨(h.lr x hx).top,(h.lr x hx).twin,(h.lr x hx).sub⟩
  ·rw[List.mem_singleton.1 hx];exact⟨hc.top,hc.twin,hc.sub⟩)
 rw[FE,List.length_append,List.length_singleton] at this
 exact this
theorem SS{X:Cx}{s:Sr}(h:SI X s){c:Nat}(hc:Yl X c)(hn:c ∉ s.lr)(hh:s.h<(AG c:Int)){seen:Nat}(hs:Bf seen X.sn 0):DC X.E.r X.h X.l X.E.b seen X.un0=false:=by
 by_cases hr:X.E.r=0
 ·obtain⟨a,b⟩:=h.count1 hc hn
  have hm:CU X.sn*(s.lr.length+1)≤CU X.sn*GC (CU X.sn):=Nat.mul_le_mul_left _ a
  have hheld:=h.held
  unfold DC
  rw[Lr hs]
  have:decide (((CU X.sn*GC (CU X.sn):Nat):Int)≤X.h)=false:=by
   apply decide_eq_false
   omega
  rw[this]
  simp
 ·exact Hb (.inl hr)
theorem OR{X:Cx}{s:Sr}(h:SI X s){m k:Nat}(hl:s.l<(m:Int)+1)(hlen:s.lr.length+k≤GC (CU X.sn))(hm:AT s.lr+m+k≤CU X.sn*(s.lr.length+k)+k+(1 - k)*(2*CU X.sn))(hk:k≤1){seen:Nat}(hs:Bf seen X.sn 0):DC X.E.r X.h X.l X.E.b seen X.un0=false:=by
 by_cases hr:X.E.r=0
 ·obtain⟨log,_,t2,t3⟩:=h.to
  have t3:=t3 hr
  have hq:CU X.sn*(s.lr.length+k)≤CU X.sn*GC (CU X.sn):=Nat.mul_le_mul_left _ hlen
  have e1:(CU X.sn+1)*GC (CU X.sn)=CU X.sn*GC (CU X.sn)+GC (CU X.sn):=by rw[Nat.add_mul,Nat.one_mul]
  have e2:(2*CU X.sn+1)*(X.un0+1)=(2*CU X.sn+1)*X.un0+(2*CU X.sn+1):=by rw[Nat.mul_add,Nat.mul_one]
  unfold DC
  rw[Lr hs]
  have:decide ((((CU X.sn+1)*GC (CU X.sn)+(2*CU X.sn+1)*(X.un0+1):Nat):Int)≤X.l)=false:=by
   apply decide_eq_false
   rw[e1,e2]
   have hk':k=0∨k=1:=by omega
   rcases hk' with rfl|rfl
   ·simp only[Nat.sub_zero,Nat.one_mul,Nat.add_zero] at hm hq hlen
    omega
   ·simp only[Nat.sub_self,Nat.zero_mul,Nat.add_zero] at hm
    omega
  rw[this]
  simp
 ·exact Hb (.inl hr)
theorem Mv{X:Cx}{s:Sr}{c:Nat}(hcl:Bz X.E.hv s.lr (AM c) true=true)(hl:s.l<(AG c:Int)+1)(room:∀ seen,Bf seen X.sn 0→DC X.E.r X.h X.l X.E.b seen X.un0=false):QR X s (U8 3 c):=by
 refine⟨rfl,rfl,rfl,?_,room,.inr (.inr ⟨rfl,hcl,?_⟩)⟩
 ·show(AM c).length≤20
  rw[BH];exact C7 c
 ·show s.l<(((AM c).length:Nat):Int)+1
  rw[BH];exact hl
theorem OV{k j:Nat}(hb:k.testBit j=false):∀ n,Bq (k|||2^j) n=Bq k n+(if j<n then 1 else 0):=by
 intro n
 induction n with
 | zero=>simp[Bq]
 | succ n ih =>
  simp only[Bq,Ic]
  rw[ih,Nat.testBit_or,Nat.testBit_two_pow]
  by_cases e:j=n
  ·subst e
   rw[hb]
   simp
  ·rw[decide_eq_false e,Bool.or_false]
   by_cases h:j<n
   ·rw[if_pos h,if_pos (by omega)];omega
   ·rw[if_neg h,if_neg (by omega)];omega
theorem Uu{k j:Nat}(hj:j<20)(hb:k.testBit j=false):AG (k|||2^j)=AG k+1:=by
 have:=OV hb 20
 rw[if_pos hj] at this
 exact this
theorem W0{D:Nat}{n:Int}(h:D.testBit (CS n)=true):wo D n|||2^CS n=D:=by
 apply Nat.eq_of_testBit_eq
 intro i
 rw[Nat.testBit_or,Fq,Nat.testBit_two_pow]
 by_cases e:CS n=i
 ·subst e;rw[h];simp
 ·have e':i≠CS n:=fun q=>e q.symm
  simp[e,e']
theorem Tj:∀ (xs:List Int) (D:Nat),xs.all AK=true→AH D (Ak xs)→(Au D xs).all AK=true∧Ak (Au D xs)=D∧(Au D xs).length=AG D∧∀ x∈Au D xs,D.testBit (CS x)=true:=by
 intro xs
 induction xs with
 | nil =>
  intro D _ hs
  have e:D=0:=AH.anti hs (fun i q=>by rw[Nat.zero_testBit] at q;simp at q)
  subst e
  exact⟨rfl,rfl,rfl,fun x hx=>by simp[Au] at hx⟩
 | cons n xs ih =>
  intro D hx hs
  simp only[List.all_cons,Bool.and_eq_true] at hx
  have e:Ak (n :: xs)=Ak [n]|||Ak xs:=GF [n] xs
  rw[e,GG] at hs
  simp only[Au]
  cases hb:D.testBit (CS n) with
  | true =>
   rw[if_pos rfl]
   obtain⟨h1,h2,h3,h4⟩:=ih (wo D n) hx.2 (fun i hi=>by
    rw[Fq,Bool.and_eq_true] at hi
    have:=hs i hi.1
    rw[Nat.testBit_or,Bool.or_eq_true,Nat.testBit_two_pow] at this
    rcases this with q | q
    ·have q':CS n=i:=by simpa using q
     have:=hi.2
     simp[q'] at this
    ·exact q)
   have hwb:(wo D n).testBit (CS n)=false:=by rw[Fq];simp
   refine⟨by simp only[List.all_cons,hx.1,h1];rfl,?_,?_,fun x hx'=>?_⟩
   ·have e':Ak (n :: Au (wo D n) xs)=Ak [n]|||Ak (Au (wo D n) xs):=GF [n] _
    rw[e',GG,h2,Nat.or_comm]
    exact W0 hb
   ·simp only[List.length_cons,h3]
    have:=Uu (Vc hx.1) hwb
    rw[W0 hb] at this
    omega
   ·rcases List.mem_cons.1 hx' with rfl | hx'
    ·exact hb
    ·exact QK D n _ (h4 x hx')
  | false =>
   simp only[Bool.false_eq_true,if_false]
   exact ih D hx.2 (fun i hi=>by
    have:=hs i hi
    rw[Nat.testBit_or,Bool.or_eq_true,Nat.testBit_two_pow] at this
    rcases this with q | q
    ·have q':CS n=i:=by simpa using q
     rw[q',hi] at hb;simp at hb
    ·exact q)
theorem PI:∀ (xs:List Int) (D:Nat),∀ x∈Au D xs,D.testBit (CS x)=true:=by
 intro xs
 induction xs with
 | nil=>intro D x hx;simp[Au] at hx
 | cons n xs ih =>
  intro D x hx
  simp only[Au] at hx
  cases hb:D.testBit (CS n) with
  | true =>
   rw[hb,if_pos rfl] at hx
   rcases List.mem_cons.1 hx with rfl | hx
   ·exact hb
   ·exact QK D n _ (ih _ x hx)
  | false =>
   rw[hb] at hx
   simp only[Bool.false_eq_true,if_false] at hx
   exact ih D x hx
theorem Nb:∀ (xs pre:List Int) (D:Nat),Cj (pre++Au D xs) xs pre.length=(pre++Au D xs).length:=by
 intro xs
 induction xs with
 | nil=>intro pre D;simp[Cj,Au]
 | cons n xs ih =>
  intro pre D
  by_cases hb:D.testBit (CS n)=true
  ·have eo:Au D (n :: xs)=n :: Au (wo D n) xs:=by simp only[Au];rw[if_pos hb]
   have e:pre++n :: Au (wo D n) xs=(pre++[n])++Au (wo D n) xs:=by simp
   rw[eo]
   simp only[Cj]
   rw[if_pos ⟨by simp,by rw[List.getD_eq_getElem?_getD,List.getElem?_append_right (Nat.le_refl _),Nat.sub_self];rfl⟩,e]
   have:=ih (pre++[n]) (wo D n)
   rw[List.length_append,List.length_singleton] at this
   exact this
  ·have eo:Au D (n :: xs)=Au D xs:=by simp only[Au];rw[if_neg hb]
   rw[eo]
   simp only[Cj]
   rw[if_neg]
   ·exact ih pre D
   ·rintro⟨h1,h2⟩
    rw[List.getD_eq_getElem?_getD,List.getElem?_append_right (Nat.le_refl _),Nat.sub_self] at h2
    cases ho:Au D xs with
    | nil=>rw[ho] at h1;simp at h1
    | cons y ys =>
     rw[ho] at h2
     have hy:y=n:=by simpa using h2
     have:=PI xs D y (by rw[ho];exact List.mem_cons_self ..)
     rw[hy] at this
     exact hb this
def TE(X:Cx)(s:Sr)(x:Gg):Prop:=(SI X s∧QR X s x)∨∃ s0 D,SI X s0∧s={ s0 with l:=s0.l - ((AG (AS D):Int)+1),ls:=s0.ls++[(101,AM (AS D))] }∧(AG (AS D):Int)+1≤s0.l∧AG (AS D)≤2*CU X.sn∧Bz X.E.hv s0.lr (AM (AS D)) true=true∧x.st=2∧x.co.length≤20∧Jv X.E.hv x X.E.xs (AM (AS D))
theorem Jh(hv:List Nat):Ca hv 0=true:=by unfold Ca;rw[Nat.zero_and];rfl
theorem UW:AS 0=0:=by decide
theorem Sq:Ag 0=0:=by decide
theorem W8{X:Cx}(hX:Gi X){s:Sr}(h:SI X s)(hcl:AU (X.E.hv++s.lr) X.E.as=true):∃ s' x,LP X.E s=.fin s' x∧TE X s' x:=by
 have h0:=h.csok hX (w:=0) (.inl rfl)
 have hDs:=Fy (X.E.hv++s.lr) X.E.xs X.E.as
 have hDc:=GS (X.E.hv++s.lr) X.E.xs X.E.as hcl
 have hD20:=C8 hDs (NI X)
 have hvs:AH (vN (Al (X.E.hv++s.lr) X.E.xs X.E.as)) X.sn:=by
  refine AH.trans (fun u hu=>?_) hX.asm
  obtain⟨_,_,i,e,hi⟩:=H8 hD20 hu
  rw[← e]
  exact Fg (NI X) (hDs i hi)
 have hj:Ca X.E.hv (Ag (AS (Al (X.E.hv++s.lr) X.E.xs X.E.as)))=true:=by
  by_cases hz:Al (X.E.hv++s.lr) X.E.xs X.E.as=0
  ·rw[hz,UW,Sq];exact Jh _
  ·have:∃ j,(Al (X.E.hv++s.lr) X.E.xs X.E.as).testBit j=true:=by
    apply Classical.byContradiction
    intro hn
    apply hz
    apply Nat.eq_of_testBit_eq
    intro i
    rw[Nat.zero_testBit]
    cases hb:(Al (X.E.hv++s.lr) X.E.xs X.E.as).testBit i with
    | false=>rfl
    | true=>exact absurd ⟨i,hb⟩ hn
   obtain⟨j,hj⟩:=this
   obtain⟨w,hw,hwu⟩:=hX.cmp.cov _ (hvs _ (Fg hD20 hj))
   have hlw:(AI w).testBit j=true:=by rw[Av,decide_eq_true (A8 hD20 hj),hwu];rfl
   have hin:=Vh (h.csok hX (.inr hw)) hX.xs rfl hcl hj hlw
   refine Je hX.hvt (hX.cmp.con w hw) (Cl _) ?_
   rw[Mx hD20]
   exact(EW hD20).1 hin
 have hcd:Bz X.E.hv s.lr (AM (AS (Al (X.E.hv++s.lr) X.E.xs X.E.as))) true=true:=by
  rw[Ef (Cl _),hj,Mg hD20,hDc]
  rfl
 have hsz:AG (AS (Al (X.E.hv++s.lr) X.E.xs X.E.as))≤2*CU X.sn:=Uv (Cl _) (by rw[Mx hD20];exact hvs)
 have hno:Ky X.E.hv (Al (X.E.hv++s.lr) X.E.xs X.E.as)=false:=by
  unfold Ky
  rw[List.any_eq_false]
  intro u _ hal
  unfold EH at hal
  rw[Bool.and_eq_true,List.all_eq_true] at hal
  have h1:∀ c∈X.E.hv,c&&&Be u≠0:=fun c hc=>by simpa using hal.1 c hc
  have h2:Al (X.E.hv++s.lr) X.E.xs X.E.as&&&Be u=Al (X.E.hv++s.lr) X.E.xs X.E.as:=by simpa using hal.2
  have:=Jd (cs:=X.E.hv++s.lr) (u:=u) h0.top (fun c hc=>(List.mem_append.1 hc).elim (h1 c) (h.sem u h1 c)) (k:=Al (X.E.hv++s.lr) X.E.xs X.E.as) (fun i hi=>by rw[← h2] at hi;exact Dy _ _ i hi)
  rw[this] at hDc
  simp at hDc
 have hAs:X.E.as=Ak X.E.xs:=Fo hX.xs
 obtain⟨i1,i2,i3,_⟩:=Tj X.E.xs (Al (X.E.hv++s.lr) X.E.xs X.E.as) hX.xs (by rw[← hAs];exact hDs)
 unfold LP JI
 by_cases hl:s.l<(AG (AS (Al (X.E.hv++s.lr) X.E.xs X.E.as)):Int)+1
 ·rw[if_pos hl]
  refine⟨s,_,rfl,.inl ⟨h,Mv hcd hl fun seen hs=>?_⟩⟩
  obtain⟨c1,c2⟩:=h.count
  exact OR h (m:=AG (AS (Al (X.E.hv++s.lr) X.E.xs X.E.as))) (k:=0) hl (by omega) (by simp only[Nat.add_zero,Nat.sub_zero,Nat.one_mul];omega) (by omega) hs
 ·rw[if_neg hl]
  refine⟨_,_,rfl,.inr ⟨s,Al (X.E.hv++s.lr) X.E.xs X.E.as,h,rfl,by omega,hsz,hcd,rfl,?_,?_⟩⟩
  ·show(Au _ X.E.xs).length≤20
   rw[i3];exact C7 _
  ·refine⟨rfl,rfl,rfl,?_,?_,?_,?_⟩
   ·show Ex (Au _ X.E.xs) X.E.xs=true
    have:=Nb X.E.xs [] (Al (X.E.hv++s.lr) X.E.xs X.E.as)
    unfold Ex
    simpa using this
   ·show AG (AO (Au _ X.E.xs))=(Au _ X.E.xs).length
    rw[Fo i1,i2,i3]
   ·show AO (AM (AS _))=AS (AO (Au _ X.E.xs))
    rw[En (Cl _),Fo i1,i2]
   ·show Ky X.E.hv (AO (Au _ X.E.xs))=false
    rw[Fo i1,i2];exact hno
theorem Oz{cs:List Nat}(hc:∀ c∈cs,c<2^20){c:Nat}(h:c∈cs):AU cs (AS c)=true:=by
 cases hb:AU cs (AS c) with
 | true=>rfl
 | false =>
  obtain⟨K,_,h2,_,h4⟩:=CW cs hc (AS c) (Cl c) hb
  exfalso
  apply (h4 c h).1
  apply Nat.eq_of_testBit_eq
  intro i
  rw[Nat.zero_testBit,DO]
  cases hi:c.testBit i with
  | false=>rfl
  | true =>
   have hi20:=A8 (hc c h) hi
   have:=h2 (Dk i) (by rw[Bh _ (Fm hi20),Cm];exact hi)
   rw[Bh _ hi20,this];rfl
theorem Nr{a b:Nat}(h:a&&&b=0){i:Nat}(hi:(AI a).testBit i=true):(AI b).testBit i=false:=by
 rw[Av,Bool.and_eq_true] at hi
 rw[Av,CC.2 h _ hi.2,Bool.and_false]
theorem Tl{cs:List Nat}{c w t:Nat}(hc:AH c (AI w))(h0:c≠0)(hd:t&&&w=0):Lg (cs++[c]) (AI t)=Lg cs (AI t):=by
 unfold Lg
 rw[List.filter_append]
 have:(c&&&AI t == c)=false:=by
  have e:c&&&AI t=0:=by
   rw[← CC]
   intro i hi
   exact Nr (DA hd) (hc i hi)
  rw[e]
  simpa using fun q=>h0 q.symm
 simp[this]
theorem Sh{cs cs':List Nat}{A w k:Nat}(h:Mz cs A w k)(hok:Dl cs' A w)(he:Lg cs' (AI w)=Lg cs (AI w)):Mz cs' A w k∧Bn cs' A w (k+1)=Bn cs A w (k+1):=by
 have hl:∀ d,A5 cs' (AI w) d=A5 cs (AI w) d:=fun d=>by unfold A5;rw[he]
 obtain⟨d,kn,h1,h2⟩:=h.is
 exact⟨⟨hok,d,kn,by rw[E7 (k:=k) (fun j d _ _=>hl d) k (Nat.le_refl _)];exact h1,by rw[hl];exact h2⟩,Lo (k:=k+1) (fun j d _ _=>hl d) (k+1) (Nat.le_refl _)⟩
theorem P6{cs cs':List Nat}{A:Nat}:∀ (T:List (Nat × Nat)),(∀ t∈T,Mz cs A t.1 t.2)→(∀ t∈T,Dl cs' A t.1∧Lg cs' (AI t.1)=Lg cs (AI t.1))→(∀ t∈T,Mz cs' A t.1 t.2)∧CI cs' A T=CI cs A T:=by
 intro T
 induction T with
 | nil=>intro _ _;exact⟨fun t ht=>by simp at ht,rfl⟩
 | cons t T ih =>
  intro h hr
  obtain⟨a1,a2⟩:=ih (fun x hx=>h x (List.mem_cons_of_mem _ hx)) (fun x hx=>hr x (List.mem_cons_of_mem _ hx))
  obtain⟨r1,r2⟩:=hr t (List.mem_cons_self ..)
  obtain⟨b1,b2⟩:=Sh (h t (List.mem_cons_self ..)) r1 r2
  refine⟨fun x hx=>?_,?_⟩
  ·rcases List.mem_cons.1 hx with rfl | hx
   ·exact b1
   ·exact a1 x hx
  ·simp only[CI,List.flatMap_cons] at a2 ⊢
   rw[b2,a2]
structure TH(X:Cx)(T:List (Nat × Nat))(w:Nat):Prop where
 me:w=0∨w∈X.ws
 all:∀ t∈T,t.1=0∨t.1∈X.ws
 dis:((T.map fun t=>t.1)++[w]).Pairwise fun a b=>a&&&b=0
theorem TH.off{X:Cx}{T:List (Nat × Nat)}{w:Nat}(h:TH X T w){t:Nat × Nat}(ht:t∈T):t.1&&&w=0:=(List.pairwise_append.1 h.dis).2.2 t.1 (List.mem_map.2 ⟨t,ht,rfl⟩) w (List.mem_singleton.2 rfl)
structure Hd(X:Cx)(T:List (Nat × Nat))(w i dec:Nat)(s:Sr):Prop where
 si:SI X s
 trk:∀ t∈T,Mz (X.E.hv++s.lr) X.E.as t.1 t.2
 done:s.done=CI (X.E.hv++s.lr) X.E.as T
 dec:BM (X.E.hv++s.lr) X.E.as w i=some dec
 path:s.path=Bn (X.E.hv++s.lr) X.E.as w i
 no:0<i→AU (X.E.hv++s.lr) X.E.as=false
theorem UI{X:Cx}(hX:Gi X){T:List (Nat × Nat)}{w k dec:Nat}{s:Sr}(hW:TH X T w)(h:Hd X T w (k+1) dec s)(hcl:AU (X.E.hv++s.lr) dec=true) :
  (∃ x,S8 X.E s dec=.fin s x∧QR X s x)∨∃ s',S8 X.E s dec=.go s'∧Hd X T w (k+1) dec s'∧AU (X.E.hv++s'.lr) dec=true∧(X.E.r=0∨(s'.lr.length:Int)<X.E.r)∧s'.sp=s.sp∧s'.vals=s.vals∧FJ (X.E.hv++s'.lr) X.E.as w 12=FJ (X.E.hv++s.lr) X.E.as w 12:=by
 have hok:=h.si.csok hX hW.me
 have hno:=h.no (by omega)
 unfold S8
 by_cases hr:X.E.r=0∨(s.lr.length:Int)<X.E.r
 ·rw[if_pos hr]
  exact .inr ⟨s,rfl,h,hcl,hr,rfl,rfl,rfl⟩
 ·rw[if_neg hr]
  have hr0:X.E.r≠0:=fun e=>hr (.inl e)
  have hge:X.E.r≤(s.lr.length:Int):=by omega
  have h12:12≤X.E.r:=hX.set.resolve_left hr0
  obtain⟨c0,hc0,hi0⟩:=Qe h.si.nod (by omega) hok h.trk h.done h.dec h.path hcl hno hW.dis
  have hlong:CH X.E s dec s.lr 0∈s.lr∧FY X.E s (CH X.E s dec s.lr 0) dec=true:=by
   rcases Lk X.E s dec s.lr 0 with⟨_,b⟩ | b
   ·exfalso
    rcases b c0 hc0 with q | q
    ·have l:=h.si.lr c0 hc0
     have:AG 0<AG c0:=Cn (fun i q=>by rw[Nat.zero_testBit] at q;simp at q) l.top (fun e=>l.ne e.symm)
     omega
    ·rw[hi0] at q;simp at q
   ·exact b
  obtain⟨hmem,hidle⟩:=hlong
  generalize CH X.E s dec s.lr 0=c at *
  have hlc:=h.si.lr c hmem
  have hcd:Bz X.E.hv s.lr (AM c) true=true:=by
   rw[Ef hlc.top,hlc.join,Oz hok.top (List.mem_append_right _ hmem)]
   rfl
  unfold JI
  by_cases hl:s.l<(AG c:Int)+1
  ·rw[if_pos hl]
   exact .inl ⟨_,rfl,Mv hcd hl fun _ _=>Hb (.inl hr0)⟩
  ·rw[if_neg hl]
   right
   have hsub:∀ x∈X.E.hv++s.lr.erase c,x∈X.E.hv++s.lr:=fun x hx=>by
    rcases List.mem_append.1 hx with q | q
    ·exact List.mem_append_left _ q
    ·exact List.mem_append_right _ (List.mem_of_mem_erase q)
   unfold FY at hidle
   rw[Bool.and_eq_true,Bool.and_eq_true] at hidle
   obtain⟨⟨i1,i2⟩,i3⟩:=hidle
   rw[h.path] at i2
   rw[h.done] at i3
   obtain⟨p1,p2,p3,_⟩:=TY hok hsub h.dec hno i1 i2
   obtain⟨t1,t2⟩:=Si hsub T h.trk i3
   refine⟨_,rfl,⟨?_,t1,?_,p1,?_,fun _=>Ez hok.top hok.asm hsub (AH.refl _) hno⟩,i1,?_,rfl,rfl,p2⟩
   ·have:=h.si.drop hmem hr0 (by omega)
    exact this
   ·show s.done=_
    rw[h.done];exact t2.symm
   ·show s.path=_
    rw[h.path];exact p3.symm
   ·have hp:0<s.lr.length:=List.length_pos_of_mem hmem
    have hle:=h.si.len
    right
    show(((s.lr.erase c).length:Nat):Int)<X.E.r
    rw[List.length_erase_of_mem hmem]
    omega
theorem Uj{X:Cx}(hX:Gi X){T:List (Nat × Nat)}{w k dec:Nat}{s:Sr}(hW:TH X T w)(h:Hd X T w (k+1) dec s)(hcl:AU (X.E.hv++s.lr) dec=true) :
  (∃ s' x,WH X.E s dec=.fin s' x∧SI X s'∧QR X s' x)∨∃ s',WH X.E s dec=.go s'∧Hd X T w 0 X.E.as { s' with path:=[] }∧s'.vals=s.vals∧FJ (X.E.hv++s.lr) X.E.as w 12<FJ (X.E.hv++s'.lr) X.E.as w 12:=by
 unfold WH
 by_cases hb:0<X.E.b∧X.E.b≤(s.sp:Int)
 ·rw[if_pos hb]
  left
  refine⟨s,_,rfl,h.si,rfl,rfl,rfl,by decide,fun _ _=>Hb (.inr (by omega)),.inl ⟨rfl,hb.1,?_,by decide⟩⟩
  rcases h.si.bud with q | q
  ·omega
  ·omega
 ·rw[if_neg hb]
  rcases UI hX hW h hcl with⟨x,e,hu⟩ | ⟨s1,e,h1,hcl1,hr1,hsp,hvals,hpot⟩
  ·rw[e]
   exact .inl ⟨s,x,rfl,h.si,hu⟩
  ·rw[e]
   simp only
   have hok:=h1.si.csok hX hW.me
   have hno:=h1.no (by omega)
   obtain⟨dk,kn,a1,a2,a3,ed⟩:=BV h1.dec
   obtain⟨d20,_,dA⟩:=Bg hok h1.dec
   obtain⟨dk20,_,_⟩:=Bg hok a1
   have hDs:=Fy (X.E.hv++s1.lr) X.E.xs dec
   have hDc:=GS (X.E.hv++s1.lr) X.E.xs dec hcl1
   have hDW:=Vu hok hX.xs rfl d20 dA hcl1 hno
   have hD20:=C8 hDs d20
   obtain⟨j,ej,hj,hjw,hjb,hjp,hjD⟩:=Nx (cs':=X.E.hv++s1.lr) hok hX.xs rfl h1.dec (Nat.le_refl k) a1 a2 a3
   rw[ej] at ed
   have hdd:∀ i d' kn',i<k→BM (X.E.hv++s1.lr) X.E.as w i=some d'→A5 (X.E.hv++s1.lr) (AI w) d'=some kn'→∃ j',j'<20∧kn'.testBit j'=false∧(Al (X.E.hv++s1.lr) X.E.xs dec).testBit j'=true∧∃ d1 kn1,BM (X.E.hv++s1.lr) X.E.as w (i+1)=some d1∧A5 (X.E.hv++s1.lr) (AI w) d1=some kn1∧kn1.testBit j'=true:=by
    intro i d' kn' hi hd' hk'
    obtain⟨d1,hd1⟩:=GM h1.dec (by omega:i+1+1≤k+1)
    obtain⟨d2,kn1,b1,b2,_,_⟩:=BV hd1
    obtain⟨d3,kn3,c1,c2,c3,c4⟩:=BV b1
    rw[hd'] at c1
    simp only[Option.some.injEq] at c1
    subst c1
    rw[hk'] at c2
    simp only[Option.some.injEq] at c2
    subst c2
    obtain⟨j',e',hj',hw',hb',_,hD'⟩:=Nx (cs':=X.E.hv++s1.lr) hok hX.xs rfl h1.dec (by omega:i≤k) hd' hk' c3
    rw[e'] at c4
    obtain⟨q20,_,_⟩:=Bg hok b1
    refine⟨j',hj',hb',hD',d2,kn1,b1,b2,(De hok q20 b2).1.sub j' ?_⟩
    rw[Nat.testBit_and,c4,GW,hw'];rfl
   generalize Al (X.E.hv++s1.lr) X.E.xs dec=D at *
   have hnew:=Rp hok dk20 a2 hj hjb hjp (by rw[← ed];exact hDs) hDW hjD
   obtain⟨ok',hpot'⟩:=PO hok a1 a2 hj hjb hjp (by rw[← ed];exact hDs) hDW hjD hdd
   have hDt:A4 D=false:=by
    have hk0:AH D (kn|||2^j):=by
     intro x hx
     have hxw:=hDW x hx
     have:=hDs x hx
     rw[ed,Nat.testBit_or,Bool.or_eq_true] at this
     rw[Nat.testBit_or,Bool.or_eq_true]
     rcases this with z | z
     ·exact .inl ((De hok dk20 a2).1.sub x (by rw[Nat.testBit_and,z,hxw];rfl))
     ·exact .inr z
    exact hk0.twin (LA (De hok dk20 a2).1.twin hjp)
   have hot:A4 (AS D)=false:=by
    rw[DS] at hDt ⊢
    intro i hi hib
    rw[Bh _ hi] at hib
    rw[Bh _ (Fm hi),Cm]
    have:=hDt (Dk i) (Fm hi) hib
    rw[Cm] at this
    exact this
   have hne:AS D≠0:=fun e=>by
    have:(AS D).testBit (Dk j)=true:=by rw[Bh _ (Fm hj),Cm];exact hjD
    rw[e] at this;simp at this
   have hvD:AH (vN D) w:=(EW hD20).1 hDW
   have hw0:w∈X.ws:=by
    rcases hW.me with e | e
    ·exfalso
     rw[e,Av] at hjw
     simp at hjw
    ·exact e
   have hlrn:Yl X (AS D):=⟨Cl D,hne,hot,by rw[Mx hD20];exact hvD.trans (hX.cmp.sub w hw0),Je hX.hvt (hX.cmp.con w hw0) (Cl D) (by rw[Mx hD20];exact hvD)⟩
   have hcf:∀ tail,Bz X.E.hv s1.lr (AM (AS D)) tail=true:=fun tail=>by
    rw[Ef (Cl D),hlrn.join,Mg hD20,hDc,hot]
    simp[hnew]
   have hnl:AS D ∉ s1.lr:=fun q=>hnew (List.mem_append_right _ q)
   unfold VO
   by_cases hh:s1.h<(AG (AS D):Int)
   ·rw[if_pos hh]
    left
    refine⟨s1,_,rfl,h1.si,rfl,rfl,rfl,?_,fun seen hs=>SS h1.si hlrn hnl hh hs,.inr (.inl ⟨rfl,hcf false,?_⟩)⟩
    ·show(AM (AS D)).length≤20
     rw[BH];exact C7 _
    ·show X.h<(AT s1.lr:Int)+(((AM (AS D)).length:Nat):Int)
     have:=h1.si.held
     rw[BH];omega
   ·rw[if_neg hh]
    unfold JI
    by_cases hl:s1.l<(AG (AS D):Int)+1
    ·rw[if_pos hl]
     left
     refine⟨s1,_,rfl,h1.si,Mv (hcf true) hl fun seen hs=>?_⟩
     obtain⟨c1,c2⟩:=h1.si.count1 hlrn hnl
     exact OR h1.si (m:=AG (AS D)) (k:=1) hl c1 (by simp only[Nat.sub_self,Nat.zero_mul];omega) (by omega) hs
    ·rw[if_neg hl]
     right
     have hsi:=h1.si.learn hX hD20 hne hot hlrn.sub hlrn.join hDc hnew (by omega) (by omega) hr1 (by
      rw[hsp]
      have:=hX.bud
      omega)
     have htr:=P6 (cs':=(X.E.hv++s1.lr)++[AS D]) T h1.trk (fun t ht=>⟨by
      have:=(hsi.path [] s1.done s1.vals).csok hX (hW.all t ht)
      rw[List.append_assoc]
      exact this,Tl (Gx (Ba w) hDW) hne (hW.off ht)⟩)
     rw[List.append_assoc] at htr hpot'
     refine⟨_,rfl,⟨hsi.path [] s1.done s1.vals,htr.1,?_,rfl,rfl,fun q=>by omega⟩,hvals,?_⟩
     ·show s1.done=_
      rw[h1.done]
      exact htr.2.symm
     ·rw[← hpot]
      exact hpot'
end Go.Proofs.YthboeppmlhbofaaDoor
