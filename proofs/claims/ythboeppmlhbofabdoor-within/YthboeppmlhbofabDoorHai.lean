import Derived.Test.YthboeppmlhbofabDoorHag
namespace Go.Proofs.YthboeppmlhbofabDoor
open Go.RowKit Txt
set_option maxRecDepth 100000
structure Cx where
 E:Sg
 h:Int
 l:Int
 lr0:List Nat
 log0:Nat
 un0:Nat
 sn:Nat
 ws:List Nat
def Cx.j0(X:Cx):JV:=⟨X.lr0,litsN X.lr0,X.log0,0⟩
structure CxOk(X:Cx):Prop where
 hvt:∀ c∈X.E.hv,c<2^20
 hvs:∀ c∈X.E.hv,SubN (vN c) X.sn
 xs:X.E.xs.all litB=true
 asm:SubN (vN X.E.as) X.sn
 sn:X.sn<2^11
 set:X.E.r=0∨12≤X.E.r
 bud:0≤X.E.b
 cmp:Cmp X.E.hv X.sn X.ws
structure Lrn(X:Cx)(c:Nat):Prop where
 top:c<2^20
 ne:c≠0
 twin:twinB c=false
 sub:SubN (vN c) X.sn
 join:joinedD X.E.hv (varsN c)=true
structure SI(X:Cx)(s:Sr):Prop where
 ok:linesOk X.E.r X.h X.l X.E.hv X.j0 s.ls
 opn:∀ p∈s.ls,p.1≠101
 to:∃ log:Nat,linesTo X.j0 s.ls=⟨s.lr,litsN s.lr,log,s.sp⟩∧(log:Int)=X.l - s.l∧(X.E.r=0→log≤litsN s.lr+s.lr.length+(2*cvN X.sn+1)*X.un0)
 held:s.h=X.h - litsN s.lr
 lr:∀ c∈s.lr,Lrn X c
 nod:s.lr.Nodup
 sem:∀ u,(∀ c∈X.E.hv,c&&&trueN u≠0)→∀ c∈s.lr,c&&&trueN u≠0
 len:X.E.r=0∨(s.lr.length:Int)≤X.E.r
 bud:X.E.b=0∨(s.sp:Int)≤X.E.b
 rh:0≤s.h
 rl:0≤s.l
theorem SI.log{X:Cx}{s:Sr}(h:SI X s):∃ log:Nat,linesTo X.j0 s.ls=⟨s.lr,litsN s.lr,log,s.sp⟩∧(log:Int)=X.l - s.l:=by
 obtain⟨log,a,b,_⟩:=h.to
 exact⟨log,a,b⟩
theorem as_lt(X:Cx):X.E.as<2^20:=setOk_lt X.E.xs
theorem SI.csok{X:Cx}(hX:CxOk X){s:Sr}(h:SI X s){w:Nat}(hw:w=0∨w∈X.ws):CsOk (X.E.hv++s.lr) X.E.as w:=by
 have top:∀ c∈X.E.hv++s.lr,c<2^20:=fun c hc=>(List.mem_append.1 hc).elim (hX.hvt c) (fun hc=>(h.lr c hc).top)
 refine⟨top,fun c hc=>?_,as_lt X⟩
 have hin:vN c=0∨∃ w∈X.ws,SubN (vN c) w:=by
  rcases List.mem_append.1 hc with q | q
  ·exact hX.cmp.own c q
  ·have:=h.lr c q
   exact joined_in hX.hvt hX.cmp this.top this.sub this.join
 rcases hw with rfl | hw
 ·right
  rw[off_lits (top c hc)]
  intro i _
  simp
 ·rcases hin with e | ⟨w',hw',e⟩
  ·left
   rw[sub_lits (top c hc),e]
   intro i q
   rw[Nat.zero_testBit] at q
   simp at q
  ·by_cases ew:w'=w
   ·subst ew
    left
    rw[sub_lits (top c hc)]
    exact e
   ·right
    rw[off_lits (top c hc)]
    exact off_iff.2 (and_mono0 e (pair_dis hX.cmp.dis hw' hw ew))
theorem linesOk_snoc{r h l:Int}{hv:List Nat}:∀ (ls:List Lin) (j:JV) (p:Lin),linesOk r h l hv j ls→(∀ q∈ls,q.1≠101)→p.2.all litB=true→lineOk r h l hv (linesTo j ls) p→linesOk r h l hv j (ls++[p]):=by
 intro ls
 induction ls with
 | nil=>intro j p _ _ hl ho;exact⟨hl,ho,fun _=>rfl,trivial⟩
 | cons q ls ih =>
  intro j p h hn hl ho
  obtain⟨a1,a2,_,a4⟩:=h
  exact⟨a1,a2,fun e=>absurd e (hn q (List.mem_cons_self ..)),ih (lineTo j q) p a4 (fun x hx=>hn x (List.mem_cons_of_mem _ hx)) hl ho⟩
theorem litsN_erase:∀ (lr:List Nat) (c:Nat),c∈lr→litsN (lr.erase c)+sizeN c=litsN lr:=by
 intro lr
 induction lr with
 | nil=>intro c hc;simp at hc
 | cons x lr ih =>
  intro c hc
  by_cases e:x=c
  ·subst e
   rw[List.erase_cons_head]
   simp only[litsN,List.map_cons,List.sum_cons]
   omega
  ·rw[List.erase_cons_tail (by simpa using e)]
   have:=ih c ((List.mem_cons.1 hc).resolve_left fun q=>e q.symm)
   simp only[litsN,List.map_cons,List.sum_cons] at this ⊢
   omega
theorem clauseD_list{hv lr:List Nat}{c:Nat}(hc:c<2^20)(tail:Bool):clauseD hv lr (listN c) tail=(joinedD hv (varsN c) && clashD (hv++lr) (oppN c) && (tail || (!twinB c && !decide (c∈hv++lr)))):=by
 unfold clauseD
 rw[listN_lits,listN_set hc,listN_len]
 simp
theorem clash_so{cs:List Nat}{D u:Nat}(hc:∀ c∈cs,c<2^20)(hD:D<2^20)(hcl:clashD cs D=true)(ha:∀ c∈cs,c&&&trueN u≠0):oppN D&&&trueN u≠0:=by
 intro e
 have hs:SubN D (trueN u):=by
  intro i hi
  have hi20:=bit_lt hD hi
  have:=off_iff.2 e (par i) (by rw[opp_par _ (par_lt hi20),par_par];exact hi)
  have ho:=true_opp u i hi20
  rw[opp_par _ hi20,this] at ho
  simpa using ho.symm
 rw[clash_sound hc ha hs] at hcl
 simp at hcl
theorem SI.learn{X:Cx}(hX:CxOk X){s:Sr}(h:SI X s){D:Nat}(hD:D<2^20)(hne:oppN D≠0)(ht:twinB (oppN D)=false)(hsub:SubN (vN (oppN D)) X.sn)(hj:joinedD X.E.hv (varsN (oppN D))=true)(hcl:clashD (X.E.hv++s.lr) D=true)(hnew:oppN D ∉ X.E.hv++s.lr)
  (hh:(sizeN (oppN D):Int)≤s.h) (hl:(sizeN (oppN D):Int)+1≤s.l) (hr:X.E.r=0∨(s.lr.length:Int)<X.E.r) (hb:X.E.b=0∨(s.sp:Int)<X.E.b) :
  SI X { s with l:=s.l - ((sizeN (oppN D):Int)+1),ls:=s.ls++[(97,listN (oppN D))],h:=s.h - (sizeN (oppN D):Int),sp:=s.sp+1,lr:=s.lr++[oppN D] }:=by
 obtain⟨log,t1,t2,t3⟩:=h.to
 have hc20:=oppN_lt D
 have top:∀ c∈X.E.hv++s.lr,c<2^20:=fun c hc=>(List.mem_append.1 hc).elim (hX.hvt c) (fun hc=>(h.lr c hc).top)
 have hcd:clauseD X.E.hv s.lr (listN (oppN D)) false=true:=by
  rw[clauseD_list hc20,hj,opp_opp hD,hcl,ht]
  simp[hnew]
 have hheld:=h.held
 refine⟨linesOk_snoc _ _ _ h.ok h.opn (listN_lits _) ?_,?_,⟨log+sizeN (oppN D)+1,?_,?_,fun hr0=>?_⟩,?_,?_,?_,?_,?_,?_,?_,?_⟩
 ·rw[t1]
  refine⟨?_,.inl ⟨rfl,hcd,?_,?_⟩⟩
  ·show(log:Int)+(listN (oppN D)).length+1≤X.l
   rw[listN_len];omega
  ·show((litsN s.lr:Nat):Int)+(listN (oppN D)).length≤X.h
   rw[listN_len];omega
  ·show X.E.r=0∨(s.lr.length:Int)+1≤X.E.r
   omega
 ·intro p hp
  rcases List.mem_append.1 hp with hp | hp
  ·exact h.opn p hp
  ·rw[List.mem_singleton.1 hp];simp only;decide
 ·rw[linesTo_snoc,t1]
  simp only[lineTo,listN_set hc20,listN_len,litsN_snoc]
  simp
 ·show((log+sizeN (oppN D)+1:Nat):Int)=X.l - (s.l - ((sizeN (oppN D):Int)+1))
  omega
 ·have:=t3 hr0
  show log+sizeN (oppN D)+1≤litsN (s.lr++[oppN D])+(s.lr++[oppN D]).length+(2*cvN X.sn+1)*X.un0
  rw[litsN_snoc,List.length_append,List.length_singleton]
  omega
 ·show s.h - (sizeN (oppN D):Int)=X.h - ((litsN (s.lr++[oppN D]):Nat):Int)
  rw[litsN_snoc]
  omega
 ·intro c hc
  rcases List.mem_append.1 hc with hc | hc
  ·exact h.lr c hc
  ·rw[List.mem_singleton.1 hc];exact⟨hc20,hne,ht,hsub,hj⟩
 ·exact List.nodup_append.2 ⟨h.nod,by simp,fun a ha b hb=>by rw[List.mem_singleton.1 hb];exact fun e=>hnew (List.mem_append_right _ (by rw[← e];exact ha))⟩
 ·intro u hu c hc
  rcases List.mem_append.1 hc with hc | hc
  ·exact h.sem u hu c hc
  ·rw[List.mem_singleton.1 hc]
   exact clash_so top hD hcl (fun x hx=>(List.mem_append.1 hx).elim (hu x) (h.sem u hu x))
 ·show X.E.r=0∨(((s.lr++[oppN D]).length:Nat):Int)≤X.E.r
  rw[List.length_append,List.length_singleton]
  omega
 ·show X.E.b=0∨((s.sp+1:Nat):Int)≤X.E.b
  omega
 ·show 0≤s.h - (sizeN (oppN D):Int)
  omega
 ·show 0≤s.l - ((sizeN (oppN D):Int)+1)
  omega
theorem SI.drop{X:Cx}{s:Sr}(h:SI X s){c:Nat}(hc:c∈s.lr)(hr:X.E.r≠0)(hl:(sizeN c:Int)+1≤s.l) :
  SI X { s with l:=s.l - ((sizeN c:Int)+1),ls:=s.ls++[(100,listN c)],h:=s.h+(sizeN c:Int),lr:=s.lr.erase c }:=by
 obtain⟨log,t1,t2,t3⟩:=h.to
 have hcl:=h.lr c hc
 have hle:=litsN_erase s.lr c hc
 have hheld:=h.held
 have hrh:=h.rh
 refine⟨linesOk_snoc _ _ _ h.ok h.opn (listN_lits _) ?_,?_,⟨log+sizeN c+1,?_,?_,fun hr0=>absurd hr0 hr⟩,?_,?_,?_,?_,?_,h.bud,?_,?_⟩
 ·rw[t1]
  refine⟨?_,.inr (.inr ⟨rfl,?_,hr,?_,?_⟩)⟩
  ·show(log:Int)+(listN c).length+1≤X.l
   rw[listN_len];omega
  ·show setOk (listN c)∈s.lr
   rw[listN_set hcl.top];exact hc
  ·show sizeN (setOk (listN c))=(listN c).length
   rw[listN_set hcl.top,listN_len]
  ·show(listN c).length≤litsN s.lr
   rw[listN_len];omega
 ·intro p hp
  rcases List.mem_append.1 hp with hp | hp
  ·exact h.opn p hp
  ·rw[List.mem_singleton.1 hp];simp only;decide
 ·rw[linesTo_snoc,t1]
  simp only[lineTo,listN_set hcl.top,listN_len]
  simp
  omega
 ·show((log+sizeN c+1:Nat):Int)=X.l - (s.l - ((sizeN c:Int)+1))
  omega
 ·show s.h+(sizeN c:Int)=X.h - ((litsN (s.lr.erase c):Nat):Int)
  omega
 ·exact fun x hx=>h.lr x (List.mem_of_mem_erase hx)
 ·exact h.nod.erase c
 ·exact fun u hu x hx=>h.sem u hu x (List.mem_of_mem_erase hx)
 ·have:=h.len
  have hl:(s.lr.erase c).length≤s.lr.length:=List.length_erase_le
  show X.E.r=0∨(((s.lr.erase c).length:Nat):Int)≤X.E.r
  omega
 ·show 0≤s.h+(sizeN c:Int)
  omega
 ·show 0≤s.l - ((sizeN c:Int)+1)
  omega
theorem SI.path{X:Cx}{s:Sr}(h:SI X s)(p d:List Stp)(v:Nat):SI X { s with path:=p,done:=d,vals:=v }:=⟨h.ok,h.opn,h.to,h.held,h.lr,h.nod,h.sem,h.len,h.bud,h.rh,h.rl⟩
def allTo(V:Nat):Nat→List Nat
 | 0=>[0]
 | v+1=>if V.testBit (v+1) then allTo V v++((allTo V v).map (·|||2^(2*v))++(allTo V v).map (·|||2^(2*v+1))) else allTo V v
theorem allTo_len(V:Nat):∀ k,(allTo V k).length=pow3 (cvTo V k):=by
 intro k
 induction k with
 | zero=>rfl
 | succ k ih =>
  simp only[allTo,cvTo]
  cases hb:V.testBit (k+1) with
  | false=>simp[ih]
  | true=>simp only[if_true,List.length_append,List.length_map,ih,Bool.toNat_true,pow3];omega
theorem allTo_mem(V:Nat):∀ k c,c<2^(2*k)→SubN c (litsV V)→twinB c=false→k≤10→c∈allTo V k:=by
 intro k
 induction k with
 | zero=>intro c hc _ _ _;simp at hc;simp[allTo,hc]
 | succ k ih =>
  intro c hc hs ht hk
  have hbits:∀ i,2*(k+1)≤i→c.testBit i=false:=fun i hi=>Nat.testBit_lt_two_pow (Nat.lt_of_lt_of_le hc (Nat.pow_le_pow_right (by decide) hi))
  have htw:=(twin_iff c).1 ht
  have e1:par (2*k)=2*k+1:=by unfold par;rw[if_pos (by omega)]
  have less:∀ c',SubN c' c→(∀ i,2*k≤i→c'.testBit i=false)→c'∈allTo V k:=fun c' h1 h2=>ih c' (lt_pow_bits h2) (h1.trans hs) (h1.twin ht) (by omega)
  simp only[allTo]
  have hv:∀ i,i / 2=k→c.testBit i=true→V.testBit (k+1)=true:=fun i hi hb=>by
   have:=hs i hb
   rw[lits_bit,Bool.and_eq_true,hi] at this
   exact this.2
  cases h0:c.testBit (2*k) with
  | true =>
   rw[if_pos (hv (2*k) (by omega) h0)]
   have hb1:=htw (2*k) (by omega) h0
   rw[e1] at hb1
   refine List.mem_append_right _ (List.mem_append_left _ (List.mem_map.2 ⟨c - 2^(2*k),less _ (fun i hi=>?_) (fun i hi=>?_),?_⟩))
   ·rw[sub_bit rfl h0,Bool.and_eq_true] at hi;exact hi.1
   ·rw[sub_bit rfl h0]
    by_cases e:i=2*k
    ·subst e;simp
    ·by_cases e':i=2*k+1
     ·subst e';rw[hb1];rfl
     ·rw[hbits i (by omega)];rfl
   ·apply Nat.eq_of_testBit_eq
    intro i
    rw[Nat.testBit_or,sub_bit rfl h0,Nat.testBit_two_pow]
    by_cases e:i=2*k
    ·subst e;rw[h0];simp
    ·rw[decide_eq_true e,decide_eq_false (fun q=>e q.symm)];simp
  | false =>
   cases h1:c.testBit (2*k+1) with
   | true =>
    rw[if_pos (hv (2*k+1) (by omega) h1)]
    refine List.mem_append_right _ (List.mem_append_right _ (List.mem_map.2 ⟨c - 2^(2*k+1),less _ (fun i hi=>?_) (fun i hi=>?_),?_⟩))
    ·rw[sub_bit rfl h1,Bool.and_eq_true] at hi;exact hi.1
    ·rw[sub_bit rfl h1]
     by_cases e:i=2*k+1
     ·subst e;simp
     ·by_cases e':i=2*k
      ·subst e';rw[h0];rfl
      ·rw[hbits i (by omega)];rfl
    ·apply Nat.eq_of_testBit_eq
     intro i
     rw[Nat.testBit_or,sub_bit rfl h1,Nat.testBit_two_pow]
     by_cases e:i=2*k+1
     ·subst e;rw[h1];simp
     ·rw[decide_eq_true e,decide_eq_false (fun q=>e q.symm)];simp
   | false =>
    have hm:c∈allTo V k:=less c (SubN.refl c) (fun i hi=>by
     by_cases e:i=2*k
     ·subst e;exact h0
     ·by_cases e':i=2*k+1
      ·subst e';exact h1
      ·exact hbits i (by omega))
    split
    ·exact List.mem_append_left _ hm
    ·exact hm
theorem count_le{V:Nat}{l:List Nat}(hn:l.Nodup)(h:∀ c∈l,c<2^20∧twinB c=false∧SubN (vN c) V):l.length≤pow3 (cvN V)∧litsN l≤cvN V*l.length:=by
 refine⟨?_,?_⟩
 ·have:=nodup_le l (allTo V 10) hn (fun c hc=>allTo_mem V 10 c (h c hc).1 ((sub_lits (h c hc).1).2 (h c hc).2.2) (h c hc).2.1 (by omega))
  rw[allTo_len] at this
  exact this
 ·clear hn
  induction l with
  | nil=>simp[litsN]
  | cons c l ih =>
   have a:=ih (fun x hx=>h x (List.mem_cons_of_mem _ hx))
   obtain⟨h1,h2,h3⟩:=h c (List.mem_cons_self ..)
   have b:=size_cv ((sub_lits h1).2 h3) h2
   simp only[litsN,List.map_cons,List.sum_cons,List.length_cons] at a ⊢
   rw[Nat.mul_add]
   omega
theorem vN_opp{D:Nat}(hD:D<2^20):vN (oppN D)=vN D:=by
 obtain⟨a,b⟩:=(Two.of hD).opp.eq
 unfold vN
 rw[← a,← b,Nat.or_comm]
theorem cv_mono{a b:Nat}(h:SubN a b):cvN a≤cvN b:=by
 have:=cv_add (a:=a) (b:=0) (w:=b) 10 (fun u _ _=>by
  cases ha:a.testBit u with
  | false=>simp
  | true=>rw[h u ha];simp)
 simp only[cvN]
 omega
theorem size_two{D V:Nat}(hD:D<2^20)(h:SubN (vN D) V):sizeN D≤2*cvN V:=by
 rw[(Two.of hD).size]
 have a:SubN (tN D) V:=SubN.trans (SubN.or_left _ _) h
 have b:SubN (fN D) V:=SubN.trans (fun i hi=>by unfold vN;rw[Nat.testBit_or,hi,Bool.or_true]) h
 have:=cv_mono a
 have:=cv_mono b
 omega
theorem seen_size{seen V:Nat}(h:Two seen V 0):sizeN seen=cvN V:=by rw[h.size,cvN_zero];omega
structure UnkOk(X:Cx)(s:Sr)(x:Ans):Prop where
 st:x.st=3
 vs:x.vs=[]
 co:x.co=[]
 len:x.cl.length≤20
 room:∀ seen,Two seen X.sn 0→enoughD X.E.r X.h X.l X.E.b seen X.un0=false
 why:(x.re=1∧0<X.E.b∧(s.sp:Int)=X.E.b∧x.cl=[])∨(x.re=2∧clauseD X.E.hv s.lr x.cl false=true∧X.h<(litsN s.lr:Int)+x.cl.length)∨(x.re=3∧clauseD X.E.hv s.lr x.cl true=true∧s.l<(x.cl.length:Int)+1)
theorem enough_no{r h l b:Int}{seen un:Nat}(hn:r≠0∨b≠0):enoughD r h l b seen un=false:=by
 unfold enoughD
 rcases hn with hn | hn
 ·have:(r == 0)=false:=by simpa using hn
  simp[this]
 ·have:(b == 0)=false:=by simpa using hn
  simp[this]
theorem SI.count{X:Cx}{s:Sr}(h:SI X s):s.lr.length≤pow3 (cvN X.sn)∧litsN s.lr≤cvN X.sn*s.lr.length:=count_le h.nod fun c hc=>⟨(h.lr c hc).top,(h.lr c hc).twin,(h.lr c hc).sub⟩
theorem SI.count1{X:Cx}{s:Sr}(h:SI X s){c:Nat}(hc:Lrn X c)(hn:c ∉ s.lr):s.lr.length+1≤pow3 (cvN X.sn)∧litsN s.lr+sizeN c≤cvN X.sn*(s.lr.length+1):=by
 have:=count_le (V:=X.sn) (l:=s.lr++[c]) (List.nodup_append.2 ⟨h.nod,by simp,fun a ha b hb=>by rw[List.mem_singleton.1 hb];exact fun e=>hn (by rw[← e];exact ha)⟩) (fun x hx=>by
  rcases List.mem_append.1 hx with hx | hx
  ·exact⟨(h.lr x hx).top,(h.lr x hx).twin,(h.lr x hx).sub⟩
  ·rw[List.mem_singleton.1 hx];exact⟨hc.top,hc.twin,hc.sub⟩)
 rw[litsN_snoc,List.length_append,List.length_singleton] at this
 exact this
theorem room_held{X:Cx}{s:Sr}(h:SI X s){c:Nat}(hc:Lrn X c)(hn:c ∉ s.lr)(hh:s.h<(sizeN c:Int)){seen:Nat}(hs:Two seen X.sn 0):enoughD X.E.r X.h X.l X.E.b seen X.un0=false:=by
 by_cases hr:X.E.r=0
 ·obtain⟨a,b⟩:=h.count1 hc hn
  have hm:cvN X.sn*(s.lr.length+1)≤cvN X.sn*pow3 (cvN X.sn):=Nat.mul_le_mul_left _ a
  have hheld:=h.held
  unfold enoughD
  rw[seen_size hs]
  have:decide (((cvN X.sn*pow3 (cvN X.sn):Nat):Int)≤X.h)=false:=by
   apply decide_eq_false
   omega
  rw[this]
  simp
 ·exact enough_no (.inl hr)
theorem room_log{X:Cx}{s:Sr}(h:SI X s){m k:Nat}(hl:s.l<(m:Int)+1)(hlen:s.lr.length+k≤pow3 (cvN X.sn))(hm:litsN s.lr+m+k≤cvN X.sn*(s.lr.length+k)+k+(1 - k)*(2*cvN X.sn))(hk:k≤1){seen:Nat}(hs:Two seen X.sn 0):enoughD X.E.r X.h X.l X.E.b seen X.un0=false:=by
 by_cases hr:X.E.r=0
 ·obtain⟨log,_,t2,t3⟩:=h.to
  have t3:=t3 hr
  have hq:cvN X.sn*(s.lr.length+k)≤cvN X.sn*pow3 (cvN X.sn):=Nat.mul_le_mul_left _ hlen
  have e1:(cvN X.sn+1)*pow3 (cvN X.sn)=cvN X.sn*pow3 (cvN X.sn)+pow3 (cvN X.sn):=by rw[Nat.add_mul,Nat.one_mul]
  have e2:(2*cvN X.sn+1)*(X.un0+1)=(2*cvN X.sn+1)*X.un0+(2*cvN X.sn+1):=by rw[Nat.mul_add,Nat.mul_one]
  unfold enoughD
  rw[seen_size hs]
  have:decide ((((cvN X.sn+1)*pow3 (cvN X.sn)+(2*cvN X.sn+1)*(X.un0+1):Nat):Int)≤X.l)=false:=by
   apply decide_eq_false
   rw[e1,e2]
   have hk':k=0∨k=1:=by omega
   rcases hk' with rfl|rfl
   ·simp only[Nat.sub_zero,Nat.one_mul,Nat.add_zero] at hm hq hlen
    omega
   ·simp only[Nat.sub_self,Nat.zero_mul,Nat.add_zero] at hm
    omega
  rw[this]
  simp
 ·exact enough_no (.inl hr)
theorem unk_log{X:Cx}{s:Sr}{c:Nat}(hcl:clauseD X.E.hv s.lr (listN c) true=true)(hl:s.l<(sizeN c:Int)+1)(room:∀ seen,Two seen X.sn 0→enoughD X.E.r X.h X.l X.E.b seen X.un0=false):UnkOk X s (unk 3 c):=by
 refine⟨rfl,rfl,rfl,?_,room,.inr (.inr ⟨rfl,hcl,?_⟩)⟩
 ·show(listN c).length≤20
  rw[listN_len];exact sizeN_le c
 ·show s.l<(((listN c).length:Nat):Int)+1
  rw[listN_len];exact hl
theorem size_to_add{k j:Nat}(hb:k.testBit j=false):∀ n,sizeTo (k|||2^j) n=sizeTo k n+(if j<n then 1 else 0):=by
 intro n
 induction n with
 | zero=>simp[sizeTo]
 | succ n ih =>
  simp only[sizeTo,bit_div]
  rw[ih,Nat.testBit_or,Nat.testBit_two_pow]
  by_cases e:j=n
  ·subst e
   rw[hb]
   simp
  ·rw[decide_eq_false e,Bool.or_false]
   by_cases h:j<n
   ·rw[if_pos h,if_pos (by omega)];omega
   ·rw[if_neg h,if_neg (by omega)];omega
theorem size_add{k j:Nat}(hj:j<20)(hb:k.testBit j=false):sizeN (k|||2^j)=sizeN k+1:=by
 have:=size_to_add hb 20
 rw[if_pos hj] at this
 exact this
theorem wo_or{D:Nat}{n:Int}(h:D.testBit (bitI n)=true):wo D n|||2^bitI n=D:=by
 apply Nat.eq_of_testBit_eq
 intro i
 rw[Nat.testBit_or,wo_bit,Nat.testBit_two_pow]
 by_cases e:bitI n=i
 ·subst e;rw[h];simp
 ·have e':i≠bitI n:=fun q=>e q.symm
  simp[e,e']
theorem inOrd_ok:∀ (xs:List Int) (D:Nat),xs.all litB=true→SubN D (setN xs)→(inOrd D xs).all litB=true∧setN (inOrd D xs)=D∧(inOrd D xs).length=sizeN D∧∀ x∈inOrd D xs,D.testBit (bitI x)=true:=by
 intro xs
 induction xs with
 | nil =>
  intro D _ hs
  have e:D=0:=SubN.anti hs (fun i q=>by rw[Nat.zero_testBit] at q;simp at q)
  subst e
  exact⟨rfl,rfl,rfl,fun x hx=>by simp[inOrd] at hx⟩
 | cons n xs ih =>
  intro D hx hs
  simp only[List.all_cons,Bool.and_eq_true] at hx
  have e:setN (n :: xs)=setN [n]|||setN xs:=setN_app [n] xs
  rw[e,setN_one] at hs
  simp only[inOrd]
  cases hb:D.testBit (bitI n) with
  | true =>
   rw[if_pos rfl]
   obtain⟨h1,h2,h3,h4⟩:=ih (wo D n) hx.2 (fun i hi=>by
    rw[wo_bit,Bool.and_eq_true] at hi
    have:=hs i hi.1
    rw[Nat.testBit_or,Bool.or_eq_true,Nat.testBit_two_pow] at this
    rcases this with q | q
    ·have q':bitI n=i:=by simpa using q
     have:=hi.2
     simp[q'] at this
    ·exact q)
   have hwb:(wo D n).testBit (bitI n)=false:=by rw[wo_bit];simp
   refine⟨by simp only[List.all_cons,hx.1,h1];rfl,?_,?_,fun x hx'=>?_⟩
   ·have e':setN (n :: inOrd (wo D n) xs)=setN [n]|||setN (inOrd (wo D n) xs):=setN_app [n] _
    rw[e',setN_one,h2,Nat.or_comm]
    exact wo_or hb
   ·simp only[List.length_cons,h3]
    have:=size_add (bitI_lt hx.1) hwb
    rw[wo_or hb] at this
    omega
   ·rcases List.mem_cons.1 hx' with rfl | hx'
    ·exact hb
    ·exact wo_sub D n _ (h4 x hx')
  | false =>
   simp only[Bool.false_eq_true,if_false]
   exact ih D hx.2 (fun i hi=>by
    have:=hs i hi
    rw[Nat.testBit_or,Bool.or_eq_true,Nat.testBit_two_pow] at this
    rcases this with q | q
    ·have q':bitI n=i:=by simpa using q
     rw[q',hi] at hb;simp at hb
    ·exact q)
theorem inOrd_bits:∀ (xs:List Int) (D:Nat),∀ x∈inOrd D xs,D.testBit (bitI x)=true:=by
 intro xs
 induction xs with
 | nil=>intro D x hx;simp[inOrd] at hx
 | cons n xs ih =>
  intro D x hx
  simp only[inOrd] at hx
  cases hb:D.testBit (bitI n) with
  | true =>
   rw[hb,if_pos rfl] at hx
   rcases List.mem_cons.1 hx with rfl | hx
   ·exact hb
   ·exact wo_sub D n _ (ih _ x hx)
  | false =>
   rw[hb] at hx
   simp only[Bool.false_eq_true,if_false] at hx
   exact ih D x hx
theorem inOrd_among:∀ (xs pre:List Int) (D:Nat),amongTo (pre++inOrd D xs) xs pre.length=(pre++inOrd D xs).length:=by
 intro xs
 induction xs with
 | nil=>intro pre D;simp[amongTo,inOrd]
 | cons n xs ih =>
  intro pre D
  by_cases hb:D.testBit (bitI n)=true
  ·have eo:inOrd D (n :: xs)=n :: inOrd (wo D n) xs:=by simp only[inOrd];rw[if_pos hb]
   have e:pre++n :: inOrd (wo D n) xs=(pre++[n])++inOrd (wo D n) xs:=by simp
   rw[eo]
   simp only[amongTo]
   rw[if_pos ⟨by simp,by rw[List.getD_eq_getElem?_getD,List.getElem?_append_right (Nat.le_refl _),Nat.sub_self];rfl⟩,e]
   have:=ih (pre++[n]) (wo D n)
   rw[List.length_append,List.length_singleton] at this
   exact this
  ·have eo:inOrd D (n :: xs)=inOrd D xs:=by simp only[inOrd];rw[if_neg hb]
   rw[eo]
   simp only[amongTo]
   rw[if_neg]
   ·exact ih pre D
   ·rintro⟨h1,h2⟩
    rw[List.getD_eq_getElem?_getD,List.getElem?_append_right (Nat.le_refl _),Nat.sub_self] at h2
    cases ho:inOrd D xs with
    | nil=>rw[ho] at h1;simp at h1
    | cons y ys =>
     rw[ho] at h2
     have hy:y=n:=by simpa using h2
     have:=inOrd_bits xs D y (by rw[ho];exact List.mem_cons_self ..)
     rw[hy] at this
     exact hb this
def FinOk(X:Cx)(s:Sr)(x:Ans):Prop:=(SI X s∧UnkOk X s x)∨∃ s0 D,SI X s0∧s={ s0 with l:=s0.l - ((sizeN (oppN D):Int)+1),ls:=s0.ls++[(101,listN (oppN D))] }∧(sizeN (oppN D):Int)+1≤s0.l∧sizeN (oppN D)≤2*cvN X.sn∧clauseD X.E.hv s0.lr (listN (oppN D)) true=true∧x.st=2∧x.co.length≤20∧UnsatOk X.E.hv x X.E.xs (listN (oppN D))
theorem joined_zero(hv:List Nat):joinedD hv 0=true:=by unfold joinedD;rw[Nat.zero_and];rfl
theorem opp_zero:oppN 0=0:=by decide
theorem vars_zero:varsN 0=0:=by decide
theorem end_ok{X:Cx}(hX:CxOk X){s:Sr}(h:SI X s)(hcl:clashD (X.E.hv++s.lr) X.E.as=true):∃ s' x,endS X.E s=.fin s' x∧FinOk X s' x:=by
 have h0:=h.csok hX (w:=0) (.inl rfl)
 have hDs:=need_sub (X.E.hv++s.lr) X.E.xs X.E.as
 have hDc:=need_clash (X.E.hv++s.lr) X.E.xs X.E.as hcl
 have hD20:=sub_lt20 hDs (as_lt X)
 have hvs:SubN (vN (needD (X.E.hv++s.lr) X.E.xs X.E.as)) X.sn:=by
  refine SubN.trans (fun u hu=>?_) hX.asm
  obtain⟨_,_,i,e,hi⟩:=vN_ex hD20 hu
  rw[← e]
  exact vN_half (as_lt X) (hDs i hi)
 have hj:joinedD X.E.hv (varsN (oppN (needD (X.E.hv++s.lr) X.E.xs X.E.as)))=true:=by
  by_cases hz:needD (X.E.hv++s.lr) X.E.xs X.E.as=0
  ·rw[hz,opp_zero,vars_zero];exact joined_zero _
  ·have:∃ j,(needD (X.E.hv++s.lr) X.E.xs X.E.as).testBit j=true:=by
    apply Classical.byContradiction
    intro hn
    apply hz
    apply Nat.eq_of_testBit_eq
    intro i
    rw[Nat.zero_testBit]
    cases hb:(needD (X.E.hv++s.lr) X.E.xs X.E.as).testBit i with
    | false=>rfl
    | true=>exact absurd ⟨i,hb⟩ hn
   obtain⟨j,hj⟩:=this
   obtain⟨w,hw,hwu⟩:=hX.cmp.cov _ (hvs _ (vN_half hD20 hj))
   have hlw:(litsV w).testBit j=true:=by rw[lits_bit,decide_eq_true (bit_lt hD20 hj),hwu];rfl
   have hin:=core_in (h.csok hX (.inr hw)) hX.xs rfl hcl hj hlw
   refine conn_joined hX.hvt (hX.cmp.con w hw) (oppN_lt _) ?_
   rw[vN_opp hD20]
   exact(sub_lits hD20).1 hin
 have hcd:clauseD X.E.hv s.lr (listN (oppN (needD (X.E.hv++s.lr) X.E.xs X.E.as))) true=true:=by
  rw[clauseD_list (oppN_lt _),hj,opp_opp hD20,hDc]
  rfl
 have hsz:sizeN (oppN (needD (X.E.hv++s.lr) X.E.xs X.E.as))≤2*cvN X.sn:=size_two (oppN_lt _) (by rw[vN_opp hD20];exact hvs)
 have hno:someD X.E.hv (needD (X.E.hv++s.lr) X.E.xs X.E.as)=false:=by
  unfold someD
  rw[List.any_eq_false]
  intro u _ hal
  unfold allowsD at hal
  rw[Bool.and_eq_true,List.all_eq_true] at hal
  have h1:∀ c∈X.E.hv,c&&&trueN u≠0:=fun c hc=>by simpa using hal.1 c hc
  have h2:needD (X.E.hv++s.lr) X.E.xs X.E.as&&&trueN u=needD (X.E.hv++s.lr) X.E.xs X.E.as:=by simpa using hal.2
  have:=clash_sound (cs:=X.E.hv++s.lr) (u:=u) h0.top (fun c hc=>(List.mem_append.1 hc).elim (h1 c) (h.sem u h1 c)) (k:=needD (X.E.hv++s.lr) X.E.xs X.E.as) (fun i hi=>by rw[← h2] at hi;exact sub_and2 _ _ i hi)
  rw[this] at hDc
  simp at hDc
 have hAs:X.E.as=setN X.E.xs:=set_ok hX.xs
 obtain⟨i1,i2,i3,_⟩:=inOrd_ok X.E.xs (needD (X.E.hv++s.lr) X.E.xs X.E.as) hX.xs (by rw[← hAs];exact hDs)
 unfold endS wrt
 by_cases hl:s.l<(sizeN (oppN (needD (X.E.hv++s.lr) X.E.xs X.E.as)):Int)+1
 ·rw[if_pos hl]
  refine⟨s,_,rfl,.inl ⟨h,unk_log hcd hl fun seen hs=>?_⟩⟩
  obtain⟨c1,c2⟩:=h.count
  exact room_log h (m:=sizeN (oppN (needD (X.E.hv++s.lr) X.E.xs X.E.as))) (k:=0) hl (by omega) (by simp only[Nat.add_zero,Nat.sub_zero,Nat.one_mul];omega) (by omega) hs
 ·rw[if_neg hl]
  refine⟨_,_,rfl,.inr ⟨s,needD (X.E.hv++s.lr) X.E.xs X.E.as,h,rfl,by omega,hsz,hcd,rfl,?_,?_⟩⟩
  ·show(inOrd _ X.E.xs).length≤20
   rw[i3];exact sizeN_le _
  ·refine⟨rfl,rfl,rfl,?_,?_,?_,?_⟩
   ·show amongD (inOrd _ X.E.xs) X.E.xs=true
    have:=inOrd_among X.E.xs [] (needD (X.E.hv++s.lr) X.E.xs X.E.as)
    unfold amongD
    simpa using this
   ·show sizeN (setOk (inOrd _ X.E.xs))=(inOrd _ X.E.xs).length
    rw[set_ok i1,i2,i3]
   ·show setOk (listN (oppN _))=oppN (setOk (inOrd _ X.E.xs))
    rw[listN_set (oppN_lt _),set_ok i1,i2]
   ·show someD X.E.hv (setOk (inOrd _ X.E.xs))=false
    rw[set_ok i1,i2];exact hno
theorem clash_self{cs:List Nat}(hc:∀ c∈cs,c<2^20){c:Nat}(h:c∈cs):clashD cs (oppN c)=true:=by
 cases hb:clashD cs (oppN c) with
 | true=>rfl
 | false =>
  obtain⟨K,_,h2,_,h4⟩:=clash_false cs hc (oppN c) (oppN_lt c) hb
  exfalso
  apply (h4 c h).1
  apply Nat.eq_of_testBit_eq
  intro i
  rw[Nat.zero_testBit,left_bit]
  cases hi:c.testBit i with
  | false=>rfl
  | true =>
   have hi20:=bit_lt (hc c h) hi
   have:=h2 (par i) (by rw[opp_par _ (par_lt hi20),par_par];exact hi)
   rw[opp_par _ hi20,this];rfl
theorem lits_off{a b:Nat}(h:a&&&b=0){i:Nat}(hi:(litsV a).testBit i=true):(litsV b).testBit i=false:=by
 rw[lits_bit,Bool.and_eq_true] at hi
 rw[lits_bit,off_iff.2 h _ hi.2,Bool.and_false]
theorem in_other{cs:List Nat}{c w t:Nat}(hc:SubN c (litsV w))(h0:c≠0)(hd:t&&&w=0):inW (cs++[c]) (litsV t)=inW cs (litsV t):=by
 unfold inW
 rw[List.filter_append]
 have:(c&&&litsV t == c)=false:=by
  have e:c&&&litsV t=0:=by
   rw[← off_iff]
   intro i hi
   exact lits_off (and_comm0 hd) (hc i hi)
  rw[e]
  simpa using fun q=>h0 q.symm
 simp[this]
theorem trk_other{cs cs':List Nat}{A w k:Nat}(h:Trk cs A w k)(hok:CsOk cs' A w)(he:inW cs' (litsV w)=inW cs (litsV w)):Trk cs' A w k∧pathF cs' A w (k+1)=pathF cs A w (k+1):=by
 have hl:∀ d,lpush cs' (litsV w) d=lpush cs (litsV w) d:=fun d=>by unfold lpush;rw[he]
 obtain⟨d,kn,h1,h2⟩:=h.is
 exact⟨⟨hok,d,kn,by rw[dec_same (k:=k) (fun j d _ _=>hl d) k (Nat.le_refl _)];exact h1,by rw[hl];exact h2⟩,path_same (k:=k+1) (fun j d _ _=>hl d) (k+1) (Nat.le_refl _)⟩
theorem trks_other{cs cs':List Nat}{A:Nat}:∀ (T:List (Nat × Nat)),(∀ t∈T,Trk cs A t.1 t.2)→(∀ t∈T,CsOk cs' A t.1∧inW cs' (litsV t.1)=inW cs (litsV t.1))→(∀ t∈T,Trk cs' A t.1 t.2)∧tracks cs' A T=tracks cs A T:=by
 intro T
 induction T with
 | nil=>intro _ _;exact⟨fun t ht=>by simp at ht,rfl⟩
 | cons t T ih =>
  intro h hr
  obtain⟨a1,a2⟩:=ih (fun x hx=>h x (List.mem_cons_of_mem _ hx)) (fun x hx=>hr x (List.mem_cons_of_mem _ hx))
  obtain⟨r1,r2⟩:=hr t (List.mem_cons_self ..)
  obtain⟨b1,b2⟩:=trk_other (h t (List.mem_cons_self ..)) r1 r2
  refine⟨fun x hx=>?_,?_⟩
  ·rcases List.mem_cons.1 hx with rfl | hx
   ·exact b1
   ·exact a1 x hx
  ·simp only[tracks,List.flatMap_cons] at a2 ⊢
   rw[b2,a2]
structure Wks(X:Cx)(T:List (Nat × Nat))(w:Nat):Prop where
 me:w=0∨w∈X.ws
 all:∀ t∈T,t.1=0∨t.1∈X.ws
 dis:((T.map fun t=>t.1)++[w]).Pairwise fun a b=>a&&&b=0
theorem Wks.off{X:Cx}{T:List (Nat × Nat)}{w:Nat}(h:Wks X T w){t:Nat × Nat}(ht:t∈T):t.1&&&w=0:=(List.pairwise_append.1 h.dis).2.2 t.1 (List.mem_map.2 ⟨t,ht,rfl⟩) w (List.mem_singleton.2 rfl)
structure Hd(X:Cx)(T:List (Nat × Nat))(w i dec:Nat)(s:Sr):Prop where
 si:SI X s
 trk:∀ t∈T,Trk (X.E.hv++s.lr) X.E.as t.1 t.2
 done:s.done=tracks (X.E.hv++s.lr) X.E.as T
 dec:decF (X.E.hv++s.lr) X.E.as w i=some dec
 path:s.path=pathF (X.E.hv++s.lr) X.E.as w i
 no:0<i→clashD (X.E.hv++s.lr) X.E.as=false
theorem mkr_ok{X:Cx}(hX:CxOk X){T:List (Nat × Nat)}{w k dec:Nat}{s:Sr}(hW:Wks X T w)(h:Hd X T w (k+1) dec s)(hcl:clashD (X.E.hv++s.lr) dec=true) :
  (∃ x,mkr X.E s dec=.fin s x∧UnkOk X s x)∨∃ s',mkr X.E s dec=.go s'∧Hd X T w (k+1) dec s'∧clashD (X.E.hv++s'.lr) dec=true∧(X.E.r=0∨(s'.lr.length:Int)<X.E.r)∧s'.sp=s.sp∧s'.vals=s.vals∧potF (X.E.hv++s'.lr) X.E.as w 12=potF (X.E.hv++s.lr) X.E.as w 12:=by
 have hok:=h.si.csok hX hW.me
 have hno:=h.no (by omega)
 unfold mkr
 by_cases hr:X.E.r=0∨(s.lr.length:Int)<X.E.r
 ·rw[if_pos hr]
  exact .inr ⟨s,rfl,h,hcl,hr,rfl,rfl,rfl⟩
 ·rw[if_neg hr]
  have hr0:X.E.r≠0:=fun e=>hr (.inl e)
  have hge:X.E.r≤(s.lr.length:Int):=by omega
  have h12:12≤X.E.r:=hX.set.resolve_left hr0
  obtain⟨c0,hc0,hi0⟩:=idle_ex h.si.nod (by omega) hok h.trk h.done h.dec h.path hcl hno hW.dis
  have hlong:longD X.E s dec s.lr 0∈s.lr∧idleD X.E s (longD X.E s dec s.lr 0) dec=true:=by
   rcases long_spec X.E s dec s.lr 0 with⟨_,b⟩ | b
   ·exfalso
    rcases b c0 hc0 with q | q
    ·have l:=h.si.lr c0 hc0
     have:sizeN 0<sizeN c0:=size_lt (fun i q=>by rw[Nat.zero_testBit] at q;simp at q) l.top (fun e=>l.ne e.symm)
     omega
    ·rw[hi0] at q;simp at q
   ·exact b
  obtain⟨hmem,hidle⟩:=hlong
  generalize longD X.E s dec s.lr 0=c at *
  have hlc:=h.si.lr c hmem
  have hcd:clauseD X.E.hv s.lr (listN c) true=true:=by
   rw[clauseD_list hlc.top,hlc.join,clash_self hok.top (List.mem_append_right _ hmem)]
   rfl
  unfold wrt
  by_cases hl:s.l<(sizeN c:Int)+1
  ·rw[if_pos hl]
   exact .inl ⟨_,rfl,unk_log hcd hl fun _ _=>enough_no (.inl hr0)⟩
  ·rw[if_neg hl]
   right
   have hsub:∀ x∈X.E.hv++s.lr.erase c,x∈X.E.hv++s.lr:=fun x hx=>by
    rcases List.mem_append.1 hx with q | q
    ·exact List.mem_append_left _ q
    ·exact List.mem_append_right _ (List.mem_of_mem_erase q)
   unfold idleD at hidle
   rw[Bool.and_eq_true,Bool.and_eq_true] at hidle
   obtain⟨⟨i1,i2⟩,i3⟩:=hidle
   rw[h.path] at i2
   rw[h.done] at i3
   obtain⟨p1,p2,p3,_⟩:=drop_pot hok hsub h.dec hno i1 i2
   obtain⟨t1,t2⟩:=trks_keep hsub T h.trk i3
   refine⟨_,rfl,⟨?_,t1,?_,p1,?_,fun _=>clash_anti hok.top hok.asm hsub (SubN.refl _) hno⟩,i1,?_,rfl,rfl,p2⟩
   ·have:=h.si.drop hmem hr0 (by omega)
    exact this
   ·show s.done=_
    rw[h.done];exact t2.symm
   ·show s.path=_
    rw[h.path];exact p3.symm
   ·have hp:0<s.lr.length:=List.length_pos_of_mem hmem
    have hle:=h.si.len
    right
    show(((s.lr.erase c).length:Nat):Int)<X.E.r
    rw[List.length_erase_of_mem hmem]
    omega
theorem rft_ok{X:Cx}(hX:CxOk X){T:List (Nat × Nat)}{w k dec:Nat}{s:Sr}(hW:Wks X T w)(h:Hd X T w (k+1) dec s)(hcl:clashD (X.E.hv++s.lr) dec=true) :
  (∃ s' x,rft X.E s dec=.fin s' x∧SI X s'∧UnkOk X s' x)∨∃ s',rft X.E s dec=.go s'∧Hd X T w 0 X.E.as { s' with path:=[] }∧s'.vals=s.vals∧potF (X.E.hv++s.lr) X.E.as w 12<potF (X.E.hv++s'.lr) X.E.as w 12:=by
 unfold rft
 by_cases hb:0<X.E.b∧X.E.b≤(s.sp:Int)
 ·rw[if_pos hb]
  left
  refine⟨s,_,rfl,h.si,rfl,rfl,rfl,by decide,fun _ _=>enough_no (.inr (by omega)),.inl ⟨rfl,hb.1,?_,by decide⟩⟩
  rcases h.si.bud with q | q
  ·omega
  ·omega
 ·rw[if_neg hb]
  rcases mkr_ok hX hW h hcl with⟨x,e,hu⟩ | ⟨s1,e,h1,hcl1,hr1,hsp,hvals,hpot⟩
  ·rw[e]
   exact .inl ⟨s,x,rfl,h.si,hu⟩
  ·rw[e]
   simp only
   have hok:=h1.si.csok hX hW.me
   have hno:=h1.no (by omega)
   obtain⟨dk,kn,a1,a2,a3,ed⟩:=decF_next h1.dec
   obtain⟨d20,_,dA⟩:=decF_ok hok h1.dec
   obtain⟨dk20,_,_⟩:=decF_ok hok a1
   have hDs:=need_sub (X.E.hv++s1.lr) X.E.xs dec
   have hDc:=need_clash (X.E.hv++s1.lr) X.E.xs dec hcl1
   have hDW:=need_in hok hX.xs rfl d20 dA hcl1 hno
   have hD20:=sub_lt20 hDs d20
   obtain⟨j,ej,hj,hjw,hjb,hjp,hjD⟩:=need_dec (cs':=X.E.hv++s1.lr) hok hX.xs rfl h1.dec (Nat.le_refl k) a1 a2 a3
   rw[ej] at ed
   have hdd:∀ i d' kn',i<k→decF (X.E.hv++s1.lr) X.E.as w i=some d'→lpush (X.E.hv++s1.lr) (litsV w) d'=some kn'→∃ j',j'<20∧kn'.testBit j'=false∧(needD (X.E.hv++s1.lr) X.E.xs dec).testBit j'=true∧∃ d1 kn1,decF (X.E.hv++s1.lr) X.E.as w (i+1)=some d1∧lpush (X.E.hv++s1.lr) (litsV w) d1=some kn1∧kn1.testBit j'=true:=by
    intro i d' kn' hi hd' hk'
    obtain⟨d1,hd1⟩:=decF_le h1.dec (by omega:i+1+1≤k+1)
    obtain⟨d2,kn1,b1,b2,_,_⟩:=decF_next hd1
    obtain⟨d3,kn3,c1,c2,c3,c4⟩:=decF_next b1
    rw[hd'] at c1
    simp only[Option.some.injEq] at c1
    subst c1
    rw[hk'] at c2
    simp only[Option.some.injEq] at c2
    subst c2
    obtain⟨j',e',hj',hw',hb',_,hD'⟩:=need_dec (cs':=X.E.hv++s1.lr) hok hX.xs rfl h1.dec (by omega:i≤k) hd' hk' c3
    rw[e'] at c4
    obtain⟨q20,_,_⟩:=decF_ok hok b1
    refine⟨j',hj',hb',hD',d2,kn1,b1,b2,(kn_ok hok q20 b2).1.sub j' ?_⟩
    rw[Nat.testBit_and,c4,pow_bit,hw'];rfl
   generalize needD (X.E.hv++s1.lr) X.E.xs dec=D at *
   have hnew:=learn_new hok dk20 a2 hj hjb hjp (by rw[← ed];exact hDs) hDW hjD
   obtain⟨ok',hpot'⟩:=learn_more hok a1 a2 hj hjb hjp (by rw[← ed];exact hDs) hDW hjD hdd
   have hDt:twinB D=false:=by
    have hk0:SubN D (kn|||2^j):=by
     intro x hx
     have hxw:=hDW x hx
     have:=hDs x hx
     rw[ed,Nat.testBit_or,Bool.or_eq_true] at this
     rw[Nat.testBit_or,Bool.or_eq_true]
     rcases this with z | z
     ·exact .inl ((kn_ok hok dk20 a2).1.sub x (by rw[Nat.testBit_and,z,hxw];rfl))
     ·exact .inr z
    exact hk0.twin (twin_add (kn_ok hok dk20 a2).1.twin hjp)
   have hot:twinB (oppN D)=false:=by
    rw[twin_iff] at hDt ⊢
    intro i hi hib
    rw[opp_par _ hi] at hib
    rw[opp_par _ (par_lt hi),par_par]
    have:=hDt (par i) (par_lt hi) hib
    rw[par_par] at this
    exact this
   have hne:oppN D≠0:=fun e=>by
    have:(oppN D).testBit (par j)=true:=by rw[opp_par _ (par_lt hj),par_par];exact hjD
    rw[e] at this;simp at this
   have hvD:SubN (vN D) w:=(sub_lits hD20).1 hDW
   have hw0:w∈X.ws:=by
    rcases hW.me with e | e
    ·exfalso
     rw[e,lits_bit] at hjw
     simp at hjw
    ·exact e
   have hlrn:Lrn X (oppN D):=⟨oppN_lt D,hne,hot,by rw[vN_opp hD20];exact hvD.trans (hX.cmp.sub w hw0),conn_joined hX.hvt (hX.cmp.con w hw0) (oppN_lt D) (by rw[vN_opp hD20];exact hvD)⟩
   have hcf:∀ tail,clauseD X.E.hv s1.lr (listN (oppN D)) tail=true:=fun tail=>by
    rw[clauseD_list (oppN_lt D),hlrn.join,opp_opp hD20,hDc,hot]
    simp[hnew]
   have hnl:oppN D ∉ s1.lr:=fun q=>hnew (List.mem_append_right _ q)
   unfold lrn
   by_cases hh:s1.h<(sizeN (oppN D):Int)
   ·rw[if_pos hh]
    left
    refine⟨s1,_,rfl,h1.si,rfl,rfl,rfl,?_,fun seen hs=>room_held h1.si hlrn hnl hh hs,.inr (.inl ⟨rfl,hcf false,?_⟩)⟩
    ·show(listN (oppN D)).length≤20
     rw[listN_len];exact sizeN_le _
    ·show X.h<(litsN s1.lr:Int)+(((listN (oppN D)).length:Nat):Int)
     have:=h1.si.held
     rw[listN_len];omega
   ·rw[if_neg hh]
    unfold wrt
    by_cases hl:s1.l<(sizeN (oppN D):Int)+1
    ·rw[if_pos hl]
     left
     refine⟨s1,_,rfl,h1.si,unk_log (hcf true) hl fun seen hs=>?_⟩
     obtain⟨c1,c2⟩:=h1.si.count1 hlrn hnl
     exact room_log h1.si (m:=sizeN (oppN D)) (k:=1) hl c1 (by simp only[Nat.sub_self,Nat.zero_mul];omega) (by omega) hs
    ·rw[if_neg hl]
     right
     have hsi:=h1.si.learn hX hD20 hne hot hlrn.sub hlrn.join hDc hnew (by omega) (by omega) hr1 (by
      rw[hsp]
      have:=hX.bud
      omega)
     have htr:=trks_other (cs':=(X.E.hv++s1.lr)++[oppN D]) T h1.trk (fun t ht=>⟨by
      have:=(hsi.path [] s1.done s1.vals).csok hX (hW.all t ht)
      rw[List.append_assoc]
      exact this,in_other (opp_sub_msk (lits_msk w) hDW) hne (hW.off ht)⟩)
     rw[List.append_assoc] at htr hpot'
     refine⟨_,rfl,⟨hsi.path [] s1.done s1.vals,htr.1,?_,rfl,rfl,fun q=>by omega⟩,hvals,?_⟩
     ·show s1.done=_
      rw[h1.done]
      exact htr.2.symm
     ·rw[← hpot]
      exact hpot'
end Go.Proofs.YthboeppmlhbofabDoor
