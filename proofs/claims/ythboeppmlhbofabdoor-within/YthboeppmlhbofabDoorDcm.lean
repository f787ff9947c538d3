import Derived.Test.YthboeppmlhbofabDoorDcj
import Derived.Test.YthboeppmlhbofabDoorHac
namespace Go.Proofs.YthboeppmlhbofabDoor
open Go.RowKit Txt
set_option maxRecDepth 100000
def valsTo(seen u:Nat):Nat→List Int
 | 0=>[]
 | k+1=>valsTo seen u k++(if seen.testBit (2*k) then [if u.testBit k then (k:Int)+1 else -((k:Int)+1)] else [])
structure SatOk(hv:List Nat)(seen must:Nat)(x:Ans)(u:Nat):Prop where
 lt:u<1024
 vs:x.vs=valsTo seen u 10
 un:∀ k,k<10→seen.testBit (2*k)=false→u.testBit k=false
 al:allowsD hv must u=true
 co:x.co=[]
 cl:x.cl=[]
 re:x.re=0
def bitI(n:Int):Nat:=if 0<n then (2*n - 2).toNat else (-2*n - 1).toNat
theorem bitN_pow(n:Int):bitN n=2^bitI n:=by
 unfold bitN bitI
 split <;> rfl
theorem bitI_lt{n:Int}(h:litB n=true):bitI n<20:=by
 simp only[litB,Bool.and_eq_true,bne_iff_ne,decide_eq_true_eq] at h
 unfold bitI
 split <;> omega
def wo(s:Nat)(n:Int):Nat:=s - (s&&&bitN n)
theorem wo_bit(s:Nat)(n:Int)(i:Nat):(wo s n).testBit i=(s.testBit i && decide (i≠bitI n)):=by
 unfold wo
 rw[sub_and_bit,bitN_pow,Nat.testBit_two_pow]
 congr 1
 by_cases h:bitI n=i
 ·subst h;simp
 ·have h':i≠bitI n:=fun e=>h e.symm
  simp[h,h']
theorem wo_sub(s:Nat)(n:Int):SubN (wo s n) s:=fun i h=>by rw[wo_bit,Bool.and_eq_true] at h;exact h.1
theorem wo_lt{s:Nat}(n:Int)(h:s<2^20):wo s n<2^20:=Nat.lt_of_le_of_lt (Nat.sub_le _ _) h
def lsTo(s:Nat):Nat→List Int
 | 0=>[]
 | v+1=>lsTo s v++((if s.testBit (2*v) then [(v:Int)+1] else [])++(if s.testBit (2*v+1) then [-((v:Int)+1)] else []))
def listN(s:Nat):List Int:=lsTo s 10
theorem lsTo_lits(s:Nat):∀ k,k≤10→∀ x∈lsTo s k,litB x=true:=by
 intro k
 induction k with
 | zero=>intro _ x hx;simp[lsTo] at hx
 | succ k ih =>
  intro hk x hx
  simp only[lsTo,List.mem_append] at hx
  rcases hx with hx | hx | hx
  ·exact ih (by omega) x hx
  ·split at hx
   ·rw[List.mem_singleton.1 hx]
    simp only[litB,Bool.and_eq_true,bne_iff_ne,decide_eq_true_eq];omega
   ·simp at hx
  ·split at hx
   ·rw[List.mem_singleton.1 hx]
    simp only[litB,Bool.and_eq_true,bne_iff_ne,decide_eq_true_eq];omega
   ·simp at hx
theorem listN_lits(s:Nat):(listN s).all litB=true:=List.all_eq_true.2 fun x hx=>lsTo_lits s 10 (by omega) x hx
theorem setN_app(xs ys:List Int):setN (xs++ys)=setN xs|||setN ys:=by
 have key:∀ (ys:List Int) (a:Nat),ys.foldl (fun a l=>a|||bitN l) a=a|||ys.foldl (fun a l=>a|||bitN l) 0:=by
  intro ys
  induction ys with
  | nil=>intro a;simp
  | cons y ys ih=>intro a;simp only[List.foldl_cons];rw[ih (a|||bitN y),ih (0|||bitN y),Nat.zero_or,Nat.or_assoc]
 unfold setN
 rw[List.foldl_append,key]
theorem bitI_pos(v:Nat):bitI ((v:Int)+1)=2*v:=by unfold bitI;rw[if_pos (by omega)];omega
theorem bitI_neg(v:Nat):bitI (-((v:Int)+1))=2*v+1:=by unfold bitI;rw[if_neg (by omega)];omega
theorem setN_one(x:Int):setN [x]=2^bitI x:=by simp[setN,bitN_pow]
theorem lsTo_set(s:Nat):∀ k i,(setN (lsTo s k)).testBit i=(decide (i<2*k) && s.testBit i):=by
 intro k
 induction k with
 | zero=>intro i;simp[lsTo,setN]
 | succ k ih =>
  intro i
  simp only[lsTo]
  rw[setN_app,setN_app,Nat.testBit_or,Nat.testBit_or,ih]
  have h1:(setN (if s.testBit (2*k)=true then [(k:Int)+1] else [])).testBit i=(s.testBit (2*k) && decide (i=2*k)):=by
   cases s.testBit (2*k)
   ·simp[setN]
   ·rw[if_pos rfl,setN_one,bitI_pos,Nat.testBit_two_pow,Bool.true_and]
    by_cases h:2*k=i
    ·subst h;simp
    ·rw[decide_eq_false h,decide_eq_false (fun e=>h e.symm)]
  have h2:(setN (if s.testBit (2*k+1)=true then [-((k:Int)+1)] else [])).testBit i=(s.testBit (2*k+1) && decide (i=2*k+1)):=by
   cases s.testBit (2*k+1)
   ·simp[setN]
   ·rw[if_pos rfl,setN_one,bitI_neg,Nat.testBit_two_pow,Bool.true_and]
    by_cases h:2*k+1=i
    ·subst h;simp
    ·rw[decide_eq_false h,decide_eq_false (fun e=>h e.symm)]
  rw[h1,h2]
  by_cases e1:i=2*k
  ·subst e1
   rw[decide_eq_false (by omega:¬ 2*k<2*k),decide_eq_true (by omega:2*k<2*(k+1)),decide_eq_false (by omega:¬ 2*k=2*k+1)]
   simp
  ·by_cases e2:i=2*k+1
   ·subst e2
    rw[decide_eq_false (by omega:¬ 2*k+1<2*k),decide_eq_true (by omega:2*k+1<2*(k+1)),decide_eq_false (by omega:¬ 2*k+1=2*k)]
    simp
   ·rw[decide_eq_false e1,decide_eq_false e2]
    by_cases h:i<2*k
    ·rw[decide_eq_true h,decide_eq_true (by omega:i<2*(k+1))];simp
    ·rw[decide_eq_false h,decide_eq_false (by omega:¬ i<2*(k+1))];simp
theorem listN_set{s:Nat}(hs:s<2^20):setOk (listN s)=s:=by
 unfold setOk
 rw[listN_lits,if_pos rfl]
 apply Nat.eq_of_testBit_eq
 intro i
 unfold listN
 rw[lsTo_set]
 by_cases h:i<20
 ·rw[decide_eq_true (by omega:i<2*10),Bool.true_and]
 ·rw[decide_eq_false (by omega:¬ i<2*10),Bool.false_and,Nat.testBit_lt_two_pow (Nat.lt_of_lt_of_le hs (Nat.pow_le_pow_right (n:=2) (i:=20) (by decide) (by omega)))]
theorem lsTo_len(s:Nat):∀ k,(lsTo s k).length=sizeTo s (2*k):=by
 intro k
 induction k with
 | zero=>rfl
 | succ k ih =>
  rw[show 2*(k+1)=2*k+1+1 by omega]
  simp only[lsTo,sizeTo,List.length_append,ih,bit_div]
  cases s.testBit (2*k) <;> cases s.testBit (2*k+1) <;> simp
theorem listN_len(s:Nat):(listN s).length=sizeN s:=lsTo_len s 10
def fvF(V:Nat):Nat→Nat→Nat
 | 0,_=>0
 | m+1,v=>if V.testBit v then v else fvF V m (v+1)
def firstV(V:Nat):Nat:=fvF V 10 1
theorem fvF_spec(V:Nat):∀ m v,1≤v→(fvF V m v=0∧∀ u,v≤u→u<v+m→V.testBit u=false)∨(v≤fvF V m v∧fvF V m v<v+m∧V.testBit (fvF V m v)=true):=by
 intro m
 induction m with
 | zero=>intro v _;exact .inl ⟨rfl,fun u a b=>by omega⟩
 | succ m ih =>
  intro v hv
  simp only[fvF]
  cases hb:V.testBit v with
  | true=>exact .inr ⟨by simp,by simp,by simpa using hb⟩
  | false =>
   simp only[Bool.false_eq_true,if_false]
   rcases ih (v+1) (by omega) with⟨h1,h2⟩ | ⟨h1,h2,h3⟩
   ·refine .inl ⟨h1,fun u a b=>?_⟩
    by_cases e:u=v
    ·subst e;exact hb
    ·exact h2 u (by omega) (by omega)
   ·exact .inr ⟨by omega,by omega,h3⟩
theorem firstV_none{V:Nat}(h:firstV V=0):∀ u,1≤u→u<11→V.testBit u=false:=by
 rcases fvF_spec V 10 1 (by omega) with⟨_,h2⟩ | ⟨h1,h2,_⟩
 ·exact fun u a b=>h2 u a (by omega)
 ·unfold firstV at h;omega
theorem firstV_some{V:Nat}(h:firstV V≠0):1≤firstV V∧firstV V<11∧V.testBit (firstV V)=true:=by
 rcases fvF_spec V 10 1 (by omega) with⟨h1,_⟩ | ⟨h1,h2,h3⟩
 ·exact absurd h1 h
 ·exact⟨h1,by unfold firstV;omega,h3⟩
structure Stp where
 dec:Nat
 vs:Nat
 kn:Nat
structure Sr where
 lr:List Nat
 h:Int
 l:Int
 sp:Nat
 path:List Stp
 done:List Stp
 ls:List Lin
 vals:Nat
inductive Rs where
 | go (s:Sr)
 | fin (s:Sr) (x:Ans)
structure Sg where
 hv:List Nat
 xs:List Int
 b:Int
 r:Int
def Sg.as(E:Sg):Nat:=setOk E.xs
def unk(re:Int)(c:Nat):Ans:=⟨3,re,[],[],listN c⟩
def wrt(lt:UInt8)(c:Nat)(s:Sr):Rs:=if s.l<(sizeN c:Int)+1 then .fin s (unk 3 c) else .go { s with l:=s.l - ((sizeN c:Int)+1),ls:=s.ls++[(lt,listN c)] }
def lrn(c:Nat)(s:Sr):Rs:=if s.h<(sizeN c:Int) then .fin s (unk 2 c) else match wrt 97 c s with
 | .fin s x=>.fin s x
 | .go s=>.go { s with h:=s.h - (sizeN c:Int),sp:=s.sp+1,lr:=s.lr++[c] }
def needD(cs:List Nat):List Int→Nat→Nat
 | [],d=>d
 | n :: xs,d=>needD cs xs (if clashD cs (wo d n) then wo d n else d)
def knD(cs:List Nat)(d:Nat):Nat:=match pushD cs d with
 | none=>0
 | some K=>K
def repsD(cs:List Nat)(ps:List Stp):Bool:=ps.all fun p=>knD cs p.dec&&&litsV p.vs == p.kn
def idleD(E:Sg)(s:Sr)(c dec:Nat):Bool:=clashD (E.hv++s.lr.erase c) dec && repsD (E.hv++s.lr.erase c) s.path && repsD (E.hv++s.lr.erase c) s.done
def longD(E:Sg)(s:Sr)(dec:Nat):List Nat→Nat→Nat
 | [],m=>m
 | c :: cs,m=>longD E s dec cs (if sizeN c≤sizeN m then m else if idleD E s c dec then c else m)
def mkr(E:Sg)(s:Sr)(dec:Nat):Rs:=if E.r=0∨(s.lr.length:Int)<E.r then .go s else match wrt 100 (longD E s dec s.lr 0) s with
 | .fin s x=>.fin s x
 | .go s'=>.go { s' with lr:=s'.lr.erase (longD E s dec s.lr 0),h:=s'.h+(sizeN (longD E s dec s.lr 0):Int) }
def rft(E:Sg)(s:Sr)(dec:Nat):Rs:=if 0<E.b∧E.b≤(s.sp:Int) then .fin s (unk 1 0) else match mkr E s dec with
 | .fin s x=>.fin s x
 | .go s=>lrn (oppN (needD (E.hv++s.lr) E.xs dec)) s
def inOrd:Nat→List Int→List Int
 | _,[]=>[]
 | c,n :: xs=>if c.testBit (bitI n) then n :: inOrd (wo c n) xs else inOrd c xs
def endS(E:Sg)(s:Sr):Rs:=match wrt 101 (oppN (needD (E.hv++s.lr) E.xs E.as)) s with
 | .fin s x=>.fin s x
 | .go s=>.fin s ⟨2,0,[],inOrd (needD (E.hv++s.lr) E.xs E.as) E.xs,[]⟩
def nxtD(w kn:Nat):Nat:=firstV (w - (w&&&vN kn))
def seekS(E:Sg)(w:Nat):Nat→Nat→Sr→Option Rs
 | 0,_,_=>none
 | m+1,dec,s=>match pushD (E.hv++s.lr) dec with
  | none=>if dec=E.as then some (endS E s) else match rft E s dec with
   | .fin s x=>some (.fin s x)
   | .go s=>seekS E w m E.as { s with path:=[] }
  | some K =>
   if nxtD w K=0 then some (.go { s with vals:=s.vals|||(K&&&litsV w),done:=s.done++(s.path++[⟨dec,w,K&&&litsV w⟩]),path:=[] })
   else seekS E w m (dec|||bitN ((nxtD w K:Nat):Int)) { s with path:=s.path++[⟨dec,w,K&&&litsV w⟩] }
def goOn(E:Sg)(m:Nat):List Nat→Sr→Option Rs
 | [],s=>some (.go s)
 | w :: ws,s=>match seekS E w m E.as s with
  | none=>none
  | some (.fin s x)=>some (.fin s x)
  | some (.go s)=>goOn E m ws s
def runS(E:Sg)(m:Nat)(ws:List Nat)(s:Sr):Option (Sr × Ans):=match goOn E m (0 :: ws) s with
 | none=>none
 | some (.fin s x)=>some (s,x)
 | some (.go s)=>some (s,⟨1,0,listN s.vals,[],[]⟩)
theorem cv_add{a b w:Nat}:∀ n,(∀ u,1≤u→u≤n→(a.testBit u).toNat+(b.testBit u).toNat≤(w.testBit u).toNat)→cvTo a n+cvTo b n≤cvTo w n:=by
 intro n
 induction n with
 | zero=>intro _;simp[cvTo]
 | succ n ih =>
  intro h
  have h1:=ih (fun u a b=>h u a (by omega))
  have h2:=h (n+1) (by omega) (by omega)
  simp only[cvTo]
  omega
theorem size_cv{k w:Nat}(hk:SubN k (litsV w))(ht:twinB k=false):sizeN k≤cvN w:=by
 have hk20:k<2^20:=lt_pow_bits fun i hi=>by
  cases hb:k.testBit i with
  | false=>rfl
  | true=>have:=bit_lt (lits_msk w).top (hk i hb);omega
 have h2:=Two.of hk20
 rw[h2.size]
 refine cv_add 10 fun u h1 h10=>?_
 obtain⟨v,rfl⟩:∃ v,u=v+1:=⟨u - 1,by omega⟩
 rw[← h2.pos v (by omega),← h2.neg v (by omega)]
 have hp:=(twin_iff k).1 ht (2*v) (by omega)
 have e1:par (2*v)=2*v+1:=by unfold par;rw[if_pos (by omega)]
 rw[e1] at hp
 have q1:=hk (2*v)
 have q2:=hk (2*v+1)
 rw[lits_bit,show 2*v / 2=v by omega,decide_eq_true (by omega:2*v<20),Bool.true_and] at q1
 rw[lits_bit,show(2*v+1) / 2=v by omega,decide_eq_true (by omega:2*v+1<20),Bool.true_and] at q2
 cases a:k.testBit (2*v) with
 | true=>rw[hp a,q1 a];simp
 | false =>
  cases b:k.testBit (2*v+1) with
  | true=>rw[q2 b];simp
  | false=>simp
theorem closed_in{cs:List Nat}{W K:Nat}(hW:Msk W)(hs:∀ c∈cs,SubN c W)(h:ClD cs K):ClD cs (K&&&W):=by
 intro c hc
 obtain⟨q1,q2⟩:=h c hc
 have e:leftN c (K&&&W)=leftN c K:=left_ext fun i hi=>by
  have hw:=hs c hc i hi
  have hi20:=bit_lt hW.top hw
  rw[opp_par _ hi20,opp_par _ hi20,Nat.testBit_and,hW.sym i hi20,hw,Bool.and_true]
 rw[e]
 exact⟨q1,fun q'=>(q2 q').and ((left_sub c K).trans (hs c hc))⟩
structure CsOk(cs:List Nat)(A w:Nat):Prop where
 top:∀ c∈cs,c<2^20
 sep:Sep cs (litsV w)
 asm:A<2^20
theorem CsOk.sub{cs cs':List Nat}{A w:Nat}(h:CsOk cs A w)(hs:∀ c∈cs',c∈cs):CsOk cs' A w:=⟨fun c hc=>h.top c (hs c hc),fun c hc=>h.sep c (hs c hc),h.asm⟩
theorem kn_ok{cs:List Nat}{A w:Nat}(h:CsOk cs A w){d kn:Nat}(hd:d<2^20)(hk:lpush cs (litsV w) d=some kn):PushOk (inW cs (litsV w)) (d&&&litsV w) kn∧SubN kn (litsV w):=by
 have q:=push_some (in_top h.top _) (and_top hd) hk
 refine⟨q,?_⟩
 have hc:=closed_in (lits_msk w) (fun c hc=>(mem_in.1 hc).2) q.cl
 exact(q.least _ hc (q.sub.and (sub_and2 _ _))).trans (sub_and2 _ _)
def decF(cs:List Nat)(A w:Nat):Nat→Option Nat
 | 0=>some A
 | i+1=>match decF cs A w i with
  | none=>none
  | some d=>match lpush cs (litsV w) d with
   | none=>none
   | some kn=>if nxtD w kn=0 then none else some (d|||bitN ((nxtD w kn:Nat):Int))
def pathF(cs:List Nat)(A w:Nat):Nat→List Stp
 | 0=>[]
 | i+1=>pathF cs A w i++(match decF cs A w i with
  | none=>[]
  | some d=>match lpush cs (litsV w) d with
   | none=>[]
   | some kn=>[⟨d,w,kn⟩])
theorem decF_next{cs:List Nat}{A w i d':Nat}(h:decF cs A w (i+1)=some d'):∃ d kn,decF cs A w i=some d∧lpush cs (litsV w) d=some kn∧nxtD w kn≠0∧d'=d|||bitN ((nxtD w kn:Nat):Int):=by
 simp only[decF] at h
 split at h
 ·simp at h
 ·rename_i d hd
  split at h
  ·simp at h
  ·rename_i kn hkn
   split at h
   ·simp at h
   ·rename_i hn
    simp only[Option.some.injEq] at h
    exact⟨d,kn,hd,hkn,hn,h.symm⟩
theorem nxt_spec{w kn:Nat}(hkn:kn<2^20)(h:nxtD w kn≠0):∃ j,bitN ((nxtD w kn:Nat):Int)=2^j∧j<20∧j % 2=0∧(litsV w).testBit j=true∧kn.testBit j=false∧kn.testBit (par j)=false:=by
 obtain⟨h1,h2,h3⟩:=firstV_some h
 change 1≤nxtD w kn at h1
 change nxtD w kn<11 at h2
 have h3':(w - (w&&&vN kn)).testBit (nxtD w kn)=true:=h3
 rw[sub_and_bit,Bool.and_eq_true] at h3'
 generalize nxtD w kn=v at *
 obtain⟨u,rfl⟩:∃ u,v=u+1:=⟨v - 1,by omega⟩
 have hv:(vN kn).testBit (u+1)=false:=by simpa using h3'.2
 rw[vN_bit hkn (by omega),Bool.or_eq_false_iff] at hv
 have e1:par (2*u)=2*u+1:=by unfold par;rw[if_pos (by omega)]
 refine⟨2*u,?_,by omega,by omega,?_,hv.1,by rw[e1];exact hv.2⟩
 ·rw[bitN_pow]
  congr 1
  rw[show((u+1:Nat):Int)=(u:Int)+1 by omega,bitI_pos]
 ·rw[lits_bit,decide_eq_true (by omega),show 2*u / 2=u by omega,h3'.1];rfl
theorem nxt_none{w kn:Nat}(h:nxtD w kn=0):∀ u,1≤u→u<11→w.testBit u=true→(vN kn).testBit u=true:=by
 intro u h1 h2 hw
 have:=firstV_none (V:=w - (w&&&vN kn)) h u h1 h2
 rw[sub_and_bit,hw,Bool.true_and] at this
 simpa using this
theorem pow20{j:Nat}(h:j<20):2^j<2^20:=Nat.pow_lt_pow_right (by decide) h
theorem decF_ok{cs:List Nat}{A w:Nat}(h:CsOk cs A w):∀ {i d:Nat},decF cs A w i=some d→d<2^20∧SubN A d∧∀ j,d.testBit j=true→(litsV w).testBit j=false→A.testBit j=true:=by
 intro i
 induction i with
 | zero =>
  intro d hd
  simp only[decF,Option.some.injEq] at hd
  subst hd
  exact⟨h.asm,SubN.refl _,fun j a _=>a⟩
 | succ i ih =>
  intro d hd
  obtain⟨d0,kn,h1,h2,h3,rfl⟩:=decF_next hd
  obtain⟨a1,a2,a3⟩:=ih h1
  obtain⟨q,_⟩:=kn_ok h a1 h2
  obtain⟨j,e,hj,_,hw,_⟩:=nxt_spec q.top h3
  rw[e]
  refine⟨Nat.or_lt_two_pow a1 (pow20 hj),a2.trans (SubN.or_left _ _),fun i hi hn=>?_⟩
  rw[Nat.testBit_or,Bool.or_eq_true] at hi
  rcases hi with hi | hi
  ·exact a3 i hi hn
  ·rw[Nat.testBit_two_pow] at hi
   have:j=i:=by simpa using hi
   subst this
   rw[hw] at hn
   simp at hn
theorem decF_le{cs:List Nat}{A w i j d:Nat}(hd:decF cs A w j=some d)(hij:i≤j):∃ d',decF cs A w i=some d':=by
 induction j generalizing d with
 | zero=>exact⟨d,by rw[show i=0 by omega];exact hd⟩
 | succ j ih =>
  by_cases e:i=j+1
  ·exact⟨d,by rw[e];exact hd⟩
  ·obtain⟨d0,kn,h1,_⟩:=decF_next hd
   exact ih h1 (by omega)
theorem kn_mono{cs:List Nat}{A w:Nat}(h:CsOk cs A w){i d kn d' kn':Nat}(h1:decF cs A w i=some d)(h2:lpush cs (litsV w) d=some kn)(h3:decF cs A w (i+1)=some d')(h4:lpush cs (litsV w) d'=some kn'):SubN kn kn'∧sizeN kn+1≤sizeN kn':=by
 obtain⟨d0,kn0,a1,a2,a3,rfl⟩:=decF_next h3
 rw[h1] at a1
 simp only[Option.some.injEq] at a1
 subst a1
 rw[h2] at a2
 simp only[Option.some.injEq] at a2
 subst a2
 obtain⟨b1,_,_⟩:=decF_ok h h1
 obtain⟨c1,_,_⟩:=decF_ok h h3
 obtain⟨q,qw⟩:=kn_ok h b1 h2
 obtain⟨q',_⟩:=kn_ok h c1 h4
 obtain⟨j,e,hj,_,hw,hb,_⟩:=nxt_spec q.top a3
 rw[e] at q'
 have hs:SubN kn kn':=q.least _ q'.cl (((SubN.or_left d (2^j)).mono _).trans q'.sub)
 refine⟨hs,?_⟩
 have hjk:kn'.testBit j=true:=q'.sub j (by rw[Nat.testBit_and,pow_bit,hw];rfl)
 exact size_lt hs q'.top (fun e=>by rw[← e,hb] at hjk;simp at hjk)
theorem kn_monos{cs:List Nat}{A w:Nat}(h:CsOk cs A w):∀ {j i d kn d' kn':Nat},decF cs A w i=some d→lpush cs (litsV w) d=some kn→decF cs A w (i+j)=some d'→lpush cs (litsV w) d'=some kn'→SubN kn kn'∧sizeN kn+j≤sizeN kn':=by
 intro j
 induction j with
 | zero =>
  intro i d kn d' kn' h1 h2 h3 h4
  rw[Nat.add_zero,h1] at h3
  simp only[Option.some.injEq] at h3
  subst h3
  rw[h2] at h4
  simp only[Option.some.injEq] at h4
  subst h4
  exact⟨SubN.refl _,Nat.le_refl _⟩
 | succ j ih =>
  intro i d kn d' kn' h1 h2 h3 h4
  obtain⟨d0,kn0,a1,a2,_,_⟩:=decF_next (i:=i+j) h3
  obtain⟨b1,b2⟩:=ih h1 h2 a1 a2
  obtain⟨c1,c2⟩:=kn_mono h a1 a2 h3 h4
  exact⟨b1.trans c1,by omega⟩
theorem kn_size{cs:List Nat}{A w:Nat}(h:CsOk cs A w){i d kn:Nat}(h1:decF cs A w i=some d)(h2:lpush cs (litsV w) d=some kn):i≤sizeN kn∧sizeN kn≤cvN w:=by
 obtain⟨a1,_,_⟩:=decF_ok h h1
 obtain⟨q,qw⟩:=kn_ok h a1 h2
 refine⟨?_,size_cv qw q.twin⟩
 cases i with
 | zero=>omega
 | succ i =>
  obtain⟨d0,kn0,b1,b2,_,_⟩:=decF_next h1
  obtain⟨dA,hA⟩:=decF_le h1 (Nat.zero_le _)
  have hz:∃ kz,lpush cs (litsV w) A=some kz:=by
   have:decF cs A w 1≠none:=by
    obtain⟨d1,hd1⟩:=decF_le h1 (by omega:1≤i+1)
    rw[hd1];simp
   cases hk:lpush cs (litsV w) A with
   | none=>simp[decF,hk] at this
   | some kz=>exact⟨kz,rfl⟩
  obtain⟨kz,hkz⟩:=hz
  have:=(kn_monos h (j:=i+1) (i:=0) (d:=A) rfl hkz (by rw[Nat.zero_add];exact h1) h2).2
  omega
def dgF(cs:List Nat)(A w:Nat)(i:Nat):Nat:=match decF cs A w i with
 | none=>0
 | some d=>match lpush cs (litsV w) d with
  | none=>12
  | some kn=>1+sizeN kn
def potF(cs:List Nat)(A w:Nat):Nat→Nat
 | 0=>0
 | n+1=>13*potF cs A w n+dgF cs A w n
theorem dg_le{cs:List Nat}{A w:Nat}(h:CsOk cs A w)(i:Nat):dgF cs A w i≤12:=by
 unfold dgF
 cases hd:decF cs A w i with
 | none=>simp
 | some d =>
  simp only
  cases hk:lpush cs (litsV w) d with
  | none=>simp
  | some kn =>
   have:=(kn_size h hd hk).2
   have:=cvN_le w
   simp only
   omega
theorem pot_lt{cs:List Nat}{A w:Nat}(h:CsOk cs A w):∀ n,potF cs A w n<13^n:=by
 intro n
 induction n with
 | zero=>simp[potF]
 | succ n ih =>
  have:=dg_le h n
  simp only[potF,Nat.pow_succ]
  omega
theorem pot_same{cs cs':List Nat}{A w:Nat}:∀ n,(∀ i,i<n→dgF cs A w i=dgF cs' A w i)→potF cs A w n=potF cs' A w n:=by
 intro n
 induction n with
 | zero=>intro _;rfl
 | succ n ih =>
  intro h
  simp only[potF]
  rw[ih (fun i hi=>h i (by omega)),h n (by omega)]
theorem pot_more{cs cs':List Nat}{A w:Nat}(h:CsOk cs A w){k:Nat}(hs:∀ i,i<k→dgF cs A w i=dgF cs' A w i)(hk:dgF cs A w k<dgF cs' A w k):∀ n,k<n→potF cs A w n<potF cs' A w n:=by
 intro n
 induction n with
 | zero=>intro h;omega
 | succ n ih =>
  intro hn
  simp only[potF]
  by_cases e:n=k
  ·subst e
   rw[pot_same n hs]
   omega
  ·have:=ih (by omega)
   have:=dg_le h n
   omega
theorem dec_same{cs cs':List Nat}{A w:Nat}:∀ {k:Nat},(∀ j d,j<k→decF cs A w j=some d→lpush cs' (litsV w) d=lpush cs (litsV w) d)→∀ i,i≤k→decF cs' A w i=decF cs A w i:=by
 intro k h i
 induction i with
 | zero=>intro _;rfl
 | succ i ih =>
  intro hi
  have e:=ih (by omega)
  simp only[decF]
  rw[e]
  cases hd:decF cs A w i with
  | none=>rfl
  | some d =>
   simp only
   rw[h i d (by omega) hd]
theorem path_same{cs cs':List Nat}{A w:Nat}{k:Nat}(h:∀ j d,j<k→decF cs A w j=some d→lpush cs' (litsV w) d=lpush cs (litsV w) d):∀ i,i≤k→pathF cs' A w i=pathF cs A w i:=by
 intro i
 induction i with
 | zero=>intro _;rfl
 | succ i ih =>
  intro hi
  simp only[pathF]
  rw[ih (by omega),dec_same h i (by omega)]
  cases hd:decF cs A w i with
  | none=>rfl
  | some d =>
   simp only
   rw[h i d (by omega) hd]
theorem mem_path{cs:List Nat}{A w:Nat}:∀ {n:Nat} {p:Stp},p∈pathF cs A w n→∃ i d kn,i<n∧decF cs A w i=some d∧lpush cs (litsV w) d=some kn∧p=⟨d,w,kn⟩:=by
 intro n
 induction n with
 | zero=>intro p hp;simp[pathF] at hp
 | succ n ih =>
  intro p hp
  simp only[pathF] at hp
  rcases List.mem_append.1 hp with hp | hp
  ·obtain⟨i,d,kn,a,b,c,e⟩:=ih hp
   exact⟨i,d,kn,by omega,b,c,e⟩
  ·cases hd:decF cs A w n with
   | none=>rw[hd] at hp;simp at hp
   | some d =>
    rw[hd] at hp
    simp only at hp
    cases hk:lpush cs (litsV w) d with
    | none=>rw[hk] at hp;simp at hp
    | some kn =>
     rw[hk] at hp
     exact⟨n,d,kn,by omega,hd,hk,List.mem_singleton.1 hp⟩
theorem path_mem{cs:List Nat}{A w:Nat}{i d kn:Nat}(h1:decF cs A w i=some d)(h2:lpush cs (litsV w) d=some kn):∀ {n:Nat},i<n→(⟨d,w,kn⟩:Stp)∈pathF cs A w n:=by
 intro n
 induction n with
 | zero=>intro h;omega
 | succ n ih =>
  intro hi
  simp only[pathF]
  by_cases e:i=n
  ·subst e
   rw[h1]
   simp only
   rw[h2]
   exact List.mem_append_right _ (List.mem_singleton.2 rfl)
  ·exact List.mem_append_left _ (ih (by omega))
def Enough(R:List Nat)(ps:List Stp):Prop:=∀ p∈ps,∀ K',ClD R K'→SubN (p.dec&&&litsV p.vs) K'→SubN p.kn K'
theorem Enough.sub{R R':List Nat}{ps:List Stp}(h:Enough R ps)(hs:∀ c∈R,c∈R'):Enough R' ps:=fun p hp K' hC hk=>h p hp K' (hC.sub hs) hk
theorem path_reasons{cs:List Nat}{A w:Nat}(h:CsOk cs A w):∀ (i:Nat) {d kn:Nat},decF cs A w i=some d→lpush cs (litsV w) d=some kn→∃ R:List Nat,(∀ c∈R,c∈inW cs (litsV w))∧R.length+i≤sizeN kn∧Enough R (pathF cs A w (i+1)):=by
 intro i
 induction i with
 | zero =>
  intro d kn h1 h2
  obtain⟨a1,_,_⟩:=decF_ok h h1
  obtain⟨q,qw⟩:=kn_ok h a1 h2
  obtain⟨R,r1,r2,r3⟩:=reasons q.top q.cl _ (d&&&litsV w) (Nat.le_refl _) q.sub q.least
  refine⟨R,r1,by omega,fun p hp K' hC hk=>?_⟩
  obtain⟨j,d',kn',hj,b1,b2,rfl⟩:=mem_path hp
  have:j=0:=by omega
  subst this
  rw[h1] at b1
  simp only[Option.some.injEq] at b1
  subst b1
  rw[h2] at b2
  simp only[Option.some.injEq] at b2
  subst b2
  exact r3 K' hC hk
 | succ i ih =>
  intro d kn h1 h2
  obtain⟨d0,kn0,a1,a2,a3,ed⟩:=decF_next h1
  obtain⟨R,r1,r2,r3⟩:=ih a1 a2
  obtain⟨b1,_,_⟩:=decF_ok h a1
  obtain⟨c1,_,_⟩:=decF_ok h h1
  obtain⟨q0,qw0⟩:=kn_ok h b1 a2
  obtain⟨q,qw⟩:=kn_ok h c1 h2
  obtain⟨j,ej,hj,_,hw,hb,_⟩:=nxt_spec q0.top a3
  rw[ej] at ed
  obtain⟨hs,_⟩:=kn_mono h a1 a2 h1 h2
  have hjk:kn.testBit j=true:=q.sub j (by rw[Nat.testBit_and,ed,pow_bit,hw];rfl)
  have hd1:SubN (d&&&litsV w) (kn0|||2^j):=by
   intro x hx
   rw[Nat.testBit_and,Bool.and_eq_true,ed,Nat.testBit_or,Bool.or_eq_true] at hx
   rw[Nat.testBit_or,Bool.or_eq_true]
   rcases hx with⟨hx | hx,hw'⟩
   ·exact .inl (q0.sub x (by rw[Nat.testBit_and,hx,hw'];rfl))
   ·exact .inr hx
  obtain⟨R2,s1,s2,s3⟩:=reasons q.top q.cl _ (kn0|||2^j) (Nat.le_refl _) (sub_pow hs hjk) (fun K' hC hk=>q.least K' hC (hd1.trans hk))
  have hsz:=size_pow hj q0.top hb
  refine⟨R++R2,fun c hc=>(List.mem_append.1 hc).elim (r1 c) (s1 c),by rw[List.length_append];omega,?_⟩
  have hR:Enough (R++R2) (pathF cs A w (i+1)):=r3.sub fun c hc=>List.mem_append_left _ hc
  intro p hp K' hC hk
  obtain⟨jj,d',kn',hjj,b1',b2',rfl⟩:=mem_path hp
  by_cases e:jj=i+1
  ·subst e
   rw[h1] at b1'
   simp only[Option.some.injEq] at b1'
   subst b1'
   rw[h2] at b2'
   simp only[Option.some.injEq] at b2'
   subst b2'
   refine s3 K' (hC.sub fun c hc=>List.mem_append_right _ hc) ?_
   have hk0:=hR ⟨d0,w,kn0⟩ (path_mem a1 a2 (by omega)) K' hC (by
    refine SubN.trans ?_ hk
    rw[ed]
    exact(SubN.or_left _ _).mono _)
   exact sub_pow hk0 (hk j (by rw[Nat.testBit_and,ed,pow_bit,hw];rfl))
  ·exact hR _ (path_mem b1' b2' (by omega)) K' hC hk
end Go.Proofs.YthboeppmlhbofabDoor
