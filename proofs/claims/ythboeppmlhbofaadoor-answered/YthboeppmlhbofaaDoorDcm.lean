import Derived.Test.YthboeppmlhbofaaDoorDcj
import Derived.Test.YthboeppmlhbofaaDoorHac
namespace Go.Proofs.YthboeppmlhbofaaDoor
open Go.RowKit Txt
set_option maxRecDepth 100000
def BG(seen u:Nat):Nat→List Int
 | 0=>[]
 | k+1=>BG seen u k++(if seen.testBit (2*k) then [if u.testBit k then (k:Int)+1 else -((k:Int)+1)] else [])
def M8(u:Nat):Nat→Nat
 | 0=>0
 | k+1=>M8 u k|||(if u.testBit k then 2^k else 0)
theorem U6(u:Nat):∀ k i,(M8 u k).testBit i=(decide (i<k) && u.testBit i):=by
 intro k
 induction k with
 | zero=>intro i;simp[M8]
 | succ k ih =>
  intro i
  simp only[M8]
  rw[Nat.testBit_or,ih]
  by_cases e:i=k
  ·subst e
   rw[decide_eq_false (by omega:¬ i<i),decide_eq_true (by omega:i<i+1)]
   cases h:u.testBit i
   ·simp
   ·simp
  ·have hz:(if u.testBit k=true then 2^k else 0).testBit i=false:=by
    split
    ·rw[Nat.testBit_two_pow];simp;omega
    ·simp
   rw[hz,Bool.or_false]
   by_cases h:i<k
   ·rw[decide_eq_true h,decide_eq_true (by omega:i<k+1)]
   ·rw[decide_eq_false h,decide_eq_false (by omega:¬ i<k+1)]
theorem ZO(u:Nat):∀ k,M8 u k<2^k:=by
 intro k
 induction k with
 | zero=>simp[M8]
 | succ k ih =>
  simp only[M8]
  refine Nat.or_lt_two_pow (Nat.lt_trans ih (Nat.pow_lt_pow_right (by decide) (by omega))) ?_
  split
  ·exact Nat.pow_lt_pow_right (by decide) (by omega)
  ·exact Nat.pow_pos (by decide)
theorem Wi{u:Nat}(hu:u<1024):M8 u 10=u:=by
 apply Nat.eq_of_testBit_eq
 intro i
 rw[U6]
 by_cases h:i<10
 ·rw[decide_eq_true h,Bool.true_and]
 ·rw[decide_eq_false h,Bool.false_and,Nat.testBit_lt_two_pow (Nat.lt_of_lt_of_le hu (Nat.pow_le_pow_right (n:=2) (i:=10) (by decide) (by omega)))]
theorem XW(seen u:Nat):∀ k,(BG seen u k).length≤k:=by
 intro k
 induction k with
 | zero=>simp[BG]
 | succ k ih =>
  simp only[BG,List.length_append]
  split <;> simp <;> omega
theorem QC(seen u k:Nat):∀ m,∃ l,BG seen u (k+m)=BG seen u k++l:=by
 intro m
 induction m with
 | zero=>exact⟨[],by simp⟩
 | succ m ih =>
  obtain⟨l,h⟩:=ih
  exact⟨l++(if seen.testBit (2*(k+m)) then [if u.testBit (k+m) then ((k+m:Nat):Int)+1 else -(((k+m:Nat):Int)+1)] else []),by rw[show k+(m+1)=(k+m)+1 by omega];simp only[BG];rw[h,List.append_assoc]⟩
theorem Sm(seen u k:Nat)(hk:k<10)(hs:seen.testBit (2*k)=true):(BG seen u k).length<(BG seen u 10).length∧(BG seen u 10).getD (BG seen u k).length 0=(if u.testBit k then (k:Int)+1 else -((k:Int)+1)):=by
 obtain⟨l,h⟩:=QC seen u (k+1) (9 - k)
 rw[show k+1+(9 - k)=10 by omega] at h
 have h1:BG seen u (k+1)=BG seen u k++[if u.testBit k then (k:Int)+1 else -((k:Int)+1)]:=by simp only[BG];rw[hs];rfl
 rw[h,h1,List.append_assoc]
 refine⟨by simp,?_⟩
 rw[List.getD_eq_getElem?_getD,List.getElem?_append_right (Nat.le_refl _),Nat.sub_self]
 rfl
theorem QM(n:Nat)(h:n<2^10):wrap64 (n:Int)=(n:Int):=by unfold wrap64;omega
theorem XE(q k:Nat)(hq:q<1024)(hk:k<10):bits .or .i64 (q:Int) (wrap64 (2^k))=((q|||2^k:Nat):Int):=by
 have e2:((2:Int)^k)=((2^k:Nat):Int):=by rw[Int.natCast_pow];rfl
 have hp:2^k<2^10:=Nat.pow_lt_pow_right (by decide) hk
 rw[e2]
 generalize 2^k=pk at *
 rw[QM pk hp]
 exact Kn q pk (by omega) (by omega)
structure M9(hv:List Nat)(seen must:Nat)(x:Gg)(u:Nat):Prop where
 lt:u<1024
 vs:x.vs=BG seen u 10
 un:∀ k,k<10→seen.testBit (2*k)=false→u.testBit k=false
 al:EH hv must u=true
 co:x.co=[]
 cl:x.cl=[]
 re:x.re=0
theorem Wn(s k:Nat)(hs:s<1048576)(hk:k<10):bits .and .i64 (s:Int) ((2^(2*k):Nat):Int)=(((s.testBit (2*k)).toNat*2^(2*k):Nat):Int):=by
 have hp:2^(2*k)<2^20:=Nat.pow_lt_pow_right (by decide) (by omega)
 rw[Eb s (2^(2*k)) (by omega) (by omega)]
 congr 1
 apply Nat.eq_of_testBit_eq
 intro i
 rw[Nat.testBit_and,Nat.testBit_two_pow]
 cases h:s.testBit (2*k)
 ·by_cases e:2*k=i
  ·subst e;rw[h];simp
  ·rw[decide_eq_false e];simp
 ·by_cases e:2*k=i
  ·subst e;rw[h];simp
  ·rw[decide_eq_false e];simp[Nat.testBit_two_pow];omega
def CS(n:Int):Nat:=if 0<n then (2*n - 2).toNat else (-2*n - 1).toNat
theorem KI(n:Int):Cs n=2^CS n:=by
 unfold Cs CS
 split <;> rfl
theorem Vc{n:Int}(h:AK n=true):CS n<20:=by
 simp only[AK,Bool.and_eq_true,bne_iff_ne,decide_eq_true_eq] at h
 unfold CS
 split <;> omega
def wo(s:Nat)(n:Int):Nat:=s - (s&&&Cs n)
theorem Fq(s:Nat)(n:Int)(i:Nat):(wo s n).testBit i=(s.testBit i && decide (i≠CS n)):=by
 unfold wo
 rw[BF,KI,Nat.testBit_two_pow]
 congr 1
 by_cases h:CS n=i
 ·subst h;simp
 ·have h':i≠CS n:=fun e=>h e.symm
  simp[h,h']
theorem QK(s:Nat)(n:Int):AH (wo s n) s:=fun i h=>by rw[Fq,Bool.and_eq_true] at h;exact h.1
theorem Jr{s:Nat}(n:Int)(h:s<2^20):wo s n<2^20:=Nat.lt_of_le_of_lt (Nat.sub_le _ _) h
def FO(s:Nat):Nat→List Int
 | 0=>[]
 | v+1=>FO s v++((if s.testBit (2*v) then [(v:Int)+1] else [])++(if s.testBit (2*v+1) then [-((v:Int)+1)] else []))
def AM(s:Nat):List Int:=FO s 10
theorem Rx(s:Nat):∀ k,k≤10→∀ x∈FO s k,AK x=true:=by
 intro k
 induction k with
 | zero=>intro _ x hx;simp[FO] at hx
 | succ k ih =>
  intro hk x hx
  simp only[FO,List.mem_append] at hx
  rcases hx with hx | hx | hx
  ·exact ih (by omega) x hx
  ·split at hx
   ·rw[List.mem_singleton.1 hx]
    simp only[AK,Bool.and_eq_true,bne_iff_ne,decide_eq_true_eq];omega
   ·simp at hx
  ·split at hx
   ·rw[List.mem_singleton.1 hx]
    simp only[AK,Bool.and_eq_true,bne_iff_ne,decide_eq_true_eq];omega
   ·simp at hx
theorem ED(s:Nat):(AM s).all AK=true:=List.all_eq_true.2 fun x hx=>Rx s 10 (by omega) x hx
theorem GF(xs ys:List Int):Ak (xs++ys)=Ak xs|||Ak ys:=by
 have key:∀ (ys:List Int) (a:Nat),ys.foldl (fun a l=>a|||Cs l) a=a|||ys.foldl (fun a l=>a|||Cs l) 0:=by
  intro ys
  induction ys with
  | nil=>intro a;simp
  | cons y ys ih=>intro a;simp only[List.foldl_cons];rw[ih (a|||Cs y),ih (0|||Cs y),Nat.zero_or,Nat.or_assoc]
 unfold Ak
 rw[List.foldl_append,key]
theorem IZ(v:Nat):CS ((v:Int)+1)=2*v:=by unfold CS;rw[if_pos (by omega)];omega
theorem KH(v:Nat):CS (-((v:Int)+1))=2*v+1:=by unfold CS;rw[if_neg (by omega)];omega
theorem GG(x:Int):Ak [x]=2^CS x:=by simp[Ak,KI]
theorem UB(s:Nat):∀ k i,(Ak (FO s k)).testBit i=(decide (i<2*k) && s.testBit i):=by
 intro k
 induction k with
 | zero=>intro i;simp[FO,Ak]
 | succ k ih =>
  intro i
  simp only[FO]
  rw[GF,GF,Nat.testBit_or,Nat.testBit_or,ih]
  have h1:(Ak (if s.testBit (2*k)=true then [(k:Int)+1] else [])).testBit i=(s.testBit (2*k) && decide (i=2*k)):=by
   cases s.testBit (2*k)
   ·simp[Ak]
   ·rw[if_pos rfl,GG,IZ,Nat.testBit_two_pow,Bool.true_and]
    by_cases h:2*k=i
    ·subst h;simp
    ·rw[decide_eq_false h,decide_eq_false (fun e=>h e.symm)]
  have h2:(Ak (if s.testBit (2*k+1)=true then [-((k:Int)+1)] else [])).testBit i=(s.testBit (2*k+1) && decide (i=2*k+1)):=by
   cases s.testBit (2*k+1)
   ·simp[Ak]
   ·rw[if_pos rfl,GG,KH,Nat.testBit_two_pow,Bool.true_and]
    by_cases h:2*k+1=i
    ·subst h;simp
    ·rw[decide_eq_false h,decide_eq_false (fun e=>h e.symm)]
  rw[h1,h2]
  by_cases e1:i=2*k
  ·subst e1
   rw[decide_eq_false (by omega:¬ 2*k<2*k),decide_eq_true (by omega:2*k<2*(k+1)),decide_eq_false (by omega:¬ 2*k=2*k+1)]
   simp
  ·by_cases e2:i=2*k+1
   ·subst e2
    rw[decide_eq_false (by omega:¬ 2*k+1<2*k),decide_eq_true (by omega:2*k+1<2*(k+1)),decide_eq_false (by omega:¬ 2*k+1=2*k)]
    simp
   ·rw[decide_eq_false e1,decide_eq_false e2]
    by_cases h:i<2*k
    ·rw[decide_eq_true h,decide_eq_true (by omega:i<2*(k+1))];simp
    ·rw[decide_eq_false h,decide_eq_false (by omega:¬ i<2*(k+1))];simp
theorem En{s:Nat}(hs:s<2^20):AO (AM s)=s:=by
 unfold AO
 rw[ED,if_pos rfl]
 apply Nat.eq_of_testBit_eq
 intro i
 unfold AM
 rw[UB]
 by_cases h:i<20
 ·rw[decide_eq_true (by omega:i<2*10),Bool.true_and]
 ·rw[decide_eq_false (by omega:¬ i<2*10),Bool.false_and,Nat.testBit_lt_two_pow (Nat.lt_of_lt_of_le hs (Nat.pow_le_pow_right (n:=2) (i:=20) (by decide) (by omega)))]
theorem Nu(s:Nat):∀ k,(FO s k).length=Bq s (2*k):=by
 intro k
 induction k with
 | zero=>rfl
 | succ k ih =>
  rw[show 2*(k+1)=2*k+1+1 by omega]
  simp only[FO,Bq,List.length_append,ih,Ic]
  cases s.testBit (2*k) <;> cases s.testBit (2*k+1) <;> simp
theorem BH(s:Nat):(AM s).length=AG s:=Nu s 10
def Ta(V:Nat):Nat→Nat→Nat
 | 0,_=>0
 | m+1,v=>if V.testBit v then v else Ta V m (v+1)
def EB(V:Nat):Nat:=Ta V 10 1
theorem NZ(V:Nat):∀ m v,1≤v→(Ta V m v=0∧∀ u,v≤u→u<v+m→V.testBit u=false)∨(v≤Ta V m v∧Ta V m v<v+m∧V.testBit (Ta V m v)=true):=by
 intro m
 induction m with
 | zero=>intro v _;exact .inl ⟨rfl,fun u a b=>by omega⟩
 | succ m ih =>
  intro v hv
  simp only[Ta]
  cases hb:V.testBit v with
  | true=>exact .inr ⟨by simp,by simp,by simpa using hb⟩
  | false =>
   simp only[Bool.false_eq_true,if_false]
   rcases ih (v+1) (by omega) with⟨h1,h2⟩ | ⟨h1,h2,h3⟩
   ·refine .inl ⟨h1,fun u a b=>?_⟩
    by_cases e:u=v
    ·subst e;exact hb
    ·exact h2 u (by omega) (by omega)
   ·exact .inr ⟨by omega,by omega,h3⟩
theorem NV{V:Nat}(h:EB V=0):∀ u,1≤u→u<11→V.testBit u=false:=by
 rcases NZ V 10 1 (by omega) with⟨_,h2⟩ | ⟨h1,h2,_⟩
 ·exact fun u a b=>h2 u a (by omega)
 ·unfold EB at h;omega
theorem Jg{V:Nat}(h:EB V≠0):1≤EB V∧EB V<11∧V.testBit (EB V)=true:=by
 rcases NZ V 10 1 (by omega) with⟨h1,_⟩ | ⟨h1,h2,h3⟩
 ·exact absurd h1 h
 ·exact⟨h1,by unfold EB;omega,h3⟩
structure H9 where
 dec:Nat
 vs:Nat
 kn:Nat
structure Sr where
 lr:List Nat
 h:Int
 l:Int
 sp:Nat
 path:List H9
 done:List H9
 ls:List EY
 vals:Nat
inductive Rs where
 | go (s:Sr)
 | fin (s:Sr) (x:Gg)
structure Sg where
 hv:List Nat
 xs:List Int
 b:Int
 r:Int
def Sg.as(E:Sg):Nat:=AO E.xs
def U8(re:Int)(c:Nat):Gg:=⟨3,re,[],[],AM c⟩
def JI(lt:UInt8)(c:Nat)(s:Sr):Rs:=if s.l<(AG c:Int)+1 then .fin s (U8 3 c) else .go { s with l:=s.l - ((AG c:Int)+1),ls:=s.ls++[(lt,AM c)] }
def VO(c:Nat)(s:Sr):Rs:=if s.h<(AG c:Int) then .fin s (U8 2 c) else match JI 97 c s with
 | .fin s x=>.fin s x
 | .go s=>.go { s with h:=s.h - (AG c:Int),sp:=s.sp+1,lr:=s.lr++[c] }
def Al(cs:List Nat):List Int→Nat→Nat
 | [],d=>d
 | n :: xs,d=>Al cs xs (if AU cs (wo d n) then wo d n else d)
def Hz(cs:List Nat)(d:Nat):Nat:=match BQ cs d with
 | none=>0
 | some K=>K
def CT(cs:List Nat)(ps:List H9):Bool:=ps.all fun p=>Hz cs p.dec&&&AI p.vs == p.kn
def FY(E:Sg)(s:Sr)(c dec:Nat):Bool:=AU (E.hv++s.lr.erase c) dec && CT (E.hv++s.lr.erase c) s.path && CT (E.hv++s.lr.erase c) s.done
def CH(E:Sg)(s:Sr)(dec:Nat):List Nat→Nat→Nat
 | [],m=>m
 | c :: cs,m=>CH E s dec cs (if AG c≤AG m then m else if FY E s c dec then c else m)
def S8(E:Sg)(s:Sr)(dec:Nat):Rs:=if E.r=0∨(s.lr.length:Int)<E.r then .go s else match JI 100 (CH E s dec s.lr 0) s with
 | .fin s x=>.fin s x
 | .go s'=>.go { s' with lr:=s'.lr.erase (CH E s dec s.lr 0),h:=s'.h+(AG (CH E s dec s.lr 0):Int) }
def WH(E:Sg)(s:Sr)(dec:Nat):Rs:=if 0<E.b∧E.b≤(s.sp:Int) then .fin s (U8 1 0) else match S8 E s dec with
 | .fin s x=>.fin s x
 | .go s=>VO (AS (Al (E.hv++s.lr) E.xs dec)) s
def Au:Nat→List Int→List Int
 | _,[]=>[]
 | c,n :: xs=>if c.testBit (CS n) then n :: Au (wo c n) xs else Au c xs
def LP(E:Sg)(s:Sr):Rs:=match JI 101 (AS (Al (E.hv++s.lr) E.xs E.as)) s with
 | .fin s x=>.fin s x
 | .go s=>.fin s ⟨2,0,[],Au (Al (E.hv++s.lr) E.xs E.as) E.xs,[]⟩
def Cb(w kn:Nat):Nat:=EB (w - (w&&&vN kn))
def D9(E:Sg)(w:Nat):Nat→Nat→Sr→Option Rs
 | 0,_,_=>none
 | m+1,dec,s=>match BQ (E.hv++s.lr) dec with
  | none=>if dec=E.as then some (LP E s) else match WH E s dec with
   | .fin s x=>some (.fin s x)
   | .go s=>D9 E w m E.as { s with path:=[] }
  | some K =>
   if Cb w K=0 then some (.go { s with vals:=s.vals|||(K&&&AI w),done:=s.done++(s.path++[⟨dec,w,K&&&AI w⟩]),path:=[] })
   else D9 E w m (dec|||Cs ((Cb w K:Nat):Int)) { s with path:=s.path++[⟨dec,w,K&&&AI w⟩] }
def Js(E:Sg)(m:Nat):List Nat→Sr→Option Rs
 | [],s=>some (.go s)
 | w :: ws,s=>match D9 E w m E.as s with
  | none=>none
  | some (.fin s x)=>some (.fin s x)
  | some (.go s)=>Js E m ws s
def WJ(E:Sg)(m:Nat)(ws:List Nat)(s:Sr):Option (Sr × Gg):=match Js E m (0 :: ws) s with
 | none=>none
 | some (.fin s x)=>some (s,x)
 | some (.go s)=>some (s,⟨1,0,AM s.vals,[],[]⟩)
theorem PB{a b w:Nat}:∀ n,(∀ u,1≤u→u≤n→(a.testBit u).toNat+(b.testBit u).toNat≤(w.testBit u).toNat)→Gp a n+Gp b n≤Gp w n:=by
 intro n
 induction n with
 | zero=>intro _;simp[Gp]
 | succ n ih =>
  intro h
  have h1:=ih (fun u a b=>h u a (by omega))
  have h2:=h (n+1) (by omega) (by omega)
  simp only[Gp]
  omega
theorem J8{k w:Nat}(hk:AH k (AI w))(ht:A4 k=false):AG k≤CU w:=by
 have hk20:k<2^20:=BX fun i hi=>by
  cases hb:k.testBit i with
  | false=>rfl
  | true=>have:=A8 (Ba w).top (hk i hb);omega
 have h2:=Bf.of hk20
 rw[h2.size]
 refine PB 10 fun u h1 h10=>?_
 obtain⟨v,rfl⟩:∃ v,u=v+1:=⟨u - 1,by omega⟩
 rw[← h2.pos v (by omega),← h2.neg v (by omega)]
 have hp:=(DS k).1 ht (2*v) (by omega)
 have e1:Dk (2*v)=2*v+1:=by unfold Dk;rw[if_pos (by omega)]
 rw[e1] at hp
 have q1:=hk (2*v)
 have q2:=hk (2*v+1)
 rw[Av,show 2*v / 2=v by omega,decide_eq_true (by omega:2*v<20),Bool.true_and] at q1
 rw[Av,show(2*v+1) / 2=v by omega,decide_eq_true (by omega:2*v+1<20),Bool.true_and] at q2
 cases a:k.testBit (2*v) with
 | true=>rw[hp a,q1 a];simp
 | false =>
  cases b:k.testBit (2*v+1) with
  | true=>rw[q2 b];simp
  | false=>simp
theorem RY{cs:List Nat}{W K:Nat}(hW:TF W)(hs:∀ c∈cs,AH c W)(h:Ht cs K):Ht cs (K&&&W):=by
 intro c hc
 obtain⟨q1,q2⟩:=h c hc
 have e:Ah c (K&&&W)=Ah c K:=Ij fun i hi=>by
  have hw:=hs c hc i hi
  have hi20:=A8 hW.top hw
  rw[Bh _ hi20,Bh _ hi20,Nat.testBit_and,hW.sym i hi20,hw,Bool.and_true]
 rw[e]
 exact⟨q1,fun q'=>(q2 q').and ((Fv c K).trans (hs c hc))⟩
structure Dl(cs:List Nat)(A w:Nat):Prop where
 top:∀ c∈cs,c<2^20
 sep:Yn cs (AI w)
 asm:A<2^20
theorem Dl.sub{cs cs':List Nat}{A w:Nat}(h:Dl cs A w)(hs:∀ c∈cs',c∈cs):Dl cs' A w:=⟨fun c hc=>h.top c (hs c hc),fun c hc=>h.sep c (hs c hc),h.asm⟩
theorem De{cs:List Nat}{A w:Nat}(h:Dl cs A w){d kn:Nat}(hd:d<2^20)(hk:A5 cs (AI w) d=some kn):MA (Lg cs (AI w)) (d&&&AI w) kn∧AH kn (AI w):=by
 have q:=DG (KY h.top _) (EI hd) hk
 refine⟨q,?_⟩
 have hc:=RY (Ba w) (fun c hc=>(Dt.1 hc).2) q.cl
 exact(q.least _ hc (q.sub.and (Dy _ _))).trans (Dy _ _)
def BM(cs:List Nat)(A w:Nat):Nat→Option Nat
 | 0=>some A
 | i+1=>match BM cs A w i with
  | none=>none
  | some d=>match A5 cs (AI w) d with
   | none=>none
   | some kn=>if Cb w kn=0 then none else some (d|||Cs ((Cb w kn:Nat):Int))
def Bn(cs:List Nat)(A w:Nat):Nat→List H9
 | 0=>[]
 | i+1=>Bn cs A w i++(match BM cs A w i with
  | none=>[]
  | some d=>match A5 cs (AI w) d with
   | none=>[]
   | some kn=>[⟨d,w,kn⟩])
theorem BV{cs:List Nat}{A w i d':Nat}(h:BM cs A w (i+1)=some d'):∃ d kn,BM cs A w i=some d∧A5 cs (AI w) d=some kn∧Cb w kn≠0∧d'=d|||Cs ((Cb w kn:Nat):Int):=by
 simp only[BM] at h
 split at h
 ·simp at h
 ·rename_i d hd
  split at h
  ·simp at h
  ·rename_i kn hkn
   split at h
   ·simp at h
   ·rename_i hn
    simp only[Option.some.injEq] at h
    exact⟨d,kn,hd,hkn,hn,h.symm⟩
theorem FG{w kn:Nat}(hkn:kn<2^20)(h:Cb w kn≠0):∃ j,Cs ((Cb w kn:Nat):Int)=2^j∧j<20∧j % 2=0∧(AI w).testBit j=true∧kn.testBit j=false∧kn.testBit (Dk j)=false:=by
 obtain⟨h1,h2,h3⟩:=Jg h
 change 1≤Cb w kn at h1
 change Cb w kn<11 at h2
 have h3':(w - (w&&&vN kn)).testBit (Cb w kn)=true:=h3
 rw[BF,Bool.and_eq_true] at h3'
 generalize Cb w kn=v at *
 obtain⟨u,rfl⟩:∃ u,v=u+1:=⟨v - 1,by omega⟩
 have hv:(vN kn).testBit (u+1)=false:=by simpa using h3'.2
 rw[Mw hkn (by omega),Bool.or_eq_false_iff] at hv
 have e1:Dk (2*u)=2*u+1:=by unfold Dk;rw[if_pos (by omega)]
 refine⟨2*u,?_,by omega,by omega,?_,hv.1,by rw[e1];exact hv.2⟩
 ·rw[KI]
  congr 1
  rw[show((u+1:Nat):Int)=(u:Int)+1 by omega,IZ]
 ·rw[Av,decide_eq_true (by omega),show 2*u / 2=u by omega,h3'.1];rfl
theorem UQ{w kn:Nat}(h:Cb w kn=0):∀ u,1≤u→u<11→w.testBit u=true→(vN kn).testBit u=true:=by
 intro u h1 h2 hw
 have:=NV (V:=w - (w&&&vN kn)) h u h1 h2
 rw[BF,hw,Bool.true_and] at this
 simpa using this
theorem Uc{j:Nat}(h:j<20):2^j<2^20:=Nat.pow_lt_pow_right (by decide) h
theorem Bg{cs:List Nat}{A w:Nat}(h:Dl cs A w):∀ {i d:Nat},BM cs A w i=some d→d<2^20∧AH A d∧∀ j,d.testBit j=true→(AI w).testBit j=false→A.testBit j=true:=by
 intro i
 induction i with
 | zero =>
  intro d hd
  simp only[BM,Option.some.injEq] at hd
  subst hd
  exact⟨h.asm,AH.refl _,fun j a _=>a⟩
 | succ i ih =>
  intro d hd
  obtain⟨d0,kn,h1,h2,h3,rfl⟩:=BV hd
  obtain⟨a1,a2,a3⟩:=ih h1
  obtain⟨q,_⟩:=De h a1 h2
  obtain⟨j,e,hj,_,hw,_⟩:=FG q.top h3
  rw[e]
  refine⟨Nat.or_lt_two_pow a1 (Uc hj),a2.trans (AH.or_left _ _),fun i hi hn=>?_⟩
  rw[Nat.testBit_or,Bool.or_eq_true] at hi
  rcases hi with hi | hi
  ·exact a3 i hi hn
  ·rw[Nat.testBit_two_pow] at hi
   have:j=i:=by simpa using hi
   subst this
   rw[hw] at hn
   simp at hn
theorem GM{cs:List Nat}{A w i j d:Nat}(hd:BM cs A w j=some d)(hij:i≤j):∃ d',BM cs A w i=some d':=by
 induction j generalizing d with
 | zero=>exact⟨d,by rw[show i=0 by omega];exact hd⟩
 | succ j ih =>
  by_cases e:i=j+1
  ·exact⟨d,by rw[e];exact hd⟩
  ·obtain⟨d0,kn,h1,_⟩:=BV hd
   exact ih h1 (by omega)
theorem Qg{cs:List Nat}{A w:Nat}(h:Dl cs A w){i d kn d' kn':Nat}(h1:BM cs A w i=some d)(h2:A5 cs (AI w) d=some kn)(h3:BM cs A w (i+1)=some d')(h4:A5 cs (AI w) d'=some kn'):AH kn kn'∧AG kn+1≤AG kn':=by
 obtain⟨d0,kn0,a1,a2,a3,rfl⟩:=BV h3
 rw[h1] at a1
 simp only[Option.some.injEq] at a1
 subst a1
 rw[h2] at a2
 simp only[Option.some.injEq] at a2
 subst a2
 obtain⟨b1,_,_⟩:=Bg h h1
 obtain⟨c1,_,_⟩:=Bg h h3
 obtain⟨q,qw⟩:=De h b1 h2
 obtain⟨q',_⟩:=De h c1 h4
 obtain⟨j,e,hj,_,hw,hb,_⟩:=FG q.top a3
 rw[e] at q'
 have hs:AH kn kn':=q.least _ q'.cl (((AH.or_left d (2^j)).mono _).trans q'.sub)
 refine⟨hs,?_⟩
 have hjk:kn'.testBit j=true:=q'.sub j (by rw[Nat.testBit_and,GW,hw];rfl)
 exact Cn hs q'.top (fun e=>by rw[← e,hb] at hjk;simp at hjk)
theorem Ka{cs:List Nat}{A w:Nat}(h:Dl cs A w):∀ {j i d kn d' kn':Nat},BM cs A w i=some d→A5 cs (AI w) d=some kn→BM cs A w (i+j)=some d'→A5 cs (AI w) d'=some kn'→AH kn kn'∧AG kn+j≤AG kn':=by
 intro j
 induction j with
 | zero =>
  intro i d kn d' kn' h1 h2 h3 h4
  rw[Nat.add_zero,h1] at h3
  simp only[Option.some.injEq] at h3
  subst h3
  rw[h2] at h4
  simp only[Option.some.injEq] at h4
  subst h4
  exact⟨AH.refl _,Nat.le_refl _⟩
 | succ j ih =>
  intro i d kn d' kn' h1 h2 h3 h4
  obtain⟨d0,kn0,a1,a2,_,_⟩:=BV (i:=i+j) h3
  obtain⟨b1,b2⟩:=ih h1 h2 a1 a2
  obtain⟨c1,c2⟩:=Qg h a1 a2 h3 h4
  exact⟨b1.trans c1,by omega⟩
theorem Ih{cs:List Nat}{A w:Nat}(h:Dl cs A w){i d kn:Nat}(h1:BM cs A w i=some d)(h2:A5 cs (AI w) d=some kn):i≤AG kn∧AG kn≤CU w:=by
 obtain⟨a1,_,_⟩:=Bg h h1
 obtain⟨q,qw⟩:=De h a1 h2
 refine⟨?_,J8 qw q.twin⟩
 cases i with
 | zero=>omega
 | succ i =>
  obtain⟨d0,kn0,b1,b2,_,_⟩:=BV h1
  obtain⟨dA,hA⟩:=GM h1 (Nat.zero_le _)
  have hz:∃ kz,A5 cs (AI w) A=some kz:=by
   have:BM cs A w 1≠none:=by
    obtain⟨d1,hd1⟩:=GM h1 (by omega:1≤i+1)
    rw[hd1];simp
   cases hk:A5 cs (AI w) A with
   | none=>simp[BM,hk] at this
   | some kz=>exact⟨kz,rfl⟩
  obtain⟨kz,hkz⟩:=hz
  have:=(Ka h (j:=i+1) (i:=0) (d:=A) rfl hkz (by rw[Nat.zero_add];exact h1) h2).2
  omega
def QZ(cs:List Nat)(A w:Nat)(i:Nat):Nat:=match BM cs A w i with
 | none=>0
 | some d=>match A5 cs (AI w) d with
  | none=>12
  | some kn=>1+AG kn
def FJ(cs:List Nat)(A w:Nat):Nat→Nat
 | 0=>0
 | n+1=>13*FJ cs A w n+QZ cs A w n
theorem Wo{cs:List Nat}{A w:Nat}(h:Dl cs A w)(i:Nat):QZ cs A w i≤12:=by
 unfold QZ
 cases hd:BM cs A w i with
 | none=>simp
 | some d =>
  simp only
  cases hk:A5 cs (AI w) d with
  | none=>simp
  | some kn =>
   have:=(Ih h hd hk).2
   have:=Fl w
   simp only
   omega
theorem Ua{cs:List Nat}{A w:Nat}(h:Dl cs A w):∀ n,FJ cs A w n<13^n:=by
 intro n
 induction n with
 | zero=>simp[FJ]
 | succ n ih =>
  have:=Wo h n
  simp only[FJ,Nat.pow_succ]
  omega
theorem OJ{cs cs':List Nat}{A w:Nat}:∀ n,(∀ i,i<n→QZ cs A w i=QZ cs' A w i)→FJ cs A w n=FJ cs' A w n:=by
 intro n
 induction n with
 | zero=>intro _;rfl
 | succ n ih =>
  intro h
  simp only[FJ]
  rw[ih (fun i hi=>h i (by omega)),h n (by omega)]
theorem Ub{cs cs':List Nat}{A w:Nat}(h:Dl cs A w){k:Nat}(hs:∀ i,i<k→QZ cs A w i=QZ cs' A w i)(hk:QZ cs A w k<QZ cs' A w k):∀ n,k<n→FJ cs A w n<FJ cs' A w n:=by
 intro n
 induction n with
 | zero=>intro h;omega
 | succ n ih =>
  intro hn
  simp only[FJ]
  by_cases e:n=k
  ·subst e
   rw[OJ n hs]
   omega
  ·have:=ih (by omega)
   have:=Wo h n
   omega
theorem E7{cs cs':List Nat}{A w:Nat}:∀ {k:Nat},(∀ j d,j<k→BM cs A w j=some d→A5 cs' (AI w) d=A5 cs (AI w) d)→∀ i,i≤k→BM cs' A w i=BM cs A w i:=by
 intro k h i
 induction i with
 | zero=>intro _;rfl
 | succ i ih =>
  intro hi
  have e:=ih (by omega)
  simp only[BM]
  rw[e]
  cases hd:BM cs A w i with
  | none=>rfl
  | some d =>
   simp only
   rw[h i d (by omega) hd]
theorem Lo{cs cs':List Nat}{A w:Nat}{k:Nat}(h:∀ j d,j<k→BM cs A w j=some d→A5 cs' (AI w) d=A5 cs (AI w) d):∀ i,i≤k→Bn cs' A w i=Bn cs A w i:=by
 intro i
 induction i with
 | zero=>intro _;rfl
 | succ i ih =>
  intro hi
  simp only[Bn]
  rw[ih (by omega),E7 h i (by omega)]
  cases hd:BM cs A w i with
  | none=>rfl
  | some d =>
   simp only
   rw[h i d (by omega) hd]
theorem Is{cs:List Nat}{A w:Nat}:∀ {n:Nat} {p:H9},p∈Bn cs A w n→∃ i d kn,i<n∧BM cs A w i=some d∧A5 cs (AI w) d=some kn∧p=⟨d,w,kn⟩:=by
 intro n
 induction n with
 | zero=>intro p hp;simp[Bn] at hp
 | succ n ih =>
  intro p hp
  simp only[Bn] at hp
  rcases List.mem_append.1 hp with hp | hp
  ·obtain⟨i,d,kn,a,b,c,e⟩:=ih hp
   exact⟨i,d,kn,by omega,b,c,e⟩
  ·cases hd:BM cs A w n with
   | none=>rw[hd] at hp;simp at hp
   | some d =>
    rw[hd] at hp
    simp only at hp
    cases hk:A5 cs (AI w) d with
    | none=>rw[hk] at hp;simp at hp
    | some kn =>
     rw[hk] at hp
     exact⟨n,d,kn,by omega,hd,hk,List.mem_singleton.1 hp⟩
theorem Iw{cs:List Nat}{A w:Nat}{i d kn:Nat}(h1:BM cs A w i=some d)(h2:A5 cs (AI w) d=some kn):∀ {n:Nat},i<n→(⟨d,w,kn⟩:H9)∈Bn cs A w n:=by
 intro n
 induction n with
 | zero=>intro h;omega
 | succ n ih =>
  intro hi
  simp only[Bn]
  by_cases e:i=n
  ·subst e
   rw[h1]
   simp only
   rw[h2]
   exact List.mem_append_right _ (List.mem_singleton.2 rfl)
  ·exact List.mem_append_left _ (ih (by omega))
def Dm(R:List Nat)(ps:List H9):Prop:=∀ p∈ps,∀ K',Ht R K'→AH (p.dec&&&AI p.vs) K'→AH p.kn K'
theorem Dm.sub{R R':List Nat}{ps:List H9}(h:Dm R ps)(hs:∀ c∈R,c∈R'):Dm R' ps:=fun p hp K' hC hk=>h p hp K' (hC.sub hs) hk
theorem Ix{cs:List Nat}{A w:Nat}(h:Dl cs A w):∀ (i:Nat) {d kn:Nat},BM cs A w i=some d→A5 cs (AI w) d=some kn→∃ R:List Nat,(∀ c∈R,c∈Lg cs (AI w))∧R.length+i≤AG kn∧Dm R (Bn cs A w (i+1)):=by
 intro i
 induction i with
 | zero =>
  intro d kn h1 h2
  obtain⟨a1,_,_⟩:=Bg h h1
  obtain⟨q,qw⟩:=De h a1 h2
  obtain⟨R,r1,r2,r3⟩:=reasons q.top q.cl _ (d&&&AI w) (Nat.le_refl _) q.sub q.least
  refine⟨R,r1,by omega,fun p hp K' hC hk=>?_⟩
  obtain⟨j,d',kn',hj,b1,b2,rfl⟩:=Is hp
  have:j=0:=by omega
  subst this
  rw[h1] at b1
  simp only[Option.some.injEq] at b1
  subst b1
  rw[h2] at b2
  simp only[Option.some.injEq] at b2
  subst b2
  exact r3 K' hC hk
 | succ i ih =>
  intro d kn h1 h2
  obtain⟨d0,kn0,a1,a2,a3,ed⟩:=BV h1
  obtain⟨R,r1,r2,r3⟩:=ih a1 a2
  obtain⟨b1,_,_⟩:=Bg h a1
  obtain⟨c1,_,_⟩:=Bg h h1
  obtain⟨q0,qw0⟩:=De h b1 a2
  obtain⟨q,qw⟩:=De h c1 h2
  obtain⟨j,ej,hj,_,hw,hb,_⟩:=FG q0.top a3
  rw[ej] at ed
  obtain⟨hs,_⟩:=Qg h a1 a2 h1 h2
  have hjk:kn.testBit j=true:=q.sub j (by rw[Nat.testBit_and,ed,GW,hw];rfl)
  have hd1:AH (d&&&AI w) (kn0|||2^j):=by
   intro x hx
   rw[Nat.testBit_and,Bool.and_eq_true,ed,Nat.testBit_or,Bool.or_eq_true] at hx
   rw[Nat.testBit_or,Bool.or_eq_true]
   rcases hx with⟨hx | hx,hw'⟩
   ·exact .inl (q0.sub x (by rw[Nat.testBit_and,hx,hw'];rfl))
   ·exact .inr hx
  obtain⟨R2,s1,s2,s3⟩:=reasons q.top q.cl _ (kn0|||2^j) (Nat.le_refl _) (Co hs hjk) (fun K' hC hk=>q.least K' hC (hd1.trans hk))
  have hsz:=GH hj q0.top hb
  refine⟨R++R2,fun c hc=>(List.mem_append.1 hc).elim (r1 c) (s1 c),by rw[List.length_append];omega,?_⟩
  have hR:Dm (R++R2) (Bn cs A w (i+1)):=r3.sub fun c hc=>List.mem_append_left _ hc
  intro p hp K' hC hk
  obtain⟨jj,d',kn',hjj,b1',b2',rfl⟩:=Is hp
  by_cases e:jj=i+1
  ·subst e
   rw[h1] at b1'
   simp only[Option.some.injEq] at b1'
   subst b1'
   rw[h2] at b2'
   simp only[Option.some.injEq] at b2'
   subst b2'
   refine s3 K' (hC.sub fun c hc=>List.mem_append_right _ hc) ?_
   have hk0:=hR ⟨d0,w,kn0⟩ (Iw a1 a2 (by omega)) K' hC (by
    refine AH.trans ?_ hk
    rw[ed]
    exact(AH.or_left _ _).mono _)
   exact Co hk0 (hk j (by rw[Nat.testBit_and,ed,GW,hw];rfl))
  ·exact hR _ (Iw b1' b2' (by omega)) K' hC hk
end Go.Proofs.YthboeppmlhbofaaDoor
