import Derived.Test.YthboeppmlhbofaaDoorChl
import Derived.Test.YthboeppmlhbofaaDoorDca
namespace Go.Proofs.YthboeppmlhbofaaDoor
open Go.RowKit Txt
set_option maxRecDepth 100000
theorem Bf.same{s s' t f:Nat}(h:Bf s t f)(h':Bf s' t f):s=s':=by
 apply Nat.eq_of_testBit_eq
 intro i
 by_cases hi:i<20
 ·rcases DU i with e | e
  ·rw[e,h.pos _ (by omega),h'.pos _ (by omega)]
  ·rw[e,h.neg _ (by omega),h'.neg _ (by omega)]
 ·rw[Nat.testBit_lt_two_pow (Nat.lt_of_lt_of_le h.top (Nat.pow_le_pow_right (by decide) (by omega))),Nat.testBit_lt_two_pow (Nat.lt_of_lt_of_le h'.top (Nat.pow_le_pow_right (by decide) (by omega)))]
theorem Su{t f t' f':Nat}:∀ (m v:Nat),1≤v→v+m≤11→Bj t f v m=Bj t' f' v m→∀ u,v≤u→u<v+m→t.testBit u=t'.testBit u∧f.testBit u=f'.testBit u:=by
 intro m
 induction m with
 | zero=>intro v _ _ _ u a b;omega
 | succ m ih =>
  intro v h1 h2 h u a b
  simp only[Bj,List.cons.injEq] at h
  by_cases e:u=v
  ·subst e
   have:=h.1
   rw[DT t f h1 (by omega),DT t' f' h1 (by omega)] at this
   cases p:t.testBit u <;> cases q:f.testBit u <;> cases p':t'.testBit u <;> cases q':f'.testBit u <;> simp_all
  ·exact ih (v+1) (by omega) (by omega) h.2 u (by omega) (by omega)
theorem Bf.wsame{s t f s' t' f':Nat}(h:Bf s t f)(h':Bf s' t' f')(hw:Bj t f 1 10=Bj t' f' 1 10):s=s':=by
 have k:=Su (t:=t) (f:=f) (t':=t') (f':=f') 10 1 (by omega) (by omega) hw
 apply Nat.eq_of_testBit_eq
 intro i
 by_cases hi:i<20
 ·rcases DU i with e | e
  ·rw[e,h.pos _ (by omega),h'.pos _ (by omega)];exact(k _ (by omega) (by omega)).1
  ·rw[e,h.neg _ (by omega),h'.neg _ (by omega)];exact(k _ (by omega) (by omega)).2
 ·rw[Nat.testBit_lt_two_pow (Nat.lt_of_lt_of_le h.top (Nat.pow_le_pow_right (by decide) (by omega))),Nat.testBit_lt_two_pow (Nat.lt_of_lt_of_le h'.top (Nat.pow_le_pow_right (by decide) (by omega)))]
theorem L0(t f:Nat):∀ j∈Bj t f 1 10,j<4:=by
 intro j hj
 simp only[Bj,List.mem_cons,List.not_mem_nil,or_false] at hj
 rcases hj with rfl|rfl|rfl|rfl|rfl|rfl|rfl|rfl|rfl|rfl <;> exact EM _ _ _
theorem Bm.perm{ns:List Nd}{cs cs':List Nat}(h:Bm ns cs)(hp:cs.Perm cs'):Bm ns cs' :=
 ⟨h.tre,fun c hc=>h.top c (hp.mem_iff.2 hc),fun s t f h2=>by rw[h.cnt s t f h2];exact hp.count_eq s⟩
theorem Bm.adds{ns:List Nd}{cs:List Nat}(h:Bm ns cs){s t f:Nat}(h2:Bf s t f)(c:Nat):Bm (DX ns t f c) (cs++List.replicate c s):=by
 refine⟨(h.tre.add t f c).1,fun x hx=>?_,fun s' t' f' h'=>?_⟩
 ·rcases List.mem_append.1 hx with hx | hx
  ·exact h.top x hx
  ·rw[(List.mem_replicate.1 hx).2];exact h2.top
 ·rw[List.count_append,List.count_replicate]
  by_cases e:s'=s
  ·subst e
   have hw:Bj t' f' 1 10=Bj t f 1 10:=by
    have key:∀ (m v:Nat),1≤v→v+m≤11→Bj t' f' v m=Bj t f v m:=by
     intro m
     induction m with
     | zero=>intro v _ _;rfl
     | succ m ih =>
      intro v h1 h3
      simp only[Bj]
      rw[ih (v+1) (by omega) (by omega),DT t' f' h1 (by omega),DT t f h1 (by omega)]
      have a:=h2.pos (v - 1) (by omega)
      have b:=h2.neg (v - 1) (by omega)
      have a':=h'.pos (v - 1) (by omega)
      have b':=h'.neg (v - 1) (by omega)
      rw[show v - 1+1=v by omega] at a b a' b'
      rw[← a,← b,← a',← b']
    exact key 10 1 (by omega) (by omega)
   rw[hw,h.tre.add_leaf,← hw,h.cnt _ _ _ h']
   simp
  ·have hne:Bj t' f' 1 10≠Bj t f 1 10:=fun q=>e (h'.wsame h2 q)
   rw[(h.tre.add t f c).2 _ (L0 t' f') hne,h.cnt _ _ _ h']
   have:(s == s')=false:=by simpa using fun q=>e q.symm
   simp[this]
theorem Bm.add{ns:List Nd}{cs:List Nat}(h:Bm ns cs){s t f:Nat}(h2:Bf s t f):Bm (DX ns t f 1) (cs++[s]):=h.adds h2 1
theorem Bm.gone{ns:List Nd}{cs:List Nat}(h:Bm ns cs){s t f:Nat}(h2:Bf s t f):DI ns t f=none↔¬ s∈cs:=by
 rw[Re,h.cnt s t f h2]
 exact List.count_eq_zero
theorem Bm.drop{ns ns':List Nd}{cs:List Nat}(h:Bm ns cs){s t f:Nat}(h2:Bf s t f)(hd:DI ns t f=some ns'):Bm ns' (cs.erase s):=by
 obtain⟨q1,q2⟩:=h.tre.drop_leaf hd
 refine⟨(h.tre.drop hd).1,fun x hx=>h.top x (List.mem_of_mem_erase hx),fun s' t' f' h'=>?_⟩
 by_cases e:s'=s
 ·subst e
  have hw:Bj t' f' 1 10=Bj t f 1 10:=by
   have key:∀ (m v:Nat),1≤v→v+m≤11→Bj t' f' v m=Bj t f v m:=by
    intro m
    induction m with
    | zero=>intro v _ _;rfl
    | succ m ih =>
     intro v h1 h3
     simp only[Bj]
     rw[ih (v+1) (by omega) (by omega),DT t' f' h1 (by omega),DT t f h1 (by omega)]
     have a:=h2.pos (v - 1) (by omega)
     have b:=h2.neg (v - 1) (by omega)
     have a':=h'.pos (v - 1) (by omega)
     have b':=h'.neg (v - 1) (by omega)
     rw[show v - 1+1=v by omega] at a b a' b'
     rw[← a,← b,← a',← b']
   exact key 10 1 (by omega) (by omega)
  have hc:=h.cnt _ _ _ h'
  rw[hw] at hc ⊢
  rw[List.count_erase_self]
  omega
 ·have hne:Bj t' f' 1 10≠Bj t f 1 10:=fun q=>e (h'.wsame h2 q)
  rw[q1 _ (L0 t' f') hne,h.cnt _ _ _ h',List.count_erase_of_ne e]
theorem Bf.ok(xs:List Int):Bf (AO xs) (CO xs) (CN xs):=by
 unfold AO CO CN
 cases h:xs.all AK with
 | true=>exact Bf.set xs h
 | false=>exact Bf.zero
def H6(cs:List Nat)(lt:Nat)(xs:List Int):Int × List Nat :=
 if lt=100 then (if AO xs∈cs then (0,cs.erase (AO xs)) else (8,cs))
 else if AU cs (AS (AO xs))=false then (7,cs) else if lt=97 then (0,cs++[AO xs]) else (0,cs)
theorem Sd{ns:List Nd}{cs:List Nat}(h:Bm ns cs)(lt:Nat)(xs:List Int):(Gz ns lt xs).1=(H6 cs lt xs).1∧Bm (Gz ns lt xs).2 (H6 cs lt xs).2:=by
 have h2:=Bf.ok xs
 unfold Gz H6
 by_cases h1:lt=100
 ·rw[if_pos h1,if_pos h1]
  by_cases hm:AO xs∈cs
  ·rw[if_pos hm]
   cases hd:DI ns (CO xs) (CN xs) with
   | none=>exact absurd hm ((h.gone h2).1 hd)
   | some ns'=>exact⟨rfl,h.drop h2 hd⟩
  ·rw[if_neg hm,(h.gone h2).2 hm]
   exact⟨rfl,h⟩
 ·rw[if_neg h1,if_neg h1,h.follows h2]
  split
  ·exact⟨rfl,h⟩
  ·split
   ·exact⟨rfl,h.add h2⟩
   ·exact⟨rfl,h⟩
def Yv(l:List UInt8):Nat→List Nat→Nat→Nat→Nat→List Int→List Int × Int × Nat
 | 0,_,_,n,_,_=>([],3,n)
 | m+1,cs,p,n,lt,xs =>
  if p<l.length then
   match Gy l p with
   | none=>([],3,n)
   | some (lt',xs',q)=>if (H6 cs lt' xs').1≠0 then ([],(H6 cs lt' xs').1,n) else Yv l m (H6 cs lt' xs').2 q (n+1) lt' xs'
  else if lt≠101 then ([],9,n) else (xs,0,n)
theorem PU(l:List UInt8):∀ (m:Nat) (ns:List Nd) (cs:List Nat) (p n lt:Nat) (xs:List Int),Bm ns cs→Oy l m ns p n lt xs=Yv l m cs p n lt xs:=by
 intro m
 induction m with
 | zero=>intros;rfl
 | succ m ih =>
  intro ns cs p n lt xs h
  simp only[Oy,Yv]
  split
  ·cases hr:Gy l p with
   | none=>rfl
   | some r =>
    obtain⟨lt',xs',q⟩:=r
    obtain⟨e,h'⟩:=Sd h lt' xs'
    simp only
    rw[e]
    split
    ·rfl
    ·exact ih _ _ _ _ _ _ h'
  ·rfl
def ND:List Nat→List Pr→Prop
 | [],[]=>True
 | s :: os,p :: ss=>Bf s p.1 p.2∧ND os ss
 | _,_=>False
theorem ND.snoc:∀ {os:List Nat} {ss:List Pr} {s:Nat} {p:Pr},ND os ss→Bf s p.1 p.2→ND (os++[s]) (ss++[p]):=by
 intro os
 induction os with
 | nil =>
  intro ss s p h h2
  cases ss with
  | nil=>exact⟨h2,trivial⟩
  | cons a b=>exact h.elim
 | cons o os ih =>
  intro ss s p h h2
  cases ss with
  | nil=>exact h.elim
  | cons a b=>exact⟨h.1,ih h.2 h2⟩
theorem Bm.one:Bm [Ac] []:=by
 refine⟨We,fun c hc=>by simp at hc,fun s t f _=>?_⟩
 rw[Nj [Ac] 0 rfl]
 rfl
theorem Ps{ss:List Pr}{os:List Nat}(h:ND os ss)(em:Nat):Bm (Da ss em) (List.replicate em 0++os):=by
 have key:∀ (os:List Nat) (ss:List Pr) (ns:List Nd) (cs:List Nat),ND os ss→Bm ns cs→Bm (ss.foldl (fun ns p=>DX ns p.1 p.2 1) ns) (cs++os):=by
  intro os
  induction os with
  | nil =>
   intro ss ns cs h hs
   cases ss with
   | nil=>simpa using hs
   | cons a b=>exact h.elim
  | cons o os ih =>
   intro ss ns cs h hs
   cases ss with
   | nil=>exact h.elim
   | cons a b =>
    have:=ih b (DX ns a.1 a.2 1) (cs++[o]) h.2 (hs.add h.1)
    simpa using this
 have h0:=Bm.one.adds Bf.zero em
 exact key os ss _ _ h h0
def H7:List (List Int)→List Nat→Nat→Nat→(Int × Nat) ⊕ (List Nat)
 | [],hv,_,_=>.inr hv
 | c :: cs,hv,lits,i=>match An c lits with
  | .lit=>.inl (4,i)
  | .full=>.inl (5,i)
  | .taut=>H7 cs hv lits (i+1)
  | .takes=>H7 cs (hv++[Ak c]) (lits+AG (Ak c)) (i+1)
theorem ZY{t:Nat}(h:CU t=0)(ht:t<2^11)(h0:t.testBit 0=false):t=0:=by
 refine GR ht h0 (fun v hv=>?_)
 simp only[CU,Gp,Nat.add_eq_zero_iff,Bool.toNat_eq_zero] at h
 have hq:v=0∨v=1∨v=2∨v=3∨v=4∨v=5∨v=6∨v=7∨v=8∨v=9:=by omega
 rcases hq with rfl|rfl|rfl|rfl|rfl|rfl|rfl|rfl|rfl|rfl <;> simp_all
theorem ZM{xs:List Int}(h:xs.all AK=true)(hz:Am (Aa xs,AZ xs)=0):Ak xs=0:=by
 have hT:=Bf.set xs h
 have hz':CU (Aa xs)+CU (AZ xs)=0:=hz
 have e1:=ZY (t:=Aa xs) (by omega) hT.lt hT.zt
 have e2:=ZY (t:=AZ xs) (by omega) hT.lf hT.zf
 rw[e1,e2] at hT
 exact hT.same Bf.zero
theorem Sf:∀ (cls:List (List Int)) (ss:List Pr) (em:Nat) (hv os:List Nat) (i:Nat),Xa ss→ND os ss→hv.Perm (List.replicate em 0++os) →
  (match Jq cls ss em i,H7 cls hv (Af ss) i with
   | .inl r,.inl r'=>r=r'
   | .inr (ss',em'),.inr hv'=>∃ os',ND os' ss'∧hv'.Perm (List.replicate em' 0++os')
   | _,_=>False):=by
 intro cls
 induction cls with
 | nil=>intro ss em hv os i _ h1 h2;exact⟨os,h1,h2⟩
 | cons c cls ih =>
  intro ss em hv os i hT h1 h2
  simp only[Jq,H7]
  cases hall:c.all AK with
  | false =>
   have e1:Gc c ss em=.err 4:=by simp[Gc,hall]
   have e2:An c (Af ss)=.lit:=by simp[An,hall]
   rw[e1,e2]
  | true =>
   have h3:=Bf.set c hall
   cases htw:A4 (Ak c) with
   | true =>
    have e2:An c (Af ss)=.taut:=by simp[An,hall,htw]
    rw[h3.twin] at htw
    have e1:Gc c ss em=.ok ss em:=by unfold Gc;rw[hall,if_neg (by simp),if_pos htw]
    rw[e1,e2]
    exact ih ss em hv os (i+1) hT h1 h2
   | false =>
    have htw':=htw
    rw[h3.twin] at htw'
    have hsz:AG (Ak c)=Am (Aa c,AZ c):=h3.size
    have ha:=hT.all
    by_cases hz:Am (Aa c,AZ c)=0
    ·have e1:Gc c ss em=.ok ss (em+1):=by unfold Gc;rw[hall,if_neg (by simp),if_neg (by simp[htw']),if_pos hz]
     have e2:An c (Af ss)=.takes:=by
      unfold An
      rw[hall,htw,hsz,hz,if_pos rfl,if_neg (by simp),if_neg (by omega)]
     rw[e1,e2,hsz,hz,ZM hall hz,Nat.add_zero]
     refine ih ss (em+1) (hv++[0]) os (i+1) hT h1 ?_
     have p1:(hv++[0]).Perm (0 :: hv):=List.perm_append_comm
     rw[List.replicate_succ,List.cons_append]
     exact p1.trans (h2.cons 0)
    ·by_cases hf:150<Am (Aa c,AZ c)+Af ss
     ·have e1:Gc c ss em=.err 5:=by unfold Gc;rw[hall,if_neg (by simp),if_neg (by simp[htw']),if_neg hz,if_pos hf]
      have e2:An c (Af ss)=.full:=by
       unfold An
       rw[hall,htw,hsz,if_pos rfl,if_neg (by simp),if_pos (by omega)]
      rw[e1,e2]
     ·have e1:Gc c ss em=.ok (ss++[(Aa c,AZ c)]) em:=by unfold Gc;rw[hall,if_neg (by simp),if_neg (by simp[htw']),if_neg hz,if_neg hf]
      have e2:An c (Af ss)=.takes:=by
       unfold An
       rw[hall,htw,hsz,if_pos rfl,if_neg (by simp),if_neg (by omega)]
      have e3:Af (ss++[(Aa c,AZ c)])=Af ss+AG (Ak c):=by rw[hsz];simp[Af]
      have hT':=(TI hT e1).1
      rw[e1,e2,← e3]
      refine ih _ em (hv++[Ak c]) (os++[Ak c]) (i+1) hT' (h1.snoc h3) ?_
      rw[← List.append_assoc]
      exact h2.append_right _
def TQ(cls:List (List Int))(l:List UInt8):List Int × Int × Nat :=
 if 4194304<l.length then ([],2,0) else match H7 cls [] 0 0 with
  | .inl (e,i)=>([],e,i)
  | .inr hv=>Yv l (l.length+1) hv 0 0 0 []
theorem W6(cls:List (List Int))(l:List UInt8):MP cls l=TQ cls l:=by
 unfold MP TQ
 split
 ·rfl
 ·have h:=Sf cls [] 0 [] [] 0 ⟨fun p hp=>by simp at hp,Nat.le_refl _,by decide⟩ trivial (by simp)
  have e:Af []=0:=rfl
  rw[e] at h
  cases ha:Jq cls [] 0 0 with
  | inl r =>
   cases hb:H7 cls [] 0 0 with
   | inl r'=>rw[ha,hb] at h;simp only at h;subst h;rfl
   | inr hv=>rw[ha,hb] at h;exact h.elim
  | inr r =>
   obtain⟨ss,em⟩:=r
   cases hb:H7 cls [] 0 0 with
   | inl r'=>rw[ha,hb] at h;exact h.elim
   | inr hv =>
    rw[ha,hb] at h
    obtain⟨os,h1,h2⟩:=h
    exact PU l _ _ _ _ _ _ _ ((Ps h1 em).perm h2.symm)
def Yd(s:Nat):Nat→Nat
 | 0=>0
 | v+1=>Yd s v|||(if s.testBit (2*v) then 2^(v+1) else 0)
def YG(s:Nat):Nat→Nat
 | 0=>0
 | v+1=>YG s v|||(if s.testBit (2*v+1) then 2^(v+1) else 0)
def tN(s:Nat):Nat:=Yd s 10
def fN(s:Nat):Nat:=YG s 10
theorem IB(b:Bool)(j i:Nat):(if b=true then 2^j else 0).testBit i=(b && decide (i=j)):=by
 cases b
 ·simp
 ·simp only[if_true,Nat.testBit_two_pow,Bool.true_and]
  by_cases h:i=j
  ·subst h;simp
  ·rw[decide_eq_false (fun e=>h e.symm),decide_eq_false h]
theorem Hp(s:Nat):∀ k i,(Yd s k).testBit i=(decide (1≤i) && decide (i≤k) && s.testBit (2*(i - 1))):=by
 intro k
 induction k with
 | zero=>intro i;simp only[Yd,Nat.zero_testBit];by_cases h:i=0 <;> simp[h]
 | succ k ih =>
  intro i
  simp only[Yd]
  rw[Nat.testBit_or,ih,IB]
  by_cases e:i=k+1
  ·subst e
   rw[decide_eq_true (by omega:1≤k+1),decide_eq_false (by omega:¬ k+1≤k),decide_eq_true (by omega:k+1≤k+1),Nat.add_sub_cancel]
   simp
  ·rw[decide_eq_false e,Bool.and_false,Bool.or_false]
   congr 2
   by_cases h:i≤k
   ·rw[decide_eq_true h,decide_eq_true (by omega:i≤k+1)]
   ·rw[decide_eq_false h,decide_eq_false (by omega:¬ i≤k+1)]
theorem Hc(s:Nat):∀ k i,(YG s k).testBit i=(decide (1≤i) && decide (i≤k) && s.testBit (2*(i - 1)+1)):=by
 intro k
 induction k with
 | zero=>intro i;simp only[YG,Nat.zero_testBit];by_cases h:i=0 <;> simp[h]
 | succ k ih =>
  intro i
  simp only[YG]
  rw[Nat.testBit_or,ih,IB]
  by_cases e:i=k+1
  ·subst e
   rw[decide_eq_true (by omega:1≤k+1),decide_eq_false (by omega:¬ k+1≤k),decide_eq_true (by omega:k+1≤k+1),Nat.add_sub_cancel]
   simp
  ·rw[decide_eq_false e,Bool.and_false,Bool.or_false]
   congr 2
   by_cases h:i≤k
   ·rw[decide_eq_true h,decide_eq_true (by omega:i≤k+1)]
   ·rw[decide_eq_false h,decide_eq_false (by omega:¬ i≤k+1)]
theorem BX{t n:Nat}(h:∀ i,n≤i→t.testBit i=false):t<2^n:=Nat.lt_pow_two_of_testBit t (fun i hi=>h i hi)
theorem Bf.of{s:Nat}(hs:s<2^20):Bf s (tN s) (fN s):=by
 refine⟨fun v hv=>?_,fun v hv=>?_,hs,?_,?_,?_,?_⟩
 ·unfold tN;rw[Hp,decide_eq_true (by omega:1≤v+1),decide_eq_true (by omega:v+1≤10),Nat.add_sub_cancel];simp
 ·unfold fN;rw[Hc,decide_eq_true (by omega:1≤v+1),decide_eq_true (by omega:v+1≤10),Nat.add_sub_cancel];simp
 ·unfold tN;rw[Hp];simp
 ·unfold fN;rw[Hc];simp
 ·refine BX fun i hi=>?_
  unfold tN;rw[Hp,decide_eq_false (by omega:¬ i≤10)];simp
 ·refine BX fun i hi=>?_
  unfold fN;rw[Hc,decide_eq_false (by omega:¬ i≤10)];simp
theorem If{t t':Nat}(h:t<2^11)(h':t'<2^11)(h0:t.testBit 0=t'.testBit 0)(hb:∀ v,v<10→t.testBit (v+1)=t'.testBit (v+1)):t=t':=by
 apply Nat.eq_of_testBit_eq
 intro i
 by_cases e0:i=0
 ·subst e0;exact h0
 ·by_cases e1:i<11
  ·have:=hb (i - 1) (by omega)
   rwa [show i - 1+1=i by omega] at this
  ·rw[Nat.testBit_lt_two_pow (Nat.lt_of_lt_of_le h (Nat.pow_le_pow_right (by decide) (by omega))),Nat.testBit_lt_two_pow (Nat.lt_of_lt_of_le h' (Nat.pow_le_pow_right (by decide) (by omega)))]
theorem Bf.eq{s t f:Nat}(h:Bf s t f):t=tN s∧f=fN s:=by
 have h':=Bf.of h.top
 exact⟨If h.lt h'.lt (by rw[h.zt,h'.zt]) (fun v hv=>by rw[← h.pos v hv,h'.pos v hv]),If h.lf h'.lf (by rw[h.zf,h'.zf]) (fun v hv=>by rw[← h.neg v hv,h'.neg v hv])⟩
def BQ(cs:List Nat)(k:Nat):Option Nat:=match Hv cs 21 k with
 | none=>none
 | some K=>if A4 K then none else some K
theorem Bw{cs:List Nat}{k:Nat}:BQ cs k=none↔AU cs k=true:=by
 unfold BQ AU
 cases Hv cs 21 k with
 | none=>simp
 | some K=>cases h:A4 K <;> simp[h]
theorem XL{cs:List Nat}{K:Nat}(hC:Ht cs K):∀ m k,AH k K→∃ k',Hv cs m k=some k'∧AH k' K:=by
 intro m
 induction m with
 | zero=>intro k h;exact⟨k,rfl,h⟩
 | succ m ih =>
  intro k h
  obtain⟨k1,e1,h1⟩:=Lm cs hC k h
  obtain⟨k2,e2,h2⟩:=ih k1 h1
  exact⟨k2,by simp only[Hv,e1];exact e2,h2⟩
theorem Kr{cs:List Nat}{k K:Nat}(h:BQ cs k=some K){K':Nat}(hC:Ht cs K')(hs:AH k K'):AH K K':=by
 obtain⟨k',e,h'⟩:=XL hC 21 k hs
 unfold BQ at h
 rw[e] at h
 simp only at h
 split at h
 ·simp at h
 ·simp only[Option.some.injEq] at h;subst h;exact h'
structure MA(cs:List Nat)(k K:Nat):Prop where
 top:K<2^20
 sub:AH k K
 twin:A4 K=false
 cl:Ht cs K
 least:∀ K',Ht cs K'→AH k K'→AH K K'
theorem DG{cs:List Nat}(hc:∀ c∈cs,c<2^20){k K:Nat}(hk:k<2^20)(h:BQ cs k=some K):MA cs k K:=by
 have hl:=fun K'=>Kr (K':=K') h
 unfold BQ at h
 cases hr:Hv cs 21 k with
 | none=>rw[hr] at h;simp at h
 | some K1 =>
  rw[hr] at h
  simp only at h
  split at h
  ·simp at h
  ·rename_i ht
   simp only[Option.some.injEq] at h
   subst h
   obtain⟨h1,h2,h3⟩:=Qu cs hc 21 k K1 hk hr (by omega)
   exact⟨h3,h2,by simpa using ht,OE _ _ h1,hl⟩
theorem Mi{cs:List Nat}{k K:Nat}(hC:Ht cs K)(ht:A4 K=false)(hs:AH k K):∃ K',BQ cs k=some K'∧AH K' K:=by
 have hn:AU cs k=false:=CY hC ht hs
 cases hp:BQ cs k with
 | none=>rw[Bw.1 hp] at hn;simp at hn
 | some K'=>exact⟨K',rfl,Kr hp hC hs⟩
theorem Qr{cs:List Nat}(hc:∀ c∈cs,c<2^20){k K:Nat}(hk:k<2^20)(h:MA cs k K):BQ cs k=some K:=by
 obtain⟨K',e,hs⟩:=Mi h.cl h.twin h.sub
 have h':=DG hc hk e
 rw[e,AH.anti hs (h.least K' h'.cl h'.sub)]
theorem Ht.sub{cs cs':List Nat}{K:Nat}(h:Ht cs' K)(hs:∀ c∈cs,c∈cs'):Ht cs K:=fun c hc=>h c (hs c hc)
theorem SN{cs cs':List Nat}(hc:∀ c∈cs',c<2^20){k k' K':Nat}(hk:k'<2^20)(hs:∀ c∈cs,c∈cs')(hkk:AH k k')(h:BQ cs' k'=some K'):∃ K,BQ cs k=some K∧AH K K':=by
 have h':=DG hc hk h
 exact Mi (h'.cl.sub hs) h'.twin (hkk.trans h'.sub)
theorem CX{cs cs':List Nat}(hc:∀ c∈cs',c<2^20){k k':Nat}(hk:k'<2^20)(hs:∀ c∈cs,c∈cs')(hkk:AH k k')(h:AU cs k=true):AU cs' k'=true:=by
 cases hb:AU cs' k' with
 | true=>rfl
 | false =>
  obtain⟨K,_,h2,h3,h4⟩:=CW cs' hc k' hk hb
  rw[CY (h4.sub hs) h3 (hkk.trans h2)] at h
  exact h
theorem Ue(ns:List Nd):∀ (m kt kf a b:Nat),kt<2^11→kf<2^11→4096≤kt+kf+m→Qq ns m kt kf=some (a,b)→Fj kt kf a b∧(a&&&b != 0)=false∧IS ns a b∧a<2^11∧b<2^11:=by
 intro m
 induction m with
 | zero=>intro kt kf a b h1 h2 h3 _;omega
 | succ m ih =>
  intro kt kf a b h1 h2 h3 h
  simp only[Qq] at h
  obtain⟨o1,o2⟩:=Lz (ns:=ns) (kt:=kt) (kf:=kf) 10 0 1 0 ⟨kt,kf,false⟩ rfl (by decide) (.inl rfl) ⟨h1,h2⟩
  obtain⟨x,y,u1,u2⟩:=IJ (ns:=ns) (kt:=kt) (kf:=kf) 10 0 1 0 ⟨kt,kf,false⟩ rfl (by decide) (.inl rfl)
  have comp:=G7 ns kt kf 10 0 1 0 ⟨kt,kf,false⟩ rfl (by decide) (.inl rfl)
  generalize AJ ns kt kf 10 0 1 0 ⟨kt,kf,false⟩=S at *
  split at h
  ·simp at h
  ·rename_i htw
   split at h
   ·simp at h
   ·rename_i hcl
    have hcl':S.cl=false:=by simpa using hcl
    split at h
    ·rename_i he
     simp only[Option.some.injEq,Prod.mk.injEq] at h
     obtain⟨rfl,rfl⟩:=h
     refine⟨⟨fun _ h=>h,fun _ h=>h⟩,by simpa using htw,fun ws hl h3' hq=>?_,h1,h2⟩
     obtain⟨q1,_,q3⟩:=comp hcl' ws hl h3' hq
     exact⟨q1 rfl,fun z hz=>N7 he.1 he.2 ws 1 z hz (q3 rfl z hz)⟩
    ·rename_i he
     have a1:kt≤S.gt:=by rw[u1];exact Nat.left_le_or
     have a2:kf≤S.gf:=by rw[u2];exact Nat.left_le_or
     have a3:kt+kf<S.gt+S.gf:=by
      by_cases q:S.gt=kt
      ·by_cases q':S.gf=kf
       ·exact absurd ⟨q,q'⟩ he
       ·omega
      ·omega
     obtain⟨b1,b2,b3,b4,b5⟩:=ih S.gt S.gf a b o1 o2 (by omega) h
     refine⟨⟨fun v hv=>b1.t v ?_,fun v hv=>b1.f v ?_⟩,b2,b3,b4,b5⟩
     ·rw[u1,Nat.testBit_or];rw[show(⟨kt,kf,false⟩:PS).gt=kt from rfl,hv];rfl
     ·rw[u2,Nat.testBit_or];rw[show(⟨kt,kf,false⟩:PS).gf=kf from rfl,hv];rfl
theorem Uf(ns:List Nd)(Kt Kf:Nat)(hdis:(Kt&&&Kf != 0)=false)(hC:IS ns Kt Kf):∀ (m kt kf:Nat),Fj kt kf Kt Kf→∃ a b,Qq ns m kt kf=some (a,b)∧Fj a b Kt Kf:=by
 intro m
 induction m with
 | zero=>intro kt kf h;exact⟨kt,kf,rfl,h⟩
 | succ m ih =>
  intro kt kf hk
  have htw:(kt&&&kf != 0)=false:=by
   have hz:Kt&&&Kf=0:=by simpa using hdis
   have:kt&&&kf=0:=by
    apply Nat.eq_of_testBit_eq
    intro i
    rw[Nat.zero_testBit,Nat.testBit_and]
    cases a:kt.testBit i with
    | false=>rfl
    | true =>
     cases b:kf.testBit i with
     | false=>rfl
     | true =>
      have:=congrArg (fun n=>n.testBit i) hz
      simp only[Nat.testBit_and,hk.t i a,hk.f i b,Nat.zero_testBit] at this
      simp at this
   rw[this];rfl
  obtain⟨h1,h2⟩:=LD ns kt kf Kt Kf hk 10 0 1 0 ⟨kt,kf,false⟩ rfl (by decide) (.inl rfl) rfl hk (fun ws hl h3 hq=>.inr (.inl ⟨.inl rfl,hC ws hl h3 hq⟩))
  simp only[Qq,htw,h1,Bool.false_eq_true,if_false]
  split
  ·exact⟨kt,kf,rfl,hk⟩
  ·exact ih _ _ h2
theorem Fj.of{k a b K A B:Nat}(h:Bf k a b)(hK:Bf K A B)(hs:AH k K):Fj a b A B:=by
 refine⟨fun v hv=>?_,fun v hv=>?_⟩
 ·have h11:=A8 h.lt hv
  have h0:v≠0:=fun e=>by subst e;rw[h.zt] at hv;simp at hv
  have a:=h.pos (v - 1) (by omega)
  have b:=hK.pos (v - 1) (by omega)
  rw[show v - 1+1=v by omega] at a b
  rw[← b];exact hs _ (by rw[a];exact hv)
 ·have h11:=A8 h.lf hv
  have h0:v≠0:=fun e=>by subst e;rw[h.zf] at hv;simp at hv
  have a:=h.neg (v - 1) (by omega)
  have b:=hK.neg (v - 1) (by omega)
  rw[show v - 1+1=v by omega] at a b
  rw[← b];exact hs _ (by rw[a];exact hv)
theorem Bm.push{ns:List Nd}{cs:List Nat}(h:Bm ns cs){k:Nat}(hk:k<2^20):Qq ns 4096 (tN k) (fN k)=(BQ cs k).map fun K=>(tN K,fN K):=by
 have h2:=Bf.of hk
 have hf:=h.folS h2
 rw[Vj] at hf
 cases hp:BQ cs k with
 | none =>
  rw[Bw.1 hp] at hf
  simpa using hf
 | some K =>
  have q:=DG h.top hk hp
  have hK:=Bf.of q.top
  have hd:(tN K&&&fN K != 0)=false:=by rw[← hK.twin];exact q.twin
  obtain⟨a,b,e,hs⟩:=Uf ns (tN K) (fN K) hd ((h.closed hK.bt (fun u _ _=>Ha hd u)).2 q.cl) 4096 (tN k) (fN k) (Fj.of h2 hK q.sub)
  obtain⟨s1,s2,s3,s4,s5⟩:=Ue ns 4096 _ _ _ _ h2.lt h2.lf (by omega) e
  have za:a.testBit 0=false:=by
   cases z:a.testBit 0 with
   | false=>rfl
   | true=>have:=hs.t 0 z;rw[hK.zt] at this;exact this.symm
  have zb:b.testBit 0=false:=by
   cases z:b.testBit 0 with
   | false=>rfl
   | true=>have:=hs.f 0 z;rw[hK.zf] at this;exact this.symm
  obtain⟨K',hK'⟩:=TN a b
  have hT':Bf K' a b:=⟨hK'.pos,hK'.neg,hK'.top,za,zb,s4,s5⟩
  have hd':∀ u,1≤u→u<11→¬ (a.testBit u=true∧b.testBit u=true):=fun u _ _=>Ha s2 u
  have hc':Ht cs K':=(h.closed hK' hd').1 s3
  have l1:AH K K':=q.least K' hc' (Fj.sub (kt:=0) h2 hK' s1 rfl)
  have l2:AH K' K:=Fj.sub (kt:=0) hT' hK.bt hs rfl
  have ee:K=K':=AH.anti l1 l2
  subst ee
  obtain⟨e1,e2⟩:=hT'.eq
  rw[e,e1,e2]
  rfl
def Dk(i:Nat):Nat:=if i % 2=0 then i+1 else i - 1
theorem Fm{i:Nat}(h:i<20):Dk i<20:=by unfold Dk;split <;> omega
theorem Cm(i:Nat):Dk (Dk i)=i:=by
 unfold Dk
 by_cases h:i % 2=0
 ·rw[if_pos h,if_neg (by omega)];omega
 ·rw[if_neg h,if_pos (by omega)];omega
theorem XF(i:Nat):Dk i≠i:=by unfold Dk;split <;> omega
theorem Bh(s:Nat){i:Nat}(h:i<20):(AS s).testBit i=s.testBit (Dk i):=by
 rcases DU i with e | e
 ·have:=Eh s (i / 2) (by omega)
  rw[← e] at this
  rw[this];congr 1;unfold Dk;split <;> omega
 ·have:=Fa s (i / 2) (by omega)
  rw[← e] at this
  rw[this];congr 1;unfold Dk;split <;> omega
theorem GV(s:Nat){i:Nat}(h:¬ i<20):(AS s).testBit i=false:=Nat.testBit_lt_two_pow (Nat.lt_of_lt_of_le (Cl s) (Nat.pow_le_pow_right (n:=2) (i:=20) (by decide) (by omega)))
theorem Mg{s:Nat}(h:s<2^20):AS (AS s)=s:=by
 apply Nat.eq_of_testBit_eq
 intro i
 by_cases hi:i<20
 ·rw[Bh _ hi,Bh _ (Fm hi),Cm]
 ·rw[GV _ hi,Nat.testBit_lt_two_pow (Nat.lt_of_lt_of_le h (Nat.pow_le_pow_right (n:=2) (i:=20) (by decide) (by omega)))]
theorem DS(s:Nat):A4 s=false↔∀ i,i<20→s.testBit i=true→s.testBit (Dk i)=false:=by
 constructor
 ·intro h i hi hb
  have hz:s&&&AS s=0:=by simpa [A4] using h
  have:=congrArg (fun n=>n.testBit i) hz
  simp only[Nat.testBit_and,Nat.zero_testBit,hb,Bool.true_and,Bh s hi] at this
  exact this
 ·intro h
  have:s&&&AS s=0:=by
   apply Nat.eq_of_testBit_eq
   intro i
   rw[Nat.zero_testBit,Nat.testBit_and]
   by_cases hi:i<20
   ·cases hb:s.testBit i with
    | false=>rfl
    | true=>rw[Bh s hi,h i hi hb];rfl
   ·rw[GV s hi,Bool.and_false]
  simp[A4,this]
structure TF(W:Nat):Prop where
 top:W<2^20
 sym:∀ i,i<20→W.testBit (Dk i)=W.testBit i
def mix(W a b:Nat):Nat:=(a&&&W)|||(b - (b&&&W))
theorem Hk(W a b i:Nat):(mix W a b).testBit i=if W.testBit i then a.testBit i else b.testBit i:=by
 unfold mix
 rw[Nat.testBit_or,Nat.testBit_and,BF]
 cases W.testBit i <;> simp
theorem Qm{W:Nat}(hW:TF W)(a b i:Nat):(AS (mix W a b)).testBit i=if W.testBit i then (AS a).testBit i else (AS b).testBit i:=by
 by_cases hi:i<20
 ·rw[Bh _ hi,Bh _ hi,Bh _ hi,Hk,hW.sym i hi]
 ·rw[GV _ hi,GV _ hi,GV _ hi];simp
theorem Ij{c k k':Nat}(h:∀ i,c.testBit i=true→(AS k).testBit i=(AS k').testBit i):Ah c k=Ah c k':=by
 apply Nat.eq_of_testBit_eq
 intro i
 rw[DO,DO]
 cases hb:c.testBit i with
 | false=>rfl
 | true=>rw[h i hb]
theorem Fv(c k:Nat):AH (Ah c k) c:=fun i h=>by rw[DO,Bool.and_eq_true] at h;exact h.1
def XX(c W:Nat):Prop:=∀ i,c.testBit i=true→W.testBit i=false
theorem Nl{W:Nat}(hW:TF W){c:Nat}(hc:AH c W)(a b:Nat):Ah c (mix W a b)=Ah c a:=Ij fun i h=>by rw[Qm hW,hc i h,if_pos rfl]
theorem MY{W:Nat}(hW:TF W){c:Nat}(hc:XX c W)(a b:Nat):Ah c (mix W a b)=Ah c b:=Ij fun i h=>by rw[Qm hW,hc i h];rfl
theorem UH{W:Nat}(hW:TF W){a b:Nat}(ha:A4 a=false)(hb:A4 b=false):A4 (mix W a b)=false:=by
 rw[DS] at ha hb ⊢
 intro i hi h
 rw[Hk] at h ⊢
 rw[hW.sym i hi]
 cases hw:W.testBit i with
 | true=>rw[hw] at h;exact ha i hi h
 | false=>rw[hw] at h;exact hb i hi h
theorem GY(a W:Nat):AH (a&&&W) a:=fun i h=>by rw[Nat.testBit_and,Bool.and_eq_true] at h;exact h.1
theorem Dy(a W:Nat):AH (a&&&W) W:=fun i h=>by rw[Nat.testBit_and,Bool.and_eq_true] at h;exact h.2
theorem AH.and{a b c:Nat}(h:AH a b)(h':AH a c):AH a (b&&&c):=fun i q=>by rw[Nat.testBit_and,h i q,h' i q];rfl
theorem AH.mono{a b:Nat}(h:AH a b)(W:Nat):AH (a&&&W) (b&&&W):=((GY a W).trans h).and (Dy a W)
theorem AH.eq_and{a W:Nat}(h:AH a W):a&&&W=a:=AH.anti (GY a W) ((AH.refl a).and h)
theorem EI{a W:Nat}(h:a<2^20):a&&&W<2^20:=Nat.lt_of_le_of_lt Nat.and_le_left h
def Yn(cs:List Nat)(W:Nat):Prop:=∀ c∈cs,AH c W∨XX c W
def Lg(cs:List Nat)(W:Nat):List Nat:=cs.filter fun c=>c&&&W == c
def SF(cs:List Nat)(W:Nat):List Nat:=cs.filter fun c=>c&&&W == 0
theorem Dt{cs:List Nat}{W c:Nat}:c∈Lg cs W↔c∈cs∧AH c W:=by
 unfold Lg
 rw[List.mem_filter]
 constructor
 ·rintro⟨h1,h2⟩;refine⟨h1,fun i hi=>?_⟩
  have e:c&&&W=c:=by simpa using h2
  rw[← e] at hi;exact Dy _ _ i hi
 ·rintro⟨h1,h2⟩;exact⟨h1,by simpa using h2.eq_and⟩
theorem Hj{cs:List Nat}{W c:Nat}:c∈SF cs W↔c∈cs∧XX c W:=by
 unfold SF
 rw[List.mem_filter]
 constructor
 ·rintro⟨h1,h2⟩;refine⟨h1,fun i hi=>?_⟩
  have e:c&&&W=0:=by simpa using h2
  have:=congrArg (fun n=>n.testBit i) e
  simpa [Nat.testBit_and,hi] using this
 ·rintro⟨h1,h2⟩
  refine⟨h1,?_⟩
  have:c&&&W=0:=by
   apply Nat.eq_of_testBit_eq
   intro i
   rw[Nat.zero_testBit,Nat.testBit_and]
   cases hb:c.testBit i with
   | false=>rfl
   | true=>rw[h2 i hb];rfl
  simpa using this
theorem KY{cs:List Nat}(hc:∀ c∈cs,c<2^20)(W:Nat):∀ c∈Lg cs W,c<2^20:=fun c h=>hc c (Dt.1 h).1
theorem V4{cs:List Nat}(hc:∀ c∈cs,c<2^20)(W:Nat):∀ c∈SF cs W,c<2^20:=fun c h=>hc c (Hj.1 h).1
theorem Ht.mix{cs:List Nat}{W a b:Nat}(hW:TF W)(hs:Yn cs W)(ha:Ht (Lg cs W) a)(hb:Ht (SF cs W) b):Ht cs (mix W a b):=by
 intro c hc
 rcases hs c hc with h | h
 ·obtain⟨q1,q2⟩:=ha c (Dt.2 ⟨hc,h⟩)
  rw[Nl hW h]
  refine⟨q1,fun q i hi=>?_⟩
  rw[Hk,h i (Fv _ _ i hi),if_pos rfl]
  exact q2 q i hi
 ·obtain⟨q1,q2⟩:=hb c (Hj.2 ⟨hc,h⟩)
  rw[MY hW h]
  refine⟨q1,fun q i hi=>?_⟩
  rw[Hk,h i (Fv _ _ i hi)]
  exact q2 q i hi
theorem Qw{W k a b:Nat}(ha:AH (k&&&W) a)(hb:∀ i,k.testBit i=true→W.testBit i=false→b.testBit i=true):AH k (mix W a b):=fun i hi=>by
 rw[Hk]
 cases hw:W.testBit i with
 | true=>exact ha i (by rw[Nat.testBit_and,hi,hw];rfl)
 | false=>exact hb i hi hw
def A5(cs:List Nat)(W d:Nat):Option Nat:=BQ (Lg cs W) (d&&&W)
theorem J4{cs:List Nat}(hc:∀ c∈cs,c<2^20){W:Nat}(hW:TF W)(hs:Yn cs W){k K:Nat}(hk:k<2^20)(h:BQ cs k=some K):A5 cs W k=some (K&&&W):=by
 have q:=DG hc hk h
 refine Qr (KY hc W) (EI hk) ⟨EI q.top,q.sub.mono W,(GY K W).twin q.twin,fun c hcc=>?_,fun K' hC hk'=>?_⟩
 ·obtain⟨h1,h2⟩:=Dt.1 hcc
  obtain⟨q1,q2⟩:=q.cl c h1
  have e:Ah c (K&&&W)=Ah c K:=Ij fun i hi=>by
   have hw:=h2 i hi
   have hi20:=A8 hW.top hw
   rw[Bh _ hi20,Bh _ hi20,Nat.testBit_and,hW.sym i hi20,hw,Bool.and_true]
  rw[e]
  exact⟨q1,fun q'=>(q2 q').and ((Fv c K).trans h2)⟩
 ·have hm:Ht cs (mix W K' K):=Ht.mix hW hs hC (q.cl.sub fun c hcc=>(Hj.1 hcc).1)
  have:=q.least _ hm (Qw hk' fun i hi _=>q.sub i hi)
  intro i hi
  rw[Nat.testBit_and,Bool.and_eq_true] at hi
  have:=this i hi.1
  rw[Hk,hi.2,if_pos rfl] at this
  exact this
theorem Gm{cs:List Nat}(hc:∀ c∈cs,c<2^20){W:Nat}(hW:TF W)(hs:Yn cs W){k:Nat}(hk:k<2^20)(h:AU cs k=true):AU (Lg cs W) (k&&&W)=true∨AU (SF cs W) (k - (k&&&W))=true:=by
 cases h1:AU (Lg cs W) (k&&&W) with
 | true=>exact .inl rfl
 | false =>
  cases h2:AU (SF cs W) (k - (k&&&W)) with
  | true=>exact .inr rfl
  | false =>
   exfalso
   obtain⟨K1,_,a2,a3,a4⟩:=CW _ (KY hc W) _ (EI hk) h1
   obtain⟨K2,_,b2,b3,b4⟩:=CW _ (V4 hc W) _ (Nat.lt_of_le_of_lt (Nat.sub_le _ _) hk) h2
   have:=CY (Ht.mix hW hs a4 b4) (UH hW a3 b3) (k:=k) (Qw a2 fun i hi hw=>b2 i (by rw[BF,hi,hw];rfl))
   rw[this] at h
   simp at h
theorem IF{cs:List Nat}{k:Nat}(h:¬ Ht cs k):∃ c∈cs,Ah c k=0∨∃ j,Ah c k=2^j∧k.testBit j=false:=by
 apply Classical.byContradiction
 intro hn
 apply h
 intro c hc
 have h0:Ah c k≠0:=fun e=>hn ⟨c,hc,.inl e⟩
 refine⟨h0,fun hs i hi=>?_⟩
 obtain⟨j,hj⟩:=(EL _ h0).1 hs
 have e:j=i:=by rw[hj,Nat.testBit_two_pow] at hi;simpa using hi
 subst e
 cases hb:k.testBit j with
 | true=>rfl
 | false=>exact absurd ⟨c,hc,.inr ⟨j,hj,hb⟩⟩ hn
theorem Co{k j:Nat}{K:Nat}(hk:AH k K)(hj:K.testBit j=true):AH (k|||2^j) K:=hk.or fun i hi=>by
 rw[Nat.testBit_two_pow] at hi
 have e:j=i:=by simpa using hi
 subst e
 exact hj
theorem GW(k j:Nat):(k|||2^j).testBit j=true:=by rw[Nat.testBit_or,Nat.testBit_two_pow];simp
theorem I9{a b:Nat}(h:AH a b):AG a≤AG b:=(JT h 20).1
theorem GH{k j:Nat}(hj:j<20)(hk:k<2^20)(hb:k.testBit j=false):AG k+1≤AG (k|||2^j):=by
 refine Cn (AH.or_left _ _) (Nat.or_lt_two_pow hk (Nat.pow_lt_pow_right (by decide) hj)) (fun e=>?_)
 have:=GW k j
 rw[← e,hb] at this
 simp at this
theorem JD{c k K j:Nat}(hc:Ah c k=2^j)(hk:AH k K)(h1:Ah c K≠0)(h2:Ah c K&&&(Ah c K - 1)=0→AH (Ah c K) K):K.testBit j=true:=by
 have ha:=JK hk c
 rw[hc] at ha
 have e:=Mo ha h1
 refine h2 ((EL _ h1).2 ⟨j,e⟩) j ?_
 rw[e,Nat.testBit_two_pow]
 simp
theorem JL{c k K:Nat}(hc:Ah c k=0)(hk:AH k K):Ah c K=0:=by
 have ha:=JK hk c
 rw[hc] at ha
 exact AH.anti ha (fun i q=>by rw[Nat.zero_testBit] at q;simp at q)
theorem reasons{cs:List Nat}{K:Nat}(hK:K<2^20)(hC:Ht cs K):∀ (n k:Nat),AG K - AG k≤n→AH k K→(∀ K',Ht cs K'→AH k K'→AH K K') →
  ∃ R:List Nat,(∀ c∈R,c∈cs)∧R.length+AG k≤AG K∧∀ K',Ht R K'→AH k K'→AH K K':=by
 intro n
 induction n with
 | zero =>
  intro k hn hk hl
  by_cases e:k=K
  ·subst e;exact⟨[],by simp,by simp,fun K' _ h=>h⟩
  ·have:=Cn hk hK e;omega
 | succ n ih =>
  intro k hn hk hl
  by_cases hcl:Ht cs k
  ·have e:k=K:=AH.anti hk (hl k hcl (AH.refl k))
   subst e;exact⟨[],by simp,by simp,fun K' _ h=>h⟩
  ·obtain⟨c,hcc,h⟩:=IF hcl
   obtain⟨q1,q2⟩:=hC c hcc
   rcases h with h | ⟨j,hj,hb⟩
   ·exact absurd (JL h hk) q1
   ·have hjK:=JD hj hk q1 q2
    have hj20:=A8 hK hjK
    have hk20:k<2^20:=BX fun i hi=>by
     cases hb:k.testBit i with
     | false=>rfl
     | true=>have:=A8 hK (hk i hb);omega
    have hsz:=GH hj20 hk20 hb
    have hle:=I9 (Co hk hjK)
    obtain⟨R,r1,r2,r3⟩:=ih (k|||2^j) (by omega) (Co hk hjK) (fun K' hC' hk'=>hl K' hC' ((AH.or_left _ _).trans hk'))
    refine⟨c :: R,fun x hx=>?_,by simp only[List.length_cons];omega,fun K' hC' hk'=>?_⟩
    ·rcases List.mem_cons.1 hx with rfl | hx
     ·exact hcc
     ·exact r1 x hx
    ·obtain⟨p1,p2⟩:=hC' c (List.mem_cons_self ..)
     exact r3 K' (hC'.sub fun x hx=>List.mem_cons_of_mem _ hx) (Co hk' (JD hj hk' p1 p2))
theorem LN{cs:List Nat}{W m:Nat}(hW:TF W)(hm:∀ k,AH k W→A4 k=false→AG k≤m)(hs:∀ c∈cs,AH c W):∀ (n k:Nat),m - AG k≤n→AH k W→A4 k=false→AU cs k=true →
  ∃ R:List Nat,(∀ c∈R,c∈cs)∧R.length+AG k≤m+1∧AU R k=true:=by
 have hk20:∀ k,AH k W→k<2^20:=fun k hk=>BX fun i hi=>by
  cases hb:k.testBit i with
  | false=>rfl
  | true=>have:=A8 hW.top (hk i hb);omega
 have one:∀ (c k:Nat),c∈cs→AH k W→A4 k=false→(∀ K,AH k K→A4 K=false→Ht [c] K→False)→∃ R:List Nat,(∀ c∈R,c∈cs)∧R.length+AG k≤m+1∧AU R k=true:=by
  intro c k hcc hk ht hno
  refine⟨[c],fun x hx=>by rw[List.mem_singleton] at hx;rw[hx];exact hcc,by have:=hm k hk ht;simp only[List.length_singleton];omega,?_⟩
  cases hb:AU [c] k with
  | true=>rfl
  | false =>
   obtain⟨K,_,a2,a3,a4⟩:=CW [c] (fun x hx=>by rw[List.mem_singleton] at hx;rw[hx];exact hk20 c (hs c hcc)) k (hk20 k hk) hb
   exact(hno K a2 a3 a4).elim
 intro n
 induction n with
 | zero =>
  intro k hn hk ht h
  by_cases hcl:Ht cs k
  ·rw[CY hcl ht (AH.refl k)] at h;simp at h
  ·obtain⟨c,hcc,q⟩:=IF hcl
   rcases q with q | ⟨j,hj,hb⟩
   ·exact one c k hcc hk ht fun K a2 _ a4=>(a4 c (List.mem_singleton.2 rfl)).1 (JL q a2)
   ·refine one c k hcc hk ht fun K a2 a3 a4=>?_
    obtain⟨p1,p2⟩:=a4 c (List.mem_singleton.2 rfl)
    have hjW:W.testBit j=true:=hs c hcc j (Fv c k j (by rw[hj,Nat.testBit_two_pow];simp))
    have hjK:=JD hj a2 p1 p2
    have h1:=hm (k|||2^j) (Co hk hjW) ((Co a2 hjK).twin a3)
    have h2:=GH (A8 hW.top hjW) (hk20 k hk) hb
    omega
 | succ n ih =>
  intro k hn hk ht h
  by_cases hcl:Ht cs k
  ·rw[CY hcl ht (AH.refl k)] at h;simp at h
  ·obtain⟨c,hcc,q⟩:=IF hcl
   rcases q with q | ⟨j,hj,hb⟩
   ·exact one c k hcc hk ht fun K a2 _ a4=>(a4 c (List.mem_singleton.2 rfl)).1 (JL q a2)
   ·have hjW:W.testBit j=true:=hs c hcc j (Fv c k j (by rw[hj,Nat.testBit_two_pow];simp))
    cases htw:A4 (k|||2^j) with
    | true =>
     refine one c k hcc hk ht fun K a2 a3 a4=>?_
     obtain⟨p1,p2⟩:=a4 c (List.mem_singleton.2 rfl)
     rw[(Co a2 (JD hj a2 p1 p2)).twin a3] at htw
     simp at htw
    | false =>
     have h2:=GH (A8 hW.top hjW) (hk20 k hk) hb
     have hcs:∀ c∈cs,c<2^20:=fun c hcc=>hk20 c (hs c hcc)
     obtain⟨R,r1,r2,r3⟩:=ih (k|||2^j) (by omega) (Co hk hjW) htw (CX hcs (hk20 _ (Co hk hjW)) (fun c h=>h) (AH.or_left _ _) h)
     refine⟨c :: R,fun x hx=>?_,by simp only[List.length_cons];omega,?_⟩
     ·rcases List.mem_cons.1 hx with rfl | hx
      ·exact hcc
      ·exact r1 x hx
     ·have hR:∀ x∈c :: R,x<2^20:=fun x hx=>by
       rcases List.mem_cons.1 hx with rfl | hx
       ·exact hcs _ hcc
       ·exact hcs x (r1 x hx)
      cases hb2:AU (c :: R) k with
      | true=>rfl
      | false =>
       obtain⟨K,_,a2,a3,a4⟩:=CW _ hR k (hk20 k hk) hb2
       obtain⟨p1,p2⟩:=a4 c (List.mem_cons_self ..)
       rw[CY (a4.sub fun x hx=>List.mem_cons_of_mem _ hx) a3 (Co a2 (JD hj a2 p1 p2))] at r3
       exact r3
end Go.Proofs.YthboeppmlhbofaaDoor
