import Derived.Test.YthboeppmlhbofaaGreatDoorChl
import Derived.Test.YthboeppmlhbofaaGreatDoorDca
namespace Go.Proofs.YthboeppmlhbofaaGreatDoor
open Go.RowKit Txt
set_option maxRecDepth 100000
theorem CT.same{s s' t f:Nat}(h:CT s t f)(h':CT s' t f):s=s':=by
 apply Nat.eq_of_testBit_eq
 intro i
 by_cases hi:i<20
 ·rcases E9 i with e | e
  ·rw[e,h.pos _ (by omega),h'.pos _ (by omega)]
  ·rw[e,h.neg _ (by omega),h'.neg _ (by omega)]
 ·rw[Nat.testBit_lt_two_pow (Nat.lt_of_lt_of_le h.top (Nat.pow_le_pow_right (by decide) (by omega))),Nat.testBit_lt_two_pow (Nat.lt_of_lt_of_le h'.top (Nat.pow_le_pow_right (by decide) (by omega)))]
theorem XS{t f t' f':Nat}:∀ (m v:Nat),1≤v→v+m≤11→CV t f v m=CV t' f' v m→∀ u,v≤u→u<v+m→t.testBit u=t'.testBit u∧f.testBit u=f'.testBit u:=by
 intro m
 induction m with
 | zero=>intro v _ _ _ u a b;omega
 | succ m ih =>
  intro v h1 h2 h u a b
  simp only[CV,List.cons.injEq] at h
  by_cases e:u=v
  ·subst e
   have:=h.1
   rw[Ed t f h1 (by omega),Ed t' f' h1 (by omega)] at this
   cases p:t.testBit u <;> cases q:f.testBit u <;> cases p':t'.testBit u <;> cases q':f'.testBit u <;> simp_all
  ·exact ih (v+1) (by omega) (by omega) h.2 u (by omega) (by omega)
theorem CT.wsame{s t f s' t' f':Nat}(h:CT s t f)(h':CT s' t' f')(hw:CV t f 1 10=CV t' f' 1 10):s=s':=by
 have k:=XS (t:=t) (f:=f) (t':=t') (f':=f') 10 1 (by omega) (by omega) hw
 apply Nat.eq_of_testBit_eq
 intro i
 by_cases hi:i<20
 ·rcases E9 i with e | e
  ·rw[e,h.pos _ (by omega),h'.pos _ (by omega)];exact(k _ (by omega) (by omega)).1
  ·rw[e,h.neg _ (by omega),h'.neg _ (by omega)];exact(k _ (by omega) (by omega)).2
 ·rw[Nat.testBit_lt_two_pow (Nat.lt_of_lt_of_le h.top (Nat.pow_le_pow_right (by decide) (by omega))),Nat.testBit_lt_two_pow (Nat.lt_of_lt_of_le h'.top (Nat.pow_le_pow_right (by decide) (by omega)))]
theorem Oy(t f:Nat):∀ j∈CV t f 1 10,j<4:=by
 intro j hj
 simp only[CV,List.mem_cons,List.not_mem_nil,or_false] at hj
 rcases hj with rfl|rfl|rfl|rfl|rfl|rfl|rfl|rfl|rfl|rfl <;> exact Fl _ _ _
theorem CZ.perm{ns:List Nd}{cs cs':List Nat}(h:CZ ns cs)(hp:cs.Perm cs'):CZ ns cs' :=
 ⟨h.tre,fun c hc=>h.top c (hp.mem_iff.2 hc),fun s t f h2=>by rw[h.cnt s t f h2];exact hp.count_eq s⟩
theorem CZ.adds{ns:List Nd}{cs:List Nat}(h:CZ ns cs){s t f:Nat}(h2:CT s t f)(c:Nat):CZ (EU ns t f c) (cs++List.replicate c s):=by
 refine⟨(h.tre.add t f c).1,fun x hx=>?_,fun s' t' f' h'=>?_⟩
 ·rcases List.mem_append.1 hx with hx | hx
  ·exact h.top x hx
  ·rw[(List.mem_replicate.1 hx).2];exact h2.top
 ·rw[List.count_append,List.count_replicate]
  by_cases e:s'=s
  ·subst e
   have hw:CV t' f' 1 10=CV t f 1 10:=by
    have key:∀ (m v:Nat),1≤v→v+m≤11→CV t' f' v m=CV t f v m:=by
     intro m
     induction m with
     | zero=>intro v _ _;rfl
     | succ m ih =>
      intro v h1 h3
      simp only[CV]
      rw[ih (v+1) (by omega) (by omega),Ed t' f' h1 (by omega),Ed t f h1 (by omega)]
      have a:=h2.pos (v - 1) (by omega)
      have b:=h2.neg (v - 1) (by omega)
      have a':=h'.pos (v - 1) (by omega)
      have b':=h'.neg (v - 1) (by omega)
      rw[show v - 1+1=v by omega] at a b a' b'
      rw[← a,← b,← a',← b']
    exact key 10 1 (by omega) (by omega)
   rw[hw,h.tre.add_leaf,← hw,h.cnt _ _ _ h']
   simp
  ·have hne:CV t' f' 1 10≠CV t f 1 10:=fun q=>e (h'.wsame h2 q)
   rw[(h.tre.add t f c).2 _ (Oy t' f') hne,h.cnt _ _ _ h']
   have:(s == s')=false:=by simpa using fun q=>e q.symm
   simp[this]
theorem CZ.add{ns:List Nd}{cs:List Nat}(h:CZ ns cs){s t f:Nat}(h2:CT s t f):CZ (EU ns t f 1) (cs++[s]):=h.adds h2 1
theorem CZ.gone{ns:List Nd}{cs:List Nat}(h:CZ ns cs){s t f:Nat}(h2:CT s t f):Ds ns t f=none↔¬ s∈cs:=by
 rw[Vs,h.cnt s t f h2]
 exact List.count_eq_zero
theorem CZ.drop{ns ns':List Nd}{cs:List Nat}(h:CZ ns cs){s t f:Nat}(h2:CT s t f)(hd:Ds ns t f=some ns'):CZ ns' (cs.erase s):=by
 obtain⟨q1,q2⟩:=h.tre.drop_leaf hd
 refine⟨(h.tre.drop hd).1,fun x hx=>h.top x (List.mem_of_mem_erase hx),fun s' t' f' h'=>?_⟩
 by_cases e:s'=s
 ·subst e
  have hw:CV t' f' 1 10=CV t f 1 10:=by
   have key:∀ (m v:Nat),1≤v→v+m≤11→CV t' f' v m=CV t f v m:=by
    intro m
    induction m with
    | zero=>intro v _ _;rfl
    | succ m ih =>
     intro v h1 h3
     simp only[CV]
     rw[ih (v+1) (by omega) (by omega),Ed t' f' h1 (by omega),Ed t f h1 (by omega)]
     have a:=h2.pos (v - 1) (by omega)
     have b:=h2.neg (v - 1) (by omega)
     have a':=h'.pos (v - 1) (by omega)
     have b':=h'.neg (v - 1) (by omega)
     rw[show v - 1+1=v by omega] at a b a' b'
     rw[← a,← b,← a',← b']
   exact key 10 1 (by omega) (by omega)
  have hc:=h.cnt _ _ _ h'
  rw[hw] at hc ⊢
  rw[List.count_erase_self]
  omega
 ·have hne:CV t' f' 1 10≠CV t f 1 10:=fun q=>e (h'.wsame h2 q)
  rw[q1 _ (Oy t' f') hne,h.cnt _ _ _ h',List.count_erase_of_ne e]
theorem CT.ok(xs:List Int):CT (AJ xs) (Cm xs) (Ck xs):=by
 unfold AJ Cm Ck
 cases h:xs.all AT with
 | true=>exact CT.set xs h
 | false=>exact CT.zero
def Ig(cs:List Nat)(lt:Nat)(xs:List Int):Int × List Nat :=
 if lt=100 then (if AJ xs∈cs then (0,cs.erase (AJ xs)) else (8,cs))
 else if Ab cs (AW (AJ xs))=false then (7,cs) else if lt=97 then (0,cs++[AJ xs]) else (0,cs)
theorem XD{ns:List Nd}{cs:List Nat}(h:CZ ns cs)(lt:Nat)(xs:List Int):(F9 ns lt xs).1=(Ig cs lt xs).1∧CZ (F9 ns lt xs).2 (Ig cs lt xs).2:=by
 have h2:=CT.ok xs
 unfold F9 Ig
 by_cases h1:lt=100
 ·rw[if_pos h1,if_pos h1]
  by_cases hm:AJ xs∈cs
  ·rw[if_pos hm]
   cases hd:Ds ns (Cm xs) (Ck xs) with
   | none=>exact absurd hm ((h.gone h2).1 hd)
   | some ns'=>exact⟨rfl,h.drop h2 hd⟩
  ·rw[if_neg hm,(h.gone h2).2 hm]
   exact⟨rfl,h⟩
 ·rw[if_neg h1,if_neg h1,h.follows h2]
  split
  ·exact⟨rfl,h⟩
  ·split
   ·exact⟨rfl,h.add h2⟩
   ·exact⟨rfl,h⟩
def aC(l:List UInt8):Nat→List Nat→Nat→Nat→Nat→List Int→List Int × Int × Nat
 | 0,_,_,n,_,_=>([],3,n)
 | m+1,cs,p,n,lt,xs =>
  if p<l.length then
   match Bw l p with
   | none=>([],3,n)
   | some (lt',xs',q)=>if (Ig cs lt' xs').1≠0 then ([],(Ig cs lt' xs').1,n) else aC l m (Ig cs lt' xs').2 q (n+1) lt' xs'
  else if lt≠101 then ([],9,n) else (xs,0,n)
theorem Tm(l:List UInt8):∀ (m:Nat) (ns:List Nd) (cs:List Nat) (p n lt:Nat) (xs:List Int),CZ ns cs→J5 l m ns p n lt xs=aC l m cs p n lt xs:=by
 intro m
 induction m with
 | zero=>intros;rfl
 | succ m ih =>
  intro ns cs p n lt xs h
  simp only[J5,aC]
  split
  ·cases hr:Bw l p with
   | none=>rfl
   | some r =>
    obtain⟨lt',xs',q⟩:=r
    obtain⟨e,h'⟩:=XD h lt' xs'
    simp only
    rw[e]
    split
    ·rfl
    ·exact ih _ _ _ _ _ _ h'
  ·rfl
def QJ:List Nat→List Pr→Prop
 | [],[]=>True
 | s :: os,p :: ss=>CT s p.1 p.2∧QJ os ss
 | _,_=>False
theorem QJ.snoc:∀ {os:List Nat} {ss:List Pr} {s:Nat} {p:Pr},QJ os ss→CT s p.1 p.2→QJ (os++[s]) (ss++[p]):=by
 intro os
 induction os with
 | nil =>
  intro ss s p h h2
  cases ss with
  | nil=>exact⟨h2,trivial⟩
  | cons a b=>exact h.elim
 | cons o os ih =>
  intro ss s p h h2
  cases ss with
  | nil=>exact h.elim
  | cons a b=>exact⟨h.1,ih h.2 h2⟩
theorem CZ.one:CZ [Ao] []:=by
 refine⟨bj,fun c hc=>by simp at hc,fun s t f _=>?_⟩
 rw[Qu [Ao] 0 rfl]
 rfl
theorem UK{ss:List Pr}{os:List Nat}(h:QJ os ss)(em:Nat):CZ (Dq ss em) (List.replicate em 0++os):=by
 have key:∀ (os:List Nat) (ss:List Pr) (ns:List Nd) (cs:List Nat),QJ os ss→CZ ns cs→CZ (ss.foldl (fun ns p=>EU ns p.1 p.2 1) ns) (cs++os):=by
  intro os
  induction os with
  | nil =>
   intro ss ns cs h hs
   cases ss with
   | nil=>simpa using hs
   | cons a b=>exact h.elim
  | cons o os ih =>
   intro ss ns cs h hs
   cases ss with
   | nil=>exact h.elim
   | cons a b =>
    have:=ih b (EU ns a.1 a.2 1) (cs++[o]) h.2 (hs.add h.1)
    simpa using this
 have h0:=CZ.one.adds CT.zero em
 exact key os ss _ _ h h0
def He:List (List Int)→List Nat→Nat→Nat→(Int × Nat) ⊕ (List Nat)
 | [],hv,_,_=>.inr hv
 | c :: cs,hv,lits,i=>match Aw c lits with
  | .lit=>.inl (4,i)
  | .full=>.inl (5,i)
  | .taut=>He cs hv lits (i+1)
  | .takes=>He cs (hv++[Ah c]) (lits+AG (Ah c)) (i+1)
theorem eH{t:Nat}(h:Da t=0)(ht:t<2^11)(h0:t.testBit 0=false):t=0:=by
 refine IQ ht h0 (fun v hv=>?_)
 simp only[Da,Iu,Nat.add_eq_zero_iff,Bool.toNat_eq_zero] at h
 have hq:v=0∨v=1∨v=2∨v=3∨v=4∨v=5∨v=6∨v=7∨v=8∨v=9:=by omega
 rcases hq with rfl|rfl|rfl|rfl|rfl|rfl|rfl|rfl|rfl|rfl <;> simp_all
theorem dx{xs:List Int}(h:xs.all AT=true)(hz:A7 (Al xs,Ak xs)=0):Ah xs=0:=by
 have hT:=CT.set xs h
 have hz':Da (Al xs)+Da (Ak xs)=0:=hz
 have e1:=eH (t:=Al xs) (by omega) hT.lt hT.zt
 have e2:=eH (t:=Ak xs) (by omega) hT.lf hT.zf
 rw[e1,e2] at hT
 exact hT.same CT.zero
theorem XG:∀ (cls:List (List Int)) (ss:List Pr) (em:Nat) (hv os:List Nat) (i:Nat),cA ss→QJ os ss→hv.Perm (List.replicate em 0++os) →
  (match Ih cls ss em i,He cls hv (As ss) i with
   | .inl r,.inl r'=>r=r'
   | .inr (ss',em'),.inr hv'=>∃ os',QJ os' ss'∧hv'.Perm (List.replicate em' 0++os')
   | _,_=>False):=by
 intro cls
 induction cls with
 | nil=>intro ss em hv os i _ h1 h2;exact⟨os,h1,h2⟩
 | cons c cls ih =>
  intro ss em hv os i hT h1 h2
  simp only[Ih,He]
  cases hall:c.all AT with
  | false =>
   have e1:Hi c ss em=.err 4:=by simp[Hi,hall]
   have e2:Aw c (As ss)=.lit:=by simp[Aw,hall]
   rw[e1,e2]
  | true =>
   have h3:=CT.set c hall
   cases htw:BN (Ah c) with
   | true =>
    have e2:Aw c (As ss)=.taut:=by simp[Aw,hall,htw]
    rw[h3.twin] at htw
    have e1:Hi c ss em=.ok ss em:=by unfold Hi;rw[hall,if_neg (by simp),if_pos htw]
    rw[e1,e2]
    exact ih ss em hv os (i+1) hT h1 h2
   | false =>
    have htw':=htw
    rw[h3.twin] at htw'
    have hsz:AG (Ah c)=A7 (Al c,Ak c):=h3.size
    have ha:=hT.all
    by_cases hz:A7 (Al c,Ak c)=0
    ·have e1:Hi c ss em=.ok ss (em+1):=by unfold Hi;rw[hall,if_neg (by simp),if_neg (by simp[htw']),if_pos hz]
     have e2:Aw c (As ss)=.takes:=by
      unfold Aw
      rw[hall,htw,hsz,hz,if_pos rfl,if_neg (by simp),if_neg (by omega)]
     rw[e1,e2,hsz,hz,dx hall hz,Nat.add_zero]
     refine ih ss (em+1) (hv++[0]) os (i+1) hT h1 ?_
     have p1:(hv++[0]).Perm (0 :: hv):=List.perm_append_comm
     rw[List.replicate_succ,List.cons_append]
     exact p1.trans (h2.cons 0)
    ·by_cases hf:150<A7 (Al c,Ak c)+As ss
     ·have e1:Hi c ss em=.err 5:=by unfold Hi;rw[hall,if_neg (by simp),if_neg (by simp[htw']),if_neg hz,if_pos hf]
      have e2:Aw c (As ss)=.full:=by
       unfold Aw
       rw[hall,htw,hsz,if_pos rfl,if_neg (by simp),if_pos (by omega)]
      rw[e1,e2]
     ·have e1:Hi c ss em=.ok (ss++[(Al c,Ak c)]) em:=by unfold Hi;rw[hall,if_neg (by simp),if_neg (by simp[htw']),if_neg hz,if_neg hf]
      have e2:Aw c (As ss)=.takes:=by
       unfold Aw
       rw[hall,htw,hsz,if_pos rfl,if_neg (by simp),if_neg (by omega)]
      have e3:As (ss++[(Al c,Ak c)])=As ss+AG (Ah c):=by rw[hsz];simp[As]
      have hT':=(QK hT e1).1
      rw[e1,e2,← e3]
      refine ih _ em (hv++[Ah c]) (os++[Ah c]) (i+1) hT' (h1.snoc h3) ?_
      rw[← List.append_assoc]
      exact h2.append_right _
def IL(cls:List (List Int))(l:List UInt8):List Int × Int × Nat :=
 if 4194304<l.length then ([],2,0) else match He cls [] 0 0 with
  | .inl (e,i)=>([],e,i)
  | .inr hv=>aC l (l.length+1) hv 0 0 0 []
theorem TG(cls:List (List Int))(l:List UInt8):D0 cls l=IL cls l:=by
 unfold D0 IL
 split
 ·rfl
 ·have h:=XG cls [] 0 [] [] 0 ⟨fun p hp=>by simp at hp,Nat.le_refl _,by decide⟩ trivial (by simp)
  have e:As []=0:=rfl
  rw[e] at h
  cases ha:Ih cls [] 0 0 with
  | inl r =>
   cases hb:He cls [] 0 0 with
   | inl r'=>rw[ha,hb] at h;simp only at h;subst h;rfl
   | inr hv=>rw[ha,hb] at h;exact h.elim
  | inr r =>
   obtain⟨ss,em⟩:=r
   cases hb:He cls [] 0 0 with
   | inl r'=>rw[ha,hb] at h;exact h.elim
   | inr hv =>
    rw[ha,hb] at h
    obtain⟨os,h1,h2⟩:=h
    exact Tm l _ _ _ _ _ _ _ ((UK h1 em).perm h2.symm)
def da(s:Nat):Nat→Nat
 | 0=>0
 | v+1=>da s v|||(if s.testBit (2*v) then 2^(v+1) else 0)
def dQ(s:Nat):Nat→Nat
 | 0=>0
 | v+1=>dQ s v|||(if s.testBit (2*v+1) then 2^(v+1) else 0)
def tN(s:Nat):Nat:=da s 10
def fN(s:Nat):Nat:=dQ s 10
theorem KA(b:Bool)(j i:Nat):(if b=true then 2^j else 0).testBit i=(b && decide (i=j)):=by
 cases b
 ·simp
 ·simp only[if_true,Nat.testBit_two_pow,Bool.true_and]
  by_cases h:i=j
  ·subst h;simp
  ·rw[decide_eq_false (fun e=>h e.symm),decide_eq_false h]
theorem Jm(s:Nat):∀ k i,(da s k).testBit i=(decide (1≤i) && decide (i≤k) && s.testBit (2*(i - 1))):=by
 intro k
 induction k with
 | zero=>intro i;simp only[da,Nat.zero_testBit];by_cases h:i=0 <;> simp[h]
 | succ k ih =>
  intro i
  simp only[da]
  rw[Nat.testBit_or,ih,KA]
  by_cases e:i=k+1
  ·subst e
   rw[decide_eq_true (by omega:1≤k+1),decide_eq_false (by omega:¬ k+1≤k),decide_eq_true (by omega:k+1≤k+1),Nat.add_sub_cancel]
   simp
  ·rw[decide_eq_false e,Bool.and_false,Bool.or_false]
   congr 2
   by_cases h:i≤k
   ·rw[decide_eq_true h,decide_eq_true (by omega:i≤k+1)]
   ·rw[decide_eq_false h,decide_eq_false (by omega:¬ i≤k+1)]
theorem Jc(s:Nat):∀ k i,(dQ s k).testBit i=(decide (1≤i) && decide (i≤k) && s.testBit (2*(i - 1)+1)):=by
 intro k
 induction k with
 | zero=>intro i;simp only[dQ,Nat.zero_testBit];by_cases h:i=0 <;> simp[h]
 | succ k ih =>
  intro i
  simp only[dQ]
  rw[Nat.testBit_or,ih,KA]
  by_cases e:i=k+1
  ·subst e
   rw[decide_eq_true (by omega:1≤k+1),decide_eq_false (by omega:¬ k+1≤k),decide_eq_true (by omega:k+1≤k+1),Nat.add_sub_cancel]
   simp
  ·rw[decide_eq_false e,Bool.and_false,Bool.or_false]
   congr 2
   by_cases h:i≤k
   ·rw[decide_eq_true h,decide_eq_true (by omega:i≤k+1)]
   ·rw[decide_eq_false h,decide_eq_false (by omega:¬ i≤k+1)]
theorem B7{t n:Nat}(h:∀ i,n≤i→t.testBit i=false):t<2^n:=Nat.lt_pow_two_of_testBit t (fun i hi=>h i hi)
theorem CT.of{s:Nat}(hs:s<2^20):CT s (tN s) (fN s):=by
 refine⟨fun v hv=>?_,fun v hv=>?_,hs,?_,?_,?_,?_⟩
 ·unfold tN;rw[Jm,decide_eq_true (by omega:1≤v+1),decide_eq_true (by omega:v+1≤10),Nat.add_sub_cancel];simp
 ·unfold fN;rw[Jc,decide_eq_true (by omega:1≤v+1),decide_eq_true (by omega:v+1≤10),Nat.add_sub_cancel];simp
 ·unfold tN;rw[Jm];simp
 ·unfold fN;rw[Jc];simp
 ·refine B7 fun i hi=>?_
  unfold tN;rw[Jm,decide_eq_false (by omega:¬ i≤10)];simp
 ·refine B7 fun i hi=>?_
  unfold fN;rw[Jc,decide_eq_false (by omega:¬ i≤10)];simp
theorem Ke{t t':Nat}(h:t<2^11)(h':t'<2^11)(h0:t.testBit 0=t'.testBit 0)(hb:∀ v,v<10→t.testBit (v+1)=t'.testBit (v+1)):t=t':=by
 apply Nat.eq_of_testBit_eq
 intro i
 by_cases e0:i=0
 ·subst e0;exact h0
 ·by_cases e1:i<11
  ·have:=hb (i - 1) (by omega)
   rwa [show i - 1+1=i by omega] at this
  ·rw[Nat.testBit_lt_two_pow (Nat.lt_of_lt_of_le h (Nat.pow_le_pow_right (by decide) (by omega))),Nat.testBit_lt_two_pow (Nat.lt_of_lt_of_le h' (Nat.pow_le_pow_right (by decide) (by omega)))]
theorem CT.eq{s t f:Nat}(h:CT s t f):t=tN s∧f=fN s:=by
 have h':=CT.of h.top
 exact⟨Ke h.lt h'.lt (by rw[h.zt,h'.zt]) (fun v hv=>by rw[← h.pos v hv,h'.pos v hv]),Ke h.lf h'.lf (by rw[h.zf,h'.zf]) (fun v hv=>by rw[← h.neg v hv,h'.neg v hv])⟩
def Bs(cs:List Nat)(k:Nat):Option Nat:=match IW cs 21 k with
 | none=>none
 | some K=>if BN K then none else some K
theorem Cu{cs:List Nat}{k:Nat}:Bs cs k=none↔Ab cs k=true:=by
 unfold Bs Ab
 cases IW cs 21 k with
 | none=>simp
 | some K=>cases h:BN K <;> simp[h]
theorem cf{cs:List Nat}{K:Nat}(hC:Jp cs K):∀ m k,AM k K→∃ k',IW cs m k=some k'∧AM k' K:=by
 intro m
 induction m with
 | zero=>intro k h;exact⟨k,rfl,h⟩
 | succ m ih =>
  intro k h
  obtain⟨k1,e1,h1⟩:=Of cs hC k h
  obtain⟨k2,e2,h2⟩:=ih k1 h1
  exact⟨k2,by simp only[IW,e1];exact e2,h2⟩
theorem NQ{cs:List Nat}{k K:Nat}(h:Bs cs k=some K){K':Nat}(hC:Jp cs K')(hs:AM k K'):AM K K':=by
 obtain⟨k',e,h'⟩:=cf hC 21 k hs
 unfold Bs at h
 rw[e] at h
 simp only at h
 split at h
 ·simp at h
 ·simp only[Option.some.injEq] at h;subst h;exact h'
structure O8(cs:List Nat)(k K:Nat):Prop where
 top:K<2^20
 sub:AM k K
 twin:BN K=false
 cl:Jp cs K
 least:∀ K',Jp cs K'→AM k K'→AM K K'
theorem ER{cs:List Nat}(hc:∀ c∈cs,c<2^20){k K:Nat}(hk:k<2^20)(h:Bs cs k=some K):O8 cs k K:=by
 have hl:=fun K'=>NQ (K':=K') h
 unfold Bs at h
 cases hr:IW cs 21 k with
 | none=>rw[hr] at h;simp at h
 | some K1 =>
  rw[hr] at h
  simp only at h
  split at h
  ·simp at h
  ·rename_i ht
   simp only[Option.some.injEq] at h
   subst h
   obtain⟨h1,h2,h3⟩:=VO cs hc 21 k K1 hk hr (by omega)
   exact⟨h3,h2,by simpa using ht,Re _ _ h1,hl⟩
theorem Pn{cs:List Nat}{k K:Nat}(hC:Jp cs K)(ht:BN K=false)(hs:AM k K):∃ K',Bs cs k=some K'∧AM K' K:=by
 have hn:Ab cs k=false:=Dd hC ht hs
 cases hp:Bs cs k with
 | none=>rw[Cu.1 hp] at hn;simp at hn
 | some K'=>exact⟨K',rfl,NQ hp hC hs⟩
theorem VL{cs:List Nat}(hc:∀ c∈cs,c<2^20){k K:Nat}(hk:k<2^20)(h:O8 cs k K):Bs cs k=some K:=by
 obtain⟨K',e,hs⟩:=Pn h.cl h.twin h.sub
 have h':=ER hc hk e
 rw[e,AM.anti hs (h.least K' h'.cl h'.sub)]
theorem Jp.sub{cs cs':List Nat}{K:Nat}(h:Jp cs' K)(hs:∀ c∈cs,c∈cs'):Jp cs K:=fun c hc=>h c (hs c hc)
theorem Wv{cs cs':List Nat}(hc:∀ c∈cs',c<2^20){k k' K':Nat}(hk:k'<2^20)(hs:∀ c∈cs,c∈cs')(hkk:AM k k')(h:Bs cs' k'=some K'):∃ K,Bs cs k=some K∧AM K K':=by
 have h':=ER hc hk h
 exact Pn (h'.cl.sub hs) h'.twin (hkk.trans h'.sub)
theorem Dc{cs cs':List Nat}(hc:∀ c∈cs',c<2^20){k k':Nat}(hk:k'<2^20)(hs:∀ c∈cs,c∈cs')(hkk:AM k k')(h:Ab cs k=true):Ab cs' k'=true:=by
 cases hb:Ab cs' k' with
 | true=>rfl
 | false =>
  obtain⟨K,_,h2,h3,h4⟩:=Db cs' hc k' hk hb
  rw[Dd (h4.sub hs) h3 (hkk.trans h2)] at h
  exact h
theorem ZE(ns:List Nd):∀ (m kt kf a b:Nat),kt<2^11→kf<2^11→4096≤kt+kf+m→Ri ns m kt kf=some (a,b)→Hh kt kf a b∧(a&&&b != 0)=false∧KS ns a b∧a<2^11∧b<2^11:=by
 intro m
 induction m with
 | zero=>intro kt kf a b h1 h2 h3 _;omega
 | succ m ih =>
  intro kt kf a b h1 h2 h3 h
  simp only[Ri] at h
  obtain⟨o1,o2⟩:=Ox (ns:=ns) (kt:=kt) (kf:=kf) 10 0 1 0 ⟨kt,kf,false⟩ rfl (by decide) (.inl rfl) ⟨h1,h2⟩
  obtain⟨x,y,u1,u2⟩:=KM (ns:=ns) (kt:=kt) (kf:=kf) 10 0 1 0 ⟨kt,kf,false⟩ rfl (by decide) (.inl rfl)
  have comp:=JT ns kt kf 10 0 1 0 ⟨kt,kf,false⟩ rfl (by decide) (.inl rfl)
  generalize AU ns kt kf 10 0 1 0 ⟨kt,kf,false⟩=S at *
  split at h
  ·simp at h
  ·rename_i htw
   split at h
   ·simp at h
   ·rename_i hcl
    have hcl':S.cl=false:=by simpa using hcl
    split at h
    ·rename_i he
     simp only[Option.some.injEq,Prod.mk.injEq] at h
     obtain⟨rfl,rfl⟩:=h
     refine⟨⟨fun _ h=>h,fun _ h=>h⟩,by simpa using htw,fun ws hl h3' hq=>?_,h1,h2⟩
     obtain⟨q1,_,q3⟩:=comp hcl' ws hl h3' hq
     exact⟨q1 rfl,fun z hz=>Ra he.1 he.2 ws 1 z hz (q3 rfl z hz)⟩
    ·rename_i he
     have a1:kt≤S.gt:=by rw[u1];exact Nat.left_le_or
     have a2:kf≤S.gf:=by rw[u2];exact Nat.left_le_or
     have a3:kt+kf<S.gt+S.gf:=by
      by_cases q:S.gt=kt
      ·by_cases q':S.gf=kf
       ·exact absurd ⟨q,q'⟩ he
       ·omega
      ·omega
     obtain⟨b1,b2,b3,b4,b5⟩:=ih S.gt S.gf a b o1 o2 (by omega) h
     refine⟨⟨fun v hv=>b1.t v ?_,fun v hv=>b1.f v ?_⟩,b2,b3,b4,b5⟩
     ·rw[u1,Nat.testBit_or];rw[show(⟨kt,kf,false⟩:PS).gt=kt from rfl,hv];rfl
     ·rw[u2,Nat.testBit_or];rw[show(⟨kt,kf,false⟩:PS).gf=kf from rfl,hv];rfl
theorem ZF(ns:List Nd)(Kt Kf:Nat)(hdis:(Kt&&&Kf != 0)=false)(hC:KS ns Kt Kf):∀ (m kt kf:Nat),Hh kt kf Kt Kf→∃ a b,Ri ns m kt kf=some (a,b)∧Hh a b Kt Kf:=by
 intro m
 induction m with
 | zero=>intro kt kf h;exact⟨kt,kf,rfl,h⟩
 | succ m ih =>
  intro kt kf hk
  have htw:(kt&&&kf != 0)=false:=by
   have hz:Kt&&&Kf=0:=by simpa using hdis
   have:kt&&&kf=0:=by
    apply Nat.eq_of_testBit_eq
    intro i
    rw[Nat.zero_testBit,Nat.testBit_and]
    cases a:kt.testBit i with
    | false=>rfl
    | true =>
     cases b:kf.testBit i with
     | false=>rfl
     | true =>
      have:=congrArg (fun n=>n.testBit i) hz
      simp only[Nat.testBit_and,hk.t i a,hk.f i b,Nat.zero_testBit] at this
      simp at this
   rw[this];rfl
  obtain⟨h1,h2⟩:=Nm ns kt kf Kt Kf hk 10 0 1 0 ⟨kt,kf,false⟩ rfl (by decide) (.inl rfl) rfl hk (fun ws hl h3 hq=>.inr (.inl ⟨.inl rfl,hC ws hl h3 hq⟩))
  simp only[Ri,htw,h1,Bool.false_eq_true,if_false]
  split
  ·exact⟨kt,kf,rfl,hk⟩
  ·exact ih _ _ h2
theorem Hh.of{k a b K A B:Nat}(h:CT k a b)(hK:CT K A B)(hs:AM k K):Hh a b A B:=by
 refine⟨fun v hv=>?_,fun v hv=>?_⟩
 ·have h11:=Bl h.lt hv
  have h0:v≠0:=fun e=>by subst e;rw[h.zt] at hv;simp at hv
  have a:=h.pos (v - 1) (by omega)
  have b:=hK.pos (v - 1) (by omega)
  rw[show v - 1+1=v by omega] at a b
  rw[← b];exact hs _ (by rw[a];exact hv)
 ·have h11:=Bl h.lf hv
  have h0:v≠0:=fun e=>by subst e;rw[h.zf] at hv;simp at hv
  have a:=h.neg (v - 1) (by omega)
  have b:=hK.neg (v - 1) (by omega)
  rw[show v - 1+1=v by omega] at a b
  rw[← b];exact hs _ (by rw[a];exact hv)
theorem CZ.push{ns:List Nd}{cs:List Nat}(h:CZ ns cs){k:Nat}(hk:k<2^20):Ri ns 4096 (tN k) (fN k)=(Bs cs k).map fun K=>(tN K,fN K):=by
 have h2:=CT.of hk
 have hf:=h.folS h2
 rw[Uz] at hf
 cases hp:Bs cs k with
 | none =>
  rw[Cu.1 hp] at hf
  simpa using hf
 | some K =>
  have q:=ER h.top hk hp
  have hK:=CT.of q.top
  have hd:(tN K&&&fN K != 0)=false:=by rw[← hK.twin];exact q.twin
  obtain⟨a,b,e,hs⟩:=ZF ns (tN K) (fN K) hd ((h.closed hK.bt (fun u _ _=>Ja hd u)).2 q.cl) 4096 (tN k) (fN k) (Hh.of h2 hK q.sub)
  obtain⟨s1,s2,s3,s4,s5⟩:=ZE ns 4096 _ _ _ _ h2.lt h2.lf (by omega) e
  have za:a.testBit 0=false:=by
   cases z:a.testBit 0 with
   | false=>rfl
   | true=>have:=hs.t 0 z;rw[hK.zt] at this;exact this.symm
  have zb:b.testBit 0=false:=by
   cases z:b.testBit 0 with
   | false=>rfl
   | true=>have:=hs.f 0 z;rw[hK.zf] at this;exact this.symm
  obtain⟨K',hK'⟩:=Xp a b
  have hT':CT K' a b:=⟨hK'.pos,hK'.neg,hK'.top,za,zb,s4,s5⟩
  have hd':∀ u,1≤u→u<11→¬ (a.testBit u=true∧b.testBit u=true):=fun u _ _=>Ja s2 u
  have hc':Jp cs K':=(h.closed hK' hd').1 s3
  have l1:AM K K':=q.least K' hc' (Hh.sub (kt:=0) h2 hK' s1 rfl)
  have l2:AM K' K:=Hh.sub (kt:=0) hT' hK.bt hs rfl
  have ee:K=K':=AM.anti l1 l2
  subst ee
  obtain⟨e1,e2⟩:=hT'.eq
  rw[e,e1,e2]
  rfl
def Fs(i:Nat):Nat:=if i % 2=0 then i+1 else i - 1
theorem Hk{i:Nat}(h:i<20):Fs i<20:=by unfold Fs;split <;> omega
theorem Dt(i:Nat):Fs (Fs i)=i:=by
 unfold Fs
 by_cases h:i % 2=0
 ·rw[if_pos h,if_neg (by omega)];omega
 ·rw[if_neg h,if_pos (by omega)];omega
theorem cW(i:Nat):Fs i≠i:=by unfold Fs;split <;> omega
theorem CQ(s:Nat){i:Nat}(h:i<20):(AW s).testBit i=s.testBit (Fs i):=by
 rcases E9 i with e | e
 ·have:=GH s (i / 2) (by omega)
  rw[← e] at this
  rw[this];congr 1;unfold Fs;split <;> omega
 ·have:=G9 s (i / 2) (by omega)
  rw[← e] at this
  rw[this];congr 1;unfold Fs;split <;> omega
theorem IT(s:Nat){i:Nat}(h:¬ i<20):(AW s).testBit i=false:=Nat.testBit_lt_two_pow (Nat.lt_of_lt_of_le (C6 s) (Nat.pow_le_pow_right (n:=2) (i:=20) (by decide) (by omega)))
theorem Pj{s:Nat}(h:s<2^20):AW (AW s)=s:=by
 apply Nat.eq_of_testBit_eq
 intro i
 by_cases hi:i<20
 ·rw[CQ _ hi,CQ _ (Hk hi),Dt]
 ·rw[IT _ hi,Nat.testBit_lt_two_pow (Nat.lt_of_lt_of_le h (Nat.pow_le_pow_right (n:=2) (i:=20) (by decide) (by omega)))]
theorem FK(s:Nat):BN s=false↔∀ i,i<20→s.testBit i=true→s.testBit (Fs i)=false:=by
 constructor
 ·intro h i hi hb
  have hz:s&&&AW s=0:=by simpa [BN] using h
  have:=congrArg (fun n=>n.testBit i) hz
  simp only[Nat.testBit_and,Nat.zero_testBit,hb,Bool.true_and,CQ s hi] at this
  exact this
 ·intro h
  have:s&&&AW s=0:=by
   apply Nat.eq_of_testBit_eq
   intro i
   rw[Nat.zero_testBit,Nat.testBit_and]
   by_cases hi:i<20
   ·cases hb:s.testBit i with
    | false=>rfl
    | true=>rw[CQ s hi,h i hi hb];rfl
   ·rw[IT s hi,Bool.and_false]
  simp[BN,this]
structure Xe(W:Nat):Prop where
 top:W<2^20
 sym:∀ i,i<20→W.testBit (Fs i)=W.testBit i
def mix(W a b:Nat):Nat:=(a&&&W)|||(b - (b&&&W))
theorem Jh(W a b i:Nat):(mix W a b).testBit i=if W.testBit i then a.testBit i else b.testBit i:=by
 unfold mix
 rw[Nat.testBit_or,Nat.testBit_and,Bi]
 cases W.testBit i <;> simp
theorem VF{W:Nat}(hW:Xe W)(a b i:Nat):(AW (mix W a b)).testBit i=if W.testBit i then (AW a).testBit i else (AW b).testBit i:=by
 by_cases hi:i<20
 ·rw[CQ _ hi,CQ _ hi,CQ _ hi,Jh,hW.sym i hi]
 ·rw[IT _ hi,IT _ hi,IT _ hi];simp
theorem Km{c k k':Nat}(h:∀ i,c.testBit i=true→(AW k).testBit i=(AW k').testBit i):Av c k=Av c k':=by
 apply Nat.eq_of_testBit_eq
 intro i
 rw[EZ,EZ]
 cases hb:c.testBit i with
 | false=>rfl
 | true=>rw[h i hb]
theorem Ht(c k:Nat):AM (Av c k) c:=fun i h=>by rw[EZ,Bool.and_eq_true] at h;exact h.1
def dJ(c W:Nat):Prop:=∀ i,c.testBit i=true→W.testBit i=false
theorem Qw{W:Nat}(hW:Xe W){c:Nat}(hc:AM c W)(a b:Nat):Av c (mix W a b)=Av c a:=Km fun i h=>by rw[VF hW,hc i h,if_pos rfl]
theorem PX{W:Nat}(hW:Xe W){c:Nat}(hc:dJ c W)(a b:Nat):Av c (mix W a b)=Av c b:=Km fun i h=>by rw[VF hW,hc i h];rfl
theorem Yn{W:Nat}(hW:Xe W){a b:Nat}(ha:BN a=false)(hb:BN b=false):BN (mix W a b)=false:=by
 rw[FK] at ha hb ⊢
 intro i hi h
 rw[Jh] at h ⊢
 rw[hW.sym i hi]
 cases hw:W.testBit i with
 | true=>rw[hw] at h;exact ha i hi h
 | false=>rw[hw] at h;exact hb i hi h
theorem Ib(a W:Nat):AM (a&&&W) a:=fun i h=>by rw[Nat.testBit_and,Bool.and_eq_true] at h;exact h.1
theorem FJ(a W:Nat):AM (a&&&W) W:=fun i h=>by rw[Nat.testBit_and,Bool.and_eq_true] at h;exact h.2
theorem AM.and{a b c:Nat}(h:AM a b)(h':AM a c):AM a (b&&&c):=fun i q=>by rw[Nat.testBit_and,h i q,h' i q];rfl
theorem AM.mono{a b:Nat}(h:AM a b)(W:Nat):AM (a&&&W) (b&&&W):=((Ib a W).trans h).and (FJ a W)
theorem AM.eq_and{a W:Nat}(h:AM a W):a&&&W=a:=AM.anti (Ib a W) ((AM.refl a).and h)
theorem Ff{a W:Nat}(h:a<2^20):a&&&W<2^20:=Nat.lt_of_le_of_lt Nat.and_le_left h
def dp(cs:List Nat)(W:Nat):Prop:=∀ c∈cs,AM c W∨dJ c W
def OT(cs:List Nat)(W:Nat):List Nat:=cs.filter fun c=>c&&&W == c
def Wj(cs:List Nat)(W:Nat):List Nat:=cs.filter fun c=>c&&&W == 0
theorem E7{cs:List Nat}{W c:Nat}:c∈OT cs W↔c∈cs∧AM c W:=by
 unfold OT
 rw[List.mem_filter]
 constructor
 ·rintro⟨h1,h2⟩;refine⟨h1,fun i hi=>?_⟩
  have e:c&&&W=c:=by simpa using h2
  rw[← e] at hi;exact FJ _ _ i hi
 ·rintro⟨h1,h2⟩;exact⟨h1,by simpa using h2.eq_and⟩
theorem Jg{cs:List Nat}{W c:Nat}:c∈Wj cs W↔c∈cs∧dJ c W:=by
 unfold Wj
 rw[List.mem_filter]
 constructor
 ·rintro⟨h1,h2⟩;refine⟨h1,fun i hi=>?_⟩
  have e:c&&&W=0:=by simpa using h2
  have:=congrArg (fun n=>n.testBit i) e
  simpa [Nat.testBit_and,hi] using this
 ·rintro⟨h1,h2⟩
  refine⟨h1,?_⟩
  have:c&&&W=0:=by
   apply Nat.eq_of_testBit_eq
   intro i
   rw[Nat.zero_testBit,Nat.testBit_and]
   cases hb:c.testBit i with
   | false=>rfl
   | true=>rw[h2 i hb];rfl
  simpa using this
theorem Mo{cs:List Nat}(hc:∀ c∈cs,c<2^20)(W:Nat):∀ c∈OT cs W,c<2^20:=fun c h=>hc c (E7.1 h).1
theorem bB{cs:List Nat}(hc:∀ c∈cs,c<2^20)(W:Nat):∀ c∈Wj cs W,c<2^20:=fun c h=>hc c (Jg.1 h).1
theorem Jp.mix{cs:List Nat}{W a b:Nat}(hW:Xe W)(hs:dp cs W)(ha:Jp (OT cs W) a)(hb:Jp (Wj cs W) b):Jp cs (mix W a b):=by
 intro c hc
 rcases hs c hc with h | h
 ·obtain⟨q1,q2⟩:=ha c (E7.2 ⟨hc,h⟩)
  rw[Qw hW h]
  refine⟨q1,fun q i hi=>?_⟩
  rw[Jh,h i (Ht _ _ i hi),if_pos rfl]
  exact q2 q i hi
 ·obtain⟨q1,q2⟩:=hb c (Jg.2 ⟨hc,h⟩)
  rw[PX hW h]
  refine⟨q1,fun q i hi=>?_⟩
  rw[Jh,h i (Ht _ _ i hi)]
  exact q2 q i hi
theorem VS{W k a b:Nat}(ha:AM (k&&&W) a)(hb:∀ i,k.testBit i=true→W.testBit i=false→b.testBit i=true):AM k (mix W a b):=fun i hi=>by
 rw[Jh]
 cases hw:W.testBit i with
 | true=>exact ha i (by rw[Nat.testBit_and,hi,hw];rfl)
 | false=>exact hb i hi hw
def Ba(cs:List Nat)(W d:Nat):Option Nat:=Bs (OT cs W) (d&&&W)
theorem MU{cs:List Nat}(hc:∀ c∈cs,c<2^20){W:Nat}(hW:Xe W)(hs:dp cs W){k K:Nat}(hk:k<2^20)(h:Bs cs k=some K):Ba cs W k=some (K&&&W):=by
 have q:=ER hc hk h
 refine VL (Mo hc W) (Ff hk) ⟨Ff q.top,q.sub.mono W,(Ib K W).twin q.twin,fun c hcc=>?_,fun K' hC hk'=>?_⟩
 ·obtain⟨h1,h2⟩:=E7.1 hcc
  obtain⟨q1,q2⟩:=q.cl c h1
  have e:Av c (K&&&W)=Av c K:=Km fun i hi=>by
   have hw:=h2 i hi
   have hi20:=Bl hW.top hw
   rw[CQ _ hi20,CQ _ hi20,Nat.testBit_and,hW.sym i hi20,hw,Bool.and_true]
  rw[e]
  exact⟨q1,fun q'=>(q2 q').and ((Ht c K).trans h2)⟩
 ·have hm:Jp cs (mix W K' K):=Jp.mix hW hs hC (q.cl.sub fun c hcc=>(Jg.1 hcc).1)
  have:=q.least _ hm (VS hk' fun i hi _=>q.sub i hi)
  intro i hi
  rw[Nat.testBit_and,Bool.and_eq_true] at hi
  have:=this i hi.1
  rw[Jh,hi.2,if_pos rfl] at this
  exact this
theorem Is{cs:List Nat}(hc:∀ c∈cs,c<2^20){W:Nat}(hW:Xe W)(hs:dp cs W){k:Nat}(hk:k<2^20)(h:Ab cs k=true):Ab (OT cs W) (k&&&W)=true∨Ab (Wj cs W) (k - (k&&&W))=true:=by
 cases h1:Ab (OT cs W) (k&&&W) with
 | true=>exact .inl rfl
 | false =>
  cases h2:Ab (Wj cs W) (k - (k&&&W)) with
  | true=>exact .inr rfl
  | false =>
   exfalso
   obtain⟨K1,_,a2,a3,a4⟩:=Db _ (Mo hc W) _ (Ff hk) h1
   obtain⟨K2,_,b2,b3,b4⟩:=Db _ (bB hc W) _ (Nat.lt_of_le_of_lt (Nat.sub_le _ _) hk) h2
   have:=Dd (Jp.mix hW hs a4 b4) (Yn hW a3 b3) (k:=k) (VS a2 fun i hi hw=>b2 i (by rw[Bi,hi,hw];rfl))
   rw[this] at h
   simp at h
theorem KD{cs:List Nat}{k:Nat}(h:¬ Jp cs k):∃ c∈cs,Av c k=0∨∃ j,Av c k=2^j∧k.testBit j=false:=by
 apply Classical.byContradiction
 intro hn
 apply h
 intro c hc
 have h0:Av c k≠0:=fun e=>hn ⟨c,hc,.inl e⟩
 refine⟨h0,fun hs i hi=>?_⟩
 obtain⟨j,hj⟩:=(Fj _ h0).1 hs
 have e:j=i:=by rw[hj,Nat.testBit_two_pow] at hi;simpa using hi
 subst e
 cases hb:k.testBit j with
 | true=>rfl
 | false=>exact absurd ⟨c,hc,.inr ⟨j,hj,hb⟩⟩ hn
theorem Dv{k j:Nat}{K:Nat}(hk:AM k K)(hj:K.testBit j=true):AM (k|||2^j) K:=hk.or fun i hi=>by
 rw[Nat.testBit_two_pow] at hi
 have e:j=i:=by simpa using hi
 subst e
 exact hj
theorem IV(k j:Nat):(k|||2^j).testBit j=true:=by rw[Nat.testBit_or,Nat.testBit_two_pow];simp
theorem LD{a b:Nat}(h:AM a b):AG a≤AG b:=(Oo h 20).1
theorem IA{k j:Nat}(hj:j<20)(hk:k<2^20)(hb:k.testBit j=false):AG k+1≤AG (k|||2^j):=by
 refine Du (AM.or_left _ _) (Nat.or_lt_two_pow hk (Nat.pow_lt_pow_right (by decide) hj)) (fun e=>?_)
 have:=IV k j
 rw[← e,hb] at this
 simp at this
theorem LO{c k K j:Nat}(hc:Av c k=2^j)(hk:AM k K)(h1:Av c K≠0)(h2:Av c K&&&(Av c K - 1)=0→AM (Av c K) K):K.testBit j=true:=by
 have ha:=Ld hk c
 rw[hc] at ha
 have e:=Py ha h1
 refine h2 ((Fj _ h1).2 ⟨j,e⟩) j ?_
 rw[e,Nat.testBit_two_pow]
 simp
theorem Le{c k K:Nat}(hc:Av c k=0)(hk:AM k K):Av c K=0:=by
 have ha:=Ld hk c
 rw[hc] at ha
 exact AM.anti ha (fun i q=>by rw[Nat.zero_testBit] at q;simp at q)
theorem reasons{cs:List Nat}{K:Nat}(hK:K<2^20)(hC:Jp cs K):∀ (n k:Nat),AG K - AG k≤n→AM k K→(∀ K',Jp cs K'→AM k K'→AM K K') →
  ∃ R:List Nat,(∀ c∈R,c∈cs)∧R.length+AG k≤AG K∧∀ K',Jp R K'→AM k K'→AM K K':=by
 intro n
 induction n with
 | zero =>
  intro k hn hk hl
  by_cases e:k=K
  ·subst e;exact⟨[],by simp,by simp,fun K' _ h=>h⟩
  ·have:=Du hk hK e;omega
 | succ n ih =>
  intro k hn hk hl
  by_cases hcl:Jp cs k
  ·have e:k=K:=AM.anti hk (hl k hcl (AM.refl k))
   subst e;exact⟨[],by simp,by simp,fun K' _ h=>h⟩
  ·obtain⟨c,hcc,h⟩:=KD hcl
   obtain⟨q1,q2⟩:=hC c hcc
   rcases h with h | ⟨j,hj,hb⟩
   ·exact absurd (Le h hk) q1
   ·have hjK:=LO hj hk q1 q2
    have hj20:=Bl hK hjK
    have hk20:k<2^20:=B7 fun i hi=>by
     cases hb:k.testBit i with
     | false=>rfl
     | true=>have:=Bl hK (hk i hb);omega
    have hsz:=IA hj20 hk20 hb
    have hle:=LD (Dv hk hjK)
    obtain⟨R,r1,r2,r3⟩:=ih (k|||2^j) (by omega) (Dv hk hjK) (fun K' hC' hk'=>hl K' hC' ((AM.or_left _ _).trans hk'))
    refine⟨c :: R,fun x hx=>?_,by simp only[List.length_cons];omega,fun K' hC' hk'=>?_⟩
    ·rcases List.mem_cons.1 hx with rfl | hx
     ·exact hcc
     ·exact r1 x hx
    ·obtain⟨p1,p2⟩:=hC' c (List.mem_cons_self ..)
     exact r3 K' (hC'.sub fun x hx=>List.mem_cons_of_mem _ hx) (Dv hk' (LO hj hk' p1 p2))
theorem Nw{cs:List Nat}{W m:Nat}(hW:Xe W)(hm:∀ k,AM k W→BN k=false→AG k≤m)(hs:∀ c∈cs,AM c W):∀ (n k:Nat),m - AG k≤n→AM k W→BN k=false→Ab cs k=true →
  ∃ R:List Nat,(∀ c∈R,c∈cs)∧R.length+AG k≤m+1∧Ab R k=true:=by
 have hk20:∀ k,AM k W→k<2^20:=fun k hk=>B7 fun i hi=>by
  cases hb:k.testBit i with
  | false=>rfl
  | true=>have:=Bl hW.top (hk i hb);omega
 have one:∀ (c k:Nat),c∈cs→AM k W→BN k=false→(∀ K,AM k K→BN K=false→Jp [c] K→False)→∃ R:List Nat,(∀ c∈R,c∈cs)∧R.length+AG k≤m+1∧Ab R k=true:=by
  intro c k hcc hk ht hno
  refine⟨[c],fun x hx=>by rw[List.mem_singleton] at hx;rw[hx];exact hcc,by have:=hm k hk ht;simp only[List.length_singleton];omega,?_⟩
  cases hb:Ab [c] k with
  | true=>rfl
  | false =>
   obtain⟨K,_,a2,a3,a4⟩:=Db [c] (fun x hx=>by rw[List.mem_singleton] at hx;rw[hx];exact hk20 c (hs c hcc)) k (hk20 k hk) hb
   exact(hno K a2 a3 a4).elim
 intro n
 induction n with
 | zero =>
  intro k hn hk ht h
  by_cases hcl:Jp cs k
  ·rw[Dd hcl ht (AM.refl k)] at h;simp at h
  ·obtain⟨c,hcc,q⟩:=KD hcl
   rcases q with q | ⟨j,hj,hb⟩
   ·exact one c k hcc hk ht fun K a2 _ a4=>(a4 c (List.mem_singleton.2 rfl)).1 (Le q a2)
   ·refine one c k hcc hk ht fun K a2 a3 a4=>?_
    obtain⟨p1,p2⟩:=a4 c (List.mem_singleton.2 rfl)
    have hjW:W.testBit j=true:=hs c hcc j (Ht c k j (by rw[hj,Nat.testBit_two_pow];simp))
    have hjK:=LO hj a2 p1 p2
    have h1:=hm (k|||2^j) (Dv hk hjW) ((Dv a2 hjK).twin a3)
    have h2:=IA (Bl hW.top hjW) (hk20 k hk) hb
    omega
 | succ n ih =>
  intro k hn hk ht h
  by_cases hcl:Jp cs k
  ·rw[Dd hcl ht (AM.refl k)] at h;simp at h
  ·obtain⟨c,hcc,q⟩:=KD hcl
   rcases q with q | ⟨j,hj,hb⟩
   ·exact one c k hcc hk ht fun K a2 _ a4=>(a4 c (List.mem_singleton.2 rfl)).1 (Le q a2)
   ·have hjW:W.testBit j=true:=hs c hcc j (Ht c k j (by rw[hj,Nat.testBit_two_pow];simp))
    cases htw:BN (k|||2^j) with
    | true =>
     refine one c k hcc hk ht fun K a2 a3 a4=>?_
     obtain⟨p1,p2⟩:=a4 c (List.mem_singleton.2 rfl)
     rw[(Dv a2 (LO hj a2 p1 p2)).twin a3] at htw
     simp at htw
    | false =>
     have h2:=IA (Bl hW.top hjW) (hk20 k hk) hb
     have hcs:∀ c∈cs,c<2^20:=fun c hcc=>hk20 c (hs c hcc)
     obtain⟨R,r1,r2,r3⟩:=ih (k|||2^j) (by omega) (Dv hk hjW) htw (Dc hcs (hk20 _ (Dv hk hjW)) (fun c h=>h) (AM.or_left _ _) h)
     refine⟨c :: R,fun x hx=>?_,by simp only[List.length_cons];omega,?_⟩
     ·rcases List.mem_cons.1 hx with rfl | hx
      ·exact hcc
      ·exact r1 x hx
     ·have hR:∀ x∈c :: R,x<2^20:=fun x hx=>by
       rcases List.mem_cons.1 hx with rfl | hx
       ·exact hcs _ hcc
       ·exact hcs x (r1 x hx)
      cases hb2:Ab (c :: R) k with
      | true=>rfl
      | false =>
       obtain⟨K,_,a2,a3,a4⟩:=Db _ hR k (hk20 k hk) hb2
       obtain⟨p1,p2⟩:=a4 c (List.mem_cons_self ..)
       rw[Dd (a4.sub fun x hx=>List.mem_cons_of_mem _ hx) a3 (Dv a2 (LO hj a2 p1 p2))] at r3
       exact r3
end Go.Proofs.YthboeppmlhbofaaGreatDoor
