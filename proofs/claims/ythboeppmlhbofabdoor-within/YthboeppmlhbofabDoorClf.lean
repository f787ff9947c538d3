import Derived.Test.YthboeppmlhbofabDoorChl
import Derived.Test.YthboeppmlhbofabDoorDca
namespace Go.Proofs.YthboeppmlhbofabDoor
open Go.RowKit Txt
set_option maxRecDepth 100000
theorem Two.same{s s' t f:Nat}(h:Two s t f)(h':Two s' t f):s=s':=by
 apply Nat.eq_of_testBit_eq
 intro i
 by_cases hi:i<20
 ·rcases nat_par i with e | e
  ·rw[e,h.pos _ (by omega),h'.pos _ (by omega)]
  ·rw[e,h.neg _ (by omega),h'.neg _ (by omega)]
 ·rw[Nat.testBit_lt_two_pow (Nat.lt_of_lt_of_le h.top (Nat.pow_le_pow_right (by decide) (by omega))),Nat.testBit_lt_two_pow (Nat.lt_of_lt_of_le h'.top (Nat.pow_le_pow_right (by decide) (by omega)))]
theorem ways_same{t f t' f':Nat}:∀ (m v:Nat),1≤v→v+m≤11→ways t f v m=ways t' f' v m→∀ u,v≤u→u<v+m→t.testBit u=t'.testBit u∧f.testBit u=f'.testBit u:=by
 intro m
 induction m with
 | zero=>intro v _ _ _ u a b;omega
 | succ m ih =>
  intro v h1 h2 h u a b
  simp only[ways,List.cons.injEq] at h
  by_cases e:u=v
  ·subst e
   have:=h.1
   rw[way_bits t f h1 (by omega),way_bits t' f' h1 (by omega)] at this
   cases p:t.testBit u <;> cases q:f.testBit u <;> cases p':t'.testBit u <;> cases q':f'.testBit u <;> simp_all
  ·exact ih (v+1) (by omega) (by omega) h.2 u (by omega) (by omega)
theorem Two.wsame{s t f s' t' f':Nat}(h:Two s t f)(h':Two s' t' f')(hw:ways t f 1 10=ways t' f' 1 10):s=s':=by
 have k:=ways_same (t:=t) (f:=f) (t':=t') (f':=f') 10 1 (by omega) (by omega) hw
 apply Nat.eq_of_testBit_eq
 intro i
 by_cases hi:i<20
 ·rcases nat_par i with e | e
  ·rw[e,h.pos _ (by omega),h'.pos _ (by omega)];exact(k _ (by omega) (by omega)).1
  ·rw[e,h.neg _ (by omega),h'.neg _ (by omega)];exact(k _ (by omega) (by omega)).2
 ·rw[Nat.testBit_lt_two_pow (Nat.lt_of_lt_of_le h.top (Nat.pow_le_pow_right (by decide) (by omega))),Nat.testBit_lt_two_pow (Nat.lt_of_lt_of_le h'.top (Nat.pow_le_pow_right (by decide) (by omega)))]
theorem ways_four(t f:Nat):∀ j∈ways t f 1 10,j<4:=by
 intro j hj
 simp only[ways,List.mem_cons,List.not_mem_nil,or_false] at hj
 rcases hj with rfl|rfl|rfl|rfl|rfl|rfl|rfl|rfl|rfl|rfl <;> exact wayN_lt _ _ _
theorem Stand.perm{ns:List Nd}{cs cs':List Nat}(h:Stand ns cs)(hp:cs.Perm cs'):Stand ns cs' :=
 ⟨h.tre,fun c hc=>h.top c (hp.mem_iff.2 hc),fun s t f h2=>by rw[h.cnt s t f h2];exact hp.count_eq s⟩
theorem Stand.adds{ns:List Nd}{cs:List Nat}(h:Stand ns cs){s t f:Nat}(h2:Two s t f)(c:Nat):Stand (addN ns t f c) (cs++List.replicate c s):=by
 refine⟨(h.tre.add t f c).1,fun x hx=>?_,fun s' t' f' h'=>?_⟩
 ·rcases List.mem_append.1 hx with hx | hx
  ·exact h.top x hx
  ·rw[(List.mem_replicate.1 hx).2];exact h2.top
 ·rw[List.count_append,List.count_replicate]
  by_cases e:s'=s
  ·subst e
   have hw:ways t' f' 1 10=ways t f 1 10:=by
    have key:∀ (m v:Nat),1≤v→v+m≤11→ways t' f' v m=ways t f v m:=by
     intro m
     induction m with
     | zero=>intro v _ _;rfl
     | succ m ih =>
      intro v h1 h3
      simp only[ways]
      rw[ih (v+1) (by omega) (by omega),way_bits t' f' h1 (by omega),way_bits t f h1 (by omega)]
      have a:=h2.pos (v - 1) (by omega)
      have b:=h2.neg (v - 1) (by omega)
      have a':=h'.pos (v - 1) (by omega)
      have b':=h'.neg (v - 1) (by omega)
      rw[show v - 1+1=v by omega] at a b a' b'
      rw[← a,← b,← a',← b']
    exact key 10 1 (by omega) (by omega)
   rw[hw,h.tre.add_leaf,← hw,h.cnt _ _ _ h']
   simp
  ·have hne:ways t' f' 1 10≠ways t f 1 10:=fun q=>e (h'.wsame h2 q)
   rw[(h.tre.add t f c).2 _ (ways_four t' f') hne,h.cnt _ _ _ h']
   have:(s == s')=false:=by simpa using fun q=>e q.symm
   simp[this]
theorem Stand.add{ns:List Nd}{cs:List Nat}(h:Stand ns cs){s t f:Nat}(h2:Two s t f):Stand (addN ns t f 1) (cs++[s]):=h.adds h2 1
theorem Stand.gone{ns:List Nd}{cs:List Nat}(h:Stand ns cs){s t f:Nat}(h2:Two s t f):dropN ns t f=none↔¬ s∈cs:=by
 rw[drop_none,h.cnt s t f h2]
 exact List.count_eq_zero
theorem Stand.drop{ns ns':List Nd}{cs:List Nat}(h:Stand ns cs){s t f:Nat}(h2:Two s t f)(hd:dropN ns t f=some ns'):Stand ns' (cs.erase s):=by
 obtain⟨q1,q2⟩:=h.tre.drop_leaf hd
 refine⟨(h.tre.drop hd).1,fun x hx=>h.top x (List.mem_of_mem_erase hx),fun s' t' f' h'=>?_⟩
 by_cases e:s'=s
 ·subst e
  have hw:ways t' f' 1 10=ways t f 1 10:=by
   have key:∀ (m v:Nat),1≤v→v+m≤11→ways t' f' v m=ways t f v m:=by
    intro m
    induction m with
    | zero=>intro v _ _;rfl
    | succ m ih =>
     intro v h1 h3
     simp only[ways]
     rw[ih (v+1) (by omega) (by omega),way_bits t' f' h1 (by omega),way_bits t f h1 (by omega)]
     have a:=h2.pos (v - 1) (by omega)
     have b:=h2.neg (v - 1) (by omega)
     have a':=h'.pos (v - 1) (by omega)
     have b':=h'.neg (v - 1) (by omega)
     rw[show v - 1+1=v by omega] at a b a' b'
     rw[← a,← b,← a',← b']
   exact key 10 1 (by omega) (by omega)
  have hc:=h.cnt _ _ _ h'
  rw[hw] at hc ⊢
  rw[List.count_erase_self]
  omega
 ·have hne:ways t' f' 1 10≠ways t f 1 10:=fun q=>e (h'.wsame h2 q)
  rw[q1 _ (ways_four t' f') hne,h.cnt _ _ _ h',List.count_erase_of_ne e]
theorem Two.ok(xs:List Int):Two (setOk xs) (posOk xs) (negOk xs):=by
 unfold setOk posOk negOk
 cases h:xs.all litB with
 | true=>exact Two.set xs h
 | false=>exact Two.zero
def stepD(cs:List Nat)(lt:Nat)(xs:List Int):Int × List Nat :=
 if lt=100 then (if setOk xs∈cs then (0,cs.erase (setOk xs)) else (8,cs))
 else if clashD cs (oppN (setOk xs))=false then (7,cs) else if lt=97 then (0,cs++[setOk xs]) else (0,cs)
theorem step_same{ns:List Nd}{cs:List Nat}(h:Stand ns cs)(lt:Nat)(xs:List Int):(stepN ns lt xs).1=(stepD cs lt xs).1∧Stand (stepN ns lt xs).2 (stepD cs lt xs).2:=by
 have h2:=Two.ok xs
 unfold stepN stepD
 by_cases h1:lt=100
 ·rw[if_pos h1,if_pos h1]
  by_cases hm:setOk xs∈cs
  ·rw[if_pos hm]
   cases hd:dropN ns (posOk xs) (negOk xs) with
   | none=>exact absurd hm ((h.gone h2).1 hd)
   | some ns'=>exact⟨rfl,h.drop h2 hd⟩
  ·rw[if_neg hm,(h.gone h2).2 hm]
   exact⟨rfl,h⟩
 ·rw[if_neg h1,if_neg h1,h.follows h2]
  split
  ·exact⟨rfl,h⟩
  ·split
   ·exact⟨rfl,h.add h2⟩
   ·exact⟨rfl,h⟩
def lnD(l:List UInt8):Nat→List Nat→Nat→Nat→Nat→List Int→List Int × Int × Nat
 | 0,_,_,n,_,_=>([],3,n)
 | m+1,cs,p,n,lt,xs =>
  if p<l.length then
   match rdLine l p with
   | none=>([],3,n)
   | some (lt',xs',q)=>if (stepD cs lt' xs').1≠0 then ([],(stepD cs lt' xs').1,n) else lnD l m (stepD cs lt' xs').2 q (n+1) lt' xs'
  else if lt≠101 then ([],9,n) else (xs,0,n)
theorem lines_same(l:List UInt8):∀ (m:Nat) (ns:List Nd) (cs:List Nat) (p n lt:Nat) (xs:List Int),Stand ns cs→chkN l m ns p n lt xs=lnD l m cs p n lt xs:=by
 intro m
 induction m with
 | zero=>intros;rfl
 | succ m ih =>
  intro ns cs p n lt xs h
  simp only[chkN,lnD]
  split
  ·cases hr:rdLine l p with
   | none=>rfl
   | some r =>
    obtain⟨lt',xs',q⟩:=r
    obtain⟨e,h'⟩:=step_same h lt' xs'
    simp only
    rw[e]
    split
    ·rfl
    ·exact ih _ _ _ _ _ _ h'
  ·rfl
def Twos:List Nat→List Pr→Prop
 | [],[]=>True
 | s :: os,p :: ss=>Two s p.1 p.2∧Twos os ss
 | _,_=>False
theorem Twos.snoc:∀ {os:List Nat} {ss:List Pr} {s:Nat} {p:Pr},Twos os ss→Two s p.1 p.2→Twos (os++[s]) (ss++[p]):=by
 intro os
 induction os with
 | nil =>
  intro ss s p h h2
  cases ss with
  | nil=>exact⟨h2,trivial⟩
  | cons a b=>exact h.elim
 | cons o os ih =>
  intro ss s p h h2
  cases ss with
  | nil=>exact h.elim
  | cons a b=>exact⟨h.1,ih h.2 h2⟩
theorem Stand.one:Stand [nd0] []:=by
 refine⟨tre_one,fun c hc=>by simp at hc,fun s t f _=>?_⟩
 rw[leaf_nd0 [nd0] 0 rfl]
 rfl
theorem stand_list{ss:List Pr}{os:List Nat}(h:Twos os ss)(em:Nat):Stand (standN ss em) (List.replicate em 0++os):=by
 have key:∀ (os:List Nat) (ss:List Pr) (ns:List Nd) (cs:List Nat),Twos os ss→Stand ns cs→Stand (ss.foldl (fun ns p=>addN ns p.1 p.2 1) ns) (cs++os):=by
  intro os
  induction os with
  | nil =>
   intro ss ns cs h hs
   cases ss with
   | nil=>simpa using hs
   | cons a b=>exact h.elim
  | cons o os ih =>
   intro ss ns cs h hs
   cases ss with
   | nil=>exact h.elim
   | cons a b =>
    have:=ih b (addN ns a.1 a.2 1) (cs++[o]) h.2 (hs.add h.1)
    simpa using this
 have h0:=Stand.one.adds Two.zero em
 exact key os ss _ _ h h0
def takeD:List (List Int)→List Nat→Nat→Nat→(Int × Nat) ⊕ (List Nat)
 | [],hv,_,_=>.inr hv
 | c :: cs,hv,lits,i=>match takenK c lits with
  | .lit=>.inl (4,i)
  | .full=>.inl (5,i)
  | .taut=>takeD cs hv lits (i+1)
  | .takes=>takeD cs (hv++[setN c]) (lits+sizeN (setN c)) (i+1)
theorem cvz{t:Nat}(h:cvN t=0)(ht:t<2^11)(h0:t.testBit 0=false):t=0:=by
 refine lt_of_bits ht h0 (fun v hv=>?_)
 simp only[cvN,cvTo,Nat.add_eq_zero_iff,Bool.toNat_eq_zero] at h
 have hq:v=0∨v=1∨v=2∨v=3∨v=4∨v=5∨v=6∨v=7∨v=8∨v=9:=by omega
 rcases hq with rfl|rfl|rfl|rfl|rfl|rfl|rfl|rfl|rfl|rfl <;> simp_all
theorem setz{xs:List Int}(h:xs.all litB=true)(hz:prSize (posN xs,negN xs)=0):setN xs=0:=by
 have hT:=Two.set xs h
 have hz':cvN (posN xs)+cvN (negN xs)=0:=hz
 have e1:=cvz (t:=posN xs) (by omega) hT.lt hT.zt
 have e2:=cvz (t:=negN xs) (by omega) hT.lf hT.zf
 rw[e1,e2] at hT
 exact hT.same Two.zero
theorem take_same:∀ (cls:List (List Int)) (ss:List Pr) (em:Nat) (hv os:List Nat) (i:Nat),Tak ss→Twos os ss→hv.Perm (List.replicate em 0++os) →
  (match takeN cls ss em i,takeD cls hv (totalN ss) i with
   | .inl r,.inl r'=>r=r'
   | .inr (ss',em'),.inr hv'=>∃ os',Twos os' ss'∧hv'.Perm (List.replicate em' 0++os')
   | _,_=>False):=by
 intro cls
 induction cls with
 | nil=>intro ss em hv os i _ h1 h2;exact⟨os,h1,h2⟩
 | cons c cls ih =>
  intro ss em hv os i hT h1 h2
  simp only[takeN,takeD]
  cases hall:c.all litB with
  | false =>
   have e1:addR c ss em=.err 4:=by simp[addR,hall]
   have e2:takenK c (totalN ss)=.lit:=by simp[takenK,hall]
   rw[e1,e2]
  | true =>
   have h3:=Two.set c hall
   cases htw:twinB (setN c) with
   | true =>
    have e2:takenK c (totalN ss)=.taut:=by simp[takenK,hall,htw]
    rw[h3.twin] at htw
    have e1:addR c ss em=.ok ss em:=by unfold addR;rw[hall,if_neg (by simp),if_pos htw]
    rw[e1,e2]
    exact ih ss em hv os (i+1) hT h1 h2
   | false =>
    have htw':=htw
    rw[h3.twin] at htw'
    have hsz:sizeN (setN c)=prSize (posN c,negN c):=h3.size
    have ha:=hT.all
    by_cases hz:prSize (posN c,negN c)=0
    ·have e1:addR c ss em=.ok ss (em+1):=by unfold addR;rw[hall,if_neg (by simp),if_neg (by simp[htw']),if_pos hz]
     have e2:takenK c (totalN ss)=.takes:=by
      unfold takenK
      rw[hall,htw,hsz,hz,if_pos rfl,if_neg (by simp),if_neg (by omega)]
     rw[e1,e2,hsz,hz,setz hall hz,Nat.add_zero]
     refine ih ss (em+1) (hv++[0]) os (i+1) hT h1 ?_
     have p1:(hv++[0]).Perm (0 :: hv):=List.perm_append_comm
     rw[List.replicate_succ,List.cons_append]
     exact p1.trans (h2.cons 0)
    ·by_cases hf:150<prSize (posN c,negN c)+totalN ss
     ·have e1:addR c ss em=.err 5:=by unfold addR;rw[hall,if_neg (by simp),if_neg (by simp[htw']),if_neg hz,if_pos hf]
      have e2:takenK c (totalN ss)=.full:=by
       unfold takenK
       rw[hall,htw,hsz,if_pos rfl,if_neg (by simp),if_pos (by omega)]
      rw[e1,e2]
     ·have e1:addR c ss em=.ok (ss++[(posN c,negN c)]) em:=by unfold addR;rw[hall,if_neg (by simp),if_neg (by simp[htw']),if_neg hz,if_neg hf]
      have e2:takenK c (totalN ss)=.takes:=by
       unfold takenK
       rw[hall,htw,hsz,if_pos rfl,if_neg (by simp),if_neg (by omega)]
      have e3:totalN (ss++[(posN c,negN c)])=totalN ss+sizeN (setN c):=by rw[hsz];simp[totalN]
      have hT':=(addR_tak hT e1).1
      rw[e1,e2,← e3]
      refine ih _ em (hv++[setN c]) (os++[setN c]) (i+1) hT' (h1.snoc h3) ?_
      rw[← List.append_assoc]
      exact h2.append_right _
def checkD(cls:List (List Int))(l:List UInt8):List Int × Int × Nat :=
 if 4194304<l.length then ([],2,0) else match takeD cls [] 0 0 with
  | .inl (e,i)=>([],e,i)
  | .inr hv=>lnD l (l.length+1) hv 0 0 0 []
theorem check_same(cls:List (List Int))(l:List UInt8):checkN cls l=checkD cls l:=by
 unfold checkN checkD
 split
 ·rfl
 ·have h:=take_same cls [] 0 [] [] 0 ⟨fun p hp=>by simp at hp,Nat.le_refl _,by decide⟩ trivial (by simp)
  have e:totalN []=0:=rfl
  rw[e] at h
  cases ha:takeN cls [] 0 0 with
  | inl r =>
   cases hb:takeD cls [] 0 0 with
   | inl r'=>rw[ha,hb] at h;simp only at h;subst h;rfl
   | inr hv=>rw[ha,hb] at h;exact h.elim
  | inr r =>
   obtain⟨ss,em⟩:=r
   cases hb:takeD cls [] 0 0 with
   | inl r'=>rw[ha,hb] at h;exact h.elim
   | inr hv =>
    rw[ha,hb] at h
    obtain⟨os,h1,h2⟩:=h
    exact lines_same l _ _ _ _ _ _ _ ((stand_list h1 em).perm h2.symm)
def tTo(s:Nat):Nat→Nat
 | 0=>0
 | v+1=>tTo s v|||(if s.testBit (2*v) then 2^(v+1) else 0)
def fTo(s:Nat):Nat→Nat
 | 0=>0
 | v+1=>fTo s v|||(if s.testBit (2*v+1) then 2^(v+1) else 0)
def tN(s:Nat):Nat:=tTo s 10
def fN(s:Nat):Nat:=fTo s 10
theorem if_pow_bit(b:Bool)(j i:Nat):(if b=true then 2^j else 0).testBit i=(b && decide (i=j)):=by
 cases b
 ·simp
 ·simp only[if_true,Nat.testBit_two_pow,Bool.true_and]
  by_cases h:i=j
  ·subst h;simp
  ·rw[decide_eq_false (fun e=>h e.symm),decide_eq_false h]
theorem tTo_bit(s:Nat):∀ k i,(tTo s k).testBit i=(decide (1≤i) && decide (i≤k) && s.testBit (2*(i - 1))):=by
 intro k
 induction k with
 | zero=>intro i;simp only[tTo,Nat.zero_testBit];by_cases h:i=0 <;> simp[h]
 | succ k ih =>
  intro i
  simp only[tTo]
  rw[Nat.testBit_or,ih,if_pow_bit]
  by_cases e:i=k+1
  ·subst e
   rw[decide_eq_true (by omega:1≤k+1),decide_eq_false (by omega:¬ k+1≤k),decide_eq_true (by omega:k+1≤k+1),Nat.add_sub_cancel]
   simp
  ·rw[decide_eq_false e,Bool.and_false,Bool.or_false]
   congr 2
   by_cases h:i≤k
   ·rw[decide_eq_true h,decide_eq_true (by omega:i≤k+1)]
   ·rw[decide_eq_false h,decide_eq_false (by omega:¬ i≤k+1)]
theorem fTo_bit(s:Nat):∀ k i,(fTo s k).testBit i=(decide (1≤i) && decide (i≤k) && s.testBit (2*(i - 1)+1)):=by
 intro k
 induction k with
 | zero=>intro i;simp only[fTo,Nat.zero_testBit];by_cases h:i=0 <;> simp[h]
 | succ k ih =>
  intro i
  simp only[fTo]
  rw[Nat.testBit_or,ih,if_pow_bit]
  by_cases e:i=k+1
  ·subst e
   rw[decide_eq_true (by omega:1≤k+1),decide_eq_false (by omega:¬ k+1≤k),decide_eq_true (by omega:k+1≤k+1),Nat.add_sub_cancel]
   simp
  ·rw[decide_eq_false e,Bool.and_false,Bool.or_false]
   congr 2
   by_cases h:i≤k
   ·rw[decide_eq_true h,decide_eq_true (by omega:i≤k+1)]
   ·rw[decide_eq_false h,decide_eq_false (by omega:¬ i≤k+1)]
theorem lt_pow_bits{t n:Nat}(h:∀ i,n≤i→t.testBit i=false):t<2^n:=Nat.lt_pow_two_of_testBit t (fun i hi=>h i hi)
theorem Two.of{s:Nat}(hs:s<2^20):Two s (tN s) (fN s):=by
 refine⟨fun v hv=>?_,fun v hv=>?_,hs,?_,?_,?_,?_⟩
 ·unfold tN;rw[tTo_bit,decide_eq_true (by omega:1≤v+1),decide_eq_true (by omega:v+1≤10),Nat.add_sub_cancel];simp
 ·unfold fN;rw[fTo_bit,decide_eq_true (by omega:1≤v+1),decide_eq_true (by omega:v+1≤10),Nat.add_sub_cancel];simp
 ·unfold tN;rw[tTo_bit];simp
 ·unfold fN;rw[fTo_bit];simp
 ·refine lt_pow_bits fun i hi=>?_
  unfold tN;rw[tTo_bit,decide_eq_false (by omega:¬ i≤10)];simp
 ·refine lt_pow_bits fun i hi=>?_
  unfold fN;rw[fTo_bit,decide_eq_false (by omega:¬ i≤10)];simp
theorem eq_of_bits11{t t':Nat}(h:t<2^11)(h':t'<2^11)(h0:t.testBit 0=t'.testBit 0)(hb:∀ v,v<10→t.testBit (v+1)=t'.testBit (v+1)):t=t':=by
 apply Nat.eq_of_testBit_eq
 intro i
 by_cases e0:i=0
 ·subst e0;exact h0
 ·by_cases e1:i<11
  ·have:=hb (i - 1) (by omega)
   rwa [show i - 1+1=i by omega] at this
  ·rw[Nat.testBit_lt_two_pow (Nat.lt_of_lt_of_le h (Nat.pow_le_pow_right (by decide) (by omega))),Nat.testBit_lt_two_pow (Nat.lt_of_lt_of_le h' (Nat.pow_le_pow_right (by decide) (by omega)))]
theorem Two.eq{s t f:Nat}(h:Two s t f):t=tN s∧f=fN s:=by
 have h':=Two.of h.top
 exact⟨eq_of_bits11 h.lt h'.lt (by rw[h.zt,h'.zt]) (fun v hv=>by rw[← h.pos v hv,h'.pos v hv]),eq_of_bits11 h.lf h'.lf (by rw[h.zf,h'.zf]) (fun v hv=>by rw[← h.neg v hv,h'.neg v hv])⟩
def pushD(cs:List Nat)(k:Nat):Option Nat:=match rndD cs 21 k with
 | none=>none
 | some K=>if twinB K then none else some K
theorem push_none{cs:List Nat}{k:Nat}:pushD cs k=none↔clashD cs k=true:=by
 unfold pushD clashD
 cases rndD cs 21 k with
 | none=>simp
 | some K=>cases h:twinB K <;> simp[h]
theorem rnd_le{cs:List Nat}{K:Nat}(hC:ClD cs K):∀ m k,SubN k K→∃ k',rndD cs m k=some k'∧SubN k' K:=by
 intro m
 induction m with
 | zero=>intro k h;exact⟨k,rfl,h⟩
 | succ m ih =>
  intro k h
  obtain⟨k1,e1,h1⟩:=pass_stay cs hC k h
  obtain⟨k2,e2,h2⟩:=ih k1 h1
  exact⟨k2,by simp only[rndD,e1];exact e2,h2⟩
theorem push_least{cs:List Nat}{k K:Nat}(h:pushD cs k=some K){K':Nat}(hC:ClD cs K')(hs:SubN k K'):SubN K K':=by
 obtain⟨k',e,h'⟩:=rnd_le hC 21 k hs
 unfold pushD at h
 rw[e] at h
 simp only at h
 split at h
 ·simp at h
 ·simp only[Option.some.injEq] at h;subst h;exact h'
structure PushOk(cs:List Nat)(k K:Nat):Prop where
 top:K<2^20
 sub:SubN k K
 twin:twinB K=false
 cl:ClD cs K
 least:∀ K',ClD cs K'→SubN k K'→SubN K K'
theorem push_some{cs:List Nat}(hc:∀ c∈cs,c<2^20){k K:Nat}(hk:k<2^20)(h:pushD cs k=some K):PushOk cs k K:=by
 have hl:=fun K'=>push_least (K':=K') h
 unfold pushD at h
 cases hr:rndD cs 21 k with
 | none=>rw[hr] at h;simp at h
 | some K1 =>
  rw[hr] at h
  simp only at h
  split at h
  ·simp at h
  ·rename_i ht
   simp only[Option.some.injEq] at h
   subst h
   obtain⟨h1,h2,h3⟩:=rnd_fix cs hc 21 k K1 hk hr (by omega)
   exact⟨h3,h2,by simpa using ht,pass_fix _ _ h1,hl⟩
theorem push_ex{cs:List Nat}{k K:Nat}(hC:ClD cs K)(ht:twinB K=false)(hs:SubN k K):∃ K',pushD cs k=some K'∧SubN K' K:=by
 have hn:clashD cs k=false:=clash_stay hC ht hs
 cases hp:pushD cs k with
 | none=>rw[push_none.1 hp] at hn;simp at hn
 | some K'=>exact⟨K',rfl,push_least hp hC hs⟩
theorem push_eq{cs:List Nat}(hc:∀ c∈cs,c<2^20){k K:Nat}(hk:k<2^20)(h:PushOk cs k K):pushD cs k=some K:=by
 obtain⟨K',e,hs⟩:=push_ex h.cl h.twin h.sub
 have h':=push_some hc hk e
 rw[e,SubN.anti hs (h.least K' h'.cl h'.sub)]
theorem ClD.sub{cs cs':List Nat}{K:Nat}(h:ClD cs' K)(hs:∀ c∈cs,c∈cs'):ClD cs K:=fun c hc=>h c (hs c hc)
theorem push_mono{cs cs':List Nat}(hc:∀ c∈cs',c<2^20){k k' K':Nat}(hk:k'<2^20)(hs:∀ c∈cs,c∈cs')(hkk:SubN k k')(h:pushD cs' k'=some K'):∃ K,pushD cs k=some K∧SubN K K':=by
 have h':=push_some hc hk h
 exact push_ex (h'.cl.sub hs) h'.twin (hkk.trans h'.sub)
theorem clash_mono{cs cs':List Nat}(hc:∀ c∈cs',c<2^20){k k':Nat}(hk:k'<2^20)(hs:∀ c∈cs,c∈cs')(hkk:SubN k k')(h:clashD cs k=true):clashD cs' k'=true:=by
 cases hb:clashD cs' k' with
 | true=>rfl
 | false =>
  obtain⟨K,_,h2,h3,h4⟩:=clash_false cs' hc k' hk hb
  rw[clash_stay (h4.sub hs) h3 (hkk.trans h2)] at h
  exact h
theorem psh_some(ns:List Nd):∀ (m kt kf a b:Nat),kt<2^11→kf<2^11→4096≤kt+kf+m→psh ns m kt kf=some (a,b)→SubK kt kf a b∧(a&&&b != 0)=false∧ClosedK ns a b∧a<2^11∧b<2^11:=by
 intro m
 induction m with
 | zero=>intro kt kf a b h1 h2 h3 _;omega
 | succ m ih =>
  intro kt kf a b h1 h2 h3 h
  simp only[psh] at h
  obtain⟨o1,o2⟩:=visitN_ok (ns:=ns) (kt:=kt) (kf:=kf) 10 0 1 0 ⟨kt,kf,false⟩ rfl (by decide) (.inl rfl) ⟨h1,h2⟩
  obtain⟨x,y,u1,u2⟩:=visitN_sup (ns:=ns) (kt:=kt) (kf:=kf) 10 0 1 0 ⟨kt,kf,false⟩ rfl (by decide) (.inl rfl)
  have comp:=visit_complete ns kt kf 10 0 1 0 ⟨kt,kf,false⟩ rfl (by decide) (.inl rfl)
  generalize visitN ns kt kf 10 0 1 0 ⟨kt,kf,false⟩=S at *
  split at h
  ·simp at h
  ·rename_i htw
   split at h
   ·simp at h
   ·rename_i hcl
    have hcl':S.cl=false:=by simpa using hcl
    split at h
    ·rename_i he
     simp only[Option.some.injEq,Prod.mk.injEq] at h
     obtain⟨rfl,rfl⟩:=h
     refine⟨⟨fun _ h=>h,fun _ h=>h⟩,by simpa using htw,fun ws hl h3' hq=>?_,h1,h2⟩
     obtain⟨q1,_,q3⟩:=comp hcl' ws hl h3' hq
     exact⟨q1 rfl,fun z hz=>open_not he.1 he.2 ws 1 z hz (q3 rfl z hz)⟩
    ·rename_i he
     have a1:kt≤S.gt:=by rw[u1];exact Nat.left_le_or
     have a2:kf≤S.gf:=by rw[u2];exact Nat.left_le_or
     have a3:kt+kf<S.gt+S.gf:=by
      by_cases q:S.gt=kt
      ·by_cases q':S.gf=kf
       ·exact absurd ⟨q,q'⟩ he
       ·omega
      ·omega
     obtain⟨b1,b2,b3,b4,b5⟩:=ih S.gt S.gf a b o1 o2 (by omega) h
     refine⟨⟨fun v hv=>b1.t v ?_,fun v hv=>b1.f v ?_⟩,b2,b3,b4,b5⟩
     ·rw[u1,Nat.testBit_or];rw[show(⟨kt,kf,false⟩:PS).gt=kt from rfl,hv];rfl
     ·rw[u2,Nat.testBit_or];rw[show(⟨kt,kf,false⟩:PS).gf=kf from rfl,hv];rfl
theorem psh_stay(ns:List Nd)(Kt Kf:Nat)(hdis:(Kt&&&Kf != 0)=false)(hC:ClosedK ns Kt Kf):∀ (m kt kf:Nat),SubK kt kf Kt Kf→∃ a b,psh ns m kt kf=some (a,b)∧SubK a b Kt Kf:=by
 intro m
 induction m with
 | zero=>intro kt kf h;exact⟨kt,kf,rfl,h⟩
 | succ m ih =>
  intro kt kf hk
  have htw:(kt&&&kf != 0)=false:=by
   have hz:Kt&&&Kf=0:=by simpa using hdis
   have:kt&&&kf=0:=by
    apply Nat.eq_of_testBit_eq
    intro i
    rw[Nat.zero_testBit,Nat.testBit_and]
    cases a:kt.testBit i with
    | false=>rfl
    | true =>
     cases b:kf.testBit i with
     | false=>rfl
     | true =>
      have:=congrArg (fun n=>n.testBit i) hz
      simp only[Nat.testBit_and,hk.t i a,hk.f i b,Nat.zero_testBit] at this
      simp at this
   rw[this];rfl
  obtain⟨h1,h2⟩:=visit_stay ns kt kf Kt Kf hk 10 0 1 0 ⟨kt,kf,false⟩ rfl (by decide) (.inl rfl) rfl hk (fun ws hl h3 hq=>.inr (.inl ⟨.inl rfl,hC ws hl h3 hq⟩))
  simp only[psh,htw,h1,Bool.false_eq_true,if_false]
  split
  ·exact⟨kt,kf,rfl,hk⟩
  ·exact ih _ _ h2
theorem SubK.of{k a b K A B:Nat}(h:Two k a b)(hK:Two K A B)(hs:SubN k K):SubK a b A B:=by
 refine⟨fun v hv=>?_,fun v hv=>?_⟩
 ·have h11:=bit_lt h.lt hv
  have h0:v≠0:=fun e=>by subst e;rw[h.zt] at hv;simp at hv
  have a:=h.pos (v - 1) (by omega)
  have b:=hK.pos (v - 1) (by omega)
  rw[show v - 1+1=v by omega] at a b
  rw[← b];exact hs _ (by rw[a];exact hv)
 ·have h11:=bit_lt h.lf hv
  have h0:v≠0:=fun e=>by subst e;rw[h.zf] at hv;simp at hv
  have a:=h.neg (v - 1) (by omega)
  have b:=hK.neg (v - 1) (by omega)
  rw[show v - 1+1=v by omega] at a b
  rw[← b];exact hs _ (by rw[a];exact hv)
theorem Stand.push{ns:List Nd}{cs:List Nat}(h:Stand ns cs){k:Nat}(hk:k<2^20):psh ns 4096 (tN k) (fN k)=(pushD cs k).map fun K=>(tN K,fN K):=by
 have h2:=Two.of hk
 have hf:=h.folS h2
 rw[fol_psh] at hf
 cases hp:pushD cs k with
 | none =>
  rw[push_none.1 hp] at hf
  simpa using hf
 | some K =>
  have q:=push_some h.top hk hp
  have hK:=Two.of q.top
  have hd:(tN K&&&fN K != 0)=false:=by rw[← hK.twin];exact q.twin
  obtain⟨a,b,e,hs⟩:=psh_stay ns (tN K) (fN K) hd ((h.closed hK.bt (fun u _ _=>disj_bits hd u)).2 q.cl) 4096 (tN k) (fN k) (SubK.of h2 hK q.sub)
  obtain⟨s1,s2,s3,s4,s5⟩:=psh_some ns 4096 _ _ _ _ h2.lt h2.lf (by omega) e
  have za:a.testBit 0=false:=by
   cases z:a.testBit 0 with
   | false=>rfl
   | true=>have:=hs.t 0 z;rw[hK.zt] at this;exact this.symm
  have zb:b.testBit 0=false:=by
   cases z:b.testBit 0 with
   | false=>rfl
   | true=>have:=hs.f 0 z;rw[hK.zf] at this;exact this.symm
  obtain⟨K',hK'⟩:=bt_is a b
  have hT':Two K' a b:=⟨hK'.pos,hK'.neg,hK'.top,za,zb,s4,s5⟩
  have hd':∀ u,1≤u→u<11→¬ (a.testBit u=true∧b.testBit u=true):=fun u _ _=>disj_bits s2 u
  have hc':ClD cs K':=(h.closed hK' hd').1 s3
  have l1:SubN K K':=q.least K' hc' (SubK.sub (kt:=0) h2 hK' s1 rfl)
  have l2:SubN K' K:=SubK.sub (kt:=0) hT' hK.bt hs rfl
  have ee:K=K':=SubN.anti l1 l2
  subst ee
  obtain⟨e1,e2⟩:=hT'.eq
  rw[e,e1,e2]
  rfl
def par(i:Nat):Nat:=if i % 2=0 then i+1 else i - 1
theorem par_lt{i:Nat}(h:i<20):par i<20:=by unfold par;split <;> omega
theorem par_par(i:Nat):par (par i)=i:=by
 unfold par
 by_cases h:i % 2=0
 ·rw[if_pos h,if_neg (by omega)];omega
 ·rw[if_neg h,if_pos (by omega)];omega
theorem par_ne(i:Nat):par i≠i:=by unfold par;split <;> omega
theorem opp_par(s:Nat){i:Nat}(h:i<20):(oppN s).testBit i=s.testBit (par i):=by
 rcases nat_par i with e | e
 ·have:=opp_bit_even s (i / 2) (by omega)
  rw[← e] at this
  rw[this];congr 1;unfold par;split <;> omega
 ·have:=opp_bit_odd s (i / 2) (by omega)
  rw[← e] at this
  rw[this];congr 1;unfold par;split <;> omega
theorem opp_top(s:Nat){i:Nat}(h:¬ i<20):(oppN s).testBit i=false:=Nat.testBit_lt_two_pow (Nat.lt_of_lt_of_le (oppN_lt s) (Nat.pow_le_pow_right (n:=2) (i:=20) (by decide) (by omega)))
theorem opp_opp{s:Nat}(h:s<2^20):oppN (oppN s)=s:=by
 apply Nat.eq_of_testBit_eq
 intro i
 by_cases hi:i<20
 ·rw[opp_par _ hi,opp_par _ (par_lt hi),par_par]
 ·rw[opp_top _ hi,Nat.testBit_lt_two_pow (Nat.lt_of_lt_of_le h (Nat.pow_le_pow_right (n:=2) (i:=20) (by decide) (by omega)))]
theorem twin_iff(s:Nat):twinB s=false↔∀ i,i<20→s.testBit i=true→s.testBit (par i)=false:=by
 constructor
 ·intro h i hi hb
  have hz:s&&&oppN s=0:=by simpa [twinB] using h
  have:=congrArg (fun n=>n.testBit i) hz
  simp only[Nat.testBit_and,Nat.zero_testBit,hb,Bool.true_and,opp_par s hi] at this
  exact this
 ·intro h
  have:s&&&oppN s=0:=by
   apply Nat.eq_of_testBit_eq
   intro i
   rw[Nat.zero_testBit,Nat.testBit_and]
   by_cases hi:i<20
   ·cases hb:s.testBit i with
    | false=>rfl
    | true=>rw[opp_par s hi,h i hi hb];rfl
   ·rw[opp_top s hi,Bool.and_false]
  simp[twinB,this]
structure Msk(W:Nat):Prop where
 top:W<2^20
 sym:∀ i,i<20→W.testBit (par i)=W.testBit i
def mix(W a b:Nat):Nat:=(a&&&W)|||(b - (b&&&W))
theorem mix_bit(W a b i:Nat):(mix W a b).testBit i=if W.testBit i then a.testBit i else b.testBit i:=by
 unfold mix
 rw[Nat.testBit_or,Nat.testBit_and,sub_and_bit]
 cases W.testBit i <;> simp
theorem opp_mix{W:Nat}(hW:Msk W)(a b i:Nat):(oppN (mix W a b)).testBit i=if W.testBit i then (oppN a).testBit i else (oppN b).testBit i:=by
 by_cases hi:i<20
 ·rw[opp_par _ hi,opp_par _ hi,opp_par _ hi,mix_bit,hW.sym i hi]
 ·rw[opp_top _ hi,opp_top _ hi,opp_top _ hi];simp
theorem left_ext{c k k':Nat}(h:∀ i,c.testBit i=true→(oppN k).testBit i=(oppN k').testBit i):leftN c k=leftN c k':=by
 apply Nat.eq_of_testBit_eq
 intro i
 rw[left_bit,left_bit]
 cases hb:c.testBit i with
 | false=>rfl
 | true=>rw[h i hb]
theorem left_sub(c k:Nat):SubN (leftN c k) c:=fun i h=>by rw[left_bit,Bool.and_eq_true] at h;exact h.1
def Off(c W:Nat):Prop:=∀ i,c.testBit i=true→W.testBit i=false
theorem left_mix_in{W:Nat}(hW:Msk W){c:Nat}(hc:SubN c W)(a b:Nat):leftN c (mix W a b)=leftN c a:=left_ext fun i h=>by rw[opp_mix hW,hc i h,if_pos rfl]
theorem left_mix_off{W:Nat}(hW:Msk W){c:Nat}(hc:Off c W)(a b:Nat):leftN c (mix W a b)=leftN c b:=left_ext fun i h=>by rw[opp_mix hW,hc i h];rfl
theorem mix_twin{W:Nat}(hW:Msk W){a b:Nat}(ha:twinB a=false)(hb:twinB b=false):twinB (mix W a b)=false:=by
 rw[twin_iff] at ha hb ⊢
 intro i hi h
 rw[mix_bit] at h ⊢
 rw[hW.sym i hi]
 cases hw:W.testBit i with
 | true=>rw[hw] at h;exact ha i hi h
 | false=>rw[hw] at h;exact hb i hi h
theorem sub_and(a W:Nat):SubN (a&&&W) a:=fun i h=>by rw[Nat.testBit_and,Bool.and_eq_true] at h;exact h.1
theorem sub_and2(a W:Nat):SubN (a&&&W) W:=fun i h=>by rw[Nat.testBit_and,Bool.and_eq_true] at h;exact h.2
theorem SubN.and{a b c:Nat}(h:SubN a b)(h':SubN a c):SubN a (b&&&c):=fun i q=>by rw[Nat.testBit_and,h i q,h' i q];rfl
theorem SubN.mono{a b:Nat}(h:SubN a b)(W:Nat):SubN (a&&&W) (b&&&W):=((sub_and a W).trans h).and (sub_and2 a W)
theorem SubN.eq_and{a W:Nat}(h:SubN a W):a&&&W=a:=SubN.anti (sub_and a W) ((SubN.refl a).and h)
theorem and_top{a W:Nat}(h:a<2^20):a&&&W<2^20:=Nat.lt_of_le_of_lt Nat.and_le_left h
def Sep(cs:List Nat)(W:Nat):Prop:=∀ c∈cs,SubN c W∨Off c W
def inW(cs:List Nat)(W:Nat):List Nat:=cs.filter fun c=>c&&&W == c
def offW(cs:List Nat)(W:Nat):List Nat:=cs.filter fun c=>c&&&W == 0
theorem mem_in{cs:List Nat}{W c:Nat}:c∈inW cs W↔c∈cs∧SubN c W:=by
 unfold inW
 rw[List.mem_filter]
 constructor
 ·rintro⟨h1,h2⟩;refine⟨h1,fun i hi=>?_⟩
  have e:c&&&W=c:=by simpa using h2
  rw[← e] at hi;exact sub_and2 _ _ i hi
 ·rintro⟨h1,h2⟩;exact⟨h1,by simpa using h2.eq_and⟩
theorem mem_off{cs:List Nat}{W c:Nat}:c∈offW cs W↔c∈cs∧Off c W:=by
 unfold offW
 rw[List.mem_filter]
 constructor
 ·rintro⟨h1,h2⟩;refine⟨h1,fun i hi=>?_⟩
  have e:c&&&W=0:=by simpa using h2
  have:=congrArg (fun n=>n.testBit i) e
  simpa [Nat.testBit_and,hi] using this
 ·rintro⟨h1,h2⟩
  refine⟨h1,?_⟩
  have:c&&&W=0:=by
   apply Nat.eq_of_testBit_eq
   intro i
   rw[Nat.zero_testBit,Nat.testBit_and]
   cases hb:c.testBit i with
   | false=>rfl
   | true=>rw[h2 i hb];rfl
  simpa using this
theorem in_top{cs:List Nat}(hc:∀ c∈cs,c<2^20)(W:Nat):∀ c∈inW cs W,c<2^20:=fun c h=>hc c (mem_in.1 h).1
theorem off_top{cs:List Nat}(hc:∀ c∈cs,c<2^20)(W:Nat):∀ c∈offW cs W,c<2^20:=fun c h=>hc c (mem_off.1 h).1
theorem ClD.mix{cs:List Nat}{W a b:Nat}(hW:Msk W)(hs:Sep cs W)(ha:ClD (inW cs W) a)(hb:ClD (offW cs W) b):ClD cs (mix W a b):=by
 intro c hc
 rcases hs c hc with h | h
 ·obtain⟨q1,q2⟩:=ha c (mem_in.2 ⟨hc,h⟩)
  rw[left_mix_in hW h]
  refine⟨q1,fun q i hi=>?_⟩
  rw[mix_bit,h i (left_sub _ _ i hi),if_pos rfl]
  exact q2 q i hi
 ·obtain⟨q1,q2⟩:=hb c (mem_off.2 ⟨hc,h⟩)
  rw[left_mix_off hW h]
  refine⟨q1,fun q i hi=>?_⟩
  rw[mix_bit,h i (left_sub _ _ i hi)]
  exact q2 q i hi
theorem sub_mix{W k a b:Nat}(ha:SubN (k&&&W) a)(hb:∀ i,k.testBit i=true→W.testBit i=false→b.testBit i=true):SubN k (mix W a b):=fun i hi=>by
 rw[mix_bit]
 cases hw:W.testBit i with
 | true=>exact ha i (by rw[Nat.testBit_and,hi,hw];rfl)
 | false=>exact hb i hi hw
def lpush(cs:List Nat)(W d:Nat):Option Nat:=pushD (inW cs W) (d&&&W)
theorem push_in{cs:List Nat}(hc:∀ c∈cs,c<2^20){W:Nat}(hW:Msk W)(hs:Sep cs W){k K:Nat}(hk:k<2^20)(h:pushD cs k=some K):lpush cs W k=some (K&&&W):=by
 have q:=push_some hc hk h
 refine push_eq (in_top hc W) (and_top hk) ⟨and_top q.top,q.sub.mono W,(sub_and K W).twin q.twin,fun c hcc=>?_,fun K' hC hk'=>?_⟩
 ·obtain⟨h1,h2⟩:=mem_in.1 hcc
  obtain⟨q1,q2⟩:=q.cl c h1
  have e:leftN c (K&&&W)=leftN c K:=left_ext fun i hi=>by
   have hw:=h2 i hi
   have hi20:=bit_lt hW.top hw
   rw[opp_par _ hi20,opp_par _ hi20,Nat.testBit_and,hW.sym i hi20,hw,Bool.and_true]
  rw[e]
  exact⟨q1,fun q'=>(q2 q').and ((left_sub c K).trans h2)⟩
 ·have hm:ClD cs (mix W K' K):=ClD.mix hW hs hC (q.cl.sub fun c hcc=>(mem_off.1 hcc).1)
  have:=q.least _ hm (sub_mix hk' fun i hi _=>q.sub i hi)
  intro i hi
  rw[Nat.testBit_and,Bool.and_eq_true] at hi
  have:=this i hi.1
  rw[mix_bit,hi.2,if_pos rfl] at this
  exact this
theorem clash_split{cs:List Nat}(hc:∀ c∈cs,c<2^20){W:Nat}(hW:Msk W)(hs:Sep cs W){k:Nat}(hk:k<2^20)(h:clashD cs k=true):clashD (inW cs W) (k&&&W)=true∨clashD (offW cs W) (k - (k&&&W))=true:=by
 cases h1:clashD (inW cs W) (k&&&W) with
 | true=>exact .inl rfl
 | false =>
  cases h2:clashD (offW cs W) (k - (k&&&W)) with
  | true=>exact .inr rfl
  | false =>
   exfalso
   obtain⟨K1,_,a2,a3,a4⟩:=clash_false _ (in_top hc W) _ (and_top hk) h1
   obtain⟨K2,_,b2,b3,b4⟩:=clash_false _ (off_top hc W) _ (Nat.lt_of_le_of_lt (Nat.sub_le _ _) hk) h2
   have:=clash_stay (ClD.mix hW hs a4 b4) (mix_twin hW a3 b3) (k:=k) (sub_mix a2 fun i hi hw=>b2 i (by rw[sub_and_bit,hi,hw];rfl))
   rw[this] at h
   simp at h
theorem not_closed{cs:List Nat}{k:Nat}(h:¬ ClD cs k):∃ c∈cs,leftN c k=0∨∃ j,leftN c k=2^j∧k.testBit j=false:=by
 apply Classical.byContradiction
 intro hn
 apply h
 intro c hc
 have h0:leftN c k≠0:=fun e=>hn ⟨c,hc,.inl e⟩
 refine⟨h0,fun hs i hi=>?_⟩
 obtain⟨j,hj⟩:=(one_bit _ h0).1 hs
 have e:j=i:=by rw[hj,Nat.testBit_two_pow] at hi;simpa using hi
 subst e
 cases hb:k.testBit j with
 | true=>rfl
 | false=>exact absurd ⟨c,hc,.inr ⟨j,hj,hb⟩⟩ hn
theorem sub_pow{k j:Nat}{K:Nat}(hk:SubN k K)(hj:K.testBit j=true):SubN (k|||2^j) K:=hk.or fun i hi=>by
 rw[Nat.testBit_two_pow] at hi
 have e:j=i:=by simpa using hi
 subst e
 exact hj
theorem pow_bit(k j:Nat):(k|||2^j).testBit j=true:=by rw[Nat.testBit_or,Nat.testBit_two_pow];simp
theorem size_le{a b:Nat}(h:SubN a b):sizeN a≤sizeN b:=(size_mono h 20).1
theorem size_pow{k j:Nat}(hj:j<20)(hk:k<2^20)(hb:k.testBit j=false):sizeN k+1≤sizeN (k|||2^j):=by
 refine size_lt (SubN.or_left _ _) (Nat.or_lt_two_pow hk (Nat.pow_lt_pow_right (by decide) hj)) (fun e=>?_)
 have:=pow_bit k j
 rw[← e,hb] at this
 simp at this
theorem unit_in{c k K j:Nat}(hc:leftN c k=2^j)(hk:SubN k K)(h1:leftN c K≠0)(h2:leftN c K&&&(leftN c K - 1)=0→SubN (leftN c K) K):K.testBit j=true:=by
 have ha:=left_anti hk c
 rw[hc] at ha
 have e:=sub_one ha h1
 refine h2 ((one_bit _ h1).2 ⟨j,e⟩) j ?_
 rw[e,Nat.testBit_two_pow]
 simp
theorem left_zero{c k K:Nat}(hc:leftN c k=0)(hk:SubN k K):leftN c K=0:=by
 have ha:=left_anti hk c
 rw[hc] at ha
 exact SubN.anti ha (fun i q=>by rw[Nat.zero_testBit] at q;simp at q)
theorem reasons{cs:List Nat}{K:Nat}(hK:K<2^20)(hC:ClD cs K):∀ (n k:Nat),sizeN K - sizeN k≤n→SubN k K→(∀ K',ClD cs K'→SubN k K'→SubN K K') →
  ∃ R:List Nat,(∀ c∈R,c∈cs)∧R.length+sizeN k≤sizeN K∧∀ K',ClD R K'→SubN k K'→SubN K K':=by
 intro n
 induction n with
 | zero =>
  intro k hn hk hl
  by_cases e:k=K
  ·subst e;exact⟨[],by simp,by simp,fun K' _ h=>h⟩
  ·have:=size_lt hk hK e;omega
 | succ n ih =>
  intro k hn hk hl
  by_cases hcl:ClD cs k
  ·have e:k=K:=SubN.anti hk (hl k hcl (SubN.refl k))
   subst e;exact⟨[],by simp,by simp,fun K' _ h=>h⟩
  ·obtain⟨c,hcc,h⟩:=not_closed hcl
   obtain⟨q1,q2⟩:=hC c hcc
   rcases h with h | ⟨j,hj,hb⟩
   ·exact absurd (left_zero h hk) q1
   ·have hjK:=unit_in hj hk q1 q2
    have hj20:=bit_lt hK hjK
    have hk20:k<2^20:=lt_pow_bits fun i hi=>by
     cases hb:k.testBit i with
     | false=>rfl
     | true=>have:=bit_lt hK (hk i hb);omega
    have hsz:=size_pow hj20 hk20 hb
    have hle:=size_le (sub_pow hk hjK)
    obtain⟨R,r1,r2,r3⟩:=ih (k|||2^j) (by omega) (sub_pow hk hjK) (fun K' hC' hk'=>hl K' hC' ((SubN.or_left _ _).trans hk'))
    refine⟨c :: R,fun x hx=>?_,by simp only[List.length_cons];omega,fun K' hC' hk'=>?_⟩
    ·rcases List.mem_cons.1 hx with rfl | hx
     ·exact hcc
     ·exact r1 x hx
    ·obtain⟨p1,p2⟩:=hC' c (List.mem_cons_self ..)
     exact r3 K' (hC'.sub fun x hx=>List.mem_cons_of_mem _ hx) (sub_pow hk' (unit_in hj hk' p1 p2))
theorem clash_reasons{cs:List Nat}{W m:Nat}(hW:Msk W)(hm:∀ k,SubN k W→twinB k=false→sizeN k≤m)(hs:∀ c∈cs,SubN c W):∀ (n k:Nat),m - sizeN k≤n→SubN k W→twinB k=false→clashD cs k=true →
  ∃ R:List Nat,(∀ c∈R,c∈cs)∧R.length+sizeN k≤m+1∧clashD R k=true:=by
 have hk20:∀ k,SubN k W→k<2^20:=fun k hk=>lt_pow_bits fun i hi=>by
  cases hb:k.testBit i with
  | false=>rfl
  | true=>have:=bit_lt hW.top (hk i hb);omega
 have one:∀ (c k:Nat),c∈cs→SubN k W→twinB k=false→(∀ K,SubN k K→twinB K=false→ClD [c] K→False)→∃ R:List Nat,(∀ c∈R,c∈cs)∧R.length+sizeN k≤m+1∧clashD R k=true:=by
  intro c k hcc hk ht hno
  refine⟨[c],fun x hx=>by rw[List.mem_singleton] at hx;rw[hx];exact hcc,by have:=hm k hk ht;simp only[List.length_singleton];omega,?_⟩
  cases hb:clashD [c] k with
  | true=>rfl
  | false =>
   obtain⟨K,_,a2,a3,a4⟩:=clash_false [c] (fun x hx=>by rw[List.mem_singleton] at hx;rw[hx];exact hk20 c (hs c hcc)) k (hk20 k hk) hb
   exact(hno K a2 a3 a4).elim
 intro n
 induction n with
 | zero =>
  intro k hn hk ht h
  by_cases hcl:ClD cs k
  ·rw[clash_stay hcl ht (SubN.refl k)] at h;simp at h
  ·obtain⟨c,hcc,q⟩:=not_closed hcl
   rcases q with q | ⟨j,hj,hb⟩
   ·exact one c k hcc hk ht fun K a2 _ a4=>(a4 c (List.mem_singleton.2 rfl)).1 (left_zero q a2)
   ·refine one c k hcc hk ht fun K a2 a3 a4=>?_
    obtain⟨p1,p2⟩:=a4 c (List.mem_singleton.2 rfl)
    have hjW:W.testBit j=true:=hs c hcc j (left_sub c k j (by rw[hj,Nat.testBit_two_pow];simp))
    have hjK:=unit_in hj a2 p1 p2
    have h1:=hm (k|||2^j) (sub_pow hk hjW) ((sub_pow a2 hjK).twin a3)
    have h2:=size_pow (bit_lt hW.top hjW) (hk20 k hk) hb
    omega
 | succ n ih =>
  intro k hn hk ht h
  by_cases hcl:ClD cs k
  ·rw[clash_stay hcl ht (SubN.refl k)] at h;simp at h
  ·obtain⟨c,hcc,q⟩:=not_closed hcl
   rcases q with q | ⟨j,hj,hb⟩
   ·exact one c k hcc hk ht fun K a2 _ a4=>(a4 c (List.mem_singleton.2 rfl)).1 (left_zero q a2)
   ·have hjW:W.testBit j=true:=hs c hcc j (left_sub c k j (by rw[hj,Nat.testBit_two_pow];simp))
    cases htw:twinB (k|||2^j) with
    | true =>
     refine one c k hcc hk ht fun K a2 a3 a4=>?_
     obtain⟨p1,p2⟩:=a4 c (List.mem_singleton.2 rfl)
     rw[(sub_pow a2 (unit_in hj a2 p1 p2)).twin a3] at htw
     simp at htw
    | false =>
     have h2:=size_pow (bit_lt hW.top hjW) (hk20 k hk) hb
     have hcs:∀ c∈cs,c<2^20:=fun c hcc=>hk20 c (hs c hcc)
     obtain⟨R,r1,r2,r3⟩:=ih (k|||2^j) (by omega) (sub_pow hk hjW) htw (clash_mono hcs (hk20 _ (sub_pow hk hjW)) (fun c h=>h) (SubN.or_left _ _) h)
     refine⟨c :: R,fun x hx=>?_,by simp only[List.length_cons];omega,?_⟩
     ·rcases List.mem_cons.1 hx with rfl | hx
      ·exact hcc
      ·exact r1 x hx
     ·have hR:∀ x∈c :: R,x<2^20:=fun x hx=>by
       rcases List.mem_cons.1 hx with rfl | hx
       ·exact hcs _ hcc
       ·exact hcs x (r1 x hx)
      cases hb2:clashD (c :: R) k with
      | true=>rfl
      | false =>
       obtain⟨K,_,a2,a3,a4⟩:=clash_false _ hR k (hk20 k hk) hb2
       obtain⟨p1,p2⟩:=a4 c (List.mem_cons_self ..)
       rw[clash_stay (a4.sub fun x hx=>List.mem_cons_of_mem _ hx) a3 (sub_pow a2 (unit_in hj a2 p1 p2))] at r3
       exact r3
end Go.Proofs.YthboeppmlhbofabDoor
