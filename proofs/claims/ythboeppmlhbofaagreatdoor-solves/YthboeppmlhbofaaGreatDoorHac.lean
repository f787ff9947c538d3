import Derived.Test.YthboeppmlhbofaaGreatDoorClf
import Derived.Test.YthboeppmlhbofaaGreatDoorLns
import Derived.Test.YthboeppmlhbofaaGreatDoorRdr
import Derived.Test.YthboeppmlhbofaaGreatDoorApp
namespace Go.Proofs.YthboeppmlhbofaaGreatDoor
open Go.RowKit Txt
set_option maxRecDepth 100000
def vN(s:Nat):Nat:=tN s|||fN s
theorem QC{s:Nat}(hs:s<2^20){v:Nat}(hv:v<10):(vN s).testBit (v+1)=(s.testBit (2*v) || s.testBit (2*v+1)):=by
 have h:=CT.of hs
 unfold vN
 rw[Nat.testBit_or,h.pos v hv,h.neg v hv]
theorem LP(s:Nat):(vN s).testBit 0=false:=by
 unfold vN tN fN
 rw[Nat.testBit_or,Jm,Jc]
 simp
theorem Nk(s:Nat):vN s<2^11:=by
 refine B7 fun i hi=>?_
 unfold vN tN fN
 rw[Nat.testBit_or,Jm,Jc,decide_eq_false (by omega:¬ i≤10)]
 simp
def Yh(V:Nat):Nat→Nat
 | 0=>0
 | i+1=>Yh V i|||(if V.testBit (i / 2+1) then 2^i else 0)
def AQ(V:Nat):Nat:=Yh V 20
theorem Yi(V:Nat):∀ k i,(Yh V k).testBit i=(decide (i<k) && V.testBit (i / 2+1)):=by
 intro k
 induction k with
 | zero=>intro i;simp[Yh]
 | succ k ih =>
  intro i
  simp only[Yh]
  rw[Nat.testBit_or,ih,KA]
  by_cases e:i=k
  ·subst e
   rw[decide_eq_false (by omega:¬ i<i),decide_eq_true (by omega:i<i+1)]
   simp
  ·rw[decide_eq_false e,Bool.and_false,Bool.or_false]
   by_cases h:i<k
   ·rw[decide_eq_true h,decide_eq_true (by omega:i<k+1)]
   ·rw[decide_eq_false h,decide_eq_false (by omega:¬ i<k+1)]
theorem BM(V i:Nat):(AQ V).testBit i=(decide (i<20) && V.testBit (i / 2+1)):=Yi V 20 i
theorem Y9(i:Nat):Fs i / 2=i / 2:=by unfold Fs;split <;> omega
theorem CI(V:Nat):Xe (AQ V):=by
 refine⟨B7 fun i hi=>by rw[BM,decide_eq_false (by omega:¬ i<20)];rfl,fun i hi=>?_⟩
 rw[BM,BM,Y9,decide_eq_true hi,decide_eq_true (Hk hi)]
theorem Hf{s:Nat}(hs:s<2^20){i:Nat}(h:s.testBit i=true):(vN s).testBit (i / 2+1)=true:=by
 have hi:=Bl hs h
 rw[QC hs (by omega)]
 rcases E9 i with e | e
 ·rw[← e,h];rfl
 ·rw[← e,h];simp
theorem Jx{s:Nat}(hs:s<2^20){u:Nat}(h:(vN s).testBit u=true):1≤u∧u<11∧∃ i,i / 2+1=u∧s.testBit i=true:=by
 have h0:u≠0:=fun e=>by subst e;rw[LP] at h;simp at h
 have h1:=Bl (Nk s) h
 obtain⟨v,rfl⟩:∃ v,u=v+1:=⟨u - 1,by omega⟩
 rw[QC hs (by omega),Bool.or_eq_true] at h
 refine⟨by omega,h1,?_⟩
 rcases h with h | h
 ·exact⟨2*v,by omega,h⟩
 ·exact⟨2*v+1,by omega,h⟩
theorem Fv{c V:Nat}(hc:c<2^20):AM c (AQ V)↔AM (vN c) V:=by
 constructor
 ·intro h u hu
  obtain⟨_,_,i,e,hi⟩:=Jx hc hu
  have:=h i hi
  rw[BM,Bool.and_eq_true,e] at this
  exact this.2
 ·intro h i hi
  rw[BM,decide_eq_true (Bl hc hi),h _ (Hf hc hi)]
  rfl
theorem RY{c V:Nat}(hc:c<2^20):dJ c (AQ V)↔dJ (vN c) V:=by
 constructor
 ·intro h u hu
  obtain⟨_,_,i,e,hi⟩:=Jx hc hu
  have:=h i hi
  rw[BM,decide_eq_true (Bl hc hi),e,Bool.true_and] at this
  exact this
 ·intro h i hi
  rw[BM,h _ (Hf hc hi),Bool.and_false]
theorem Cz{a b:Nat}:dJ a b↔a&&&b=0:=by
 constructor
 ·intro h
  apply Nat.eq_of_testBit_eq
  intro i
  rw[Nat.zero_testBit,Nat.testBit_and]
  cases hb:a.testBit i with
  | false=>rfl
  | true=>rw[h i hb];rfl
 ·intro h i hi
  have:=congrArg (fun n=>n.testBit i) h
  simpa [Nat.testBit_and,hi] using this
theorem MT{a b:Nat}(h:a&&&b≠0):∃ i,a.testBit i=true∧b.testBit i=true:=by
 apply Classical.byContradiction
 intro hn
 apply h
 rw[← Cz]
 intro i hi
 cases hb:b.testBit i with
 | false=>rfl
 | true=>exact absurd ⟨i,hi,hb⟩ hn
theorem EI{a b:Nat}(h:a&&&b=0):b&&&a=0:=by rw[Nat.and_comm];exact h
def Bv:Nat→Nat→List Nat
 | 0,_=>[]
 | m+1,x=>if x=0 then [] else DK x :: Bv m (x - DK x)
def Fp:List Nat→List Nat→Nat→List Nat
 | [],l,v=>l++[v]
 | c :: cs,l,v=>if c&&&v=0 then Fp cs (l++[c]) v else Fp cs l (v|||c)
def FM(ws:List Nat)(v:Nat):List Nat:=Fp ws [] v
def D7(cs:List Nat)(seen:Nat):List Nat:=cs.foldl (fun ws c=>FM ws (vN c)) (Bv 11 seen)
def eC(cs:List Nat)(C:Nat):Prop:=∀ c∈cs,vN c&&&C=0∨AM (vN c) C
def Sj(cs:List Nat)(w:Nat):Prop:=∀ C,eC cs C→C&&&w≠0→AM w C
structure Uk(cs:List Nat)(seen:Nat)(ws:List Nat):Prop where
 ne:∀ w∈ws,w≠0
 sub:∀ w∈ws,AM w seen
 dis:ws.Pairwise fun a b=>a&&&b=0
 cov:∀ u,seen.testBit u=true→∃ w∈ws,w.testBit u=true
 own:∀ c∈cs,vN c=0∨∃ w∈ws,AM (vN c) w
 con:∀ w∈ws,Sj cs w
theorem Hb{x b j:Nat}(hb:b=2^j)(hx:x.testBit j=true):∀ i,(x - b).testBit i=(x.testBit i && decide (i≠j)):=by
 intro i
 have e:b=x&&&b:=by
  subst hb
  apply Nat.eq_of_testBit_eq
  intro i
  rw[Nat.testBit_and,Nat.testBit_two_pow]
  by_cases h:j=i
  ·subst h;rw[hx];simp
  ·simp[h]
 have e2:x - b=x - (x&&&b):=by rw[← e]
 rw[e2,Bi,hb,Nat.testBit_two_pow]
 congr 1
 by_cases h:j=i
 ·subst h;simp
 ·have h':i≠j:=fun e=>h e.symm
  simp[h,h']
theorem Kq{x:Nat}(h0:x≠0)(hx:x<2^20):∃ j,x.testBit j=true∧DK x=2^j:=ai x 64 h0 (by omega)
theorem OJ:∀ (m x:Nat),x<2^20→AG x≤m→(∀ w∈Bv m x,w≠0∧AM w x∧∃ j,w=2^j)∧(Bv m x).Pairwise (fun a b=>a&&&b=0)∧∀ u,x.testBit u=true→∃ w∈Bv m x,w.testBit u=true:=by
 intro m
 induction m with
 | zero =>
  intro x hx hs
  have h0:x=0:=by
   apply Classical.byContradiction
   intro h
   have:AG 0<AG x:=Du (fun i q=>by rw[Nat.zero_testBit] at q;simp at q) hx (fun e=>h e.symm)
   omega
  subst h0
  exact⟨fun w hw=>by simp[Bv] at hw,by simp[Bv],fun u hu=>by simp at hu⟩
 | succ m ih =>
  intro x hx hs
  simp only[Bv]
  by_cases h0:x=0
  ·subst h0
   rw[if_pos rfl]
   exact⟨fun w hw=>by simp at hw,by simp,fun u hu=>by simp at hu⟩
  ·rw[if_neg h0]
   obtain⟨j,hj,hl⟩:=Kq h0 hx
   have hb:=Hb hl hj
   have hsub:AM (x - DK x) x:=fun i hi=>by rw[hb,Bool.and_eq_true] at hi;exact hi.1
   have hlt:AG (x - DK x)<AG x:=Du hsub hx (fun e=>by
    have:=hb j
    rw[e,hj] at this
    simp at this)
   obtain⟨h1,h2,h3⟩:=ih (x - DK x) (Nat.lt_of_le_of_lt (Nat.sub_le _ _) hx) (by omega)
   refine⟨fun w hw=>?_,?_,fun u hu=>?_⟩
   ·rcases List.mem_cons.1 hw with rfl | hw
    ·refine⟨by rw[hl];exact Nat.pos_iff_ne_zero.1 (Nat.pow_pos (by decide)),fun i hi=>?_,j,hl⟩
     rw[hl,Nat.testBit_two_pow] at hi
     have e:j=i:=by simpa using hi
     subst e;exact hj
    ·obtain⟨a,b,c⟩:=h1 w hw
     exact⟨a,b.trans hsub,c⟩
   ·refine List.pairwise_cons.2 ⟨fun w hw=>?_,h2⟩
    obtain⟨_,b,_⟩:=h1 w hw
    rw[← Cz]
    intro i hi
    rw[hl,Nat.testBit_two_pow] at hi
    have e:j=i:=by simpa using hi
    subst e
    cases hw':w.testBit j with
    | false=>rfl
    | true=>have:=b j hw';rw[hb] at this;simp at this
   ·by_cases e:u=j
    ·subst e;exact⟨DK x,List.mem_cons_self ..,by rw[hl,Nat.testBit_two_pow];simp⟩
    ·obtain⟨w,hw,hwu⟩:=h3 u (by rw[hb,hu,decide_eq_true e];rfl)
     exact⟨w,List.mem_cons_of_mem _ hw,hwu⟩
theorem Uk.start{seen:Nat}(hs:seen<2^11):Uk [] seen (Bv 11 seen):=by
 have hz:AG seen≤11:=by
  have:AM seen 2047:=fun i hi=>by
   have:=Bl hs hi
   have hh:i=0∨i=1∨i=2∨i=3∨i=4∨i=5∨i=6∨i=7∨i=8∨i=9∨i=10:=by omega
   rcases hh with rfl|rfl|rfl|rfl|rfl|rfl|rfl|rfl|rfl|rfl|rfl <;> decide
  exact Nat.le_trans (LD this) (by decide)
 obtain⟨h1,h2,h3⟩:=OJ 11 seen (Nat.lt_trans hs (by decide)) hz
 refine⟨fun w hw=>(h1 w hw).1,fun w hw=>(h1 w hw).2.1,h2,h3,fun c hc=>by simp at hc,fun w hw C _ hC=>?_⟩
 obtain⟨_,_,j,rfl⟩:=h1 w hw
 obtain⟨i,a,b⟩:=MT hC
 rw[Nat.testBit_two_pow] at b
 have e:j=i:=by simpa using b
 subst e
 intro i hi
 rw[Nat.testBit_two_pow] at hi
 have e:j=i:=by simpa using hi
 subst e;exact a
theorem Ip{a b c:Nat}(h1:a&&&b=0)(h2:a&&&c=0):a&&&(b|||c)=0:=by
 rw[← Cz] at h1 h2 ⊢
 intro i hi
 rw[Nat.testBit_or,h1 i hi,h2 i hi];rfl
theorem OG{a b c:Nat}(h:AM a b)(hb:b&&&c=0):a&&&c=0:=by
 rw[← Cz] at hb ⊢
 exact fun i hi=>hb i (h i hi)
theorem Ya{cs:List Nat}{seen:Nat}{c:Nat}(hc0:vN c≠0):∀ (rest l:List Nat) (v:Nat),AM (vN c) v→AM v seen→Sj (cs++[c]) v→(∀ w∈l,v&&&w=0) →
  (l++rest).Pairwise (fun a b=>a&&&b=0)→(∀ w∈l++rest,w≠0∧AM w seen∧Sj (cs++[c]) w)→(∀ u,seen.testBit u=true→v.testBit u=true∨∃ w∈l++rest,w.testBit u=true)→(∀ x∈cs,vN x=0∨AM (vN x) v∨∃ w∈l++rest,AM (vN x) w) →
  Uk (cs++[c]) seen (Fp rest l v):=by
 intro rest
 induction rest with
 | nil =>
  intro l v h1 h2 h3 h4 h5 h6 h7 h8
  simp only[Fp,List.append_nil] at *
  have hv0:v≠0:=fun e=>hc0 (by
   rw[e] at h1
   exact AM.anti h1 (fun i q=>by rw[Nat.zero_testBit] at q;simp at q))
  refine⟨fun w hw=>?_,fun w hw=>?_,?_,fun u hu=>?_,fun x hx=>?_,fun w hw=>?_⟩
  ·rcases List.mem_append.1 hw with hw | hw
   ·exact(h6 w hw).1
   ·rw[List.mem_singleton.1 hw];exact hv0
  ·rcases List.mem_append.1 hw with hw | hw
   ·exact(h6 w hw).2.1
   ·rw[List.mem_singleton.1 hw];exact h2
  ·refine List.pairwise_append.2 ⟨h5,List.pairwise_singleton _ _,fun a ha b hb=>?_⟩
   rw[List.mem_singleton.1 hb]
   exact EI (h4 a ha)
  ·rcases h7 u hu with h | ⟨w,hw,h⟩
   ·exact⟨v,List.mem_append_right _ (List.mem_singleton.2 rfl),h⟩
   ·exact⟨w,List.mem_append_left _ hw,h⟩
  ·rcases List.mem_append.1 hx with hx | hx
   ·rcases h8 x hx with h | h | ⟨w,hw,h⟩
    ·exact .inl h
    ·exact .inr ⟨v,List.mem_append_right _ (List.mem_singleton.2 rfl),h⟩
    ·exact .inr ⟨w,List.mem_append_left _ hw,h⟩
   ·rw[List.mem_singleton.1 hx]
    exact .inr ⟨v,List.mem_append_right _ (List.mem_singleton.2 rfl),h1⟩
  ·rcases List.mem_append.1 hw with hw | hw
   ·exact(h6 w hw).2.2
   ·rw[List.mem_singleton.1 hw];exact h3
 | cons w rest ih =>
  intro l v h1 h2 h3 h4 h5 h6 h7 h8
  simp only[Fp]
  by_cases hz:w&&&v=0
  ·rw[if_pos hz]
   have e:l++[w]++rest=l++w :: rest:=by simp
   refine ih (l++[w]) v h1 h2 h3 (fun x hx=>?_) (by rw[e];exact h5) (by rw[e];exact h6) (by rw[e];exact h7) (by rw[e];exact h8)
   rcases List.mem_append.1 hx with hx | hx
   ·exact h4 x hx
   ·rw[List.mem_singleton.1 hx];exact EI hz
  ·rw[if_neg hz]
   obtain⟨hw0,hws,hwc⟩:=h6 w (List.mem_append_right _ (List.mem_cons_self ..))
   have hp:=List.pairwise_append.1 h5
   have hsub:∀ x∈l++rest,x∈l++w :: rest:=fun x hx=>by
    rcases List.mem_append.1 hx with hx | hx
    ·exact List.mem_append_left _ hx
    ·exact List.mem_append_right _ (List.mem_cons_of_mem _ hx)
   refine ih l (v|||w) (h1.trans (AM.or_left _ _)) (h2.or hws) ?_ (fun x hx=>?_) ?_ (fun x hx=>h6 x (hsub x hx)) (fun u hu=>?_) (fun x hx=>?_)
   ·intro C hC hne
    have key:C&&&v≠0→AM (v|||w) C:=fun hv=>by
     have a:=h3 C hC hv
     obtain⟨i,i1,i2⟩:=MT hz
     have b:=hwc C hC (fun e=>by
      have:=Cz.2 e i (a i i2)
      rw[i1] at this;simp at this)
     exact a.or b
    by_cases hv:C&&&v=0
    ·by_cases hw:C&&&w=0
     ·exact absurd (Ip hv hw) hne
     ·have b:=hwc C hC hw
      obtain⟨i,i1,i2⟩:=MT hz
      exact key (fun e=>by
       have:=Cz.2 e i (b i i1)
       rw[i2] at this;simp at this)
    ·exact key hv
   ·have a:=h4 x hx
    have b:=hp.2.2 x hx w (List.mem_cons_self ..)
    exact EI (Ip (EI a) b)
   ·refine List.pairwise_append.2 ⟨hp.1,(List.pairwise_cons.1 hp.2.1).2,fun a ha b hb=>hp.2.2 a ha b (List.mem_cons_of_mem _ hb)⟩
   ·rcases h7 u hu with h | ⟨x,hx,h⟩
    ·exact .inl (by rw[Nat.testBit_or,h];rfl)
    ·rcases List.mem_append.1 hx with hx | hx
     ·exact .inr ⟨x,List.mem_append_left _ hx,h⟩
     ·rcases List.mem_cons.1 hx with rfl | hx
      ·exact .inl (by rw[Nat.testBit_or,h,Bool.or_true])
      ·exact .inr ⟨x,List.mem_append_right _ hx,h⟩
   ·rcases h8 x hx with h | h | ⟨y,hy,h⟩
    ·exact .inl h
    ·exact .inr (.inl (h.trans (AM.or_left _ _)))
    ·rcases List.mem_append.1 hy with hy | hy
     ·exact .inr (.inr ⟨y,List.mem_append_left _ hy,h⟩)
     ·rcases List.mem_cons.1 hy with rfl | hy
      ·exact .inr (.inl (h.trans (fun i hi=>by rw[Nat.testBit_or,hi,Bool.or_true])))
      ·exact .inr (.inr ⟨y,List.mem_append_right _ hy,h⟩)
theorem Sj.more{cs:List Nat}{w:Nat}(h:Sj cs w)(c:Nat):Sj (cs++[c]) w:=fun C hC hne=>h C (fun x hx=>hC x (List.mem_append_left _ hx)) hne
theorem Uk.link{cs:List Nat}{seen:Nat}{ws:List Nat}(h:Uk cs seen ws){c:Nat}(hc0:vN c≠0)(hcs:AM (vN c) seen):Uk (cs++[c]) seen (FM ws (vN c)):=by
 refine Ya hc0 ws [] (vN c) (AM.refl _) hcs ?_ (fun w hw=>by simp at hw) (by simpa using h.dis) (fun w hw=>?_) (fun u hu=>.inr (by simpa using h.cov u hu)) (fun x hx=>?_)
 ·intro C hC hne
  rcases hC c (List.mem_append_right _ (List.mem_singleton.2 rfl)) with e | e
  ·exact absurd (EI e) hne
  ·exact e
 ·have hw':w∈ws:=by simpa using hw
  exact⟨h.ne w hw',h.sub w hw',(h.con w hw').more c⟩
 ·rcases h.own x hx with e | ⟨w,hw,e⟩
  ·exact .inl e
  ·exact .inr (.inr ⟨w,by simpa using hw,e⟩)
theorem Vp{seen:Nat}(hs:seen<2^11)(cs:List Nat)(hcs:∀ c∈cs,vN c≠0∧AM (vN c) seen):Uk cs seen (D7 cs seen):=by
 have key:∀ (l cs:List Nat) (ws:List Nat),Uk cs seen ws→(∀ c∈l,vN c≠0∧AM (vN c) seen)→Uk (cs++l) seen (l.foldl (fun ws c=>FM ws (vN c)) ws):=by
  intro l
  induction l with
  | nil=>intro cs ws h _;simpa using h
  | cons c l ih =>
   intro cs ws h hl
   obtain⟨a,b⟩:=hl c (List.mem_cons_self ..)
   have:=ih (cs++[c]) (FM ws (vN c)) (h.link a b) (fun x hx=>hl x (List.mem_cons_of_mem _ hx))
   simpa using this
 have:=key cs [] (Bv 11 seen) (Uk.start hs) hcs
 simpa [D7] using this
theorem JQ{c:Nat}(hc:c<2^20){v:Nat}(hv:v<10):(An c).testBit (2*v)=(vN c).testBit (v+1)∧(An c).testBit (2*v+1)=false:=by
 have h:=(CT.of hc).vars
 refine⟨h.pos v hv,?_⟩
 rw[h.neg v hv];simp
theorem GZ{c i:Nat}(hc:c<2^20)(h:(An c).testBit i=true):i=2*(i / 2)∧i / 2<10∧(vN c).testBit (i / 2+1)=true:=by
 have hi:i<20:=Bl (Ec c) h
 obtain⟨a,b⟩:=JQ hc (v:=i / 2) (by omega)
 rcases E9 i with e | e
 ·exact⟨e,by omega,by rw[← a,← e];exact h⟩
 ·rw[← e,h] at b;simp at b
theorem Q4(p c:Nat):AM p (EC p c):=by
 unfold EC
 split
 ·exact AM.refl p
 ·exact AM.or_left _ _
theorem Mm:∀ (cs:List Nat) (p:Nat),AM p (cs.foldl EC p):=by
 intro cs
 induction cs with
 | nil=>intro p;exact AM.refl p
 | cons c cs ih=>intro p;exact(Q4 p c).trans (ih _)
theorem Qh:∀ (cs:List Nat) (p:Nat),cs.foldl EC p=p→∀ c∈cs,EC p c=p:=by
 intro cs
 induction cs with
 | nil=>intro p _ c hc;simp at hc
 | cons c cs ih =>
  intro p h x hx
  simp only[List.foldl_cons] at h
  have a:=Mm cs (EC p c)
  rw[h] at a
  have e:EC p c=p:=AM.anti a (Q4 p c)
  rcases List.mem_cons.1 hx with rfl | hx
  ·exact e
  ·rw[e] at h;exact ih p h x hx
theorem OR{X:Nat}:∀ (cs:List Nat) (p:Nat),AM p X→(∀ c∈cs,An c&&&X=0∨AM (An c) X)→AM (cs.foldl EC p) X:=by
 intro cs
 induction cs with
 | nil=>intro p h _;exact h
 | cons c cs ih =>
  intro p h hX
  refine ih _ ?_ (fun x hx=>hX x (List.mem_cons_of_mem _ hx))
  unfold EC
  split
  ·exact h
  ·rename_i hne
   rcases hX c (List.mem_cons_self ..) with e | e
   ·exact absurd (EI (OG h (EI e))) hne
   ·exact h.or e
theorem Qs(cs:List Nat):∀ (m p:Nat),AM p (DS cs m p):=by
 intro m
 induction m with
 | zero=>intro p;exact AM.refl p
 | succ m ih=>intro p;exact(Mm cs p).trans (ih _)
theorem OU{X:Nat}{cs:List Nat}(hX:∀ c∈cs,An c&&&X=0∨AM (An c) X):∀ (m p:Nat),AM p X→AM (DS cs m p) X:=by
 intro m
 induction m with
 | zero=>intro p h;exact h
 | succ m ih=>intro p h;exact ih _ (OR cs p h hX)
theorem Lm(c:Nat):AM (An c) 349525:=FJ _ _
theorem Vv:∀ (cs:List Nat) (p:Nat),AM p 349525→AM (cs.foldl EC p) 349525:=fun cs p h=>OR cs p h (fun c _=>.inr (Lm c))
theorem V5(cs:List Nat)(m p:Nat)(h:cs.foldl EC p=p):DS cs m p=p:=by
 induction m with
 | zero=>rfl
 | succ m ih=>simp only[DS];rw[h];exact ih
theorem Qr(cs:List Nat):∀ (m p:Nat),AM p 349525→10<AG p+m→cs.foldl EC (DS cs m p)=DS cs m p:=by
 intro m
 induction m with
 | zero =>
  intro p h hs
  have:=LD h
  have e:AG 349525=10:=by decide
  omega
 | succ m ih =>
  intro p h hs
  by_cases e:cs.foldl EC p=p
  ·rw[V5 cs (m+1) p e,e]
  ·simp only[DS]
   have hm:=Vv cs p h
   have hlt:p<2^20:=Nat.lt_of_le_of_lt (by
    have:p=p&&&349525:=h.eq_and.symm
    rw[this];exact Nat.and_le_right) (by decide:349525<2^20)
   have:=Du (Mm cs p) (U0 cs p hlt) (fun q=>e q.symm)
   exact ih _ hm (by omega)
theorem Lw{p c:Nat}(h:EC p c=p):An c&&&p=0∨AM (An c) p:=by
 unfold EC at h
 split at h
 ·rename_i h0;exact .inl h0
 ·refine .inr fun i hi=>?_
  rw[← h,Nat.testBit_or,hi,Bool.or_true]
theorem aU{cs:List Nat}(hc:∀ c∈cs,c<2^20){P:Nat}(hP:P<2^20)(hcl:∀ c∈cs,An c&&&P=0∨AM (An c) P):eC cs (tN P):=by
 have hT:=CT.of hP
 intro c hcc
 rcases hcl c hcc with h | h
 ·left
  rw[← Cz] at h ⊢
  intro u hu
  obtain⟨u1,u2,_⟩:=Jx (hc c hcc) hu
  obtain⟨v,rfl⟩:∃ v,u=v+1:=⟨u - 1,by omega⟩
  rw[← hT.pos v (by omega)]
  exact h _ (by rw[(JQ (hc c hcc) (by omega)).1];exact hu)
 ·right
  intro u hu
  obtain⟨u1,u2,_⟩:=Jx (hc c hcc) hu
  obtain⟨v,rfl⟩:∃ v,u=v+1:=⟨u - 1,by omega⟩
  rw[← hT.pos v (by omega)]
  exact h _ (by rw[(JQ (hc c hcc) (by omega)).1];exact hu)
theorem Tn{v:Nat}(hv:v<2^20):DK v<2^20:=Nat.lt_of_le_of_lt Nat.and_le_left hv
theorem Pc(v:Nat):AM (DK v) v:=Ib _ _
theorem Ls{cs:List Nat}(hc:∀ c∈cs,c<2^20){w D:Nat}(hw:Sj cs w)(hD:D<2^20)(hs:AM (vN D) w):Cj cs (An D)=true:=by
 have hv20:An D<2^20:=Ec D
 unfold Cj
 by_cases h0:An D=0
 ·rw[h0,Nat.zero_and];rfl
 ·obtain⟨j,hj,hl⟩:=Kq h0 hv20
  obtain⟨e,hj10,hjD⟩:=GZ hD hj
  have hlm:AM (DK (An D)) 349525:=(Pc _).trans (Lm D)
  have hz:AG 0<AG (DK (An D)):=Du (fun i q=>by rw[Nat.zero_testBit] at q;simp at q) (Tn hv20) (fun q=>by
   have:(DK (An D)).testBit j=true:=by rw[hl,Nat.testBit_two_pow];simp
   rw[← q] at this;simp at this)
  have hfix:=Qr cs 10 _ hlm (by omega)
  have hsub:=Qs cs 10 (DK (An D))
  have hP:DS cs 10 (DK (An D))<2^20:=by
   have key:∀ m p,p<1048576→DS cs m p<1048576:=by
    intro m
    induction m with
    | zero=>intro p h;exact h
    | succ m ih=>intro p h;exact ih _ (U0 cs p h)
   exact key 10 _ (Tn hv20)
  generalize DS cs 10 (DK (An D))=P at *
  have hcl:=aU hc hP (fun c hcc=>Lw (Qh cs P hfix c hcc))
  have hT:=CT.of hP
  have hjP:P.testBit j=true:=hsub j (by rw[hl,Nat.testBit_two_pow];simp)
  have hsubw:=hw (tN P) hcl (fun q=>by
   have:=Cz.2 q (j / 2+1) (by rw[← hT.pos _ hj10,← e];exact hjP)
   rw[hs _ hjD] at this
   simp at this)
  have:AM (An D) P:=fun i hi=>by
   obtain⟨e',h10,hiD⟩:=GZ hD hi
   have:=hsubw _ (hs _ hiD)
   rw[← hT.pos _ h10,← e'] at this
   exact this
  simpa using this.eq_and
theorem Rd:∀ {ws:List Nat},ws.Pairwise (fun a b=>a&&&b=0)→∀ {a b:Nat},a∈ws→b∈ws→a≠b→a&&&b=0:=by
 intro ws
 induction ws with
 | nil=>intro _ a b ha;simp at ha
 | cons w ws ih =>
  intro h a b ha hb hne
  obtain⟨h1,h2⟩:=List.pairwise_cons.1 h
  rcases List.mem_cons.1 ha with ea | ha
  ·rcases List.mem_cons.1 hb with eb | hb
   ·exact absurd (ea.trans eb.symm) hne
   ·rw[ea];exact h1 b hb
  ·rcases List.mem_cons.1 hb with eb | hb
   ·rw[eb];exact EI (h1 a ha)
   ·exact ih h2 ha hb hne
theorem V6{cs:List Nat}(hc:∀ c∈cs,c<2^20){seen:Nat}{ws:List Nat}(h:Uk cs seen ws){D:Nat}(hD:D<2^20)(hs:AM (vN D) seen)(hj:Cj cs (An D)=true):vN D=0∨∃ w∈ws,AM (vN D) w:=by
 have hv20:An D<2^20:=Ec D
 by_cases h0:An D=0
 ·left
  refine AM.anti (fun u hu=>?_) (fun i q=>by rw[Nat.zero_testBit] at q;simp at q)
  obtain⟨u1,u2,_⟩:=Jx hD hu
  obtain⟨v,rfl⟩:∃ v,u=v+1:=⟨u - 1,by omega⟩
  have:=(JQ hD (v:=v) (by omega)).1
  rw[h0,hu] at this
  simp at this
 ·right
  obtain⟨j,hj1,hl⟩:=Kq h0 hv20
  obtain⟨e,hj10,hjD⟩:=GZ hD hj1
  obtain⟨w,hw,hwu⟩:=h.cov _ (hs _ hjD)
  refine⟨w,hw,?_⟩
  obtain⟨X,hX,hXb⟩:=Ge (fun i=>decide (i % 2=0) && w.testBit (i / 2+1)) 20
  have hstay:=OU (X:=X) (cs:=cs) (fun c hcc=>by
   rcases h.own c hcc with q | ⟨w',hw',q⟩
   ·left
    rw[← Cz]
    intro i hi
    obtain⟨_,_,a⟩:=GZ (hc c hcc) hi
    rw[q] at a;simp at a
   ·by_cases ew:w'=w
    ·right
     intro i hi
     obtain⟨a1,a2,a3⟩:=GZ (hc c hcc) hi
     rw[hXb _ (by omega),← ew,q _ a3,decide_eq_true (by omega)]
     rfl
    ·left
     rw[← Cz]
     intro i hi
     obtain⟨a1,a2,a3⟩:=GZ (hc c hcc) hi
     have hd:w'&&&w=0:=Rd h.dis hw' hw ew
     have:=Cz.2 hd _ (q _ a3)
     rw[hXb _ (by omega),this,Bool.and_false]) 10 (DK (An D)) (fun i hi=>by
    rw[hl,Nat.testBit_two_pow] at hi
    have e':j=i:=by simpa using hi
    subst e'
    rw[hXb _ (by omega),hwu,decide_eq_true (by omega)];rfl)
  unfold Cj at hj
  have hj':An D&&&DS cs 10 (DK (An D))=An D:=by simpa using hj
  intro u hu
  obtain⟨u1,u2,_⟩:=Jx hD hu
  obtain⟨v,rfl⟩:∃ v,u=v+1:=⟨u - 1,by omega⟩
  have hb:=(JQ hD (v:=v) (by omega)).1
  rw[hu] at hb
  have hb2:=hb
  rw[← hj'] at hb2
  have:=hstay _ (FJ _ _ _ hb2)
  rw[hXb _ (by omega),Bool.and_eq_true,show 2*v / 2=v by omega] at this
  exact this.2
theorem Cp{fn:Func}{p q u v:Tmp}(h:fn.results=#[.tmp p,.tmp q,.tmp u,.tmp v])(tmps:Array Value)(P:Program)(w:World) :
  (results fn tmps).run P w=.ok (.tuple #[tmps.getD p undef,tmps.getD q undef,tmps.getD u undef,tmps.getD v undef]) w:=by
 simp[results,h]
def Xd(w:World)(r:Option (Nat × List Int × Nat))(e:Ending)(w':World):Prop:=Below w.heap.size w w'∧match r with
 | none=>e=.returned (.tuple #[.int .u8 0,.slice none 0 0,.int .i64 0,.bool false])
 | some (lt,xs,q)=>∃ a c,e=.returned (.tuple #[.int .u8 lt,.slice a xs.length c,.int .i64 q,.bool true])∧w'.ownsRow w.heap.size 3 1 (.slice a xs.length c) xs.length (AO xs)
set_option maxHeartbeats 8000000 in
theorem OW(s:ByteArray)(p:Nat)(w:World)(hs:s.size≤4194304)(hp:p<s.size) :
  Calls Tryz.prog 76 #[.string s,.int .i64 p] w (Xd w (Bw (bs s) p)):=by
 by_cases h2:p+2≤s.size
 ·have hp1:p+1<s.size:=by omega
  have g1:=DO s (p+1) hp1
  have g0:=DO s p hp
  by_cases h32:s[p+1].toNat=32
  ·have k32:(((s[p+1].toNat:Nat):Int) != 32)=false:=by rw[h32];rfl
   by_cases h3:s[p].toNat=97∨s[p].toNat=100∨s[p].toNat=101
   ·have hlb:PV (bs s) p=true:=by
     unfold PV
     rw[Aa,g1,g0,decide_eq_true h2]
     simp[h32,h3,or_assoc]
    have HR:Hid (Bw (bs s) p=(Ol (bs s) (s.size+1) (p+2) []).map fun r=>(s[p].toNat,r.1,r.2)):=by
     show _=_
     simp only[Bw,hlb,if_true]
     rw[Aa,g0]
    generalize Bw (bs s) p=R at *
    obtain⟨i0,hi0,hz0,hz1,hz2⟩:=info_parts Tryz.infoInt
    have H3:=AB h3
    clear g0 g1 hlb h32 h3
    go_enter Tryz.func76,Tryz.ntmps76
    go_wp2_with fail
    rotate_left 2
    ·exfalso
     have h3:=H3.out
     rename_i hx
     simp only[bne_iff_ne,ne_eq] at hx
     omega
    all_goals
     generalize s[p].toNat=lt at *
     generalize hrd:Ol (bs s) (s.size+1) (p+2) []=RD at HR
     have HRD:=AB hrd
     have HB0:Hid (Below w.heap.size w w):=Below.refl _ _
     clear hrd H3
     go_loopw [1,9] (fun x1 x9 wr=>∃ (q m:Nat) (acc:List Int) (a:Option Addr) (c:Nat),q≤s.size∧x1=.int .i64 q∧x9=.slice a acc.length c∧acc.length≤q∧s.size+2≤q+m∧Hid (wr.ownsRow w.heap.size 3 1 (.slice a acc.length c) acc.length (AO acc))∧Hid (Below w.heap.size w wr)∧Hid (Ol (bs s) m q acc=RD)) (fun x1 _ _=>s.size - (intOf x1).toNat)
     case atStart=>exact⟨p+2,s.size+1,[],none,0,by omega,by go_num,rfl,Nat.zero_le _,by omega,⟨rfl,.inl ⟨rfl,rfl⟩⟩,HB0,HRD⟩
     case round =>
      clear HRD HB0
      obtain⟨q,m,acc,a,c,hq,rfl,rfl,hacc,hm,HO,HBR,HF⟩:=hrel
      obtain⟨m,rfl⟩:∃ k,m=k+1:=⟨m - 1,by omega⟩
      have hf:=HF.out
      have hwl:=LS ((bs s).drop q)
      rw[List.length_drop,Aa] at hwl
      by_cases hlt:q<s.size
      ·have HWE:=AB (Lc s q wr hs hq)
       simp only[Ol,Aa] at hf
       generalize hez:q+CN ((bs s).drop q)=ez at *
       have hezs:ez≤s.size:=by omega
       have hqe:q≤ez:=by omega
       clear hez HF hwl
       by_cases hlz:ez<s.size
       ·rw[if_pos hlz] at hf
        have HNU:=AB (JH (s.extract q ez) wr (by rw[ByteArray.size_extract];omega))
        rw[Ei] at HNU
        have hge:=DO s ez hlz
        rw[hge] at hf
        generalize BU (((bs s).drop q).take (ez - q))=N at *
        obtain⟨n,er⟩:=N
        simp only at hf HNU
        have i1:(0:Int)≤(q:Int):=by omega
        have i2:(q:Int)≤(ez:Int):=by omega
        have i3:(ez:Int)≤(s.size:Int):=by omega
        by_cases her:er=0
        ·subst her
         rw[if_neg (by simp:¬ ((0:Int)≠0))] at hf
         have j1:(0:Int)≤(ez:Int):=by omega
         have j2:(ez:Int)<(s.size:Int):=by omega
         have hcast:∀ b:Nat,(((s[ez].toNat:Nat):Int) == (b:Int))=(s[ez].toNat == b):=fun b=>E8 _ _
         have t10:=hcast 10
         have t32:=hcast 32
         clear hcast hge
         by_cases hn:n=0
         ·subst hn
          by_cases h10:s[ez].toNat=10
          ·rw[if_pos ⟨rfl,h10⟩] at hf
           have hres:R=some (lt,acc,ez+1):=by rw[HR.out,← hf];rfl
           have HRN:=AB hres
           have t10':(((s[ez].toNat:Nat):Int) != 10)=false:=by rw[bne,show((10:Int))=((10:Nat):Int) from rfl,t10];simpa using h10
           clear hf hres t10 t32 h10
           go_wp2_with (first
            | (go_at_call 87;refine(AE HWE).mono ?_;rintro e w' ⟨rfl,hw⟩;obtain rfl:=hw.symm)
            | (go_at_call 88;refine(AE HNU).mono ?_;rintro e w' ⟨rfl,hw⟩;obtain rfl:=hw.symm))
           (try simp only[Exit.inBlock,Exit.then])
           refine bodyPost_ret (Cp rfl _ _ _) rfl ⟨HBR.out,?_⟩
           rw[HRN.out]
           exact⟨a,c,by first | (rw[show((lt:Nat):Int)=97 by assumption];rfl) | (rw[show((lt:Nat):Int)=100 by assumption];rfl) | rfl,HO.out⟩
          ·rw[if_neg (fun h=>h10 h.2),if_pos (.inl rfl)] at hf
           have hres:R=none:=by rw[HR.out,← hf];rfl
           have HRN:=AB hres
           have t10':(((s[ez].toNat:Nat):Int) != 10)=true:=by rw[bne,show((10:Int))=((10:Nat):Int) from rfl,t10];simpa using h10
           clear hf hres t10 t32 h10
           go_wp2_with (first
            | (go_at_call 87;refine(AE HWE).mono ?_;rintro e w' ⟨rfl,hw⟩;obtain rfl:=hw.symm)
            | (go_at_call 88;refine(AE HNU).mono ?_;rintro e w' ⟨rfl,hw⟩;obtain rfl:=hw.symm))
           (try simp only[Exit.inBlock,Exit.then])
           refine bodyPost_ret (Cp rfl _ _ _) rfl ⟨HBR.out,?_⟩
           rw[HRN.out]
           rfl
         ·have hnb:(n == 0)=false:=beq_eq_false_iff_ne.2 hn
          have hnb':(n != 0)=true:=bne_iff_ne.2 hn
          by_cases h32:s[ez].toNat=32
          ·rw[if_neg (fun h=>hn h.1),if_neg (fun h=>h.elim hn (fun h=>h h32))] at hf
           have HF2:=AB hf
           have t32':(((s[ez].toNat:Nat):Int) != 32)=false:=by rw[bne,show((32:Int))=((32:Nat):Int) from rfl,t32];simp[h32]
           have d1:Hid (acc.length+1≤maxLen):=by show _≤_;unfold maxLen;omega
           have d2:Hid ((acc.length+1)*8≤140737488355328):=by show _≤_;omega
           have hzr:w.heap.size≤wr.heap.size:=HBR.out.size
           clear hf t10 t32 h32
           go_wp2_with (first
            | (go_at_call 87;refine(AE HWE).mono ?_;rintro e w' ⟨rfl,hw⟩;obtain rfl:=hw.symm)
            | (go_at_call 88;refine(AE HNU).mono ?_;rintro e w' ⟨rfl,hw⟩;obtain rfl:=hw.symm)
            | (at_builtin;refine Ap _ rfl _ _ 24 rfl w.heap.size 3 i0 (.int .i64 0) 8 Tryz.undInts hi0 hz0 hz1 hz2 rfl (.slice a acc.length c) acc.length (AO acc) rfl (HO.out.alloc _) ⟨wr.heap.size,0,none⟩ 1 1 [.int .i64 n] rfl rfl (AH wr [.int .i64 n] 3) (by intro u hu;simp at hu;subst hu;rfl) (by decide) d1.out d2.out (by simp;omega) (wr.heap.size+1) (by simp) ?_;intro a3 c3 w3 hown3 hg3 hl3;
                  have O3:Hid (w3.ownsRow w.heap.size 3 1 (.slice a3 (acc.length+1) c3) (acc.length+1) (AO (acc++[n]))):=(show AO acc++[Value.int .i64 n]=AO (acc++[n]) by simp[AO]) ▸ hown3;
                  have B3:Hid (Below w.heap.size w w3):=(HBR.out.alloc hzr _).grown hg3 (by simp;omega) (fun j hj=>(HO.out.lt j hj).1);
                  clear hown3 hg3 hl3))
           go_roundw
           case rel=>exact⟨ez+1,m,acc++[n],a3,c3,by omega,by go_num,by rw[Ar],by rw[Ar];omega,by omega,by rw[Ar];exact O3,B3,HF2⟩
           case measure=>simp[intOf];omega
          ·rw[if_neg (fun h=>hn h.1),if_pos (.inr h32)] at hf
           have hres:R=none:=by rw[HR.out,← hf];rfl
           have HRN:=AB hres
           have t32':(((s[ez].toNat:Nat):Int) != 32)=true:=by rw[bne,show((32:Int))=((32:Nat):Int) from rfl,t32];simp[h32]
           clear hf hres t10 t32 h32
           go_wp2_with (first
            | (go_at_call 87;refine(AE HWE).mono ?_;rintro e w' ⟨rfl,hw⟩;obtain rfl:=hw.symm)
            | (go_at_call 88;refine(AE HNU).mono ?_;rintro e w' ⟨rfl,hw⟩;obtain rfl:=hw.symm))
           (try simp only[Exit.inBlock,Exit.then])
           refine bodyPost_ret (Cp rfl _ _ _) rfl ⟨HBR.out,?_⟩
           rw[HRN.out]
           rfl
        ·have hres:R=none:=by
          rw[if_pos her] at hf
          rw[HR.out,← hf];rfl
         have HRN:=AB hres
         have heri:(er != 0)=true:=bne_iff_ne.2 her
         clear hf her hres
         go_wp2_with (first
          | (go_at_call 87;refine(AE HWE).mono ?_;rintro e w' ⟨rfl,hw⟩;obtain rfl:=hw.symm)
          | (go_at_call 88;refine(AE HNU).mono ?_;rintro e w' ⟨rfl,hw⟩;obtain rfl:=hw.symm))
         (try simp only[Exit.inBlock,Exit.then])
         refine bodyPost_ret (Cp rfl _ _ _) rfl ⟨HBR.out,?_⟩
         rw[HRN.out]
         rfl
       ·rw[if_neg hlz] at hf
        have hres:R=none:=by rw[HR.out,← hf];rfl
        have HRN:=AB hres
        have hgez:(ez:Int) ≥ (s.size:Int):=by omega
        clear hf hres
        go_wp2_with (go_at_call 87;refine(AE HWE).mono ?_;rintro e w' ⟨rfl,hw⟩;obtain rfl:=hw.symm)
        (try simp only[Exit.inBlock,Exit.then])
        refine bodyPost_ret (Cp rfl _ _ _) rfl ⟨HBR.out,?_⟩
        rw[HRN.out]
        rfl
      ·simp only[Ol,Aa] at hf
       rw[if_neg (by omega)] at hf
       have hres:R=none:=by rw[HR.out,← hf];rfl
       have HRN:=AB hres
       clear hf hres
       go_wp2
       (try simp only[Exit.inBlock,Exit.then])
       refine bodyPost_ret (Cp rfl _ _ _) rfl ⟨HBR.out,?_⟩
       rw[HRN.out]
       rfl
   ·have HR:Hid (Bw (bs s) p=none):=by
     show _=_
     have:PV (bs s) p=false:=by
      unfold PV
      rw[g0]
      have:(s[p].toNat == 97 || s[p].toNat == 100 || s[p].toNat == 101)=false:=by simp[not_or] at h3 ⊢;omega
      rw[this,Bool.and_false]
     simp[Bw,this]
    have H3:=AB h3
    clear g0 g1 h32 h3
    generalize Bw (bs s) p=R at *
    go_enter Tryz.func76,Tryz.ntmps76
    go_wp2_with fail
    ·exfalso
     have:=H3.out
     omega
    ·exfalso
     have:=H3.out
     omega
    ·(try simp only[Exit.inBlock,Exit.then])
     refine bodyPost_ret (Cp rfl _ _ _) rfl ⟨Below.refl _ _,?_⟩
     rw[HR.out]
     rfl
    ·exfalso
     have h3:=H3.out
     rename_i hx _ _
     simp only[bne_eq_false_iff_eq] at hx
     omega
  ·have HR:Hid (Bw (bs s) p=none):=by
    show _=_
    have:PV (bs s) p=false:=by
     unfold PV
     rw[g1]
     have:(s[p+1].toNat == 32)=false:=by simpa using h32
     rw[this,Bool.and_false,Bool.false_and]
    simp[Bw,this]
   have k32:(((s[p+1].toNat:Nat):Int) != 32)=true:=by rw[bne_iff_ne];omega
   clear g0 g1 h32
   generalize Bw (bs s) p=R at *
   go_enter Tryz.func76,Tryz.ntmps76
   go_wp2
   (try simp only[Exit.inBlock,Exit.then])
   refine bodyPost_ret (Cp rfl _ _ _) rfl ⟨Below.refl _ _,?_⟩
   rw[HR.out]
   rfl
 ·have HR:Hid (Bw (bs s) p=none):=by
   show _=_
   have:PV (bs s) p=false:=by
    unfold PV
    rw[Aa,decide_eq_false h2,Bool.false_and,Bool.false_and]
   simp[Bw,this]
  have i1:(p:Int)+1 ≥ (s.size:Int):=by omega
  generalize Bw (bs s) p=R at *
  go_enter Tryz.func76,Tryz.ntmps76
  go_wp2
  (try simp only[Exit.inBlock,Exit.then])
  refine bodyPost_ret (Cp rfl _ _ _) rfl ⟨Below.refl _ _,?_⟩
  rw[HR.out]
  rfl
end Go.Proofs.YthboeppmlhbofaaGreatDoor
