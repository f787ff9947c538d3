import Derived.Test.YthboeppmlhbofaaDoorClf
import Derived.Test.YthboeppmlhbofaaDoorLns
import Derived.Test.YthboeppmlhbofaaDoorRdr
import Derived.Test.YthboeppmlhbofaaDoorApp
namespace Go.Proofs.YthboeppmlhbofaaDoor
open Go.RowKit Txt
set_option maxRecDepth 100000
def vN(s:Nat):Nat:=tN s|||fN s
theorem Mw{s:Nat}(hs:s<2^20){v:Nat}(hv:v<10):(vN s).testBit (v+1)=(s.testBit (2*v) || s.testBit (2*v+1)):=by
 have h:=Bf.of hs
 unfold vN
 rw[Nat.testBit_or,h.pos v hv,h.neg v hv]
theorem JE(s:Nat):(vN s).testBit 0=false:=by
 unfold vN tN fN
 rw[Nat.testBit_or,Hp,Hc]
 simp
theorem LB(s:Nat):vN s<2^11:=by
 refine BX fun i hi=>?_
 unfold vN tN fN
 rw[Nat.testBit_or,Hp,Hc,decide_eq_false (by omega:¬ i≤10)]
 simp
def UC(V:Nat):Nat→Nat
 | 0=>0
 | i+1=>UC V i|||(if V.testBit (i / 2+1) then 2^i else 0)
def AI(V:Nat):Nat:=UC V 20
theorem UD(V:Nat):∀ k i,(UC V k).testBit i=(decide (i<k) && V.testBit (i / 2+1)):=by
 intro k
 induction k with
 | zero=>intro i;simp[UC]
 | succ k ih =>
  intro i
  simp only[UC]
  rw[Nat.testBit_or,ih,IB]
  by_cases e:i=k
  ·subst e
   rw[decide_eq_false (by omega:¬ i<i),decide_eq_true (by omega:i<i+1)]
   simp
  ·rw[decide_eq_false e,Bool.and_false,Bool.or_false]
   by_cases h:i<k
   ·rw[decide_eq_true h,decide_eq_true (by omega:i<k+1)]
   ·rw[decide_eq_false h,decide_eq_false (by omega:¬ i<k+1)]
theorem Av(V i:Nat):(AI V).testBit i=(decide (i<20) && V.testBit (i / 2+1)):=UD V 20 i
theorem UY(i:Nat):Dk i / 2=i / 2:=by unfold Dk;split <;> omega
theorem Ba(V:Nat):TF (AI V):=by
 refine⟨BX fun i hi=>by rw[Av,decide_eq_false (by omega:¬ i<20)];rfl,fun i hi=>?_⟩
 rw[Av,Av,UY,decide_eq_true hi,decide_eq_true (Fm hi)]
theorem Fg{s:Nat}(hs:s<2^20){i:Nat}(h:s.testBit i=true):(vN s).testBit (i / 2+1)=true:=by
 have hi:=A8 hs h
 rw[Mw hs (by omega)]
 rcases DU i with e | e
 ·rw[← e,h];rfl
 ·rw[← e,h];simp
theorem H8{s:Nat}(hs:s<2^20){u:Nat}(h:(vN s).testBit u=true):1≤u∧u<11∧∃ i,i / 2+1=u∧s.testBit i=true:=by
 have h0:u≠0:=fun e=>by subst e;rw[JE] at h;simp at h
 have h1:=A8 (LB s) h
 obtain⟨v,rfl⟩:∃ v,u=v+1:=⟨u - 1,by omega⟩
 rw[Mw hs (by omega),Bool.or_eq_true] at h
 refine⟨by omega,h1,?_⟩
 rcases h with h | h
 ·exact⟨2*v,by omega,h⟩
 ·exact⟨2*v+1,by omega,h⟩
theorem EW{c V:Nat}(hc:c<2^20):AH c (AI V)↔AH (vN c) V:=by
 constructor
 ·intro h u hu
  obtain⟨_,_,i,e,hi⟩:=H8 hc hu
  have:=h i hi
  rw[Av,Bool.and_eq_true,e] at this
  exact this.2
 ·intro h i hi
  rw[Av,decide_eq_true (A8 hc hi),h _ (Fg hc hi)]
  rfl
theorem N2{c V:Nat}(hc:c<2^20):XX c (AI V)↔XX (vN c) V:=by
 constructor
 ·intro h u hu
  obtain⟨_,_,i,e,hi⟩:=H8 hc hu
  have:=h i hi
  rw[Av,decide_eq_true (A8 hc hi),e,Bool.true_and] at this
  exact this
 ·intro h i hi
  rw[Av,h _ (Fg hc hi),Bool.and_false]
theorem CC{a b:Nat}:XX a b↔a&&&b=0:=by
 constructor
 ·intro h
  apply Nat.eq_of_testBit_eq
  intro i
  rw[Nat.zero_testBit,Nat.testBit_and]
  cases hb:a.testBit i with
  | false=>rfl
  | true=>rw[h i hb];rfl
 ·intro h i hi
  have:=congrArg (fun n=>n.testBit i) h
  simpa [Nat.testBit_and,hi] using this
theorem Iu{a b:Nat}(h:a&&&b≠0):∃ i,a.testBit i=true∧b.testBit i=true:=by
 apply Classical.byContradiction
 intro hn
 apply h
 rw[← CC]
 intro i hi
 cases hb:b.testBit i with
 | false=>rfl
 | true=>exact absurd ⟨i,hi,hb⟩ hn
theorem DA{a b:Nat}(h:a&&&b=0):b&&&a=0:=by rw[Nat.and_comm];exact h
def BT:Nat→Nat→List Nat
 | 0,_=>[]
 | m+1,x=>if x=0 then [] else CV x :: BT m (x - CV x)
def EU:List Nat→List Nat→Nat→List Nat
 | [],l,v=>l++[v]
 | c :: cs,l,v=>if c&&&v=0 then EU cs (l++[c]) v else EU cs l (v|||c)
def D7(ws:List Nat)(v:Nat):List Nat:=EU ws [] v
def Ct(cs:List Nat)(seen:Nat):List Nat:=cs.foldl (fun ws c=>D7 ws (vN c)) (BT 11 seen)
def ZS(cs:List Nat)(C:Nat):Prop:=∀ c∈cs,vN c&&&C=0∨AH (vN c) C
def Oj(cs:List Nat)(w:Nat):Prop:=∀ C,ZS cs C→C&&&w≠0→AH w C
structure QO(cs:List Nat)(seen:Nat)(ws:List Nat):Prop where
 ne:∀ w∈ws,w≠0
 sub:∀ w∈ws,AH w seen
 dis:ws.Pairwise fun a b=>a&&&b=0
 cov:∀ u,seen.testBit u=true→∃ w∈ws,w.testBit u=true
 own:∀ c∈cs,vN c=0∨∃ w∈ws,AH (vN c) w
 con:∀ w∈ws,Oj cs w
theorem Ff{x b j:Nat}(hb:b=2^j)(hx:x.testBit j=true):∀ i,(x - b).testBit i=(x.testBit i && decide (i≠j)):=by
 intro i
 have e:b=x&&&b:=by
  subst hb
  apply Nat.eq_of_testBit_eq
  intro i
  rw[Nat.testBit_and,Nat.testBit_two_pow]
  by_cases h:j=i
  ·subst h;rw[hx];simp
  ·simp[h]
 have e2:x - b=x - (x&&&b):=by rw[← e]
 rw[e2,BF,hb,Nat.testBit_two_pow]
 congr 1
 by_cases h:j=i
 ·subst h;simp
 ·have h':i≠j:=fun e=>h e.symm
  simp[h,h']
theorem Ip{x:Nat}(h0:x≠0)(hx:x<2^20):∃ j,x.testBit j=true∧CV x=2^j:=Vr x 64 h0 (by omega)
theorem Lb:∀ (m x:Nat),x<2^20→AG x≤m→(∀ w∈BT m x,w≠0∧AH w x∧∃ j,w=2^j)∧(BT m x).Pairwise (fun a b=>a&&&b=0)∧∀ u,x.testBit u=true→∃ w∈BT m x,w.testBit u=true:=by
 intro m
 induction m with
 | zero =>
  intro x hx hs
  have h0:x=0:=by
   apply Classical.byContradiction
   intro h
   have:AG 0<AG x:=Cn (fun i q=>by rw[Nat.zero_testBit] at q;simp at q) hx (fun e=>h e.symm)
   omega
  subst h0
  exact⟨fun w hw=>by simp[BT] at hw,by simp[BT],fun u hu=>by simp at hu⟩
 | succ m ih =>
  intro x hx hs
  simp only[BT]
  by_cases h0:x=0
  ·subst h0
   rw[if_pos rfl]
   exact⟨fun w hw=>by simp at hw,by simp,fun u hu=>by simp at hu⟩
  ·rw[if_neg h0]
   obtain⟨j,hj,hl⟩:=Ip h0 hx
   have hb:=Ff hl hj
   have hsub:AH (x - CV x) x:=fun i hi=>by rw[hb,Bool.and_eq_true] at hi;exact hi.1
   have hlt:AG (x - CV x)<AG x:=Cn hsub hx (fun e=>by
    have:=hb j
    rw[e,hj] at this
    simp at this)
   obtain⟨h1,h2,h3⟩:=ih (x - CV x) (Nat.lt_of_le_of_lt (Nat.sub_le _ _) hx) (by omega)
   refine⟨fun w hw=>?_,?_,fun u hu=>?_⟩
   ·rcases List.mem_cons.1 hw with rfl | hw
    ·refine⟨by rw[hl];exact Nat.pos_iff_ne_zero.1 (Nat.pow_pos (by decide)),fun i hi=>?_,j,hl⟩
     rw[hl,Nat.testBit_two_pow] at hi
     have e:j=i:=by simpa using hi
     subst e;exact hj
    ·obtain⟨a,b,c⟩:=h1 w hw
     exact⟨a,b.trans hsub,c⟩
   ·refine List.pairwise_cons.2 ⟨fun w hw=>?_,h2⟩
    obtain⟨_,b,_⟩:=h1 w hw
    rw[← CC]
    intro i hi
    rw[hl,Nat.testBit_two_pow] at hi
    have e:j=i:=by simpa using hi
    subst e
    cases hw':w.testBit j with
    | false=>rfl
    | true=>have:=b j hw';rw[hb] at this;simp at this
   ·by_cases e:u=j
    ·subst e;exact⟨CV x,List.mem_cons_self ..,by rw[hl,Nat.testBit_two_pow];simp⟩
    ·obtain⟨w,hw,hwu⟩:=h3 u (by rw[hb,hu,decide_eq_true e];rfl)
     exact⟨w,List.mem_cons_of_mem _ hw,hwu⟩
theorem QO.start{seen:Nat}(hs:seen<2^11):QO [] seen (BT 11 seen):=by
 have hz:AG seen≤11:=by
  have:AH seen 2047:=fun i hi=>by
   have:=A8 hs hi
   have hh:i=0∨i=1∨i=2∨i=3∨i=4∨i=5∨i=6∨i=7∨i=8∨i=9∨i=10:=by omega
   rcases hh with rfl|rfl|rfl|rfl|rfl|rfl|rfl|rfl|rfl|rfl|rfl <;> decide
  exact Nat.le_trans (I9 this) (by decide)
 obtain⟨h1,h2,h3⟩:=Lb 11 seen (Nat.lt_trans hs (by decide)) hz
 refine⟨fun w hw=>(h1 w hw).1,fun w hw=>(h1 w hw).2.1,h2,h3,fun c hc=>by simp at hc,fun w hw C _ hC=>?_⟩
 obtain⟨_,_,j,rfl⟩:=h1 w hw
 obtain⟨i,a,b⟩:=Iu hC
 rw[Nat.testBit_two_pow] at b
 have e:j=i:=by simpa using b
 subst e
 intro i hi
 rw[Nat.testBit_two_pow] at hi
 have e:j=i:=by simpa using hi
 subst e;exact a
theorem Gl{a b c:Nat}(h1:a&&&b=0)(h2:a&&&c=0):a&&&(b|||c)=0:=by
 rw[← CC] at h1 h2 ⊢
 intro i hi
 rw[Nat.testBit_or,h1 i hi,h2 i hi];rfl
theorem La{a b c:Nat}(h:AH a b)(hb:b&&&c=0):a&&&c=0:=by
 rw[← CC] at hb ⊢
 exact fun i hi=>hb i (h i hi)
theorem Tw{cs:List Nat}{seen:Nat}{c:Nat}(hc0:vN c≠0):∀ (rest l:List Nat) (v:Nat),AH (vN c) v→AH v seen→Oj (cs++[c]) v→(∀ w∈l,v&&&w=0) →
  (l++rest).Pairwise (fun a b=>a&&&b=0)→(∀ w∈l++rest,w≠0∧AH w seen∧Oj (cs++[c]) w)→(∀ u,seen.testBit u=true→v.testBit u=true∨∃ w∈l++rest,w.testBit u=true)→(∀ x∈cs,vN x=0∨AH (vN x) v∨∃ w∈l++rest,AH (vN x) w) →
  QO (cs++[c]) seen (EU rest l v):=by
 intro rest
 induction rest with
 | nil =>
  intro l v h1 h2 h3 h4 h5 h6 h7 h8
  simp only[EU,List.append_nil] at *
  have hv0:v≠0:=fun e=>hc0 (by
   rw[e] at h1
   exact AH.anti h1 (fun i q=>by rw[Nat.zero_testBit] at q;simp at q))
  refine⟨fun w hw=>?_,fun w hw=>?_,?_,fun u hu=>?_,fun x hx=>?_,fun w hw=>?_⟩
  ·rcases List.mem_append.1 hw with hw | hw
   ·exact(h6 w hw).1
   ·rw[List.mem_singleton.1 hw];exact hv0
  ·rcases List.mem_append.1 hw with hw | hw
   ·exact(h6 w hw).2.1
   ·rw[List.mem_singleton.1 hw];exact h2
  ·refine List.pairwise_append.2 ⟨h5,List.pairwise_singleton _ _,fun a ha b hb=>?_⟩
   rw[List.mem_singleton.1 hb]
   exact DA (h4 a ha)
  ·rcases h7 u hu with h | ⟨w,hw,h⟩
   ·exact⟨v,List.mem_append_right _ (List.mem_singleton.2 rfl),h⟩
   ·exact⟨w,List.mem_append_left _ hw,h⟩
  ·rcases List.mem_append.1 hx with hx | hx
   ·rcases h8 x hx with h | h | ⟨w,hw,h⟩
    ·exact .inl h
    ·exact .inr ⟨v,List.mem_append_right _ (List.mem_singleton.2 rfl),h⟩
    ·exact .inr ⟨w,List.mem_append_left _ hw,h⟩
   ·rw[List.mem_singleton.1 hx]
    exact .inr ⟨v,List.mem_append_right _ (List.mem_singleton.2 rfl),h1⟩
  ·rcases List.mem_append.1 hw with hw | hw
   ·exact(h6 w hw).2.2
   ·rw[List.mem_singleton.1 hw];exact h3
 | cons w rest ih =>
  intro l v h1 h2 h3 h4 h5 h6 h7 h8
  simp only[EU]
  by_cases hz:w&&&v=0
  ·rw[if_pos hz]
   have e:l++[w]++rest=l++w :: rest:=by simp
   refine ih (l++[w]) v h1 h2 h3 (fun x hx=>?_) (by rw[e];exact h5) (by rw[e];exact h6) (by rw[e];exact h7) (by rw[e];exact h8)
   rcases List.mem_append.1 hx with hx | hx
   ·exact h4 x hx
   ·rw[List.mem_singleton.1 hx];exact DA hz
  ·rw[if_neg hz]
   obtain⟨hw0,hws,hwc⟩:=h6 w (List.mem_append_right _ (List.mem_cons_self ..))
   have hp:=List.pairwise_append.1 h5
   have hsub:∀ x∈l++rest,x∈l++w :: rest:=fun x hx=>by
    rcases List.mem_append.1 hx with hx | hx
    ·exact List.mem_append_left _ hx
    ·exact List.mem_append_right _ (List.mem_cons_of_mem _ hx)
   refine ih l (v|||w) (h1.trans (AH.or_left _ _)) (h2.or hws) ?_ (fun x hx=>?_) ?_ (fun x hx=>h6 x (hsub x hx)) (fun u hu=>?_) (fun x hx=>?_)
   ·intro C hC hne
    have key:C&&&v≠0→AH (v|||w) C:=fun hv=>by
     have a:=h3 C hC hv
     obtain⟨i,i1,i2⟩:=Iu hz
     have b:=hwc C hC (fun e=>by
      have:=CC.2 e i (a i i2)
      rw[i1] at this;simp at this)
     exact a.or b
    by_cases hv:C&&&v=0
    ·by_cases hw:C&&&w=0
     ·exact absurd (Gl hv hw) hne
     ·have b:=hwc C hC hw
      obtain⟨i,i1,i2⟩:=Iu hz
      exact key (fun e=>by
       have:=CC.2 e i (b i i1)
       rw[i2] at this;simp at this)
    ·exact key hv
   ·have a:=h4 x hx
    have b:=hp.2.2 x hx w (List.mem_cons_self ..)
    exact DA (Gl (DA a) b)
   ·refine List.pairwise_append.2 ⟨hp.1,(List.pairwise_cons.1 hp.2.1).2,fun a ha b hb=>hp.2.2 a ha b (List.mem_cons_of_mem _ hb)⟩
   ·rcases h7 u hu with h | ⟨x,hx,h⟩
    ·exact .inl (by rw[Nat.testBit_or,h];rfl)
    ·rcases List.mem_append.1 hx with hx | hx
     ·exact .inr ⟨x,List.mem_append_left _ hx,h⟩
     ·rcases List.mem_cons.1 hx with rfl | hx
      ·exact .inl (by rw[Nat.testBit_or,h,Bool.or_true])
      ·exact .inr ⟨x,List.mem_append_right _ hx,h⟩
   ·rcases h8 x hx with h | h | ⟨y,hy,h⟩
    ·exact .inl h
    ·exact .inr (.inl (h.trans (AH.or_left _ _)))
    ·rcases List.mem_append.1 hy with hy | hy
     ·exact .inr (.inr ⟨y,List.mem_append_left _ hy,h⟩)
     ·rcases List.mem_cons.1 hy with rfl | hy
      ·exact .inr (.inl (h.trans (fun i hi=>by rw[Nat.testBit_or,hi,Bool.or_true])))
      ·exact .inr (.inr ⟨y,List.mem_append_right _ hy,h⟩)
theorem Oj.more{cs:List Nat}{w:Nat}(h:Oj cs w)(c:Nat):Oj (cs++[c]) w:=fun C hC hne=>h C (fun x hx=>hC x (List.mem_append_left _ hx)) hne
theorem QO.link{cs:List Nat}{seen:Nat}{ws:List Nat}(h:QO cs seen ws){c:Nat}(hc0:vN c≠0)(hcs:AH (vN c) seen):QO (cs++[c]) seen (D7 ws (vN c)):=by
 refine Tw hc0 ws [] (vN c) (AH.refl _) hcs ?_ (fun w hw=>by simp at hw) (by simpa using h.dis) (fun w hw=>?_) (fun u hu=>.inr (by simpa using h.cov u hu)) (fun x hx=>?_)
 ·intro C hC hne
  rcases hC c (List.mem_append_right _ (List.mem_singleton.2 rfl)) with e | e
  ·exact absurd (DA e) hne
  ·exact e
 ·have hw':w∈ws:=by simpa using hw
  exact⟨h.ne w hw',h.sub w hw',(h.con w hw').more c⟩
 ·rcases h.own x hx with e | ⟨w,hw,e⟩
  ·exact .inl e
  ·exact .inr (.inr ⟨w,by simpa using hw,e⟩)
theorem Rb{seen:Nat}(hs:seen<2^11)(cs:List Nat)(hcs:∀ c∈cs,vN c≠0∧AH (vN c) seen):QO cs seen (Ct cs seen):=by
 have key:∀ (l cs:List Nat) (ws:List Nat),QO cs seen ws→(∀ c∈l,vN c≠0∧AH (vN c) seen)→QO (cs++l) seen (l.foldl (fun ws c=>D7 ws (vN c)) ws):=by
  intro l
  induction l with
  | nil=>intro cs ws h _;simpa using h
  | cons c l ih =>
   intro cs ws h hl
   obtain⟨a,b⟩:=hl c (List.mem_cons_self ..)
   have:=ih (cs++[c]) (D7 ws (vN c)) (h.link a b) (fun x hx=>hl x (List.mem_cons_of_mem _ hx))
   simpa using this
 have:=key cs [] (BT 11 seen) (QO.start hs) hcs
 simpa [Ct] using this
theorem G6{c:Nat}(hc:c<2^20){v:Nat}(hv:v<10):(Ag c).testBit (2*v)=(vN c).testBit (v+1)∧(Ag c).testBit (2*v+1)=false:=by
 have h:=(Bf.of hc).vars
 refine⟨h.pos v hv,?_⟩
 rw[h.neg v hv];simp
theorem Ev{c i:Nat}(hc:c<2^20)(h:(Ag c).testBit i=true):i=2*(i / 2)∧i / 2<10∧(vN c).testBit (i / 2+1)=true:=by
 have hi:i<20:=A8 (GJ c) h
 obtain⟨a,b⟩:=G6 hc (v:=i / 2) (by omega)
 rcases DU i with e | e
 ·exact⟨e,by omega,by rw[← a,← e];exact h⟩
 ·rw[← e,h] at b;simp at b
theorem Np(p c:Nat):AH p (Ds p c):=by
 unfold Ds
 split
 ·exact AH.refl p
 ·exact AH.or_left _ _
theorem KT:∀ (cs:List Nat) (p:Nat),AH p (cs.foldl Ds p):=by
 intro cs
 induction cs with
 | nil=>intro p;exact AH.refl p
 | cons c cs ih=>intro p;exact(Np p c).trans (ih _)
theorem NW:∀ (cs:List Nat) (p:Nat),cs.foldl Ds p=p→∀ c∈cs,Ds p c=p:=by
 intro cs
 induction cs with
 | nil=>intro p _ c hc;simp at hc
 | cons c cs ih =>
  intro p h x hx
  simp only[List.foldl_cons] at h
  have a:=KT cs (Ds p c)
  rw[h] at a
  have e:Ds p c=p:=AH.anti a (Np p c)
  rcases List.mem_cons.1 hx with rfl | hx
  ·exact e
  ·rw[e] at h;exact ih p h x hx
theorem Le{X:Nat}:∀ (cs:List Nat) (p:Nat),AH p X→(∀ c∈cs,Ag c&&&X=0∨AH (Ag c) X)→AH (cs.foldl Ds p) X:=by
 intro cs
 induction cs with
 | nil=>intro p h _;exact h
 | cons c cs ih =>
  intro p h hX
  refine ih _ ?_ (fun x hx=>hX x (List.mem_cons_of_mem _ hx))
  unfold Ds
  split
  ·exact h
  ·rename_i hne
   rcases hX c (List.mem_cons_self ..) with e | e
   ·exact absurd (DA (La h (DA e))) hne
   ·exact h.or e
theorem Nh(cs:List Nat):∀ (m p:Nat),AH p (DL cs m p):=by
 intro m
 induction m with
 | zero=>intro p;exact AH.refl p
 | succ m ih=>intro p;exact(KT cs p).trans (ih _)
theorem Lh{X:Nat}{cs:List Nat}(hX:∀ c∈cs,Ag c&&&X=0∨AH (Ag c) X):∀ (m p:Nat),AH p X→AH (DL cs m p) X:=by
 intro m
 induction m with
 | zero=>intro p h;exact h
 | succ m ih=>intro p h;exact ih _ (Le cs p h hX)
theorem EF(c:Nat):AH (Ag c) 349525:=Dy _ _
theorem Rh:∀ (cs:List Nat) (p:Nat),AH p 349525→AH (cs.foldl Ds p) 349525:=fun cs p h=>Le cs p h (fun c _=>.inr (EF c))
theorem Rj(cs:List Nat)(m p:Nat)(h:cs.foldl Ds p=p):DL cs m p=p:=by
 induction m with
 | zero=>rfl
 | succ m ih=>simp only[DL];rw[h];exact ih
theorem Ng(cs:List Nat):∀ (m p:Nat),AH p 349525→10<AG p+m→cs.foldl Ds (DL cs m p)=DL cs m p:=by
 intro m
 induction m with
 | zero =>
  intro p h hs
  have:=I9 h
  have e:AG 349525=10:=by decide
  omega
 | succ m ih =>
  intro p h hs
  by_cases e:cs.foldl Ds p=p
  ·rw[Rj cs (m+1) p e,e]
  ·simp only[DL]
   have hm:=Rh cs p h
   have hlt:p<2^20:=Nat.lt_of_le_of_lt (by
    have:p=p&&&349525:=h.eq_and.symm
    rw[this];exact Nat.and_le_right) (by decide:349525<2^20)
   have:=Cn (KT cs p) (Qc cs p hlt) (fun q=>e q.symm)
   exact ih _ hm (by omega)
theorem Jk{p c:Nat}(h:Ds p c=p):Ag c&&&p=0∨AH (Ag c) p:=by
 unfold Ds at h
 split at h
 ·rename_i h0;exact .inl h0
 ·refine .inr fun i hi=>?_
  rw[← h,Nat.testBit_or,hi,Bool.or_true]
theorem Vi{cs:List Nat}(hc:∀ c∈cs,c<2^20){P:Nat}(hP:P<2^20)(hcl:∀ c∈cs,Ag c&&&P=0∨AH (Ag c) P):ZS cs (tN P):=by
 have hT:=Bf.of hP
 intro c hcc
 rcases hcl c hcc with h | h
 ·left
  rw[← CC] at h ⊢
  intro u hu
  obtain⟨u1,u2,_⟩:=H8 (hc c hcc) hu
  obtain⟨v,rfl⟩:∃ v,u=v+1:=⟨u - 1,by omega⟩
  rw[← hT.pos v (by omega)]
  exact h _ (by rw[(G6 (hc c hcc) (by omega)).1];exact hu)
 ·right
  intro u hu
  obtain⟨u1,u2,_⟩:=H8 (hc c hcc) hu
  obtain⟨v,rfl⟩:∃ v,u=v+1:=⟨u - 1,by omega⟩
  rw[← hT.pos v (by omega)]
  exact h _ (by rw[(G6 (hc c hcc) (by omega)).1];exact hu)
theorem PW{v:Nat}(hv:v<2^20):CV v<2^20:=Nat.lt_of_le_of_lt Nat.and_le_left hv
theorem Mb(v:Nat):AH (CV v) v:=GY _ _
theorem Je{cs:List Nat}(hc:∀ c∈cs,c<2^20){w D:Nat}(hw:Oj cs w)(hD:D<2^20)(hs:AH (vN D) w):Ca cs (Ag D)=true:=by
 have hv20:Ag D<2^20:=GJ D
 unfold Ca
 by_cases h0:Ag D=0
 ·rw[h0,Nat.zero_and];rfl
 ·obtain⟨j,hj,hl⟩:=Ip h0 hv20
  obtain⟨e,hj10,hjD⟩:=Ev hD hj
  have hlm:AH (CV (Ag D)) 349525:=(Mb _).trans (EF D)
  have hz:AG 0<AG (CV (Ag D)):=Cn (fun i q=>by rw[Nat.zero_testBit] at q;simp at q) (PW hv20) (fun q=>by
   have:(CV (Ag D)).testBit j=true:=by rw[hl,Nat.testBit_two_pow];simp
   rw[← q] at this;simp at this)
  have hfix:=Ng cs 10 _ hlm (by omega)
  have hsub:=Nh cs 10 (CV (Ag D))
  have hP:DL cs 10 (CV (Ag D))<2^20:=by
   have key:∀ m p,p<1048576→DL cs m p<1048576:=by
    intro m
    induction m with
    | zero=>intro p h;exact h
    | succ m ih=>intro p h;exact ih _ (Qc cs p h)
   exact key 10 _ (PW hv20)
  generalize DL cs 10 (CV (Ag D))=P at *
  have hcl:=Vi hc hP (fun c hcc=>Jk (NW cs P hfix c hcc))
  have hT:=Bf.of hP
  have hjP:P.testBit j=true:=hsub j (by rw[hl,Nat.testBit_two_pow];simp)
  have hsubw:=hw (tN P) hcl (fun q=>by
   have:=CC.2 q (j / 2+1) (by rw[← hT.pos _ hj10,← e];exact hjP)
   rw[hs _ hjD] at this
   simp at this)
  have:AH (Ag D) P:=fun i hi=>by
   obtain⟨e',h10,hiD⟩:=Ev hD hi
   have:=hsubw _ (hs _ hiD)
   rw[← hT.pos _ h10,← e'] at this
   exact this
  simpa using this.eq_and
theorem OC:∀ {ws:List Nat},ws.Pairwise (fun a b=>a&&&b=0)→∀ {a b:Nat},a∈ws→b∈ws→a≠b→a&&&b=0:=by
 intro ws
 induction ws with
 | nil=>intro _ a b ha;simp at ha
 | cons w ws ih =>
  intro h a b ha hb hne
  obtain⟨h1,h2⟩:=List.pairwise_cons.1 h
  rcases List.mem_cons.1 ha with ea | ha
  ·rcases List.mem_cons.1 hb with eb | hb
   ·exact absurd (ea.trans eb.symm) hne
   ·rw[ea];exact h1 b hb
  ·rcases List.mem_cons.1 hb with eb | hb
   ·rw[eb];exact DA (h1 a ha)
   ·exact ih h2 ha hb hne
theorem Rk{cs:List Nat}(hc:∀ c∈cs,c<2^20){seen:Nat}{ws:List Nat}(h:QO cs seen ws){D:Nat}(hD:D<2^20)(hs:AH (vN D) seen)(hj:Ca cs (Ag D)=true):vN D=0∨∃ w∈ws,AH (vN D) w:=by
 have hv20:Ag D<2^20:=GJ D
 by_cases h0:Ag D=0
 ·left
  refine AH.anti (fun u hu=>?_) (fun i q=>by rw[Nat.zero_testBit] at q;simp at q)
  obtain⟨u1,u2,_⟩:=H8 hD hu
  obtain⟨v,rfl⟩:∃ v,u=v+1:=⟨u - 1,by omega⟩
  have:=(G6 hD (v:=v) (by omega)).1
  rw[h0,hu] at this
  simp at this
 ·right
  obtain⟨j,hj1,hl⟩:=Ip h0 hv20
  obtain⟨e,hj10,hjD⟩:=Ev hD hj1
  obtain⟨w,hw,hwu⟩:=h.cov _ (hs _ hjD)
  refine⟨w,hw,?_⟩
  obtain⟨X,hX,hXb⟩:=Ey (fun i=>decide (i % 2=0) && w.testBit (i / 2+1)) 20
  have hstay:=Lh (X:=X) (cs:=cs) (fun c hcc=>by
   rcases h.own c hcc with q | ⟨w',hw',q⟩
   ·left
    rw[← CC]
    intro i hi
    obtain⟨_,_,a⟩:=Ev (hc c hcc) hi
    rw[q] at a;simp at a
   ·by_cases ew:w'=w
    ·right
     intro i hi
     obtain⟨a1,a2,a3⟩:=Ev (hc c hcc) hi
     rw[hXb _ (by omega),← ew,q _ a3,decide_eq_true (by omega)]
     rfl
    ·left
     rw[← CC]
     intro i hi
     obtain⟨a1,a2,a3⟩:=Ev (hc c hcc) hi
     have hd:w'&&&w=0:=OC h.dis hw' hw ew
     have:=CC.2 hd _ (q _ a3)
     rw[hXb _ (by omega),this,Bool.and_false]) 10 (CV (Ag D)) (fun i hi=>by
    rw[hl,Nat.testBit_two_pow] at hi
    have e':j=i:=by simpa using hi
    subst e'
    rw[hXb _ (by omega),hwu,decide_eq_true (by omega)];rfl)
  unfold Ca at hj
  have hj':Ag D&&&DL cs 10 (CV (Ag D))=Ag D:=by simpa using hj
  intro u hu
  obtain⟨u1,u2,_⟩:=H8 hD hu
  obtain⟨v,rfl⟩:∃ v,u=v+1:=⟨u - 1,by omega⟩
  have hb:=(G6 hD (v:=v) (by omega)).1
  rw[hu] at hb
  have hb2:=hb
  rw[← hj'] at hb2
  have:=hstay _ (Dy _ _ _ hb2)
  rw[hXb _ (by omega),Bool.and_eq_true,show 2*v / 2=v by omega] at this
  exact this.2
theorem WG{fn:Func}{p q u v:Tmp}(h:fn.results=#[.tmp p,.tmp q,.tmp u,.tmp v])(tmps:Array Value)(P:Program)(w:World) :
  (results fn tmps).run P w=.ok (.tuple #[tmps.getD p undef,tmps.getD q undef,tmps.getD u undef,tmps.getD v undef]) w:=by
 simp[results,h]
def ZE(w:World)(r:Option (Nat × List Int × Nat))(e:Ending)(w':World):Prop:=Below w.heap.size w w'∧match r with
 | none=>e=.returned (.tuple #[.int .u8 0,.slice none 0 0,.int .i64 0,.bool false])
 | some (lt,xs,q)=>∃ a c,e=.returned (.tuple #[.int .u8 lt,.slice a xs.length c,.int .i64 q,.bool true])∧w'.ownsRow w.heap.size 3 1 (.slice a xs.length c) xs.length (AW xs)
end Go.Proofs.YthboeppmlhbofaaDoor
