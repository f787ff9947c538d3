import Derived.Test.YthboeppmlhbofabDoorClf
import Derived.Test.YthboeppmlhbofabDoorLns
import Derived.Test.YthboeppmlhbofabDoorRdr
import Derived.Test.YthboeppmlhbofabDoorApp
namespace Go.Proofs.YthboeppmlhbofabDoor
open Go.RowKit Txt
set_option maxRecDepth 100000
def vN(s:Nat):Nat:=tN s|||fN s
theorem vN_bit{s:Nat}(hs:s<2^20){v:Nat}(hv:v<10):(vN s).testBit (v+1)=(s.testBit (2*v) || s.testBit (2*v+1)):=by
 have h:=Two.of hs
 unfold vN
 rw[Nat.testBit_or,h.pos v hv,h.neg v hv]
theorem vN_zero(s:Nat):(vN s).testBit 0=false:=by
 unfold vN tN fN
 rw[Nat.testBit_or,tTo_bit,fTo_bit]
 simp
theorem vN_lt(s:Nat):vN s<2^11:=by
 refine lt_pow_bits fun i hi=>?_
 unfold vN tN fN
 rw[Nat.testBit_or,tTo_bit,fTo_bit,decide_eq_false (by omega:¬ i≤10)]
 simp
def lvTo(V:Nat):Nat→Nat
 | 0=>0
 | i+1=>lvTo V i|||(if V.testBit (i / 2+1) then 2^i else 0)
def litsV(V:Nat):Nat:=lvTo V 20
theorem lvTo_bit(V:Nat):∀ k i,(lvTo V k).testBit i=(decide (i<k) && V.testBit (i / 2+1)):=by
 intro k
 induction k with
 | zero=>intro i;simp[lvTo]
 | succ k ih =>
  intro i
  simp only[lvTo]
  rw[Nat.testBit_or,ih,if_pow_bit]
  by_cases e:i=k
  ·subst e
   rw[decide_eq_false (by omega:¬ i<i),decide_eq_true (by omega:i<i+1)]
   simp
  ·rw[decide_eq_false e,Bool.and_false,Bool.or_false]
   by_cases h:i<k
   ·rw[decide_eq_true h,decide_eq_true (by omega:i<k+1)]
   ·rw[decide_eq_false h,decide_eq_false (by omega:¬ i<k+1)]
theorem lits_bit(V i:Nat):(litsV V).testBit i=(decide (i<20) && V.testBit (i / 2+1)):=lvTo_bit V 20 i
theorem par_half(i:Nat):par i / 2=i / 2:=by unfold par;split <;> omega
theorem lits_msk(V:Nat):Msk (litsV V):=by
 refine⟨lt_pow_bits fun i hi=>by rw[lits_bit,decide_eq_false (by omega:¬ i<20)];rfl,fun i hi=>?_⟩
 rw[lits_bit,lits_bit,par_half,decide_eq_true hi,decide_eq_true (par_lt hi)]
theorem vN_half{s:Nat}(hs:s<2^20){i:Nat}(h:s.testBit i=true):(vN s).testBit (i / 2+1)=true:=by
 have hi:=bit_lt hs h
 rw[vN_bit hs (by omega)]
 rcases nat_par i with e | e
 ·rw[← e,h];rfl
 ·rw[← e,h];simp
theorem vN_ex{s:Nat}(hs:s<2^20){u:Nat}(h:(vN s).testBit u=true):1≤u∧u<11∧∃ i,i / 2+1=u∧s.testBit i=true:=by
 have h0:u≠0:=fun e=>by subst e;rw[vN_zero] at h;simp at h
 have h1:=bit_lt (vN_lt s) h
 obtain⟨v,rfl⟩:∃ v,u=v+1:=⟨u - 1,by omega⟩
 rw[vN_bit hs (by omega),Bool.or_eq_true] at h
 refine⟨by omega,h1,?_⟩
 rcases h with h | h
 ·exact⟨2*v,by omega,h⟩
 ·exact⟨2*v+1,by omega,h⟩
theorem sub_lits{c V:Nat}(hc:c<2^20):SubN c (litsV V)↔SubN (vN c) V:=by
 constructor
 ·intro h u hu
  obtain⟨_,_,i,e,hi⟩:=vN_ex hc hu
  have:=h i hi
  rw[lits_bit,Bool.and_eq_true,e] at this
  exact this.2
 ·intro h i hi
  rw[lits_bit,decide_eq_true (bit_lt hc hi),h _ (vN_half hc hi)]
  rfl
theorem off_lits{c V:Nat}(hc:c<2^20):Off c (litsV V)↔Off (vN c) V:=by
 constructor
 ·intro h u hu
  obtain⟨_,_,i,e,hi⟩:=vN_ex hc hu
  have:=h i hi
  rw[lits_bit,decide_eq_true (bit_lt hc hi),e,Bool.true_and] at this
  exact this
 ·intro h i hi
  rw[lits_bit,h _ (vN_half hc hi),Bool.and_false]
theorem off_iff{a b:Nat}:Off a b↔a&&&b=0:=by
 constructor
 ·intro h
  apply Nat.eq_of_testBit_eq
  intro i
  rw[Nat.zero_testBit,Nat.testBit_and]
  cases hb:a.testBit i with
  | false=>rfl
  | true=>rw[h i hb];rfl
 ·intro h i hi
  have:=congrArg (fun n=>n.testBit i) h
  simpa [Nat.testBit_and,hi] using this
theorem not_off{a b:Nat}(h:a&&&b≠0):∃ i,a.testBit i=true∧b.testBit i=true:=by
 apply Classical.byContradiction
 intro hn
 apply h
 rw[← off_iff]
 intro i hi
 cases hb:b.testBit i with
 | false=>rfl
 | true=>exact absurd ⟨i,hi,hb⟩ hn
theorem and_comm0{a b:Nat}(h:a&&&b=0):b&&&a=0:=by rw[Nat.and_comm];exact h
def apartF:Nat→Nat→List Nat
 | 0,_=>[]
 | m+1,x=>if x=0 then [] else lowN x :: apartF m (x - lowN x)
def linkF:List Nat→List Nat→Nat→List Nat
 | [],l,v=>l++[v]
 | c :: cs,l,v=>if c&&&v=0 then linkF cs (l++[c]) v else linkF cs l (v|||c)
def linkN(ws:List Nat)(v:Nat):List Nat:=linkF ws [] v
def compsN(cs:List Nat)(seen:Nat):List Nat:=cs.foldl (fun ws c=>linkN ws (vN c)) (apartF 11 seen)
def ClV(cs:List Nat)(C:Nat):Prop:=∀ c∈cs,vN c&&&C=0∨SubN (vN c) C
def Conn(cs:List Nat)(w:Nat):Prop:=∀ C,ClV cs C→C&&&w≠0→SubN w C
structure Cmp(cs:List Nat)(seen:Nat)(ws:List Nat):Prop where
 ne:∀ w∈ws,w≠0
 sub:∀ w∈ws,SubN w seen
 dis:ws.Pairwise fun a b=>a&&&b=0
 cov:∀ u,seen.testBit u=true→∃ w∈ws,w.testBit u=true
 own:∀ c∈cs,vN c=0∨∃ w∈ws,SubN (vN c) w
 con:∀ w∈ws,Conn cs w
theorem sub_bit{x b j:Nat}(hb:b=2^j)(hx:x.testBit j=true):∀ i,(x - b).testBit i=(x.testBit i && decide (i≠j)):=by
 intro i
 have e:b=x&&&b:=by
  subst hb
  apply Nat.eq_of_testBit_eq
  intro i
  rw[Nat.testBit_and,Nat.testBit_two_pow]
  by_cases h:j=i
  ·subst h;rw[hx];simp
  ·simp[h]
 have e2:x - b=x - (x&&&b):=by rw[← e]
 rw[e2,sub_and_bit,hb,Nat.testBit_two_pow]
 congr 1
 by_cases h:j=i
 ·subst h;simp
 ·have h':i≠j:=fun e=>h e.symm
  simp[h,h']
theorem low_pow{x:Nat}(h0:x≠0)(hx:x<2^20):∃ j,x.testBit j=true∧lowN x=2^j:=low_bit x 64 h0 (by omega)
theorem apart_cmp:∀ (m x:Nat),x<2^20→sizeN x≤m→(∀ w∈apartF m x,w≠0∧SubN w x∧∃ j,w=2^j)∧(apartF m x).Pairwise (fun a b=>a&&&b=0)∧∀ u,x.testBit u=true→∃ w∈apartF m x,w.testBit u=true:=by
 intro m
 induction m with
 | zero =>
  intro x hx hs
  have h0:x=0:=by
   apply Classical.byContradiction
   intro h
   have:sizeN 0<sizeN x:=size_lt (fun i q=>by rw[Nat.zero_testBit] at q;simp at q) hx (fun e=>h e.symm)
   omega
  subst h0
  exact⟨fun w hw=>by simp[apartF] at hw,by simp[apartF],fun u hu=>by simp at hu⟩
 | succ m ih =>
  intro x hx hs
  simp only[apartF]
  by_cases h0:x=0
  ·subst h0
   rw[if_pos rfl]
   exact⟨fun w hw=>by simp at hw,by simp,fun u hu=>by simp at hu⟩
  ·rw[if_neg h0]
   obtain⟨j,hj,hl⟩:=low_pow h0 hx
   have hb:=sub_bit hl hj
   have hsub:SubN (x - lowN x) x:=fun i hi=>by rw[hb,Bool.and_eq_true] at hi;exact hi.1
   have hlt:sizeN (x - lowN x)<sizeN x:=size_lt hsub hx (fun e=>by
    have:=hb j
    rw[e,hj] at this
    simp at this)
   obtain⟨h1,h2,h3⟩:=ih (x - lowN x) (Nat.lt_of_le_of_lt (Nat.sub_le _ _) hx) (by omega)
   refine⟨fun w hw=>?_,?_,fun u hu=>?_⟩
   ·rcases List.mem_cons.1 hw with rfl | hw
    ·refine⟨by rw[hl];exact Nat.pos_iff_ne_zero.1 (Nat.pow_pos (by decide)),fun i hi=>?_,j,hl⟩
     rw[hl,Nat.testBit_two_pow] at hi
     have e:j=i:=by simpa using hi
     subst e;exact hj
    ·obtain⟨a,b,c⟩:=h1 w hw
     exact⟨a,b.trans hsub,c⟩
   ·refine List.pairwise_cons.2 ⟨fun w hw=>?_,h2⟩
    obtain⟨_,b,_⟩:=h1 w hw
    rw[← off_iff]
    intro i hi
    rw[hl,Nat.testBit_two_pow] at hi
    have e:j=i:=by simpa using hi
    subst e
    cases hw':w.testBit j with
    | false=>rfl
    | true=>have:=b j hw';rw[hb] at this;simp at this
   ·by_cases e:u=j
    ·subst e;exact⟨lowN x,List.mem_cons_self ..,by rw[hl,Nat.testBit_two_pow];simp⟩
    ·obtain⟨w,hw,hwu⟩:=h3 u (by rw[hb,hu,decide_eq_true e];rfl)
     exact⟨w,List.mem_cons_of_mem _ hw,hwu⟩
theorem Cmp.start{seen:Nat}(hs:seen<2^11):Cmp [] seen (apartF 11 seen):=by
 have hz:sizeN seen≤11:=by
  have:SubN seen 2047:=fun i hi=>by
   have:=bit_lt hs hi
   have hh:i=0∨i=1∨i=2∨i=3∨i=4∨i=5∨i=6∨i=7∨i=8∨i=9∨i=10:=by omega
   rcases hh with rfl|rfl|rfl|rfl|rfl|rfl|rfl|rfl|rfl|rfl|rfl <;> decide
  exact Nat.le_trans (size_le this) (by decide)
 obtain⟨h1,h2,h3⟩:=apart_cmp 11 seen (Nat.lt_trans hs (by decide)) hz
 refine⟨fun w hw=>(h1 w hw).1,fun w hw=>(h1 w hw).2.1,h2,h3,fun c hc=>by simp at hc,fun w hw C _ hC=>?_⟩
 obtain⟨_,_,j,rfl⟩:=h1 w hw
 obtain⟨i,a,b⟩:=not_off hC
 rw[Nat.testBit_two_pow] at b
 have e:j=i:=by simpa using b
 subst e
 intro i hi
 rw[Nat.testBit_two_pow] at hi
 have e:j=i:=by simpa using hi
 subst e;exact a
theorem and_or_zero{a b c:Nat}(h1:a&&&b=0)(h2:a&&&c=0):a&&&(b|||c)=0:=by
 rw[← off_iff] at h1 h2 ⊢
 intro i hi
 rw[Nat.testBit_or,h1 i hi,h2 i hi];rfl
theorem and_mono0{a b c:Nat}(h:SubN a b)(hb:b&&&c=0):a&&&c=0:=by
 rw[← off_iff] at hb ⊢
 exact fun i hi=>hb i (h i hi)
theorem link_cmp{cs:List Nat}{seen:Nat}{c:Nat}(hc0:vN c≠0):∀ (rest l:List Nat) (v:Nat),SubN (vN c) v→SubN v seen→Conn (cs++[c]) v→(∀ w∈l,v&&&w=0) →
  (l++rest).Pairwise (fun a b=>a&&&b=0)→(∀ w∈l++rest,w≠0∧SubN w seen∧Conn (cs++[c]) w)→(∀ u,seen.testBit u=true→v.testBit u=true∨∃ w∈l++rest,w.testBit u=true)→(∀ x∈cs,vN x=0∨SubN (vN x) v∨∃ w∈l++rest,SubN (vN x) w) →
  Cmp (cs++[c]) seen (linkF rest l v):=by
 intro rest
 induction rest with
 | nil =>
  intro l v h1 h2 h3 h4 h5 h6 h7 h8
  simp only[linkF,List.append_nil] at *
  have hv0:v≠0:=fun e=>hc0 (by
   rw[e] at h1
   exact SubN.anti h1 (fun i q=>by rw[Nat.zero_testBit] at q;simp at q))
  refine⟨fun w hw=>?_,fun w hw=>?_,?_,fun u hu=>?_,fun x hx=>?_,fun w hw=>?_⟩
  ·rcases List.mem_append.1 hw with hw | hw
   ·exact(h6 w hw).1
   ·rw[List.mem_singleton.1 hw];exact hv0
  ·rcases List.mem_append.1 hw with hw | hw
   ·exact(h6 w hw).2.1
   ·rw[List.mem_singleton.1 hw];exact h2
  ·refine List.pairwise_append.2 ⟨h5,List.pairwise_singleton _ _,fun a ha b hb=>?_⟩
   rw[List.mem_singleton.1 hb]
   exact and_comm0 (h4 a ha)
  ·rcases h7 u hu with h | ⟨w,hw,h⟩
   ·exact⟨v,List.mem_append_right _ (List.mem_singleton.2 rfl),h⟩
   ·exact⟨w,List.mem_append_left _ hw,h⟩
  ·rcases List.mem_append.1 hx with hx | hx
   ·rcases h8 x hx with h | h | ⟨w,hw,h⟩
    ·exact .inl h
    ·exact .inr ⟨v,List.mem_append_right _ (List.mem_singleton.2 rfl),h⟩
    ·exact .inr ⟨w,List.mem_append_left _ hw,h⟩
   ·rw[List.mem_singleton.1 hx]
    exact .inr ⟨v,List.mem_append_right _ (List.mem_singleton.2 rfl),h1⟩
  ·rcases List.mem_append.1 hw with hw | hw
   ·exact(h6 w hw).2.2
   ·rw[List.mem_singleton.1 hw];exact h3
 | cons w rest ih =>
  intro l v h1 h2 h3 h4 h5 h6 h7 h8
  simp only[linkF]
  by_cases hz:w&&&v=0
  ·rw[if_pos hz]
   have e:l++[w]++rest=l++w :: rest:=by simp
   refine ih (l++[w]) v h1 h2 h3 (fun x hx=>?_) (by rw[e];exact h5) (by rw[e];exact h6) (by rw[e];exact h7) (by rw[e];exact h8)
   rcases List.mem_append.1 hx with hx | hx
   ·exact h4 x hx
   ·rw[List.mem_singleton.1 hx];exact and_comm0 hz
  ·rw[if_neg hz]
   obtain⟨hw0,hws,hwc⟩:=h6 w (List.mem_append_right _ (List.mem_cons_self ..))
   have hp:=List.pairwise_append.1 h5
   have hsub:∀ x∈l++rest,x∈l++w :: rest:=fun x hx=>by
    rcases List.mem_append.1 hx with hx | hx
    ·exact List.mem_append_left _ hx
    ·exact List.mem_append_right _ (List.mem_cons_of_mem _ hx)
   refine ih l (v|||w) (h1.trans (SubN.or_left _ _)) (h2.or hws) ?_ (fun x hx=>?_) ?_ (fun x hx=>h6 x (hsub x hx)) (fun u hu=>?_) (fun x hx=>?_)
   ·intro C hC hne
    have key:C&&&v≠0→SubN (v|||w) C:=fun hv=>by
     have a:=h3 C hC hv
     obtain⟨i,i1,i2⟩:=not_off hz
     have b:=hwc C hC (fun e=>by
      have:=off_iff.2 e i (a i i2)
      rw[i1] at this;simp at this)
     exact a.or b
    by_cases hv:C&&&v=0
    ·by_cases hw:C&&&w=0
     ·exact absurd (and_or_zero hv hw) hne
     ·have b:=hwc C hC hw
      obtain⟨i,i1,i2⟩:=not_off hz
      exact key (fun e=>by
       have:=off_iff.2 e i (b i i1)
       rw[i2] at this;simp at this)
    ·exact key hv
   ·have a:=h4 x hx
    have b:=hp.2.2 x hx w (List.mem_cons_self ..)
    exact and_comm0 (and_or_zero (and_comm0 a) b)
   ·refine List.pairwise_append.2 ⟨hp.1,(List.pairwise_cons.1 hp.2.1).2,fun a ha b hb=>hp.2.2 a ha b (List.mem_cons_of_mem _ hb)⟩
   ·rcases h7 u hu with h | ⟨x,hx,h⟩
    ·exact .inl (by rw[Nat.testBit_or,h];rfl)
    ·rcases List.mem_append.1 hx with hx | hx
     ·exact .inr ⟨x,List.mem_append_left _ hx,h⟩
     ·rcases List.mem_cons.1 hx with rfl | hx
      ·exact .inl (by rw[Nat.testBit_or,h,Bool.or_true])
      ·exact .inr ⟨x,List.mem_append_right _ hx,h⟩
   ·rcases h8 x hx with h | h | ⟨y,hy,h⟩
    ·exact .inl h
    ·exact .inr (.inl (h.trans (SubN.or_left _ _)))
    ·rcases List.mem_append.1 hy with hy | hy
     ·exact .inr (.inr ⟨y,List.mem_append_left _ hy,h⟩)
     ·rcases List.mem_cons.1 hy with rfl | hy
      ·exact .inr (.inl (h.trans (fun i hi=>by rw[Nat.testBit_or,hi,Bool.or_true])))
      ·exact .inr (.inr ⟨y,List.mem_append_right _ hy,h⟩)
theorem Conn.more{cs:List Nat}{w:Nat}(h:Conn cs w)(c:Nat):Conn (cs++[c]) w:=fun C hC hne=>h C (fun x hx=>hC x (List.mem_append_left _ hx)) hne
theorem Cmp.link{cs:List Nat}{seen:Nat}{ws:List Nat}(h:Cmp cs seen ws){c:Nat}(hc0:vN c≠0)(hcs:SubN (vN c) seen):Cmp (cs++[c]) seen (linkN ws (vN c)):=by
 refine link_cmp hc0 ws [] (vN c) (SubN.refl _) hcs ?_ (fun w hw=>by simp at hw) (by simpa using h.dis) (fun w hw=>?_) (fun u hu=>.inr (by simpa using h.cov u hu)) (fun x hx=>?_)
 ·intro C hC hne
  rcases hC c (List.mem_append_right _ (List.mem_singleton.2 rfl)) with e | e
  ·exact absurd (and_comm0 e) hne
  ·exact e
 ·have hw':w∈ws:=by simpa using hw
  exact⟨h.ne w hw',h.sub w hw',(h.con w hw').more c⟩
 ·rcases h.own x hx with e | ⟨w,hw,e⟩
  ·exact .inl e
  ·exact .inr (.inr ⟨w,by simpa using hw,e⟩)
theorem comps_cmp{seen:Nat}(hs:seen<2^11)(cs:List Nat)(hcs:∀ c∈cs,vN c≠0∧SubN (vN c) seen):Cmp cs seen (compsN cs seen):=by
 have key:∀ (l cs:List Nat) (ws:List Nat),Cmp cs seen ws→(∀ c∈l,vN c≠0∧SubN (vN c) seen)→Cmp (cs++l) seen (l.foldl (fun ws c=>linkN ws (vN c)) ws):=by
  intro l
  induction l with
  | nil=>intro cs ws h _;simpa using h
  | cons c l ih =>
   intro cs ws h hl
   obtain⟨a,b⟩:=hl c (List.mem_cons_self ..)
   have:=ih (cs++[c]) (linkN ws (vN c)) (h.link a b) (fun x hx=>hl x (List.mem_cons_of_mem _ hx))
   simpa using this
 have:=key cs [] (apartF 11 seen) (Cmp.start hs) hcs
 simpa [compsN] using this
theorem vars_bit{c:Nat}(hc:c<2^20){v:Nat}(hv:v<10):(varsN c).testBit (2*v)=(vN c).testBit (v+1)∧(varsN c).testBit (2*v+1)=false:=by
 have h:=(Two.of hc).vars
 refine⟨h.pos v hv,?_⟩
 rw[h.neg v hv];simp
theorem vars_half{c i:Nat}(hc:c<2^20)(h:(varsN c).testBit i=true):i=2*(i / 2)∧i / 2<10∧(vN c).testBit (i / 2+1)=true:=by
 have hi:i<20:=bit_lt (varsN_lt c) h
 obtain⟨a,b⟩:=vars_bit hc (v:=i / 2) (by omega)
 rcases nat_par i with e | e
 ·exact⟨e,by omega,by rw[← a,← e];exact h⟩
 ·rw[← e,h] at b;simp at b
theorem link_sub(p c:Nat):SubN p (linkD p c):=by
 unfold linkD
 split
 ·exact SubN.refl p
 ·exact SubN.or_left _ _
theorem fold_sub:∀ (cs:List Nat) (p:Nat),SubN p (cs.foldl linkD p):=by
 intro cs
 induction cs with
 | nil=>intro p;exact SubN.refl p
 | cons c cs ih=>intro p;exact(link_sub p c).trans (ih _)
theorem fold_fix:∀ (cs:List Nat) (p:Nat),cs.foldl linkD p=p→∀ c∈cs,linkD p c=p:=by
 intro cs
 induction cs with
 | nil=>intro p _ c hc;simp at hc
 | cons c cs ih =>
  intro p h x hx
  simp only[List.foldl_cons] at h
  have a:=fold_sub cs (linkD p c)
  rw[h] at a
  have e:linkD p c=p:=SubN.anti a (link_sub p c)
  rcases List.mem_cons.1 hx with rfl | hx
  ·exact e
  ·rw[e] at h;exact ih p h x hx
theorem fold_stay{X:Nat}:∀ (cs:List Nat) (p:Nat),SubN p X→(∀ c∈cs,varsN c&&&X=0∨SubN (varsN c) X)→SubN (cs.foldl linkD p) X:=by
 intro cs
 induction cs with
 | nil=>intro p h _;exact h
 | cons c cs ih =>
  intro p h hX
  refine ih _ ?_ (fun x hx=>hX x (List.mem_cons_of_mem _ hx))
  unfold linkD
  split
  ·exact h
  ·rename_i hne
   rcases hX c (List.mem_cons_self ..) with e | e
   ·exact absurd (and_comm0 (and_mono0 h (and_comm0 e))) hne
   ·exact h.or e
theorem join_sub(cs:List Nat):∀ (m p:Nat),SubN p (joinTo cs m p):=by
 intro m
 induction m with
 | zero=>intro p;exact SubN.refl p
 | succ m ih=>intro p;exact(fold_sub cs p).trans (ih _)
theorem join_stay{X:Nat}{cs:List Nat}(hX:∀ c∈cs,varsN c&&&X=0∨SubN (varsN c) X):∀ (m p:Nat),SubN p X→SubN (joinTo cs m p) X:=by
 intro m
 induction m with
 | zero=>intro p h;exact h
 | succ m ih=>intro p h;exact ih _ (fold_stay cs p h hX)
theorem vars_mask(c:Nat):SubN (varsN c) 349525:=sub_and2 _ _
theorem fold_mask:∀ (cs:List Nat) (p:Nat),SubN p 349525→SubN (cs.foldl linkD p) 349525:=fun cs p h=>fold_stay cs p h (fun c _=>.inr (vars_mask c))
theorem join_here(cs:List Nat)(m p:Nat)(h:cs.foldl linkD p=p):joinTo cs m p=p:=by
 induction m with
 | zero=>rfl
 | succ m ih=>simp only[joinTo];rw[h];exact ih
theorem join_fix(cs:List Nat):∀ (m p:Nat),SubN p 349525→10<sizeN p+m→cs.foldl linkD (joinTo cs m p)=joinTo cs m p:=by
 intro m
 induction m with
 | zero =>
  intro p h hs
  have:=size_le h
  have e:sizeN 349525=10:=by decide
  omega
 | succ m ih =>
  intro p h hs
  by_cases e:cs.foldl linkD p=p
  ·rw[join_here cs (m+1) p e,e]
  ·simp only[joinTo]
   have hm:=fold_mask cs p h
   have hlt:p<2^20:=Nat.lt_of_le_of_lt (by
    have:p=p&&&349525:=h.eq_and.symm
    rw[this];exact Nat.and_le_right) (by decide:349525<2^20)
   have:=size_lt (fold_sub cs p) (fold_lt cs p hlt) (fun q=>e q.symm)
   exact ih _ hm (by omega)
theorem link_closed{p c:Nat}(h:linkD p c=p):varsN c&&&p=0∨SubN (varsN c) p:=by
 unfold linkD at h
 split at h
 ·rename_i h0;exact .inl h0
 ·refine .inr fun i hi=>?_
  rw[← h,Nat.testBit_or,hi,Bool.or_true]
theorem even_to{cs:List Nat}(hc:∀ c∈cs,c<2^20){P:Nat}(hP:P<2^20)(hcl:∀ c∈cs,varsN c&&&P=0∨SubN (varsN c) P):ClV cs (tN P):=by
 have hT:=Two.of hP
 intro c hcc
 rcases hcl c hcc with h | h
 ·left
  rw[← off_iff] at h ⊢
  intro u hu
  obtain⟨u1,u2,_⟩:=vN_ex (hc c hcc) hu
  obtain⟨v,rfl⟩:∃ v,u=v+1:=⟨u - 1,by omega⟩
  rw[← hT.pos v (by omega)]
  exact h _ (by rw[(vars_bit (hc c hcc) (by omega)).1];exact hu)
 ·right
  intro u hu
  obtain⟨u1,u2,_⟩:=vN_ex (hc c hcc) hu
  obtain⟨v,rfl⟩:∃ v,u=v+1:=⟨u - 1,by omega⟩
  rw[← hT.pos v (by omega)]
  exact h _ (by rw[(vars_bit (hc c hcc) (by omega)).1];exact hu)
theorem low_lt{v:Nat}(hv:v<2^20):lowN v<2^20:=Nat.lt_of_le_of_lt Nat.and_le_left hv
theorem low_sub(v:Nat):SubN (lowN v) v:=sub_and _ _
theorem conn_joined{cs:List Nat}(hc:∀ c∈cs,c<2^20){w D:Nat}(hw:Conn cs w)(hD:D<2^20)(hs:SubN (vN D) w):joinedD cs (varsN D)=true:=by
 have hv20:varsN D<2^20:=varsN_lt D
 unfold joinedD
 by_cases h0:varsN D=0
 ·rw[h0,Nat.zero_and];rfl
 ·obtain⟨j,hj,hl⟩:=low_pow h0 hv20
  obtain⟨e,hj10,hjD⟩:=vars_half hD hj
  have hlm:SubN (lowN (varsN D)) 349525:=(low_sub _).trans (vars_mask D)
  have hz:sizeN 0<sizeN (lowN (varsN D)):=size_lt (fun i q=>by rw[Nat.zero_testBit] at q;simp at q) (low_lt hv20) (fun q=>by
   have:(lowN (varsN D)).testBit j=true:=by rw[hl,Nat.testBit_two_pow];simp
   rw[← q] at this;simp at this)
  have hfix:=join_fix cs 10 _ hlm (by omega)
  have hsub:=join_sub cs 10 (lowN (varsN D))
  have hP:joinTo cs 10 (lowN (varsN D))<2^20:=by
   have key:∀ m p,p<1048576→joinTo cs m p<1048576:=by
    intro m
    induction m with
    | zero=>intro p h;exact h
    | succ m ih=>intro p h;exact ih _ (fold_lt cs p h)
   exact key 10 _ (low_lt hv20)
  generalize joinTo cs 10 (lowN (varsN D))=P at *
  have hcl:=even_to hc hP (fun c hcc=>link_closed (fold_fix cs P hfix c hcc))
  have hT:=Two.of hP
  have hjP:P.testBit j=true:=hsub j (by rw[hl,Nat.testBit_two_pow];simp)
  have hsubw:=hw (tN P) hcl (fun q=>by
   have:=off_iff.2 q (j / 2+1) (by rw[← hT.pos _ hj10,← e];exact hjP)
   rw[hs _ hjD] at this
   simp at this)
  have:SubN (varsN D) P:=fun i hi=>by
   obtain⟨e',h10,hiD⟩:=vars_half hD hi
   have:=hsubw _ (hs _ hiD)
   rw[← hT.pos _ h10,← e'] at this
   exact this
  simpa using this.eq_and
theorem pair_dis:∀ {ws:List Nat},ws.Pairwise (fun a b=>a&&&b=0)→∀ {a b:Nat},a∈ws→b∈ws→a≠b→a&&&b=0:=by
 intro ws
 induction ws with
 | nil=>intro _ a b ha;simp at ha
 | cons w ws ih =>
  intro h a b ha hb hne
  obtain⟨h1,h2⟩:=List.pairwise_cons.1 h
  rcases List.mem_cons.1 ha with ea | ha
  ·rcases List.mem_cons.1 hb with eb | hb
   ·exact absurd (ea.trans eb.symm) hne
   ·rw[ea];exact h1 b hb
  ·rcases List.mem_cons.1 hb with eb | hb
   ·rw[eb];exact and_comm0 (h1 a ha)
   ·exact ih h2 ha hb hne
theorem joined_in{cs:List Nat}(hc:∀ c∈cs,c<2^20){seen:Nat}{ws:List Nat}(h:Cmp cs seen ws){D:Nat}(hD:D<2^20)(hs:SubN (vN D) seen)(hj:joinedD cs (varsN D)=true):vN D=0∨∃ w∈ws,SubN (vN D) w:=by
 have hv20:varsN D<2^20:=varsN_lt D
 by_cases h0:varsN D=0
 ·left
  refine SubN.anti (fun u hu=>?_) (fun i q=>by rw[Nat.zero_testBit] at q;simp at q)
  obtain⟨u1,u2,_⟩:=vN_ex hD hu
  obtain⟨v,rfl⟩:∃ v,u=v+1:=⟨u - 1,by omega⟩
  have:=(vars_bit hD (v:=v) (by omega)).1
  rw[h0,hu] at this
  simp at this
 ·right
  obtain⟨j,hj1,hl⟩:=low_pow h0 hv20
  obtain⟨e,hj10,hjD⟩:=vars_half hD hj1
  obtain⟨w,hw,hwu⟩:=h.cov _ (hs _ hjD)
  refine⟨w,hw,?_⟩
  obtain⟨X,hX,hXb⟩:=bits_are (fun i=>decide (i % 2=0) && w.testBit (i / 2+1)) 20
  have hstay:=join_stay (X:=X) (cs:=cs) (fun c hcc=>by
   rcases h.own c hcc with q | ⟨w',hw',q⟩
   ·left
    rw[← off_iff]
    intro i hi
    obtain⟨_,_,a⟩:=vars_half (hc c hcc) hi
    rw[q] at a;simp at a
   ·by_cases ew:w'=w
    ·right
     intro i hi
     obtain⟨a1,a2,a3⟩:=vars_half (hc c hcc) hi
     rw[hXb _ (by omega),← ew,q _ a3,decide_eq_true (by omega)]
     rfl
    ·left
     rw[← off_iff]
     intro i hi
     obtain⟨a1,a2,a3⟩:=vars_half (hc c hcc) hi
     have hd:w'&&&w=0:=pair_dis h.dis hw' hw ew
     have:=off_iff.2 hd _ (q _ a3)
     rw[hXb _ (by omega),this,Bool.and_false]) 10 (lowN (varsN D)) (fun i hi=>by
    rw[hl,Nat.testBit_two_pow] at hi
    have e':j=i:=by simpa using hi
    subst e'
    rw[hXb _ (by omega),hwu,decide_eq_true (by omega)];rfl)
  unfold joinedD at hj
  have hj':varsN D&&&joinTo cs 10 (lowN (varsN D))=varsN D:=by simpa using hj
  intro u hu
  obtain⟨u1,u2,_⟩:=vN_ex hD hu
  obtain⟨v,rfl⟩:∃ v,u=v+1:=⟨u - 1,by omega⟩
  have hb:=(vars_bit hD (v:=v) (by omega)).1
  rw[hu] at hb
  have hb2:=hb
  rw[← hj'] at hb2
  have:=hstay _ (sub_and2 _ _ _ hb2)
  rw[hXb _ (by omega),Bool.and_eq_true,show 2*v / 2=v by omega] at this
  exact this.2
end Go.Proofs.YthboeppmlhbofabDoor
