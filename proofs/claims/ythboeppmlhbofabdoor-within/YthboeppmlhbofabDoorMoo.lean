import Derived.Test.YthboeppmlhbofabDoorPrg
import Derived.Test.YthboeppmlhbofabDoorRdr
namespace Go.Proofs.YthboeppmlhbofabDoor
open Go.RowKit Txt
set_option maxRecDepth 100000
def inL(Kt Kf:Nat)(x:Int):Prop:=(0<x∧Kt.testBit x.toNat=true)∨(x<0∧Kf.testBit (-x).toNat=true)
def offL(Kt Kf:Nat)(x:Int):Prop:=(0<x∧Kf.testBit x.toNat=true)∨(x<0∧Kt.testBit (-x).toNat=true)
structure SubK(kt kf Kt Kf:Nat):Prop where
 t:∀ v,kt.testBit v=true→Kt.testBit v=true
 f:∀ v,kf.testBit v=true→Kf.testBit v=true
def Gd(Kt Kf v:Nat)(ws:List Nat)(op:Int):Prop :=
 inL Kt Kf op∨((op=0∨offL Kt Kf op)∧¬ allOff Kt Kf v ws∧∀ x,¬ oneOpen Kt Kf v ws x)∨(op≠0∧¬ inL Kt Kf op∧¬ offL Kt Kf op∧¬ allOff Kt Kf v ws)
theorem Gd.pass{Kt Kf v k:Nat}{ws:List Nat}{op:Int}(h:Gd Kt Kf v (k :: ws) op)(hk:k=0∨offK Kt Kf v k):Gd Kt Kf (v+1) ws op:=by
 rcases h with h | ⟨h1,h2,h3⟩ | ⟨h1,h2,h3,h4⟩
 ·exact .inl h
 ·exact .inr (.inl ⟨h1,fun q=>h2 ⟨hk,q⟩,fun x q=>h3 x (.inl ⟨hk,q⟩)⟩)
 ·exact .inr (.inr ⟨h1,h2,h3,fun q=>h4 ⟨hk,q⟩⟩)
theorem Gd.open{Kt Kf v k:Nat}{ws:List Nat}(h:Gd Kt Kf v (k :: ws) 0){x:Int}(hx:(k=1∧x=(v:Int))∨(k=2∧x=-(v:Int)))(hv:1≤v):Gd Kt Kf (v+1) ws x:=by
 have hin:inL Kt Kf x↔hasK Kt Kf v k:=by
  rcases hx with⟨rfl,rfl⟩ | ⟨rfl,rfl⟩
  ·unfold inL hasK
   constructor
   ·rintro(⟨_,h⟩ | ⟨h,_⟩)
    ·rw[Int.toNat_natCast] at h;exact .inl ⟨rfl,h⟩
    ·omega
   ·rintro(⟨_,h⟩ | ⟨h,_⟩)
    ·exact .inl ⟨by omega,by rw[Int.toNat_natCast];exact h⟩
    ·omega
  ·unfold inL hasK
   constructor
   ·rintro(⟨h,_⟩ | ⟨_,h⟩)
    ·omega
    ·rw[Int.neg_neg,Int.toNat_natCast] at h;exact .inr ⟨rfl,h⟩
   ·rintro(⟨h,_⟩ | ⟨_,h⟩)
    ·omega
    ·exact .inr ⟨by omega,by rw[Int.neg_neg,Int.toNat_natCast];exact h⟩
 have hoff:offL Kt Kf x↔offK Kt Kf v k:=by
  rcases hx with⟨rfl,rfl⟩ | ⟨rfl,rfl⟩
  ·unfold offL offK
   constructor
   ·rintro(⟨_,h⟩ | ⟨h,_⟩)
    ·rw[Int.toNat_natCast] at h;exact .inl ⟨rfl,h⟩
    ·omega
   ·rintro(⟨_,h⟩ | ⟨h,_⟩)
    ·exact .inl ⟨by omega,by rw[Int.toNat_natCast];exact h⟩
    ·omega
  ·unfold offL offK
   constructor
   ·rintro(⟨h,_⟩ | ⟨_,h⟩)
    ·omega
    ·rw[Int.neg_neg,Int.toNat_natCast] at h;exact .inr ⟨rfl,h⟩
   ·rintro(⟨h,_⟩ | ⟨_,h⟩)
    ·omega
    ·exact .inr ⟨by omega,by rw[Int.neg_neg,Int.toNat_natCast];exact h⟩
 have hx0:x≠0:=by rcases hx with⟨_,h⟩ | ⟨_,h⟩ <;> omega
 rcases h with h | ⟨_,h2,h3⟩ | ⟨h1,_⟩
 ·rcases h with⟨h,_⟩ | ⟨h,_⟩ <;> omega
 ·by_cases a:inL Kt Kf x
  ·exact .inl a
  ·by_cases b:offL Kt Kf x
   ·have b':=hoff.1 b
    exact .inr (.inl ⟨.inr b,fun q=>h2 ⟨.inr b',q⟩,fun y q=>h3 y (.inl ⟨.inr b',q⟩)⟩)
   ·exact .inr (.inr ⟨hx0,a,b,fun q=>h3 x (.inr ⟨hx,fun e=>a (hin.2 e),fun e=>b (hoff.2 e),q⟩)⟩)
 ·exact absurd rfl h1
theorem SubK.lit{kt kf Kt Kf:Nat}(h:SubK kt kf Kt Kf){x:Int}(hx:litB x=true)(hs:inL Kt Kf x):SubK (kt|||posB x) (kf|||negB x) Kt Kf:=by
 simp only[litB,Bool.and_eq_true,bne_iff_ne,decide_eq_true_eq] at hx
 rcases hs with⟨hp,hs⟩ | ⟨hp,hs⟩
 ·have e1:posB x=2^x.toNat:=by unfold posB;rw[if_pos hp]
  have e2:negB x=0:=by unfold negB;rw[if_pos hp]
  rw[e1,e2,Nat.or_zero]
  refine⟨fun v hb=>?_,h.f⟩
  rw[Nat.testBit_or,Nat.testBit_two_pow,Bool.or_eq_true,decide_eq_true_eq] at hb
  rcases hb with hb | hb
  ·exact h.t v hb
  ·rw[← hb];exact hs
 ·have e1:posB x=0:=by unfold posB;rw[if_neg (by omega)]
  have e2:negB x=2^(-x).toNat:=by unfold negB;rw[if_neg (by omega)]
  rw[e1,e2,Nat.or_zero]
  refine⟨h.t,fun v hb=>?_⟩
  rw[Nat.testBit_or,Nat.testBit_two_pow,Bool.or_eq_true,decide_eq_true_eq] at hb
  rcases hb with hb | hb
  ·exact h.f v hb
  ·rw[← hb];exact hs
theorem visit_stay(ns:List Nd)(kt kf Kt Kf:Nat)(hk:SubK kt kf Kt Kf):∀ (m a v:Nat) (op:Int) (s:PS),m+v=11→1≤v→(op=0∨litB op=true)→s.cl=false→SubK s.gt s.gf Kt Kf →
  (∀ ws,ws.length=m→(∀ k∈ws,k<3)→leafP ns a ws≠0→Gd Kt Kf v ws op)→(visitN ns kt kf m a v op s).cl=false∧SubK (visitN ns kt kf m a v op s).gt (visitN ns kt kf m a v op s).gf Kt Kf:=by
 intro m
 induction m with
 | zero =>
  intro a v op s _ _ ho hc hs hH
  simp only[visitN,hc]
  unfold meetN
  by_cases h0:(ns.getD a nd0).c=0
  ·simp only[h0,if_true];exact⟨hc,hs⟩
  ·have hg:=hH [] rfl (fun k hk=>by simp at hk) h0
   by_cases h1:op=0
   ·subst h1
    exfalso
    rcases hg with h | ⟨_,h,_⟩ | ⟨h,_⟩
    ·rcases h with⟨h,_⟩ | ⟨h,_⟩ <;> omega
    ·exact h trivial
    ·exact h rfl
   ·simp only[h0,if_false,h1]
    rcases hg with h | ⟨_,h,_⟩ | ⟨_,_,_,h⟩
    ·exact⟨hc,hs.lit (ho.resolve_left h1) h⟩
    ·exact absurd trivial h
    ·exact absurd trivial h
 | succ m ih =>
  intro a v op s hmv hv ho hc hs hH
  have hl1:litB (v:Int)=true:=by simp only[litB,Bool.and_eq_true,bne_iff_ne,decide_eq_true_eq];omega
  have hl2:litB (-(v:Int))=true:=by simp only[litB,Bool.and_eq_true,bne_iff_ne,decide_eq_true_eq];omega
  have sub:∀ (k:Nat) (ws:List Nat),k<3→ws.length=m→(∀ k∈ws,k<3)→(ns.getD a nd0).nx k≠0→leafP ns ((ns.getD a nd0).nx k) ws≠0→Gd Kt Kf v (k :: ws) op:=fun k ws hk3 hl h3 hx hq=>hH (k :: ws) (by simp[hl]) (fun j hj=>(List.mem_cons.1 hj).elim (fun e=>e ▸ hk3) (h3 j)) (by simp only[leafP,hx,if_false];exact hq)
  simp only[visitN,hc]
  have k1:(if (ns.getD a nd0).n0=0 then s else visitN ns kt kf m (ns.getD a nd0).n0 (v+1) op s).cl=false∧SubK (if (ns.getD a nd0).n0=0 then s else visitN ns kt kf m (ns.getD a nd0).n0 (v+1) op s).gt (if (ns.getD a nd0).n0=0 then s else visitN ns kt kf m (ns.getD a nd0).n0 (v+1) op s).gf Kt Kf:=by
   split
   ·exact⟨hc,hs⟩
   ·rename_i hx
    exact ih _ (v+1) op s (by omega) (by omega) ho hc hs (fun ws hl h3 hq=>(sub 0 ws (by decide) hl h3 hx hq).pass (.inl rfl))
  generalize (if (ns.getD a nd0).n0=0 then s else visitN ns kt kf m (ns.getD a nd0).n0 (v+1) op s)=s1 at *
  have k2:(if (ns.getD a nd0).n1=0 then s1 else if hasB kt kf (-(v:Int)) then visitN ns kt kf m (ns.getD a nd0).n1 (v+1) op s1 else if op=0∧hasB kt kf (v:Int)=false then visitN ns kt kf m (ns.getD a nd0).n1 (v+1) (v:Int) s1 else s1).cl=false∧SubK (if (ns.getD a nd0).n1=0 then s1 else if hasB kt kf (-(v:Int)) then visitN ns kt kf m (ns.getD a nd0).n1 (v+1) op s1 else if op=0∧hasB kt kf (v:Int)=false then visitN ns kt kf m (ns.getD a nd0).n1 (v+1) (v:Int) s1 else s1).gt (if (ns.getD a nd0).n1=0 then s1 else if hasB kt kf (-(v:Int)) then visitN ns kt kf m (ns.getD a nd0).n1 (v+1) op s1 else if op=0∧hasB kt kf (v:Int)=false then visitN ns kt kf m (ns.getD a nd0).n1 (v+1) (v:Int) s1 else s1).gf Kt Kf:=by
   split
   ·exact k1
   ·rename_i hx
    split
    ·rename_i hh
     rw[has_neg kt kf hv (by omega)] at hh
     exact ih _ (v+1) op s1 (by omega) (by omega) ho k1.1 k1.2 (fun ws hl h3 hq=>(sub 1 ws (by decide) hl h3 hx hq).pass (.inr (.inl ⟨rfl,hk.f v hh⟩)))
    ·split
     ·rename_i hcond
      refine ih _ (v+1) (v:Int) s1 (by omega) (by omega) (.inr hl1) k1.1 k1.2 (fun ws hl h3 hq=>?_)
      have:=sub 1 ws (by decide) hl h3 hx hq
      rw[hcond.1] at this
      exact this.open (.inl ⟨rfl,rfl⟩) hv
     ·exact k1
  generalize (if (ns.getD a nd0).n1=0 then s1 else if hasB kt kf (-(v:Int)) then visitN ns kt kf m (ns.getD a nd0).n1 (v+1) op s1 else if op=0∧hasB kt kf (v:Int)=false then visitN ns kt kf m (ns.getD a nd0).n1 (v+1) (v:Int) s1 else s1)=s2 at *
  simp only[Bool.false_eq_true,if_false]
  split
  ·exact k2
  ·rename_i hx
   split
   ·rename_i hh
    rw[has_pos kt kf hv (by omega)] at hh
    exact ih _ (v+1) op s2 (by omega) (by omega) ho k2.1 k2.2 (fun ws hl h3 hq=>(sub 2 ws (by decide) hl h3 hx hq).pass (.inr (.inr ⟨rfl,hk.t v hh⟩)))
   ·split
    ·rename_i hcond
     refine ih _ (v+1) (-(v:Int)) s2 (by omega) (by omega) (.inr hl2) k2.1 k2.2 (fun ws hl h3 hq=>?_)
     have:=sub 2 ws (by decide) hl h3 hx hq
     rw[hcond.1] at this
     exact this.open (.inr ⟨rfl,rfl⟩) hv
    ·exact k2
def ClosedK(ns:List Nd)(kt kf:Nat):Prop:=∀ ws,ws.length=10→(∀ k∈ws,k<3)→leafP ns 0 ws≠0→¬ allOff kt kf 1 ws∧∀ x,¬ oneOpen kt kf 1 ws x
theorem open_not{kt kf:Nat}{s:PS}(h1:s.gt=kt)(h2:s.gf=kf):∀ (ws:List Nat) (v:Nat) (x:Int),oneOpen kt kf v ws x→inG x s→False:=by
 intro ws
 induction ws with
 | nil=>intro v x h _;exact h
 | cons k ws ih =>
  intro v x h hg
  rcases h with⟨_,h⟩ | ⟨h,hin,_,_⟩
  ·exact ih _ _ h hg
  ·apply hin
   rcases h with⟨rfl,rfl⟩ | ⟨rfl,rfl⟩
   ·rcases hg with⟨_,h⟩ | ⟨h,_⟩
    ·rw[Int.toNat_natCast,h1] at h;exact .inl ⟨rfl,h⟩
    ·omega
   ·rcases hg with⟨h,_⟩ | ⟨_,h⟩
    ·omega
    ·rw[Int.neg_neg,Int.toNat_natCast,h2] at h;exact .inr ⟨rfl,h⟩
theorem fol_false(ns:List Nd):∀ (m kt kf:Nat),kt<2^11→kf<2^11→4096≤kt+kf+m→fol ns m kt kf=false→∃ Kt Kf,SubK kt kf Kt Kf∧(Kt&&&Kf != 0)=false∧ClosedK ns Kt Kf:=by
 intro m
 induction m with
 | zero=>intro kt kf h1 h2 h3 _;omega
 | succ m ih =>
  intro kt kf h1 h2 h3 h
  simp only[fol] at h
  obtain⟨o1,o2⟩:=visitN_ok (ns:=ns) (kt:=kt) (kf:=kf) 10 0 1 0 ⟨kt,kf,false⟩ rfl (by decide) (.inl rfl) ⟨h1,h2⟩
  obtain⟨x,y,u1,u2⟩:=visitN_sup (ns:=ns) (kt:=kt) (kf:=kf) 10 0 1 0 ⟨kt,kf,false⟩ rfl (by decide) (.inl rfl)
  have comp:=visit_complete ns kt kf 10 0 1 0 ⟨kt,kf,false⟩ rfl (by decide) (.inl rfl)
  generalize visitN ns kt kf 10 0 1 0 ⟨kt,kf,false⟩=S at *
  split at h
  ·simp at h
  ·rename_i htw
   split at h
   ·simp at h
   ·rename_i hcl
    have hcl':S.cl=false:=by simpa using hcl
    split at h
    ·rename_i he
     refine⟨kt,kf,⟨fun _ h=>h,fun _ h=>h⟩,by simpa using htw,fun ws hl h3' hq=>?_⟩
     obtain⟨q1,_,q3⟩:=comp hcl' ws hl h3' hq
     exact⟨q1 rfl,fun z hz=>open_not he.1 he.2 ws 1 z hz (q3 rfl z hz)⟩
    ·rename_i he
     have a1:kt≤S.gt:=by rw[u1];exact Nat.left_le_or
     have a2:kf≤S.gf:=by rw[u2];exact Nat.left_le_or
     have a3:kt+kf<S.gt+S.gf:=by
      by_cases q:S.gt=kt
      ·by_cases q':S.gf=kf
       ·exact absurd ⟨q,q'⟩ he
       ·omega
      ·omega
     obtain⟨Kt,Kf,b1,b2,b3⟩:=ih S.gt S.gf o1 o2 (by omega) h
     refine⟨Kt,Kf,⟨fun v hv=>b1.t v ?_,fun v hv=>b1.f v ?_⟩,b2,b3⟩
     ·rw[u1,Nat.testBit_or];rw[show(⟨kt,kf,false⟩:PS).gt=kt from rfl,hv];rfl
     ·rw[u2,Nat.testBit_or];rw[show(⟨kt,kf,false⟩:PS).gf=kf from rfl,hv];rfl
theorem fol_stay(ns:List Nd)(Kt Kf:Nat)(hdis:(Kt&&&Kf != 0)=false)(hC:ClosedK ns Kt Kf):∀ (m kt kf:Nat),SubK kt kf Kt Kf→fol ns m kt kf=false:=by
 intro m
 induction m with
 | zero=>intro kt kf _;rfl
 | succ m ih =>
  intro kt kf hk
  have htw:(kt&&&kf != 0)=false:=by
   have hz:Kt&&&Kf=0:=by simpa using hdis
   have:kt&&&kf=0:=by
    apply Nat.eq_of_testBit_eq
    intro i
    rw[Nat.zero_testBit,Nat.testBit_and]
    cases a:kt.testBit i with
    | false=>rfl
    | true =>
     cases b:kf.testBit i with
     | false=>rfl
     | true =>
      have:=congrArg (fun n=>n.testBit i) hz
      simp only[Nat.testBit_and,hk.t i a,hk.f i b,Nat.zero_testBit] at this
      simp at this
   rw[this];rfl
  obtain⟨h1,h2⟩:=visit_stay ns kt kf Kt Kf hk 10 0 1 0 ⟨kt,kf,false⟩ rfl (by decide) (.inl rfl) rfl hk (fun ws hl h3 hq=>.inr (.inl ⟨.inl rfl,hC ws hl h3 hq⟩))
  simp only[fol,htw,h1,Bool.false_eq_true,if_false]
  split
  ·rfl
  ·exact ih _ _ h2
theorem follows_mono{ns ns':List Nd}(hs:∀ ws,ws.length=10→(∀ k∈ws,k<4)→leafP ns 0 ws≠0→leafP ns' 0 ws≠0){t f:Nat}(ht:t<2^11)(hf:f<2^11)(h:followsN ns t f=true):followsN ns' t f=true:=by
 cases hb:followsN ns' t f with
 | true=>rfl
 | false =>
  obtain⟨Kt,Kf,a1,a2,a3⟩:=fol_false ns' 4096 f t hf ht (by omega) hb
  have:=fol_stay ns Kt Kf a2 (fun ws hl h3 hq=>a3 ws hl h3 (hs ws hl (fun k hk=>Nat.lt_succ_of_lt (h3 k hk)) hq)) 4096 f t a1
  have h':fol ns 4096 f t=true:=h
  rw[this] at h'
  simp at h'
theorem sub_and_bit:∀ (c o i:Nat),(c - (c&&&o)).testBit i=(c.testBit i && !o.testBit i):=by
 intro c
 induction c using Nat.strongRecOn with
 | ind c ih =>
  intro o i
  by_cases h0:c=0
  ·subst h0;simp
  have e1:(c&&&o) / 2=c / 2&&&o / 2:=Nat.and_div_two
  have e2:(c&&&o) % 2=(c % 2)&&&(o % 2):=by
   have:=@Nat.and_mod_two_pow c o 1
   simpa using this
  have h1:c / 2<c:=by omega
  have hle:c / 2&&&o / 2≤c / 2:=Nat.and_le_left
  have hm:(c % 2&&&o % 2)≤c % 2:=Nat.and_le_left
  have e3:(c - (c&&&o)) / 2=c / 2 - (c / 2&&&o / 2):=by omega
  have e4:(c - (c&&&o)) % 2=c % 2 - (c % 2&&&o % 2):=by omega
  cases i with
  | zero =>
   rw[Nat.testBit_zero,Nat.testBit_zero,Nat.testBit_zero,e4]
   rcases Nat.mod_two_eq_zero_or_one c with a | a <;> rcases Nat.mod_two_eq_zero_or_one o with b | b <;> rw[a,b] <;> decide
  | succ i =>
   rw[Nat.testBit_succ,Nat.testBit_succ,Nat.testBit_succ,e3]
   exact ih _ h1 _ _
theorem one_bit(x:Nat):x≠0→(x&&&(x - 1)=0↔∃ j,x=2^j):=by
 induction x using Nat.strongRecOn with
 | ind x ih =>
  intro h0
  have e1:(x&&&(x - 1)) / 2=x / 2&&&(x - 1) / 2:=Nat.and_div_two
  have e2:(x&&&(x - 1)) % 2=0:=by
   have:=@Nat.and_mod_two_pow x (x - 1) 1
   simp at this
   rw[this]
   rcases Nat.mod_two_eq_zero_or_one x with a | a
   ·rw[a];simp
   ·rw[show(x - 1) % 2=0 by omega];simp
  rcases Nat.mod_two_eq_zero_or_one x with a | a
  ·have e3:(x - 1) / 2=x / 2 - 1:=by omega
   rw[e3] at e1
   have:=ih (x / 2) (by omega) (by omega)
   constructor
   ·intro h
    obtain⟨j,hj⟩:=this.1 (by omega)
    exact⟨j+1,by rw[Nat.pow_succ];omega⟩
   ·rintro⟨j,hj⟩
    cases j with
    | zero=>simp at hj;omega
    | succ j=>have:=this.2 ⟨j,by rw[Nat.pow_succ] at hj;omega⟩;omega
  ·have e3:(x - 1) / 2=x / 2:=by omega
   rw[e3,Nat.and_self] at e1
   constructor
   ·intro h;exact⟨0,by simp;omega⟩
   ·rintro⟨j,hj⟩
    cases j with
    | zero=>simp at hj;subst hj;decide
    | succ j=>rw[Nat.pow_succ] at hj;omega
theorem bits_are(b:Nat→Bool):∀ n,∃ k,k<2^n∧∀ i,i<n→k.testBit i=b i:=by
 intro n
 induction n with
 | zero=>exact⟨0,by decide,fun i h=>by omega⟩
 | succ n ih =>
  obtain⟨k,hk,hb⟩:=ih
  have hz:k.testBit n=false:=Nat.testBit_lt_two_pow hk
  have hp:2^n<2^(n+1):=Nat.pow_lt_pow_right (by decide) (by omega)
  cases hn:b n with
  | false =>
   refine⟨k,by omega,fun i hi=>?_⟩
   by_cases e:i=n
   ·subst e;rw[hz,hn]
   ·exact hb i (by omega)
  | true =>
   refine⟨k|||2^n,Nat.or_lt_two_pow (by omega) hp,fun i hi=>?_⟩
   rw[Nat.testBit_or,Nat.testBit_two_pow]
   by_cases e:i=n
   ·subst e;rw[hz,hn];simp
   ·rw[hb i (by omega)];simp;intro h;omega
def leftN(c k:Nat):Nat:=c - (c&&&oppN k)
theorem left_bit(c k i:Nat):(leftN c k).testBit i=(c.testBit i && !(oppN k).testBit i):=sub_and_bit c (oppN k) i
theorem left_le(c k:Nat):leftN c k≤c:=Nat.sub_le _ _
def passD:List Nat→Nat→Option Nat
 | [],k=>some k
 | c :: cs,k=>if leftN c k=0 then none else passD cs (if leftN c k&&&(leftN c k - 1)=0 then k|||leftN c k else k)
def rndD(cs:List Nat):Nat→Nat→Option Nat
 | 0,k=>some k
 | m+1,k=>match passD cs k with
  | none=>none
  | some k'=>rndD cs m k'
def clashD(cs:List Nat)(k:Nat):Bool:=match rndD cs 21 k with
 | none=>true
 | some k'=>twinB k'
def SubN(a b:Nat):Prop:=∀ i,a.testBit i=true→b.testBit i=true
theorem SubN.refl(a:Nat):SubN a a:=fun _ h=>h
theorem SubN.trans{a b c:Nat}(h:SubN a b)(h':SubN b c):SubN a c:=fun i q=>h' i (h i q)
theorem SubN.anti{a b:Nat}(h:SubN a b)(h':SubN b a):a=b:=by
 apply Nat.eq_of_testBit_eq
 intro i
 rw[Bool.eq_iff_iff]
 exact⟨h i,h' i⟩
theorem SubN.or_left(a b:Nat):SubN a (a|||b):=fun i h=>by rw[Nat.testBit_or,h];rfl
theorem SubN.or{a b c:Nat}(h:SubN a c)(h':SubN b c):SubN (a|||b) c:=fun i q=>by
 rw[Nat.testBit_or,Bool.or_eq_true] at q
 exact q.elim (h i) (h' i)
theorem SubN.opp{a b:Nat}(h:SubN a b):SubN (oppN a) (oppN b):=fun i q=>by
 rw[opp_bit] at q ⊢
 simp only[Bool.or_eq_true,Bool.and_eq_true] at q ⊢
 rcases q with⟨q1,q2,q3⟩ | ⟨q1,q2⟩
 ·exact .inl ⟨q1,h _ q2,q3⟩
 ·exact .inr ⟨h _ q1,q2⟩
theorem SubN.twin{a b:Nat}(h:SubN a b)(hb:twinB b=false):twinB a=false:=by
 have hz:b&&&oppN b=0:=by simpa [twinB] using hb
 have:a&&&oppN a=0:=by
  apply Nat.eq_of_testBit_eq
  intro i
  rw[Nat.zero_testBit,Nat.testBit_and]
  cases p:a.testBit i with
  | false=>rfl
  | true =>
   cases q:(oppN a).testBit i with
   | false=>rfl
   | true =>
    have:=congrArg (fun n=>n.testBit i) hz
    simp only[Nat.testBit_and,h i p,h.opp i q,Nat.zero_testBit] at this
    simp at this
 simp[twinB,this]
def ClD(cs:List Nat)(k:Nat):Prop:=∀ c∈cs,leftN c k≠0∧(leftN c k&&&(leftN c k - 1)=0→SubN (leftN c k) k)
theorem pass_sub:∀ (cs:List Nat) (k k':Nat),passD cs k=some k'→SubN k k'∧(k<2^20→(∀ c∈cs,c<2^20)→k'<2^20):=by
 intro cs
 induction cs with
 | nil=>intro k k' h;simp only[passD,Option.some.injEq] at h;subst h;exact⟨SubN.refl _,fun h _=>h⟩
 | cons c cs ih =>
  intro k k' h
  simp only[passD] at h
  split at h
  ·simp at h
  ·obtain⟨h1,h2⟩:=ih _ _ h
   split at h1
   ·rename_i hs
    refine⟨(SubN.or_left _ _).trans h1,fun a b=>h2 ?_ (fun x hx=>b x (List.mem_cons_of_mem _ hx))⟩
    rw[if_pos hs]
    exact Nat.or_lt_two_pow a (Nat.lt_of_le_of_lt (left_le _ _) (b c (List.mem_cons_self ..)))
   ·rename_i hs
    refine⟨h1,fun a b=>h2 ?_ (fun x hx=>b x (List.mem_cons_of_mem _ hx))⟩
    rw[if_neg hs]
    exact a
theorem pass_fix:∀ (cs:List Nat) (k:Nat),passD cs k=some k→ClD cs k:=by
 intro cs
 induction cs with
 | nil=>intro k _ c hc;simp at hc
 | cons c cs ih =>
  intro k h
  simp only[passD] at h
  split at h
  ·simp at h
  ·rename_i h0
   obtain⟨h1,_⟩:=pass_sub _ _ _ h
   split at h
   ·rename_i hs
    rw[if_pos hs] at h1
    have e:k|||leftN c k=k:=SubN.anti h1 (SubN.or_left _ _)
    rw[e] at h
    intro x hx
    rcases List.mem_cons.1 hx with rfl | hx
    ·exact⟨h0,fun _ i q=>h1 i (by rw[Nat.testBit_or,q,Bool.or_true])⟩
    ·exact ih k h x hx
   ·rename_i hs
    intro x hx
    rcases List.mem_cons.1 hx with rfl | hx
    ·exact⟨h0,fun q=>absurd q hs⟩
    ·exact ih k h x hx
theorem size_mono{a b:Nat}(h:SubN a b):∀ n,sizeTo a n≤sizeTo b n∧((∃ i,i<n∧a.testBit i=false∧b.testBit i=true)→sizeTo a n<sizeTo b n):=by
 intro n
 induction n with
 | zero=>exact⟨Nat.le_refl _,fun ⟨i,h,_⟩=>by omega⟩
 | succ n ih =>
  obtain⟨h1,h2⟩:=ih
  simp only[sizeTo,bit_div]
  have hb:(a.testBit n).toNat≤(b.testBit n).toNat:=by
   cases p:a.testBit n with
   | false=>simp
   | true=>rw[h n p];simp
  refine⟨by omega,?_⟩
  rintro⟨i,hi,p,q⟩
  by_cases e:i=n
  ·subst e;rw[p,q];simp;omega
  ·have:=h2 ⟨i,by omega,p,q⟩;omega
theorem size_lt{a b:Nat}(h:SubN a b)(hb:b<2^20)(hne:a≠b):sizeN a<sizeN b:=by
 refine(size_mono h 20).2 ?_
 apply Classical.byContradiction
 intro hn
 apply hne
 refine SubN.anti h (fun i q=>?_)
 have hi:i<20:=by
  apply Classical.byContradiction
  intro hge
  rw[Nat.testBit_lt_two_pow (Nat.lt_of_lt_of_le hb (Nat.pow_le_pow_right (by decide) (by omega)))] at q
  simp at q
 cases p:a.testBit i with
 | true=>rfl
 | false=>exact absurd ⟨i,hi,p,q⟩ hn
theorem rnd_stay(cs:List Nat)(k:Nat)(h:passD cs k=some k):∀ m,rndD cs m k=some k:=by
 intro m
 induction m with
 | zero=>rfl
 | succ m ih=>simp only[rndD,h];exact ih
theorem rnd_fix(cs:List Nat)(hc:∀ c∈cs,c<2^20):∀ (m k k':Nat),k<2^20→rndD cs m k=some k'→20<sizeN k+m→passD cs k'=some k'∧SubN k k'∧k'<2^20:=by
 intro m
 induction m with
 | zero=>intro k k' _ _ h;have:=sizeN_le k;omega
 | succ m ih =>
  intro k k' hk h hs
  simp only[rndD] at h
  cases hp:passD cs k with
  | none=>rw[hp] at h;simp at h
  | some k1 =>
   rw[hp] at h
   simp only at h
   obtain⟨h1,h2⟩:=pass_sub _ _ _ hp
   by_cases e:k=k1
   ·subst e
    rw[rnd_stay cs k hp m] at h
    simp only[Option.some.injEq] at h
    subst h
    exact⟨hp,SubN.refl _,hk⟩
   ·have:=size_lt h1 (h2 hk hc) e
    obtain⟨a1,a2,a3⟩:=ih k1 k' (h2 hk hc) h (by omega)
    exact⟨a1,h1.trans a2,a3⟩
theorem clash_false(cs:List Nat)(hc:∀ c∈cs,c<2^20)(k:Nat)(hk:k<2^20)(h:clashD cs k=false):∃ K,K<2^20∧SubN k K∧twinB K=false∧ClD cs K:=by
 unfold clashD at h
 cases hr:rndD cs 21 k with
 | none=>rw[hr] at h;simp at h
 | some K =>
  rw[hr] at h
  obtain⟨h1,h2,h3⟩:=rnd_fix cs hc 21 k K hk hr (by omega)
  exact⟨K,h3,h2,h,pass_fix _ _ h1⟩
theorem left_anti{k K:Nat}(h:SubN k K)(c:Nat):SubN (leftN c K) (leftN c k):=fun i q=>by
 rw[left_bit,Bool.and_eq_true] at q ⊢
 refine⟨q.1,?_⟩
 cases p:(oppN k).testBit i with
 | false=>rfl
 | true=>rw[h.opp i p] at q;simp at q
theorem sub_one{x j:Nat}(h:SubN x (2^j))(h0:x≠0):x=2^j:=by
 refine SubN.anti h (fun i q=>?_)
 rw[Nat.testBit_two_pow] at q
 have e:j=i:=by simpa using q
 subst e
 cases p:x.testBit j with
 | true=>rfl
 | false =>
  exfalso
  apply h0
  apply Nat.eq_of_testBit_eq
  intro i
  rw[Nat.zero_testBit]
  cases r:x.testBit i with
  | false=>rfl
  | true =>
   have:=h i r
   rw[Nat.testBit_two_pow] at this
   have e:j=i:=by simpa using this
   subst e
   rw[p] at r
   exact absurd r (by simp)
theorem pass_stay{K:Nat}:∀ (cs:List Nat),ClD cs K→∀ k,SubN k K→∃ k',passD cs k=some k'∧SubN k' K:=by
 intro cs
 induction cs with
 | nil=>intro _ k h;exact⟨k,rfl,h⟩
 | cons c cs ih =>
  intro hC k h
  obtain⟨h1,h2⟩:=hC c (List.mem_cons_self ..)
  have hC':ClD cs K:=fun x hx=>hC x (List.mem_cons_of_mem _ hx)
  have ha:=left_anti h c
  have h0:leftN c k≠0:=fun e=>by
   apply h1
   refine SubN.anti (fun i q=>?_) (fun i q=>by rw[Nat.zero_testBit] at q;simp at q)
   rw[← e];exact ha i q
  simp only[passD]
  rw[if_neg h0]
  by_cases hs:leftN c k&&&(leftN c k - 1)=0
  ·rw[if_pos hs]
   obtain⟨j,hj⟩:=(one_bit _ h0).1 hs
   have e:leftN c K=leftN c k:=by rw[hj] at ha ⊢;exact sub_one ha h1
   exact ih hC' _ (h.or (by rw[← e];exact h2 (by rw[e];exact hs)))
  ·rw[if_neg hs]
   exact ih hC' k h
theorem clash_stay{cs:List Nat}{K:Nat}(hC:ClD cs K)(ht:twinB K=false){k:Nat}(h:SubN k K):clashD cs k=false:=by
 have key:∀ m k,SubN k K→∃ k',rndD cs m k=some k'∧SubN k' K:=by
  intro m
  induction m with
  | zero=>intro k h;exact⟨k,rfl,h⟩
  | succ m ih =>
   intro k h
   obtain⟨k1,e1,h1⟩:=pass_stay cs hC k h
   obtain⟨k2,e2,h2⟩:=ih k1 h1
   exact⟨k2,by simp only[rndD,e1];exact e2,h2⟩
 obtain⟨k',e,h'⟩:=key 21 k h
 unfold clashD
 rw[e]
 exact h'.twin ht
def natI(cs:List Nat):List Int:=cs.map Int.ofNat
theorem natI_len(cs:List Nat):(natI cs).length=cs.length:=by simp[natI]
theorem natI_get(cs:List Nat)(j:Nat):(natI cs).getD j 0=((cs.getD j 0:Nat):Int):=by
 rw[List.getD_eq_getElem?_getD,List.getD_eq_getElem?_getD]
 simp only[natI,List.getElem?_map]
 cases cs[j]? <;> rfl
theorem natI_snoc(cs:List Nat)(c:Nat):natI (cs++[c])=natI cs++[(c:Int)]:=by simp[natI]
theorem nat_cells{w:World}{a:Option Addr}{cs:List Nat}(h:IntsAt w a (natI cs))(hp:0<cs.length):∃ b off,a=some ⟨b,off,none⟩∧∀ j,j<cs.length→w.cell? ⟨b,off+j,none⟩=some (.int .i64 ((cs.getD j 0:Nat):Int)):=by
 obtain⟨b,off,e,hc⟩:=h.get (by rw[natI_len];exact hp)
 refine⟨b,off,e,fun j hj=>?_⟩
 have:=hc j (by rw[natI_len];exact hj)
 rwa [natI_get] at this
theorem take_nat(cs:List Nat)(k:Nat)(h:k<cs.length):cs.take (k+1)=cs.take k++[cs.getD k 0]:=by
 rw[List.take_succ_eq_append_getElem h,List.getD_eq_getElem?_getD,List.getElem?_eq_getElem h]
 rfl
theorem get_mem(cs:List Nat)(k:Nat)(h:k<cs.length):cs.getD k 0∈cs:=by
 rw[List.getD_eq_getElem?_getD,List.getElem?_eq_getElem h]
 exact List.getElem_mem h
def InP(cs:List Nat)(s:Nat)(r:Int):Prop:=(r=-1∧¬ s∈cs)∨∃ k:Nat,k<cs.length∧r=k∧cs.getD k 0=s∧¬ s∈cs.take k
theorem erase_at:∀ (cs:List Nat) (s k:Nat),k<cs.length→cs.getD k 0=s→¬ s∈cs.take k→cs.erase s=cs.take k++cs.drop (k+1):=by
 intro cs
 induction cs with
 | nil=>intro s k h;simp at h
 | cons c cs ih =>
  intro s k h h1 h2
  cases k with
  | zero =>
   have e:c=s:=by simpa using h1
   subst e
   simp
  | succ k =>
   have hne:¬ c=s:=fun e=>h2 (by simp[e])
   have h1':cs.getD k 0=s:=by simpa using h1
   have h2':¬ s∈cs.take k:=fun q=>h2 (by simp[q])
   rw[List.erase_cons_tail (by simpa using hne),ih s k (by simpa using h) h1' h2']
   simp
def woN(cs:List Nat)(i j:Nat):List Nat:=if j≤i then cs.take j else cs.take i++(cs.drop (i+1)).take (j - i - 1)
theorem wo_len(cs:List Nat)(i j:Nat):(woN cs i j).length≤j:=by
 unfold woN
 split
 ·simp;omega
 ·simp;omega
theorem wo_same(cs:List Nat)(i:Nat):woN cs i (i+1)=woN cs i i:=by
 unfold woN
 rw[if_neg (by omega),if_pos (Nat.le_refl _),show i+1 - i - 1=0 by omega]
 simp
theorem wo_next(cs:List Nat)(i j:Nat)(hj:j<cs.length)(hne:j≠i):woN cs i (j+1)=woN cs i j++[cs.getD j 0]:=by
 unfold woN
 by_cases h:j<i
 ·rw[if_pos (by omega),if_pos (by omega),take_nat cs j hj]
 ·rw[if_neg (by omega),if_neg (by omega),List.append_assoc]
  congr 1
  have hd:j - i - 1<(cs.drop (i+1)).length:=by rw[List.length_drop];omega
  rw[show j+1 - i - 1=(j - i - 1)+1 by omega,take_nat _ _ hd]
  congr 1
  rw[List.getD_eq_getElem?_getD,List.getD_eq_getElem?_getD,List.getElem?_drop,show i+1+(j - i - 1)=j by omega]
theorem wo_all(cs:List Nat)(i:Nat)(hi:i<cs.length):woN cs i cs.length=cs.take i++cs.drop (i+1):=by
 unfold woN
 rw[if_neg (by omega)]
 congr 1
 exact List.take_of_length_le (by rw[List.length_drop];omega)
end Go.Proofs.YthboeppmlhbofabDoor
