import Derived.Test.YthboeppmlhbofaaDoorPrg
import Derived.Test.YthboeppmlhbofaaDoorRdr
namespace Go.Proofs.YthboeppmlhbofaaDoor
open Go.RowKit Txt
set_option maxRecDepth 100000
def W9(Kt Kf:Nat)(x:Int):Prop:=(0<x∧Kt.testBit x.toNat=true)∨(x<0∧Kf.testBit (-x).toNat=true)
def SD(Kt Kf:Nat)(x:Int):Prop:=(0<x∧Kf.testBit x.toNat=true)∨(x<0∧Kt.testBit (-x).toNat=true)
structure Fj(kt kf Kt Kf:Nat):Prop where
 t:∀ v,kt.testBit v=true→Kt.testBit v=true
 f:∀ v,kf.testBit v=true→Kf.testBit v=true
def Gd(Kt Kf v:Nat)(ws:List Nat)(op:Int):Prop :=
 W9 Kt Kf op∨((op=0∨SD Kt Kf op)∧¬ Dn Kt Kf v ws∧∀ x,¬ EK Kt Kf v ws x)∨(op≠0∧¬ W9 Kt Kf op∧¬ SD Kt Kf op∧¬ Dn Kt Kf v ws)
theorem Gd.pass{Kt Kf v k:Nat}{ws:List Nat}{op:Int}(h:Gd Kt Kf v (k :: ws) op)(hk:k=0∨JQ Kt Kf v k):Gd Kt Kf (v+1) ws op:=by
 rcases h with h | ⟨h1,h2,h3⟩ | ⟨h1,h2,h3,h4⟩
 ·exact .inl h
 ·exact .inr (.inl ⟨h1,fun q=>h2 ⟨hk,q⟩,fun x q=>h3 x (.inl ⟨hk,q⟩)⟩)
 ·exact .inr (.inr ⟨h1,h2,h3,fun q=>h4 ⟨hk,q⟩⟩)
theorem Gd.open{Kt Kf v k:Nat}{ws:List Nat}(h:Gd Kt Kf v (k :: ws) 0){x:Int}(hx:(k=1∧x=(v:Int))∨(k=2∧x=-(v:Int)))(hv:1≤v):Gd Kt Kf (v+1) ws x:=by
 have hin:W9 Kt Kf x↔PH Kt Kf v k:=by
  rcases hx with⟨rfl,rfl⟩ | ⟨rfl,rfl⟩
  ·unfold W9 PH
   constructor
   ·rintro(⟨_,h⟩ | ⟨h,_⟩)
    ·rw[Int.toNat_natCast] at h;exact .inl ⟨rfl,h⟩
    ·omega
   ·rintro(⟨_,h⟩ | ⟨h,_⟩)
    ·exact .inl ⟨by omega,by rw[Int.toNat_natCast];exact h⟩
    ·omega
  ·unfold W9 PH
   constructor
   ·rintro(⟨h,_⟩ | ⟨_,h⟩)
    ·omega
    ·rw[Int.neg_neg,Int.toNat_natCast] at h;exact .inr ⟨rfl,h⟩
   ·rintro(⟨h,_⟩ | ⟨_,h⟩)
    ·omega
    ·exact .inr ⟨by omega,by rw[Int.neg_neg,Int.toNat_natCast];exact h⟩
 have hoff:SD Kt Kf x↔JQ Kt Kf v k:=by
  rcases hx with⟨rfl,rfl⟩ | ⟨rfl,rfl⟩
  ·unfold SD JQ
   constructor
   ·rintro(⟨_,h⟩ | ⟨h,_⟩)
    ·rw[Int.toNat_natCast] at h;exact .inl ⟨rfl,h⟩
    ·omega
   ·rintro(⟨_,h⟩ | ⟨h,_⟩)
    ·exact .inl ⟨by omega,by rw[Int.toNat_natCast];exact h⟩
    ·omega
  ·unfold SD JQ
   constructor
   ·rintro(⟨h,_⟩ | ⟨_,h⟩)
    ·omega
    ·rw[Int.neg_neg,Int.toNat_natCast] at h;exact .inr ⟨rfl,h⟩
   ·rintro(⟨h,_⟩ | ⟨_,h⟩)
    ·omega
    ·exact .inr ⟨by omega,by rw[Int.neg_neg,Int.toNat_natCast];exact h⟩
 have hx0:x≠0:=by rcases hx with⟨_,h⟩ | ⟨_,h⟩ <;> omega
 rcases h with h | ⟨_,h2,h3⟩ | ⟨h1,_⟩
 ·rcases h with⟨h,_⟩ | ⟨h,_⟩ <;> omega
 ·by_cases a:W9 Kt Kf x
  ·exact .inl a
  ·by_cases b:SD Kt Kf x
   ·have b':=hoff.1 b
    exact .inr (.inl ⟨.inr b,fun q=>h2 ⟨.inr b',q⟩,fun y q=>h3 y (.inl ⟨.inr b',q⟩)⟩)
   ·exact .inr (.inr ⟨hx0,a,b,fun q=>h3 x (.inr ⟨hx,fun e=>a (hin.2 e),fun e=>b (hoff.2 e),q⟩)⟩)
 ·exact absurd rfl h1
theorem Fj.lit{kt kf Kt Kf:Nat}(h:Fj kt kf Kt Kf){x:Int}(hx:AK x=true)(hs:W9 Kt Kf x):Fj (kt|||Cq x) (kf|||Cp x) Kt Kf:=by
 simp only[AK,Bool.and_eq_true,bne_iff_ne,decide_eq_true_eq] at hx
 rcases hs with⟨hp,hs⟩ | ⟨hp,hs⟩
 ·have e1:Cq x=2^x.toNat:=by unfold Cq;rw[if_pos hp]
  have e2:Cp x=0:=by unfold Cp;rw[if_pos hp]
  rw[e1,e2,Nat.or_zero]
  refine⟨fun v hb=>?_,h.f⟩
  rw[Nat.testBit_or,Nat.testBit_two_pow,Bool.or_eq_true,decide_eq_true_eq] at hb
  rcases hb with hb | hb
  ·exact h.t v hb
  ·rw[← hb];exact hs
 ·have e1:Cq x=0:=by unfold Cq;rw[if_neg (by omega)]
  have e2:Cp x=2^(-x).toNat:=by unfold Cp;rw[if_neg (by omega)]
  rw[e1,e2,Nat.or_zero]
  refine⟨h.t,fun v hb=>?_⟩
  rw[Nat.testBit_or,Nat.testBit_two_pow,Bool.or_eq_true,decide_eq_true_eq] at hb
  rcases hb with hb | hb
  ·exact h.f v hb
  ·rw[← hb];exact hs
theorem LD(ns:List Nd)(kt kf Kt Kf:Nat)(hk:Fj kt kf Kt Kf):∀ (m a v:Nat) (op:Int) (s:PS),m+v=11→1≤v→(op=0∨AK op=true)→s.cl=false→Fj s.gt s.gf Kt Kf →
  (∀ ws,ws.length=m→(∀ k∈ws,k<3)→BK ns a ws≠0→Gd Kt Kf v ws op)→(AJ ns kt kf m a v op s).cl=false∧Fj (AJ ns kt kf m a v op s).gt (AJ ns kt kf m a v op s).gf Kt Kf:=by
 intro m
 induction m with
 | zero =>
  intro a v op s _ _ ho hc hs hH
  simp only[AJ,hc]
  unfold Dg
  by_cases h0:(ns.getD a Ac).c=0
  ·simp only[h0,if_true];exact⟨hc,hs⟩
  ·have hg:=hH [] rfl (fun k hk=>by simp at hk) h0
   by_cases h1:op=0
   ·subst h1
    exfalso
    rcases hg with h | ⟨_,h,_⟩ | ⟨h,_⟩
    ·rcases h with⟨h,_⟩ | ⟨h,_⟩ <;> omega
    ·exact h trivial
    ·exact h rfl
   ·simp only[h0,if_false,h1]
    rcases hg with h | ⟨_,h,_⟩ | ⟨_,_,_,h⟩
    ·exact⟨hc,hs.lit (ho.resolve_left h1) h⟩
    ·exact absurd trivial h
    ·exact absurd trivial h
 | succ m ih =>
  intro a v op s hmv hv ho hc hs hH
  have hl1:AK (v:Int)=true:=by simp only[AK,Bool.and_eq_true,bne_iff_ne,decide_eq_true_eq];omega
  have hl2:AK (-(v:Int))=true:=by simp only[AK,Bool.and_eq_true,bne_iff_ne,decide_eq_true_eq];omega
  have sub:∀ (k:Nat) (ws:List Nat),k<3→ws.length=m→(∀ k∈ws,k<3)→(ns.getD a Ac).nx k≠0→BK ns ((ns.getD a Ac).nx k) ws≠0→Gd Kt Kf v (k :: ws) op:=fun k ws hk3 hl h3 hx hq=>hH (k :: ws) (by simp[hl]) (fun j hj=>(List.mem_cons.1 hj).elim (fun e=>e ▸ hk3) (h3 j)) (by simp only[BK,hx,if_false];exact hq)
  simp only[AJ,hc]
  have k1:(if (ns.getD a Ac).n0=0 then s else AJ ns kt kf m (ns.getD a Ac).n0 (v+1) op s).cl=false∧Fj (if (ns.getD a Ac).n0=0 then s else AJ ns kt kf m (ns.getD a Ac).n0 (v+1) op s).gt (if (ns.getD a Ac).n0=0 then s else AJ ns kt kf m (ns.getD a Ac).n0 (v+1) op s).gf Kt Kf:=by
   split
   ·exact⟨hc,hs⟩
   ·rename_i hx
    exact ih _ (v+1) op s (by omega) (by omega) ho hc hs (fun ws hl h3 hq=>(sub 0 ws (by decide) hl h3 hx hq).pass (.inl rfl))
  generalize (if (ns.getD a Ac).n0=0 then s else AJ ns kt kf m (ns.getD a Ac).n0 (v+1) op s)=s1 at *
  have k2:(if (ns.getD a Ac).n1=0 then s1 else if Bv kt kf (-(v:Int)) then AJ ns kt kf m (ns.getD a Ac).n1 (v+1) op s1 else if op=0∧Bv kt kf (v:Int)=false then AJ ns kt kf m (ns.getD a Ac).n1 (v+1) (v:Int) s1 else s1).cl=false∧Fj (if (ns.getD a Ac).n1=0 then s1 else if Bv kt kf (-(v:Int)) then AJ ns kt kf m (ns.getD a Ac).n1 (v+1) op s1 else if op=0∧Bv kt kf (v:Int)=false then AJ ns kt kf m (ns.getD a Ac).n1 (v+1) (v:Int) s1 else s1).gt (if (ns.getD a Ac).n1=0 then s1 else if Bv kt kf (-(v:Int)) then AJ ns kt kf m (ns.getD a Ac).n1 (v+1) op s1 else if op=0∧Bv kt kf (v:Int)=false then AJ ns kt kf m (ns.getD a Ac).n1 (v+1) (v:Int) s1 else s1).gf Kt Kf:=by
   split
   ·exact k1
   ·rename_i hx
    split
    ·rename_i hh
     rw[J1 kt kf hv (by omega)] at hh
     exact ih _ (v+1) op s1 (by omega) (by omega) ho k1.1 k1.2 (fun ws hl h3 hq=>(sub 1 ws (by decide) hl h3 hx hq).pass (.inr (.inl ⟨rfl,hk.f v hh⟩)))
    ·split
     ·rename_i hcond
      refine ih _ (v+1) (v:Int) s1 (by omega) (by omega) (.inr hl1) k1.1 k1.2 (fun ws hl h3 hq=>?_)
      have:=sub 1 ws (by decide) hl h3 hx hq
      rw[hcond.1] at this
      exact this.open (.inl ⟨rfl,rfl⟩) hv
     ·exact k1
  generalize (if (ns.getD a Ac).n1=0 then s1 else if Bv kt kf (-(v:Int)) then AJ ns kt kf m (ns.getD a Ac).n1 (v+1) op s1 else if op=0∧Bv kt kf (v:Int)=false then AJ ns kt kf m (ns.getD a Ac).n1 (v+1) (v:Int) s1 else s1)=s2 at *
  simp only[Bool.false_eq_true,if_false]
  split
  ·exact k2
  ·rename_i hx
   split
   ·rename_i hh
    rw[J2 kt kf hv (by omega)] at hh
    exact ih _ (v+1) op s2 (by omega) (by omega) ho k2.1 k2.2 (fun ws hl h3 hq=>(sub 2 ws (by decide) hl h3 hx hq).pass (.inr (.inr ⟨rfl,hk.t v hh⟩)))
   ·split
    ·rename_i hcond
     refine ih _ (v+1) (-(v:Int)) s2 (by omega) (by omega) (.inr hl2) k2.1 k2.2 (fun ws hl h3 hq=>?_)
     have:=sub 2 ws (by decide) hl h3 hx hq
     rw[hcond.1] at this
     exact this.open (.inr ⟨rfl,rfl⟩) hv
    ·exact k2
def IS(ns:List Nd)(kt kf:Nat):Prop:=∀ ws,ws.length=10→(∀ k∈ws,k<3)→BK ns 0 ws≠0→¬ Dn kt kf 1 ws∧∀ x,¬ EK kt kf 1 ws x
theorem N7{kt kf:Nat}{s:PS}(h1:s.gt=kt)(h2:s.gf=kf):∀ (ws:List Nat) (v:Nat) (x:Int),EK kt kf v ws x→LI x s→False:=by
 intro ws
 induction ws with
 | nil=>intro v x h _;exact h
 | cons k ws ih =>
  intro v x h hg
  rcases h with⟨_,h⟩ | ⟨h,hin,_,_⟩
  ·exact ih _ _ h hg
  ·apply hin
   rcases h with⟨rfl,rfl⟩ | ⟨rfl,rfl⟩
   ·rcases hg with⟨_,h⟩ | ⟨h,_⟩
    ·rw[Int.toNat_natCast,h1] at h;exact .inl ⟨rfl,h⟩
    ·omega
   ·rcases hg with⟨h,_⟩ | ⟨_,h⟩
    ·omega
    ·rw[Int.neg_neg,Int.toNat_natCast,h2] at h;exact .inr ⟨rfl,h⟩
theorem Rg(ns:List Nd):∀ (m kt kf:Nat),kt<2^11→kf<2^11→4096≤kt+kf+m→VL ns m kt kf=false→∃ Kt Kf,Fj kt kf Kt Kf∧(Kt&&&Kf != 0)=false∧IS ns Kt Kf:=by
 intro m
 induction m with
 | zero=>intro kt kf h1 h2 h3 _;omega
 | succ m ih =>
  intro kt kf h1 h2 h3 h
  simp only[VL] at h
  obtain⟨o1,o2⟩:=Lz (ns:=ns) (kt:=kt) (kf:=kf) 10 0 1 0 ⟨kt,kf,false⟩ rfl (by decide) (.inl rfl) ⟨h1,h2⟩
  obtain⟨x,y,u1,u2⟩:=IJ (ns:=ns) (kt:=kt) (kf:=kf) 10 0 1 0 ⟨kt,kf,false⟩ rfl (by decide) (.inl rfl)
  have comp:=G7 ns kt kf 10 0 1 0 ⟨kt,kf,false⟩ rfl (by decide) (.inl rfl)
  generalize AJ ns kt kf 10 0 1 0 ⟨kt,kf,false⟩=S at *
  split at h
  ·simp at h
  ·rename_i htw
   split at h
   ·simp at h
   ·rename_i hcl
    have hcl':S.cl=false:=by simpa using hcl
    split at h
    ·rename_i he
     refine⟨kt,kf,⟨fun _ h=>h,fun _ h=>h⟩,by simpa using htw,fun ws hl h3' hq=>?_⟩
     obtain⟨q1,_,q3⟩:=comp hcl' ws hl h3' hq
     exact⟨q1 rfl,fun z hz=>N7 he.1 he.2 ws 1 z hz (q3 rfl z hz)⟩
    ·rename_i he
     have a1:kt≤S.gt:=by rw[u1];exact Nat.left_le_or
     have a2:kf≤S.gf:=by rw[u2];exact Nat.left_le_or
     have a3:kt+kf<S.gt+S.gf:=by
      by_cases q:S.gt=kt
      ·by_cases q':S.gf=kf
       ·exact absurd ⟨q,q'⟩ he
       ·omega
      ·omega
     obtain⟨Kt,Kf,b1,b2,b3⟩:=ih S.gt S.gf o1 o2 (by omega) h
     refine⟨Kt,Kf,⟨fun v hv=>b1.t v ?_,fun v hv=>b1.f v ?_⟩,b2,b3⟩
     ·rw[u1,Nat.testBit_or];rw[show(⟨kt,kf,false⟩:PS).gt=kt from rfl,hv];rfl
     ·rw[u2,Nat.testBit_or];rw[show(⟨kt,kf,false⟩:PS).gf=kf from rfl,hv];rfl
theorem TZ(ns:List Nd)(Kt Kf:Nat)(hdis:(Kt&&&Kf != 0)=false)(hC:IS ns Kt Kf):∀ (m kt kf:Nat),Fj kt kf Kt Kf→VL ns m kt kf=false:=by
 intro m
 induction m with
 | zero=>intro kt kf _;rfl
 | succ m ih =>
  intro kt kf hk
  have htw:(kt&&&kf != 0)=false:=by
   have hz:Kt&&&Kf=0:=by simpa using hdis
   have:kt&&&kf=0:=by
    apply Nat.eq_of_testBit_eq
    intro i
    rw[Nat.zero_testBit,Nat.testBit_and]
    cases a:kt.testBit i with
    | false=>rfl
    | true =>
     cases b:kf.testBit i with
     | false=>rfl
     | true =>
      have:=congrArg (fun n=>n.testBit i) hz
      simp only[Nat.testBit_and,hk.t i a,hk.f i b,Nat.zero_testBit] at this
      simp at this
   rw[this];rfl
  obtain⟨h1,h2⟩:=LD ns kt kf Kt Kf hk 10 0 1 0 ⟨kt,kf,false⟩ rfl (by decide) (.inl rfl) rfl hk (fun ws hl h3 hq=>.inr (.inl ⟨.inl rfl,hC ws hl h3 hq⟩))
  simp only[VL,htw,h1,Bool.false_eq_true,if_false]
  split
  ·rfl
  ·exact ih _ _ h2
theorem BF:∀ (c o i:Nat),(c - (c&&&o)).testBit i=(c.testBit i && !o.testBit i):=by
 intro c
 induction c using Nat.strongRecOn with
 | ind c ih =>
  intro o i
  by_cases h0:c=0
  ·subst h0;simp
  have e1:(c&&&o) / 2=c / 2&&&o / 2:=Nat.and_div_two
  have e2:(c&&&o) % 2=(c % 2)&&&(o % 2):=by
   have:=@Nat.and_mod_two_pow c o 1
   simpa using this
  have h1:c / 2<c:=by omega
  have hle:c / 2&&&o / 2≤c / 2:=Nat.and_le_left
  have hm:(c % 2&&&o % 2)≤c % 2:=Nat.and_le_left
  have e3:(c - (c&&&o)) / 2=c / 2 - (c / 2&&&o / 2):=by omega
  have e4:(c - (c&&&o)) % 2=c % 2 - (c % 2&&&o % 2):=by omega
  cases i with
  | zero =>
   rw[Nat.testBit_zero,Nat.testBit_zero,Nat.testBit_zero,e4]
   rcases Nat.mod_two_eq_zero_or_one c with a | a <;> rcases Nat.mod_two_eq_zero_or_one o with b | b <;> rw[a,b] <;> decide
  | succ i =>
   rw[Nat.testBit_succ,Nat.testBit_succ,Nat.testBit_succ,e3]
   exact ih _ h1 _ _
theorem EL(x:Nat):x≠0→(x&&&(x - 1)=0↔∃ j,x=2^j):=by
 induction x using Nat.strongRecOn with
 | ind x ih =>
  intro h0
  have e1:(x&&&(x - 1)) / 2=x / 2&&&(x - 1) / 2:=Nat.and_div_two
  have e2:(x&&&(x - 1)) % 2=0:=by
   have:=@Nat.and_mod_two_pow x (x - 1) 1
   simp at this
   rw[this]
   rcases Nat.mod_two_eq_zero_or_one x with a | a
   ·rw[a];simp
   ·rw[show(x - 1) % 2=0 by omega];simp
  rcases Nat.mod_two_eq_zero_or_one x with a | a
  ·have e3:(x - 1) / 2=x / 2 - 1:=by omega
   rw[e3] at e1
   have:=ih (x / 2) (by omega) (by omega)
   constructor
   ·intro h
    obtain⟨j,hj⟩:=this.1 (by omega)
    exact⟨j+1,by rw[Nat.pow_succ];omega⟩
   ·rintro⟨j,hj⟩
    cases j with
    | zero=>simp at hj;omega
    | succ j=>have:=this.2 ⟨j,by rw[Nat.pow_succ] at hj;omega⟩;omega
  ·have e3:(x - 1) / 2=x / 2:=by omega
   rw[e3,Nat.and_self] at e1
   constructor
   ·intro h;exact⟨0,by simp;omega⟩
   ·rintro⟨j,hj⟩
    cases j with
    | zero=>simp at hj;subst hj;decide
    | succ j=>rw[Nat.pow_succ] at hj;omega
theorem Ey(b:Nat→Bool):∀ n,∃ k,k<2^n∧∀ i,i<n→k.testBit i=b i:=by
 intro n
 induction n with
 | zero=>exact⟨0,by decide,fun i h=>by omega⟩
 | succ n ih =>
  obtain⟨k,hk,hb⟩:=ih
  have hz:k.testBit n=false:=Nat.testBit_lt_two_pow hk
  have hp:2^n<2^(n+1):=Nat.pow_lt_pow_right (by decide) (by omega)
  cases hn:b n with
  | false =>
   refine⟨k,by omega,fun i hi=>?_⟩
   by_cases e:i=n
   ·subst e;rw[hz,hn]
   ·exact hb i (by omega)
  | true =>
   refine⟨k|||2^n,Nat.or_lt_two_pow (by omega) hp,fun i hi=>?_⟩
   rw[Nat.testBit_or,Nat.testBit_two_pow]
   by_cases e:i=n
   ·subst e;rw[hz,hn];simp
   ·rw[hb i (by omega)];simp;intro h;omega
def Ah(c k:Nat):Nat:=c - (c&&&AS k)
theorem DO(c k i:Nat):(Ah c k).testBit i=(c.testBit i && !(AS k).testBit i):=BF c (AS k) i
theorem Qh(c k:Nat):Ah c k≤c:=Nat.sub_le _ _
def Fb:List Nat→Nat→Option Nat
 | [],k=>some k
 | c :: cs,k=>if Ah c k=0 then none else Fb cs (if Ah c k&&&(Ah c k - 1)=0 then k|||Ah c k else k)
def Hv(cs:List Nat):Nat→Nat→Option Nat
 | 0,k=>some k
 | m+1,k=>match Fb cs k with
  | none=>none
  | some k'=>Hv cs m k'
def AU(cs:List Nat)(k:Nat):Bool:=match Hv cs 21 k with
 | none=>true
 | some k'=>A4 k'
def AH(a b:Nat):Prop:=∀ i,a.testBit i=true→b.testBit i=true
theorem AH.refl(a:Nat):AH a a:=fun _ h=>h
theorem AH.trans{a b c:Nat}(h:AH a b)(h':AH b c):AH a c:=fun i q=>h' i (h i q)
theorem AH.anti{a b:Nat}(h:AH a b)(h':AH b a):a=b:=by
 apply Nat.eq_of_testBit_eq
 intro i
 rw[Bool.eq_iff_iff]
 exact⟨h i,h' i⟩
theorem AH.or_left(a b:Nat):AH a (a|||b):=fun i h=>by rw[Nat.testBit_or,h];rfl
theorem AH.or{a b c:Nat}(h:AH a c)(h':AH b c):AH (a|||b) c:=fun i q=>by
 rw[Nat.testBit_or,Bool.or_eq_true] at q
 exact q.elim (h i) (h' i)
theorem AH.opp{a b:Nat}(h:AH a b):AH (AS a) (AS b):=fun i q=>by
 rw[Mf] at q ⊢
 simp only[Bool.or_eq_true,Bool.and_eq_true] at q ⊢
 rcases q with⟨q1,q2,q3⟩ | ⟨q1,q2⟩
 ·exact .inl ⟨q1,h _ q2,q3⟩
 ·exact .inr ⟨h _ q1,q2⟩
theorem AH.twin{a b:Nat}(h:AH a b)(hb:A4 b=false):A4 a=false:=by
 have hz:b&&&AS b=0:=by simpa [A4] using hb
 have:a&&&AS a=0:=by
  apply Nat.eq_of_testBit_eq
  intro i
  rw[Nat.zero_testBit,Nat.testBit_and]
  cases p:a.testBit i with
  | false=>rfl
  | true =>
   cases q:(AS a).testBit i with
   | false=>rfl
   | true =>
    have:=congrArg (fun n=>n.testBit i) hz
    simp only[Nat.testBit_and,h i p,h.opp i q,Nat.zero_testBit] at this
    simp at this
 simp[A4,this]
def Ht(cs:List Nat)(k:Nat):Prop:=∀ c∈cs,Ah c k≠0∧(Ah c k&&&(Ah c k - 1)=0→AH (Ah c k) k)
theorem OF:∀ (cs:List Nat) (k k':Nat),Fb cs k=some k'→AH k k'∧(k<2^20→(∀ c∈cs,c<2^20)→k'<2^20):=by
 intro cs
 induction cs with
 | nil=>intro k k' h;simp only[Fb,Option.some.injEq] at h;subst h;exact⟨AH.refl _,fun h _=>h⟩
 | cons c cs ih =>
  intro k k' h
  simp only[Fb] at h
  split at h
  ·simp at h
  ·obtain⟨h1,h2⟩:=ih _ _ h
   split at h1
   ·rename_i hs
    refine⟨(AH.or_left _ _).trans h1,fun a b=>h2 ?_ (fun x hx=>b x (List.mem_cons_of_mem _ hx))⟩
    rw[if_pos hs]
    exact Nat.or_lt_two_pow a (Nat.lt_of_le_of_lt (Qh _ _) (b c (List.mem_cons_self ..)))
   ·rename_i hs
    refine⟨h1,fun a b=>h2 ?_ (fun x hx=>b x (List.mem_cons_of_mem _ hx))⟩
    rw[if_neg hs]
    exact a
theorem OE:∀ (cs:List Nat) (k:Nat),Fb cs k=some k→Ht cs k:=by
 intro cs
 induction cs with
 | nil=>intro k _ c hc;simp at hc
 | cons c cs ih =>
  intro k h
  simp only[Fb] at h
  split at h
  ·simp at h
  ·rename_i h0
   obtain⟨h1,_⟩:=OF _ _ _ h
   split at h
   ·rename_i hs
    rw[if_pos hs] at h1
    have e:k|||Ah c k=k:=AH.anti h1 (AH.or_left _ _)
    rw[e] at h
    intro x hx
    rcases List.mem_cons.1 hx with rfl | hx
    ·exact⟨h0,fun _ i q=>h1 i (by rw[Nat.testBit_or,q,Bool.or_true])⟩
    ·exact ih k h x hx
   ·rename_i hs
    intro x hx
    rcases List.mem_cons.1 hx with rfl | hx
    ·exact⟨h0,fun q=>absurd q hs⟩
    ·exact ih k h x hx
theorem JT{a b:Nat}(h:AH a b):∀ n,Bq a n≤Bq b n∧((∃ i,i<n∧a.testBit i=false∧b.testBit i=true)→Bq a n<Bq b n):=by
 intro n
 induction n with
 | zero=>exact⟨Nat.le_refl _,fun ⟨i,h,_⟩=>by omega⟩
 | succ n ih =>
  obtain⟨h1,h2⟩:=ih
  simp only[Bq,Ic]
  have hb:(a.testBit n).toNat≤(b.testBit n).toNat:=by
   cases p:a.testBit n with
   | false=>simp
   | true=>rw[h n p];simp
  refine⟨by omega,?_⟩
  rintro⟨i,hi,p,q⟩
  by_cases e:i=n
  ·subst e;rw[p,q];simp;omega
  ·have:=h2 ⟨i,by omega,p,q⟩;omega
theorem Cn{a b:Nat}(h:AH a b)(hb:b<2^20)(hne:a≠b):AG a<AG b:=by
 refine(JT h 20).2 ?_
 apply Classical.byContradiction
 intro hn
 apply hne
 refine AH.anti h (fun i q=>?_)
 have hi:i<20:=by
  apply Classical.byContradiction
  intro hge
  rw[Nat.testBit_lt_two_pow (Nat.lt_of_lt_of_le hb (Nat.pow_le_pow_right (by decide) (by omega)))] at q
  simp at q
 cases p:a.testBit i with
 | true=>rfl
 | false=>exact absurd ⟨i,hi,p,q⟩ hn
theorem Uk(cs:List Nat)(k:Nat)(h:Fb cs k=some k):∀ m,Hv cs m k=some k:=by
 intro m
 induction m with
 | zero=>rfl
 | succ m ih=>simp only[Hv,h];exact ih
theorem Qu(cs:List Nat)(hc:∀ c∈cs,c<2^20):∀ (m k k':Nat),k<2^20→Hv cs m k=some k'→20<AG k+m→Fb cs k'=some k'∧AH k k'∧k'<2^20:=by
 intro m
 induction m with
 | zero=>intro k k' _ _ h;have:=C7 k;omega
 | succ m ih =>
  intro k k' hk h hs
  simp only[Hv] at h
  cases hp:Fb cs k with
  | none=>rw[hp] at h;simp at h
  | some k1 =>
   rw[hp] at h
   simp only at h
   obtain⟨h1,h2⟩:=OF _ _ _ hp
   by_cases e:k=k1
   ·subst e
    rw[Uk cs k hp m] at h
    simp only[Option.some.injEq] at h
    subst h
    exact⟨hp,AH.refl _,hk⟩
   ·have:=Cn h1 (h2 hk hc) e
    obtain⟨a1,a2,a3⟩:=ih k1 k' (h2 hk hc) h (by omega)
    exact⟨a1,h1.trans a2,a3⟩
theorem CW(cs:List Nat)(hc:∀ c∈cs,c<2^20)(k:Nat)(hk:k<2^20)(h:AU cs k=false):∃ K,K<2^20∧AH k K∧A4 K=false∧Ht cs K:=by
 unfold AU at h
 cases hr:Hv cs 21 k with
 | none=>rw[hr] at h;simp at h
 | some K =>
  rw[hr] at h
  obtain⟨h1,h2,h3⟩:=Qu cs hc 21 k K hk hr (by omega)
  exact⟨K,h3,h2,h,OE _ _ h1⟩
theorem JK{k K:Nat}(h:AH k K)(c:Nat):AH (Ah c K) (Ah c k):=fun i q=>by
 rw[DO,Bool.and_eq_true] at q ⊢
 refine⟨q.1,?_⟩
 cases p:(AS k).testBit i with
 | false=>rfl
 | true=>rw[h.opp i p] at q;simp at q
theorem Mo{x j:Nat}(h:AH x (2^j))(h0:x≠0):x=2^j:=by
 refine AH.anti h (fun i q=>?_)
 rw[Nat.testBit_two_pow] at q
 have e:j=i:=by simpa using q
 subst e
 cases p:x.testBit j with
 | true=>rfl
 | false =>
  exfalso
  apply h0
  apply Nat.eq_of_testBit_eq
  intro i
  rw[Nat.zero_testBit]
  cases r:x.testBit i with
  | false=>rfl
  | true =>
   have:=h i r
   rw[Nat.testBit_two_pow] at this
   have e:j=i:=by simpa using this
   subst e
   rw[p] at r
   exact absurd r (by simp)
theorem Lm{K:Nat}:∀ (cs:List Nat),Ht cs K→∀ k,AH k K→∃ k',Fb cs k=some k'∧AH k' K:=by
 intro cs
 induction cs with
 | nil=>intro _ k h;exact⟨k,rfl,h⟩
 | cons c cs ih =>
  intro hC k h
  obtain⟨h1,h2⟩:=hC c (List.mem_cons_self ..)
  have hC':Ht cs K:=fun x hx=>hC x (List.mem_cons_of_mem _ hx)
  have ha:=JK h c
  have h0:Ah c k≠0:=fun e=>by
   apply h1
   refine AH.anti (fun i q=>?_) (fun i q=>by rw[Nat.zero_testBit] at q;simp at q)
   rw[← e];exact ha i q
  simp only[Fb]
  rw[if_neg h0]
  by_cases hs:Ah c k&&&(Ah c k - 1)=0
  ·rw[if_pos hs]
   obtain⟨j,hj⟩:=(EL _ h0).1 hs
   have e:Ah c K=Ah c k:=by rw[hj] at ha ⊢;exact Mo ha h1
   exact ih hC' _ (h.or (by rw[← e];exact h2 (by rw[e];exact hs)))
  ·rw[if_neg hs]
   exact ih hC' k h
theorem CY{cs:List Nat}{K:Nat}(hC:Ht cs K)(ht:A4 K=false){k:Nat}(h:AH k K):AU cs k=false:=by
 have key:∀ m k,AH k K→∃ k',Hv cs m k=some k'∧AH k' K:=by
  intro m
  induction m with
  | zero=>intro k h;exact⟨k,rfl,h⟩
  | succ m ih =>
   intro k h
   obtain⟨k1,e1,h1⟩:=Lm cs hC k h
   obtain⟨k2,e2,h2⟩:=ih k1 h1
   exact⟨k2,by simp only[Hv,e1];exact e2,h2⟩
 obtain⟨k',e,h'⟩:=key 21 k h
 unfold AU
 rw[e]
 exact h'.twin ht
def DP(cs:List Nat):List Int:=cs.map Int.ofNat
theorem Kj(cs:List Nat):(DP cs).length=cs.length:=by simp[DP]
theorem UJ(cs:List Nat)(j:Nat):(DP cs).getD j 0=((cs.getD j 0:Nat):Int):=by
 rw[List.getD_eq_getElem?_getD,List.getD_eq_getElem?_getD]
 simp only[DP,List.getElem?_map]
 cases cs[j]? <;> rfl
theorem JO(cs:List Nat)(c:Nat):DP (cs++[c])=DP cs++[(c:Int)]:=by simp[DP]
theorem Ll{w:World}{a:Option Addr}{cs:List Nat}(h:Ad w a (DP cs))(hp:0<cs.length):∃ b off,a=some ⟨b,off,none⟩∧∀ j,j<cs.length→w.cell? ⟨b,off+j,none⟩=some (.int .i64 ((cs.getD j 0:Nat):Int)):=by
 obtain⟨b,off,e,hc⟩:=h.get (by rw[Kj];exact hp)
 refine⟨b,off,e,fun j hj=>?_⟩
 have:=hc j (by rw[Kj];exact hj)
 rwa [UJ] at this
theorem Ob(cs:List Nat)(k:Nat)(h:k<cs.length):cs.take (k+1)=cs.take k++[cs.getD k 0]:=by
 rw[List.take_succ_eq_append_getElem h,List.getD_eq_getElem?_getD,List.getElem?_eq_getElem h]
 rfl
theorem Ig(cs:List Nat)(k:Nat)(h:k<cs.length):cs.getD k 0∈cs:=by
 rw[List.getD_eq_getElem?_getD,List.getElem?_eq_getElem h]
 exact List.getElem_mem h
def Zn(cs:List Nat)(s:Nat)(r:Int):Prop:=(r=-1∧¬ s∈cs)∨∃ k:Nat,k<cs.length∧r=k∧cs.getD k 0=s∧¬ s∈cs.take k
theorem YF:∀ (cs:List Nat) (s k:Nat),k<cs.length→cs.getD k 0=s→¬ s∈cs.take k→cs.erase s=cs.take k++cs.drop (k+1):=by
 intro cs
 induction cs with
 | nil=>intro s k h;simp at h
 | cons c cs ih =>
  intro s k h h1 h2
  cases k with
  | zero =>
   have e:c=s:=by simpa using h1
   subst e
   simp
  | succ k =>
   have hne:¬ c=s:=fun e=>h2 (by simp[e])
   have h1':cs.getD k 0=s:=by simpa using h1
   have h2':¬ s∈cs.take k:=fun q=>h2 (by simp[q])
   rw[List.erase_cons_tail (by simpa using hne),ih s k (by simpa using h) h1' h2']
   simp
def VP(cs:List Nat)(i j:Nat):List Nat:=if j≤i then cs.take j else cs.take i++(cs.drop (i+1)).take (j - i - 1)
theorem ZR(cs:List Nat)(i j:Nat):(VP cs i j).length≤j:=by
 unfold VP
 split
 ·simp;omega
 ·simp;omega
theorem ZC(cs:List Nat)(i:Nat):VP cs i (i+1)=VP cs i i:=by
 unfold VP
 rw[if_neg (by omega),if_pos (Nat.le_refl _),show i+1 - i - 1=0 by omega]
 simp
theorem ZB(cs:List Nat)(i j:Nat)(hj:j<cs.length)(hne:j≠i):VP cs i (j+1)=VP cs i j++[cs.getD j 0]:=by
 unfold VP
 by_cases h:j<i
 ·rw[if_pos (by omega),if_pos (by omega),Ob cs j hj]
 ·rw[if_neg (by omega),if_neg (by omega),List.append_assoc]
  congr 1
  have hd:j - i - 1<(cs.drop (i+1)).length:=by rw[List.length_drop];omega
  rw[show j+1 - i - 1=(j - i - 1)+1 by omega,Ob _ _ hd]
  congr 1
  rw[List.getD_eq_getElem?_getD,List.getD_eq_getElem?_getD,List.getElem?_drop,show i+1+(j - i - 1)=j by omega]
theorem ZQ(cs:List Nat)(i:Nat)(hi:i<cs.length):VP cs i cs.length=cs.take i++cs.drop (i+1):=by
 unfold VP
 rw[if_neg (by omega)]
 congr 1
 exact List.take_of_length_le (by rw[List.length_drop];omega)
end Go.Proofs.YthboeppmlhbofaaDoor
