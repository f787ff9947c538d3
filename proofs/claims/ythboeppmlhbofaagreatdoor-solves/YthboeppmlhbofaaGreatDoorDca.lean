import Derived.Test.YthboeppmlhbofaaGreatDoorMoo
import Derived.Test.YthboeppmlhbofaaGreatDoorOpp
import Derived.Test.YthboeppmlhbofaaGreatDoorLns
namespace Go.Proofs.YthboeppmlhbofaaGreatDoor
open Go.RowKit Txt
set_option maxRecDepth 100000
def DM(u:Nat):Nat→Nat
 | 0=>0
 | v+1=>DM u v|||(if u.testBit v then 2^(2*v) else 2^(2*v+1))
def Cf(u:Nat):Nat:=DM u 10
theorem Ow(u:Nat):∀ v,v≤10→DM u v<2^20:=by
 intro v
 induction v with
 | zero=>intro _;simp[DM]
 | succ v ih =>
  intro h
  simp only[DM]
  refine Nat.or_lt_two_pow (ih (by omega)) ?_
  split
  ·exact Nat.pow_lt_pow_right (by decide) (by omega)
  ·exact Nat.pow_lt_pow_right (by decide) (by omega)
theorem Sa(u:Nat):Cf u<1048576:=Ow u 10 (by omega)
theorem JP(u:Nat):∀ v j,(DM u v).testBit j=(decide (j / 2<v) && (if j % 2=0 then u.testBit (j / 2) else !u.testBit (j / 2))):=by
 intro v
 induction v with
 | zero=>intro j;simp[DM]
 | succ v ih =>
  intro j
  simp only[DM]
  rw[Nat.testBit_or,ih]
  by_cases h:j / 2=v
  ·have h1:decide (j / 2<v)=false:=by simp;omega
   have h2:decide (j / 2<v+1)=true:=by simp;omega
   rw[h1,h2,Bool.false_and,Bool.false_or,Bool.true_and,h]
   rcases Nat.mod_two_eq_zero_or_one j with e | e
   ·rw[if_pos e]
    have ej:j=2*v:=by omega
    subst ej
    cases u.testBit v <;> simp only[Bool.false_eq_true,if_true,if_false,Nat.testBit_two_pow] <;> simp
   ·rw[if_neg (by omega:¬ j % 2=0)]
    have ej:j=2*v+1:=by omega
    subst ej
    cases u.testBit v <;> simp only[Bool.false_eq_true,if_true,if_false,Nat.testBit_two_pow] <;> simp
  ·have hz:(if u.testBit v=true then 2^(2*v) else 2^(2*v+1)).testBit j=false:=by
    split
    ·rw[Nat.testBit_two_pow];simp;omega
    ·rw[Nat.testBit_two_pow];simp;omega
   rw[hz,Bool.or_false]
   by_cases h3:j / 2<v
   ·rw[decide_eq_true h3,decide_eq_true (by omega:j / 2<v+1)]
   ·rw[decide_eq_false h3,decide_eq_false (by omega:¬ j / 2<v+1)]
theorem Xo(v:Nat):DN ((v:Int)+1)=2^(2*v):=by
 unfold DN
 rw[if_pos (by omega)]
 congr 1
 omega
theorem Xn(v:Nat):DN (-((v:Int)+1))=2^(2*v+1):=by
 unfold DN
 rw[if_neg (by omega)]
 congr 1
 omega
theorem aO(u k:Nat)(hu:u<1048576):bits .and .i64 ((u:Int) / 2^k) 1=(((u.testBit k).toNat:Nat):Int):=by
 have h1:((u:Int) / 2^k)=((u / 2^k:Nat):Int):=by rw[Int.natCast_ediv,Int.natCast_pow];rfl
 have h2:u / 2^k≤u:=Nat.div_le_self _ _
 have h3:bits .and .i64 ((u / 2^k:Nat):Int) 1=((u / 2^k&&&1:Nat):Int):=EX (u / 2^k) 1 (by omega) (by decide)
 rw[h1,h3,Nat.and_one_is_mod,Kc]
theorem U6(k:Nat)(h:k<10):AT ((k:Int)+1)=true:=by simp only[AT,Bool.and_eq_true,bne_iff_ne,decide_eq_true_eq];omega
theorem WN(k:Nat)(h:k<10):AT (-((k:Int)+1))=true:=by simp only[AT,Bool.and_eq_true,bne_iff_ne,decide_eq_true_eq];omega
set_option maxHeartbeats 2000000 in
theorem Zt(u:Nat)(hu:u<1024)(w:World):Calls Tryz.prog 107 #[.int .i64 u] w fun e w'=>e=.returned (.int .i64 (Cf u:Nat))∧w'=w:=by
 go_enter Tryz.func107,Tryz.ntmps107
 go_wp2
 go_loop [3,4] (fun x i=>∃ k:Nat,k≤10∧i=.int .i64 (k+1:Nat)∧x=.int .i64 (DM u k:Nat)) (fun _ i=>11 - (intOf i).toNat)
 case atStart=>exact⟨0,by omega,rfl,rfl⟩
 case round =>
  obtain⟨k,hk,rfl,rfl⟩:=hrel
  have hle:=Ow u k hk
  by_cases hlt:k<10
  ·have hbi:=aO u k (by omega)
   cases hb:u.testBit k with
   | true =>
    have hBB:Hid (∀ w,Calls Tryz.prog 75 #[.int .i64 ((k:Int)+1)] w fun e w'=>e=.returned (.int .i64 (2^(2*k):Nat))∧w'=w):=fun w=>by rw[← Xo];exact MJ _ (U6 k hlt) w
    have hpl:2^(2*k)<2^20:=Nat.pow_lt_pow_right (by decide) (by omega)
    have HT:Hid (DM u (k+1)=DM u k|||2^(2*k)):=by show _=_;simp only[DM,hb,if_true]
    generalize 2^(2*k)=z at *
    have HO:Hid (bits .or .i64 (DM u k:Int) (z:Int)=((DM u k|||z:Nat):Int)):=IU _ z (by omega) (by omega)
    rw[hb] at hbi
    simp only[Bool.toNat_true] at hbi
    generalize DM u k=q at *
    clear hb
    go_wp2_with (go_at_call 75;refine(AE hBB _).mono ?_;rintro e w' ⟨rfl,hw⟩;obtain rfl:=hw.symm)
    go_round
    case rel=>exact⟨k+1,by omega,by go_num,by rw[HT.out];exact congrArg (Value.int .i64) HO.out⟩
    case measure=>simp[intOf];omega
   | false =>
    have hBB:Hid (∀ w,Calls Tryz.prog 75 #[.int .i64 (-((k:Int)+1))] w fun e w'=>e=.returned (.int .i64 (2^(2*k+1):Nat))∧w'=w):=fun w=>by rw[← Xn];exact MJ _ (WN k hlt) w
    have hpl:2^(2*k+1)<2^20:=Nat.pow_lt_pow_right (by decide) (by omega)
    have HT:Hid (DM u (k+1)=DM u k|||2^(2*k+1)):=by show _=_;simp only[DM,hb,if_false,Bool.false_eq_true]
    generalize 2^(2*k+1)=z at *
    have HO:Hid (bits .or .i64 (DM u k:Int) (z:Int)=((DM u k|||z:Nat):Int)):=IU _ z (by omega) (by omega)
    rw[hb] at hbi
    simp only[Bool.toNat_false] at hbi
    generalize DM u k=q at *
    clear hb
    go_wp2_with (go_at_call 75;refine(AE hBB _).mono ?_;rintro e w' ⟨rfl,hw⟩;obtain rfl:=hw.symm)
    go_round
    case rel=>exact⟨k+1,by omega,by go_num,by rw[HT.out];exact congrArg (Value.int .i64) HO.out⟩
    case measure=>simp[intOf];omega
  ·obtain rfl:k=10:=by omega
   go_wp2
   go_ret
   exact⟨rfl,rfl⟩
def EH(cs:List Nat)(m u:Nat):Bool:=cs.all (fun c=>c&&&Cf u != 0) && (m&&&Cf u == m)
set_option maxHeartbeats 2000000 in
theorem Ma(a:Option Addr)(c:Nat)(cs:List Nat)(m u:Nat)(w:World)(hr:AS w a (A8 cs))(hbd:cs.length≤9223372036854775000)(hm:m<1048576)(hu:u<1024)(hc:∀ x∈cs,x<1048576) :
  Calls Tryz.prog 78 #[.slice a cs.length c,.int .i64 m,.int .i64 u] w fun e w'=>e=.returned (.bool (EH cs m u))∧w'=w:=by
 have HTR:=AB (Zt u hu w)
 have htl:=Sa u
 have HC:=AB hc
 have HR:=AB hr
 have HRES:Hid (EH cs m u=(cs.all (fun c=>c&&&Cf u != 0) && (m&&&Cf u == m))):=rfl
 generalize EH cs m u=RES at *
 generalize Cf u=tu at *
 clear hc hr
 go_enter Tryz.func78,Tryz.ntmps78
 go_wp2_with fail
 refine(AE HTR).mono ?_
 rintro e w' ⟨rfl,hw⟩
 obtain rfl:=hw.symm
 clear HTR
 go_wp2_with fail
 go_loop [8] (fun i=>∃ k:Nat,k≤cs.length∧i=.int .i64 k∧Hid (RES=((cs.drop k).all (fun c=>c&&&tu != 0) && (m&&&tu == m)))) (fun i=>cs.length - (intOf i).toNat)
 case atStart=>exact⟨0,Nat.zero_le _,rfl,HRES⟩
 case round =>
  clear HRES
  obtain⟨k,hk,rfl,HF⟩:=hrel
  by_cases hlt:k<cs.length
  ·obtain⟨b,off,rfl,hcl⟩:=FX HR.out (by omega)
   have h1:=hcl k hlt
   have hx:=HC.out _ (Fh cs k hlt)
   have hf:=HF.out
   rw[Cc cs 0 k hlt] at hf
   simp only[List.all_cons] at hf
   generalize cs.getD k 0=x at *
   have ha:=EX x tu (by omega) (by omega)
   have HF2:=AB hf
   clear hf HF hcl
   generalize x&&&tu=y at *
   by_cases hy:y=0
   ·subst hy
    have HRN:Hid (RES=false):=by show _=_;rw[HF2.out];simp
    go_wp2
    go_ret
    exact⟨Am HRN.out.symm,rfl⟩
   ·have hyb:((y:Int) == 0)=false:=by rw[beq_eq_false_iff_ne];omega
    have HRN:Hid (RES=((cs.drop (k+1)).all (fun c=>c&&&tu != 0) && (m&&&tu == m))):=by
     show _=_
     rw[HF2.out]
     have:(y != 0)=true:=bne_iff_ne.2 hy
     rw[this,Bool.true_and]
    clear hy HF2
    go_wp2
    go_round
    case rel=>exact⟨k+1,by omega,by go_num,HRN⟩
    case measure=>simp[intOf];omega
  ·have HRN:Hid (RES=(m&&&tu == m)):=by
    show _=_
    rw[HF.out,List.drop_eq_nil_of_le (by omega)]
    simp
   have ha:=EX m tu (by omega) (by omega)
   have hb:(((m&&&tu:Nat):Int) == (m:Int))=(m&&&tu == m):=by
    rw[Bool.eq_iff_iff];simp only[beq_iff_eq];omega
   clear HF
   go_wp2
   go_ret
   exact⟨by rw[HRN.out,← hb,← ha];rfl,rfl⟩
def LF(cs:List Nat)(m:Nat):Bool:=(List.range 1024).any (EH cs m)
set_option maxHeartbeats 2000000 in
theorem Zb(a:Option Addr)(c:Nat)(cs:List Nat)(m:Nat)(w:World)(hr:AS w a (A8 cs))(hbd:cs.length≤9223372036854775000)(hm:m<1048576)(hc:∀ x∈cs,x<1048576) :
  Calls Tryz.prog 80 #[.slice a cs.length c,.int .i64 m] w fun e w'=>e=.returned (.bool (LF cs m))∧w'=w:=by
 have HAL:Hid (∀ u:Nat,u<1024→Calls Tryz.prog 78 #[.slice a cs.length c,.int .i64 m,.int .i64 u] w fun e w'=>e=.returned (.bool (EH cs m u))∧w'=w):=fun u hu=>Ma a c cs m u w hr hbd hm hu hc
 have HRES:Hid (∀ k,k≤1024→(∀ u,u<k→EH cs m u=false)→LF cs m=((List.range 1024).drop k).any (EH cs m)):=by
  intro k hk h
  unfold LF
  have e:=List.take_append_drop k (List.range 1024)
  rw[← e,List.any_append]
  have:((List.range 1024).take k).any (EH cs m)=false:=by
   rw[List.any_eq_false]
   intro u hu
   rw[List.take_range] at hu
   have:=List.mem_range.1 hu
   rw[h u (by omega)]
   simp
  rw[this,Bool.false_or,e]
 have HYES:Hid (∀ u,u<1024→EH cs m u=true→LF cs m=true):=fun u hu h=>List.any_eq_true.2 ⟨u,List.mem_range.2 hu,h⟩
 generalize LF cs m=RES at *
 generalize EH cs m=al at *
 clear hr hc
 go_enter Tryz.func80,Tryz.ntmps80
 go_wp2_with fail
 go_loop [5] (fun i=>∃ k:Nat,k≤1024∧i=.int .i64 k∧Hid (∀ u,u<k→al u=false)) (fun i=>1024 - (intOf i).toNat)
 case atStart=>exact⟨0,by omega,rfl,fun u hu=>by omega⟩
 case round =>
  obtain⟨k,hk,rfl,HF⟩:=hrel
  by_cases hlt:k<1024
  ·have HA:=AB (HAL.out k hlt)
   have hk2:(k:Int)<1024:=by omega
   cases hb:al k with
   | true =>
    rw[hb] at HA
    have HRN:=AB (HYES.out k hlt hb)
    go_wp2_with (go_at_call 78;refine(AE HA).mono ?_;rintro e w' ⟨rfl,hw⟩;obtain rfl:=hw.symm)
    go_ret
    exact⟨Am HRN.out.symm,rfl⟩
   | false =>
    rw[hb] at HA
    have HB:=AB hb
    clear hb
    go_wp2_with (go_at_call 78;refine(AE HA).mono ?_;rintro e w' ⟨rfl,hw⟩;obtain rfl:=hw.symm)
    go_round
    case rel=>exact⟨k+1,by omega,by go_num,fun u hu=>by by_cases e:u=k;subst e;exact HB.out;exact HF.out u (by omega)⟩
    case measure=>simp[intOf];omega
  ·obtain rfl:k=1024:=by omega
   have HRN:Hid (RES=false):=by
    have:=HRES.out 1024 (by omega) HF.out
    rw[List.drop_eq_nil_of_le (by simp)] at this
    exact this
   go_wp2
   go_ret
   exact⟨Am HRN.out.symm,rfl⟩
theorem RH(a b:Nat):((a:Int) == (b:Int))=(a == b):=by
 rw[Bool.eq_iff_iff]
 simp only[beq_iff_eq]
 omega
theorem Nc(u i:Nat)(hi:i<20):(AW (Cf u)).testBit i=!(Cf u).testBit i:=by
 have key:∀ v,v<10→(Cf u).testBit (2*v)=u.testBit v∧(Cf u).testBit (2*v+1)=!u.testBit v:=by
  intro v hv
  unfold Cf
  rw[JP,JP,show 2*v / 2=v by omega,show(2*v+1) / 2=v by omega,decide_eq_true hv,if_pos (by omega),if_neg (by omega)]
  exact⟨Bool.true_and _,Bool.true_and _⟩
 rcases Nat.mod_two_eq_zero_or_one i with e | e
 ·have ei:i=2*(i / 2):=by omega
  obtain⟨k1,k2⟩:=key (i / 2) (by omega)
  rw[ei,GH _ _ (by omega),k1,k2]
 ·have ei:i=2*(i / 2)+1:=by omega
  obtain⟨k1,k2⟩:=key (i / 2) (by omega)
  rw[ei,G9 _ _ (by omega),k1,k2,Bool.not_not]
theorem XM(u:Nat):BN (Cf u)=false:=by
 have:Cf u&&&AW (Cf u)=0:=by
  apply Nat.eq_of_testBit_eq
  intro i
  rw[Nat.zero_testBit,Nat.testBit_and]
  by_cases hi:i<20
  ·rw[Nc u i hi];cases (Cf u).testBit i <;> rfl
  ·rw[Nat.testBit_lt_two_pow (Nat.lt_of_lt_of_le (Sa u) (Nat.pow_le_pow_right (n:=2) (i:=20) (by decide) (by omega)))];rfl
 simp[BN,this]
theorem XJ(u c:Nat)(hc:c<1048576):Av c (Cf u)=c&&&Cf u:=by
 apply Nat.eq_of_testBit_eq
 intro i
 rw[EZ,Nat.testBit_and]
 by_cases hi:i<20
 ·rw[Nc u i hi,Bool.not_not]
 ·rw[Nat.testBit_lt_two_pow (Nat.lt_of_lt_of_le hc (Nat.pow_le_pow_right (n:=2) (i:=20) (by decide) (by omega)))];rfl
theorem Lr{cs:List Nat}{k u:Nat}(hc:∀ c∈cs,c<1048576)(ha:∀ c∈cs,c&&&Cf u≠0)(hk:AM k (Cf u)):Ab cs k=false:=by
 refine Dd (K:=Cf u) (fun c hcc=>?_) (XM u) hk
 rw[XJ u c (hc c hcc)]
 exact⟨ha c hcc,fun _ i q=>by rw[Nat.testBit_and,Bool.and_eq_true] at q;exact q.2⟩
def DK(v:Nat):Nat:=v&&&(18446744073709551616 - v)
theorem ai:∀ (v n:Nat),v≠0→v<2^n→∃ j,v.testBit j=true∧v&&&(2^n - v)=2^j:=by
 intro v
 induction v using Nat.strongRecOn with
 | ind v ih =>
  intro n h0 hn
  cases n with
  | zero=>simp at hn;omega
  | succ n =>
   have hp:2^(n+1)=2*2^n:=by rw[Nat.pow_succ];omega
   have e1:(v&&&(2^(n+1) - v)) / 2=v / 2&&&(2^(n+1) - v) / 2:=Nat.and_div_two
   have e2:(v&&&(2^(n+1) - v)) % 2=(v % 2)&&&((2^(n+1) - v) % 2):=by
    have:=@Nat.and_mod_two_pow v (2^(n+1) - v) 1
    simpa using this
   rcases Nat.mod_two_eq_zero_or_one v with a | a
   ·obtain⟨j,hj,hj2⟩:=ih (v / 2) (by omega) n (by omega) (by omega)
    have e3:(2^(n+1) - v) / 2=2^n - v / 2:=by omega
    rw[a,Nat.zero_and] at e2
    rw[e3,hj2] at e1
    refine⟨j+1,by rw[Nat.testBit_succ];exact hj,?_⟩
    rw[Nat.pow_succ 2 j]
    omega
   ·have e3:(2^(n+1) - v) / 2=2^n - (v / 2+1):=by omega
    have e4:(2^(n+1) - v) % 2=1:=by omega
    rw[a,e4] at e2
    have e5:v / 2&&&(2^n - (v / 2+1))=0:=by
     apply Nat.eq_of_testBit_eq
     intro i
     rw[Nat.zero_testBit,Nat.testBit_and,Nat.testBit_two_pow_sub_succ (by omega)]
     cases (v / 2).testBit i <;> simp
    rw[e3,e5] at e1
    have e6:(1&&&1:Nat)=1:=rfl
    rw[e6] at e2
    exact⟨0,by rw[Nat.testBit_zero,a];rfl,by omega⟩
theorem U7(v:Nat)(hv:v<1048576):bits .and .i64 (v:Int) (-(v:Int))=((DK v:Nat):Int):=by
 by_cases h0:v=0
 ·subst h0;decide
 ·have hle:DK v≤v:=Nat.and_le_left
  have e1:(BitVec.ofInt IntKind.i64.bits (v:Int)).toNat=v:=by
   show(BitVec.ofInt 64 (v:Int)).toNat=v
   rw[BitVec.toNat_ofInt]
   omega
  have e2:(BitVec.ofInt IntKind.i64.bits (-(v:Int))).toNat=18446744073709551616 - v:=by
   show(BitVec.ofInt 64 (-(v:Int))).toNat=_
   rw[BitVec.toNat_ofInt]
   omega
  unfold bits
  simp only[BitVec.toNat_and]
  rw[e1,e2]
  exact Jo _ (by omega) (by show((DK v:Nat):Int)<_;omega)
def EC(p c:Nat):Nat:=if An c&&&p=0 then p else p|||An c
def DS(cs:List Nat):Nat→Nat→Nat
 | 0,p=>p
 | m+1,p=>DS cs m (cs.foldl EC p)
def Cj(cs:List Nat)(v:Nat):Bool:=v&&&DS cs 10 (DK v) == v
theorem YX{p c:Nat}(hp:p<1048576):EC p c<1048576:=by
 unfold EC
 split
 ·exact hp
 ·exact Nat.or_lt_two_pow (n:=20) hp (Ec c)
theorem U0:∀ (cs:List Nat) (p:Nat),p<1048576→cs.foldl EC p<1048576:=by
 intro cs
 induction cs with
 | nil=>intro p h;exact h
 | cons c cs ih=>intro p h;exact ih _ (YX h)
set_option maxHeartbeats 4000000 in
theorem Te(a:Option Addr)(c:Nat)(cs:List Nat)(v:Nat)(w:World)(hr:AS w a (A8 cs))(hbd:cs.length≤9223372036854775000)(hv:v<1048576)(hc:∀ x∈cs,x<1048576) :
  Calls Tryz.prog 108 #[.slice a cs.length c,.int .i64 v] w fun e w'=>e=.returned (.bool (Cj cs v))∧w'=w:=by
 have hlo:=U7 v hv
 have hll:DK v<1048576:=Nat.lt_of_le_of_lt Nat.and_le_left hv
 have HC:=AB hc
 have HR:=AB hr
 have HRES:Hid (Cj cs v=(v&&&DS cs 10 (DK v) == v)):=rfl
 generalize Cj cs v=RES at *
 generalize DK v=lo at *
 clear hc hr
 go_enter Tryz.func108,Tryz.ntmps108
 go_wp2_with fail
 go_loop [5,6] (fun x5 x6=>∃ (r p:Nat),r≤10∧p<1048576∧x5=.int .i64 p∧x6=.int .i64 r∧Hid (RES=(v&&&DS cs (10 - r) p == v))) (fun _ x6=>10 - (intOf x6).toNat)
 case atStart=>exact⟨0,lo,by omega,hll,rfl,rfl,HRES⟩
 case round =>
  clear HRES
  obtain⟨r,p,hr10,hp,rfl,rfl,HF⟩:=hrel
  by_cases hlt:r<10
  ·have HP:Hid (RES=(v&&&DS cs (9 - r) (cs.foldl EC p) == v)):=by
    show _=_
    rw[HF.out,show 10 - r=(9 - r)+1 by omega]
    rfl
   generalize hpq:cs.foldl EC p=PQ at HP
   have HPQ:=AB hpq
   have hr9:(r:Int)<10:=by omega
   clear hpq HF
   go_wp2_with fail
   go_loop [5,7] (fun x5 x7=>∃ (i q:Nat),i≤cs.length∧q<1048576∧x5=.int .i64 q∧x7=.int .i64 i∧Hid ((cs.drop i).foldl EC q=PQ)) (fun _ x7=>cs.length - (intOf x7).toNat)
   case atStart=>exact⟨0,p,Nat.zero_le _,hp,rfl,rfl,HPQ⟩
   case round =>
    clear HPQ hp
    obtain⟨i,q,hi,hq,rfl,rfl,HI⟩:=hrel
    by_cases hlti:i<cs.length
    ·obtain⟨b,off,rfl,hcl⟩:=FX HR.out (by omega)
     have h1:=hcl i hlti
     have hx:=HC.out _ (Fh cs i hlti)
     have hi2:=HI.out
     rw[Cc cs 0 i hlti] at hi2
     simp only[List.foldl_cons] at hi2
     generalize cs.getD i 0=x at *
     have HV:=AB (LQ x hx w)
     have hvl:=Ec x
     have hL:EC q x=if An x&&&q=0 then q else q|||An x:=rfl
     rw[hL] at hi2
     generalize An x=vx at *
     have ha:=EX vx q (by omega) (by omega)
     have ho:=IU q vx (by omega) (by omega)
     have hol:q|||vx<1048576:=Nat.or_lt_two_pow (n:=20) hq hvl
     by_cases hz:vx&&&q=0
     ·rw[if_pos hz] at hi2
      rw[hz] at ha
      have HI2:=AB hi2
      clear hi2 hcl HI hL hz
      go_wp2_with (go_at_call 35;refine(AE HV).mono ?_;rintro e w' ⟨rfl,hw⟩;obtain rfl:=hw.symm)
      go_round
      case rel=>exact⟨i+1,q,by omega,hq,rfl,by go_num,HI2⟩
      case measure=>simp[intOf];omega
     ·rw[if_neg hz] at hi2
      have hzb:(((vx&&&q:Nat):Int) != 0)=true:=by rw[bne_iff_ne];omega
      have HI2:=AB hi2
      generalize vx&&&q=y at *
      generalize q|||vx=qn at *
      clear hi2 hcl HI hL hz
      go_wp2_with (go_at_call 35;refine(AE HV).mono ?_;rintro e w' ⟨rfl,hw⟩;obtain rfl:=hw.symm)
      go_round
      case rel=>exact⟨i+1,qn,by omega,hol,rfl,by go_num,HI2⟩
      case measure=>simp[intOf];omega
    ·have HPN:Hid (q=PQ):=by
      have:=HI.out
      rw[List.drop_eq_nil_of_le (by omega)] at this
      exact this
     have HRN:Hid (RES=(v&&&DS cs (10 - (r+1)) q == v)):=by
      show _=_
      rw[HP.out,← HPN.out,show 10 - (r+1)=9 - r by omega]
     clear HP HI HPN
     go_wp2
     go_round
     case rel=>exact⟨r+1,q,by omega,hq,rfl,by go_num,HRN⟩
     case measure=>simp[intOf];omega
  ·obtain rfl:r=10:=by omega
   have HRN:Hid (RES=(v&&&p == v)):=HF.out
   have ha:=EX v p (by omega) (by omega)
   have hb:(((v&&&p:Nat):Int) == (v:Int))=(v&&&p == v):=RH _ _
   clear HF
   go_wp2
   go_ret
   exact⟨by rw[HRN.out,← hb,← ha];rfl,rfl⟩
def A9(xs:List Int)(b:Int):Int:=if 20<xs.length then 2 else if xs.all AT=false then 4 else if b<0 then 6 else 0
set_option maxHeartbeats 1000000 in
theorem Vf(a:Option Addr)(c:Nat)(xs:List Int)(b:Int)(w:World)(hr:AS w a xs)(hx:xs.length≤9223372036854775807) :
  Calls Tryz.prog 41 #[.slice a xs.length c,.int .i64 b] w fun e w'=>e=.returned (.int .i64 (A9 xs b))∧w'=w:=by
 have HS:=AB (FH a c xs w hx hr)
 clear hr
 by_cases h20:20<xs.length
 ·have HA:Hid (A9 xs b=2):=by show _=_;unfold A9;rw[if_pos h20]
  have h20i:(xs.length:Int) > 20:=by omega
  go_enter Tryz.func41,Tryz.ntmps41
  go_wp2
  go_ret
  exact⟨CJ HA.out.symm,rfl⟩
 ·have h20i:¬ (xs.length:Int) > 20:=by omega
  cases hall:xs.all AT with
  | false =>
   have HA:Hid (A9 xs b=4):=by show _=_;unfold A9;rw[if_neg h20,if_pos hall]
   rw[hall] at HS
   clear hall
   go_enter Tryz.func41,Tryz.ntmps41
   go_wp2_with (go_at_call 43;refine(AE HS).mono ?_;rintro e w' ⟨rfl,hw⟩;obtain rfl:=hw.symm)
   go_ret
   exact⟨CJ HA.out.symm,rfl⟩
  | true =>
   rw[hall] at HS
   by_cases hb:b<0
   ·have HA:Hid (A9 xs b=6):=by show _=_;unfold A9;rw[if_neg h20,if_neg (by simp[hall]),if_pos hb]
    clear hall
    go_enter Tryz.func41,Tryz.ntmps41
    go_wp2_with (go_at_call 43;refine(AE HS).mono ?_;rintro e w' ⟨rfl,hw⟩;obtain rfl:=hw.symm)
    go_ret
    exact⟨CJ HA.out.symm,rfl⟩
   ·have HA:Hid (A9 xs b=0):=by show _=_;unfold A9;rw[if_neg h20,if_neg (by simp[hall]),if_neg hb]
    clear hall
    go_enter Tryz.func41,Tryz.ntmps41
    go_wp2_with (go_at_call 43;refine(AE HS).mono ?_;rintro e w' ⟨rfl,hw⟩;obtain rfl:=hw.symm)
    go_ret
    exact⟨CJ HA.out.symm,rfl⟩
theorem WB(ns:List Nd)(t f:Nat):∀ (m k a:Nat),m+k=10→BI ns t f k=some a→Bn ns a (CV t f (k+1) m)=(match BI ns t f 10 with | none=>0 | some b=>(ns.getD b Ao).c):=by
 intro m
 induction m with
 | zero =>
  intro k a hk hd
  have e:k=10:=by omega
  subst e
  rw[hd]
  rfl
 | succ m ih =>
  intro k a hk hd
  have hs:BI ns t f (k+1)=if (ns.getD a Ao).nx (EG t f ((k+1:Nat):Int))=0 then none else some ((ns.getD a Ao).nx (EG t f ((k+1:Nat):Int))):=by simp only[BI,hd]
  simp only[CV,Bn]
  by_cases hz:(ns.getD a Ao).nx (EG t f ((k+1:Nat):Int))=0
  ·rw[if_pos hz] at hs ⊢
   have h2:=Lt (10 - (k+1)) (k+1) hs
   rw[show k+1+(10 - (k+1))=10 by omega] at h2
   rw[h2]
  ·rw[if_neg hz] at hs ⊢
   exact ih (k+1) _ (by omega) hs
theorem Iz(ns:List Nd)(t f:Nat):Bn ns 0 (CV t f 1 10)=(match BI ns t f 10 with | none=>0 | some b=>(ns.getD b Ao).c):=WB ns t f 10 0 0 rfl rfl
theorem Wo{ns:List Nd}(hw:Wf ns)(hp:0<ns.length){path:Nat→List Nat}(h:aH ns path)(t f:Nat):∀ (k a:Nat),BI ns t f k=some a→path a=CV t f 1 k:=by
 intro k
 induction k with
 | zero=>intro a e;simp only[BI,Option.some.injEq] at e;rw[← e];exact h.root
 | succ k ih =>
  intro a e
  simp only[BI] at e
  split at e
  ·simp at e
  ·rename_i b hb
   split at e
   ·simp at e
   ·rename_i hz
    simp only[Option.some.injEq] at e
    rw[← e,h.step b (El hw hp t f k b hb) _ (Fl _ _ _) hz,ih b hb,Oz,show 1+k=k+1 by omega]
theorem Iv{ns ns':List Nd}(hnx:∀ b k,(ns'.getD b Ao).nx k=(ns.getD b Ao).nx k)(t f:Nat):∀ k,BI ns' t f k=BI ns t f k:=by
 intro k
 induction k with
 | zero=>rfl
 | succ k ih=>simp only[BI,ih,hnx]
theorem UD{ns:List Nd}{a:Nat}(ha:a<ns.length)(x:Nat)(b k:Nat):((ns.set a { ns.getD a Ao with c:=x }).getD b Ao).nx k=(ns.getD b Ao).nx k:=by
 rw[Bg _ _ _ _ ha]
 split
 ·rename_i e;rw[e];rfl
 ·rfl
theorem XX.drop_leaf{ns ns':List Nd}(h:XX ns){t f:Nat}(hd:Ds ns t f=some ns'):(∀ ws,(∀ j∈ws,j<4)→ws≠CV t f 1 10→Bn ns' 0 ws=Bn ns 0 ws)∧Bn ns' 0 (CV t f 1 10)+1=Bn ns 0 (CV t f 1 10):=by
 unfold Ds at hd
 cases ha:BI ns t f 10 with
 | none=>rw[ha] at hd;simp at hd
 | some a =>
  have hal:=El h.wf h.pos t f 10 a ha
  rw[ha] at hd
  simp only at hd
  split at hd
  ·simp at hd
  ·rename_i hz
   simp only[Option.some.injEq] at hd
   subst hd
   obtain⟨path,hp⟩:=h.path
   refine⟨fun ws h4 hne=>Qv h.wf hp hal _ ws 0 h.pos h4 ?_,?_⟩
   ·rw[hp.root,Wo h.wf h.pos hp t f 10 a ha]
    exact hne
   ·rw[Iz,Iz,Iv (UD hal _),ha]
    simp only
    rw[Bg _ _ _ _ hal,if_pos rfl]
    show(ns.getD a Ao).c - 1+1=_
    omega
theorem Vs{ns:List Nd}{t f:Nat}:Ds ns t f=none↔Bn ns 0 (CV t f 1 10)=0:=by
 rw[Iz]
 unfold Ds
 cases ha:BI ns t f 10 with
 | none=>simp
 | some a =>
  simp
theorem aV{ns:List Nd}{a k:Nat}(ha:a<ns.length)(hk:k<4)(b j:Nat)(hj:j<4)(hn:(ns.getD b Ao).nx j≠0):((DB ns a k).1.getD b Ao).nx j=(ns.getD b Ao).nx j:=by
 unfold DB
 split
 ·rename_i hz
  show((ns.set a ((ns.getD a Ao).put k ns.length)++[Ao]).getD b Ao).nx j=_
  rw[Em,Bg _ _ _ _ ha]
  split
  ·rename_i e
   rw[e] at hn ⊢
   exact Li _ hk hj (fun e2=>hn (by rw[e2];exact hz))
  ·rfl
 ·rfl
theorem Qa{ns:List Nd}{a k:Nat}(ha:a<ns.length)(hk:k<4)(t f:Nat):∀ (j b:Nat),BI ns t f j=some b→BI (DB ns a k).1 t f j=some b:=by
 intro j
 induction j with
 | zero=>intro b h;exact h
 | succ j ih =>
  intro b h
  simp only[BI] at h ⊢
  split at h
  ·simp at h
  ·rename_i c hc
   split at h
   ·simp at h
   ·rename_i hz
    simp only[Option.some.injEq] at h
    rw[ih c hc]
    simp only
    rw[aV ha hk c _ (Fl _ _ _) hz,if_neg hz,h]
theorem So{ns:List Nd}(hw:Wf ns)(hp:0<ns.length)(t f:Nat):∀ k,BI (BJ ns t f k).1 t f k=some (BJ ns t f k).2:=by
 intro k
 induction k with
 | zero=>rfl
 | succ k ih =>
  obtain⟨w1,w2,w3⟩:=Fm hw hp t f k
  have h1:=Qa w2 (Fl t f ((k+1:Nat):Int)) t f k _ ih
  show BI (DB (BJ ns t f k).1 (BJ ns t f k).2 (EG t f ((k+1:Nat):Int))).1 t f (k+1)=_
  simp only[BI,h1]
  show _=some (DB (BJ ns t f k).1 (BJ ns t f k).2 (EG t f ((k+1:Nat):Int))).2
  generalize hwy:EG t f ((k+1:Nat):Int)=wy at *
  have hwl:wy<4:=hwy ▸ Fl t f _
  unfold DB
  split
  ·rename_i hz
   show(if ((((BJ ns t f k).1.set _ _)++[Ao]).getD _ Ao).nx wy=0 then none else some _)=some _
   rw[OS w2,Nd.put_nx _ hwl,if_neg (by omega)]
  ·rfl
theorem XX.add_leaf{ns:List Nd}(h:XX ns)(t f c:Nat):Bn (EU ns t f c) 0 (CV t f 1 10)=Bn ns 0 (CV t f 1 10)+c:=by
 obtain⟨path,hp⟩:=h.path
 obtain⟨_,q3⟩:=MZ h.wf h.pos hp t f 10
 obtain⟨w1,w2,w3⟩:=Fm h.wf h.pos t f 10
 have hd:=So h.wf h.pos t f 10
 have h4:∀ j∈CV t f 1 10,j<4:=by
  intro j hj
  simp only[CV,List.mem_cons,List.not_mem_nil,or_false] at hj
  rcases hj with rfl|rfl|rfl|rfl|rfl|rfl|rfl|rfl|rfl|rfl <;> exact Fl _ _ _
 rw[← q3 _ h4,Iz,Iz,hd]
 unfold EU
 rw[Iv (UD w2 _),hd]
 simp only
 rw[Bg _ _ _ _ w2,if_pos rfl]
set_option maxHeartbeats 4000000 in
theorem VY(g:Nat)(a:Option Addr)(c:Nat)(xs:List Int)(r h l:Int)(ta:Option Addr)(ss:List Pr)(tc em se:Nat)(w:World)(hx:xs.length≤9223372036854775807)(hi:AS w a xs)(hall:xs.all AT=true)(ht:(Al xs&&&Ak xs != 0)=false)
  (hr:AY w g 107 (DY r h l ta ss.length tc em se)) (hz:A7 (Al xs,Ak xs)=0) (hem:em≤9223372036854775806) :
  Calls Tryz.prog 30 #[.pointer (some ⟨g,0,none⟩),.slice a xs.length c] w fun e w'=>e=.returned (.int .i64 0)∧AY w' g 107 (DY r h l ta ss.length tc (em+1) se)∧Eh w w' g (.slice none 0 0):=by
 have HO:=AB (Fa a c xs w hx hi)
 have e1:Cm xs=Al xs:=by simp[Cm,hall]
 have e2:Ck xs=Ak xs:=by simp[Ck,hall]
 have HT:Hid (∀ w,Calls Tryz.prog 60 #[.agg #[.int .i64 (Al xs:Nat),.int .i64 (Ak xs:Nat)]] w fun e w'=>e=.returned (.bool false)∧Below w.heap.size w w'):=fun w=>by
  have:=EA (Al xs) (Ak xs) (DA xs hall) (Cy xs hall) w
  rwa [ht] at this
 have HZ:Hid (∀ w,Calls Tryz.prog 61 #[.agg #[.int .i64 (Al xs:Nat),.int .i64 (Ak xs:Nat)]] w fun e w'=>e=.returned (.int .i64 (A7 (Al xs,Ak xs):Nat))∧Below w.heap.size w w'):=fun w=>Eo (Al xs) (Ak xs) (DA xs hall) (Cy xs hall) w
 rw[hall,e1,e2] at HO
 have h1:=Es (Al xs,Ak xs)
 generalize A7 (Al xs,Ak xs)=z at *
 subst hz
 generalize Al xs=t at *
 generalize Ak xs=f at *
 have HR:=AB hr
 clear hi hall e1 e2 ht hr
 go_enter Tryz.func30,Tryz.ntmps30
 go_wp2_with fail
 refine(AE HO).mono ?_
 rintro e w2 ⟨rfl,hb2⟩
 have hs2:w.heap.size≤w2.heap.size:=hb2.size
 have HB:Hid (∀ x,Below w.heap.size w (w2.alloc x)):=fun x=>hb2.alloc hb2.size x
 clear hb2
 go_wp2_with fail
 refine(AE HT _).mono ?_
 have m0:=AH w2 [.int .i64 (t:Nat),.int .i64 (f:Nat)] 101 0 _ rfl
 have m1:=AH w2 [.int .i64 (t:Nat),.int .i64 (f:Nat)] 101 1 _ rfl
 rw[Ch] at m0 m1
 simp only[Nat.zero_add] at m0 m1
 have e3:w2.heap.size<(w2.alloc (.cells #[.int .i64 (t:Nat),.int .i64 (f:Nat)] 101)).heap.size:=by simp
 have hbb:=HB.out (.cells #[.int .i64 (t:Nat),.int .i64 (f:Nat)] 101)
 generalize w2.alloc (.cells #[.int .i64 (t:Nat),.int .i64 (f:Nat)] 101)=wb at *
 rintro e w3 ⟨rfl,hb3⟩
 have F:Hid (∀ w',Below w3.heap.size w3 w'→w'.cell? ⟨w2.heap.size,0,none⟩=some (.int .i64 (t:Nat))∧w'.cell? ⟨w2.heap.size,1,none⟩=some (.int .i64 (f:Nat))∧w'.cell? ⟨g,3,none⟩=some (.slice ta ss.length tc)∧Below w.heap.size w w'):=by
  intro w' hb
  have hw3:Below w.heap.size w w3:=hbb.trans (hb3.mono (by omega))
  have hw':Below w.heap.size w w':=hw3.trans (hb.mono hw3.size)
  have hx3:w2.heap.size<w3.heap.size:=Nat.lt_of_lt_of_le e3 hb3.size
  exact⟨(hb.cell (p:=⟨w2.heap.size,0,none⟩) hx3).trans ((hb3.cell (p:=⟨w2.heap.size,0,none⟩) e3).trans m0),(hb.cell (p:=⟨w2.heap.size,1,none⟩) hx3).trans ((hb3.cell (p:=⟨w2.heap.size,1,none⟩) e3).trans m1),((AF HR.out hw').cell 3).trans rfl,hw'⟩
 have hx3:w2.heap.size<w3.heap.size:=Nat.lt_of_lt_of_le e3 hb3.size
 clear hb3 hbb m0 m1 e3 HB HT HO
 obtain⟨f0,f1,f2,_⟩:=F.out w3 (Below.refl _ _)
 go_wp2_with fail
 refine(AE HZ _).mono ?_
 rintro e w4 ⟨rfl,hb4⟩
 have hbw:Below w.heap.size w w4:=(F.out w4 hb4).2.2.2
 have R2:=AB (AF HR.out hbw)
 have c4:w4.cell? ⟨g,4,none⟩=some (.int .i64 em):=(R2.out.cell 4).trans rfl
 have z4:=R2.out.frozen 4
 have HBW:=AB hbw
 have HE:Hid (((em+1:Nat):Int)=(em:Int)+1):=by show _=_;omega
 clear hb4 hbw F
 go_wp2
 go_ret
 refine⟨rfl,?_,(Eh.of g _ HBW.out).set 4 _⟩
 have:=R2.out.set 4 (.int .i64 ((em:Int)+1))
 rw[← HE.out] at this
 exact this
set_option maxHeartbeats 4000000 in
theorem Xi(g:Nat)(a:Option Addr)(c:Nat)(xs:List Int)(r h l:Int)(ta:Option Addr)(ss:List Pr)(tc em se:Nat)(w:World)(hx:xs.length≤9223372036854775807)(hi:AS w a xs)(hall:xs.all AT=true)(ht:(Al xs&&&Ak xs != 0)=false)
  (hr:AY w g 107 (DY r h l ta ss.length tc em se)) (hsa:Dy w ta ss) (hsl:ss.length≤1000000) (hsb:Hid (∀ p∈ss,p.1<2^11∧p.2<2^11)) (hz0:A7 (Al xs,Ak xs)≠0) (hfull:150<A7 (Al xs,Ak xs)+As ss) :
  Calls Tryz.prog 30 #[.pointer (some ⟨g,0,none⟩),.slice a xs.length c] w fun e w'=>e=.returned (.int .i64 5)∧Below w.heap.size w w':=by
 have HO:=AB (Fa a c xs w hx hi)
 have e1:Cm xs=Al xs:=by simp[Cm,hall]
 have e2:Ck xs=Ak xs:=by simp[Ck,hall]
 have HT:Hid (∀ w,Calls Tryz.prog 60 #[.agg #[.int .i64 (Al xs:Nat),.int .i64 (Ak xs:Nat)]] w fun e w'=>e=.returned (.bool false)∧Below w.heap.size w w'):=fun w=>by
  have:=EA (Al xs) (Ak xs) (DA xs hall) (Cy xs hall) w
  rwa [ht] at this
 have HZ:Hid (∀ w,Calls Tryz.prog 61 #[.agg #[.int .i64 (Al xs:Nat),.int .i64 (Ak xs:Nat)]] w fun e w'=>e=.returned (.int .i64 (A7 (Al xs,Ak xs):Nat))∧Below w.heap.size w w'):=fun w=>Eo (Al xs) (Ak xs) (DA xs hall) (Cy xs hall) w
 have HTT:Hid (∀ w',Below w.heap.size w w'→Calls Tryz.prog 62 #[.slice ta ss.length tc] w' fun e w''=>e=.returned (.int .i64 (As ss:Nat))∧Below w'.heap.size w' w''):=fun w' hb=>Fc ta tc ss w' (hsa.below hb) hsl hsb
 have h2:=GY ss
 rw[hall,e1,e2] at HO
 have h1:=Es (Al xs,Ak xs)
 generalize A7 (Al xs,Ak xs)=z at *
 generalize As ss=tot at *
 generalize Al xs=t at *
 generalize Ak xs=f at *
 have HR:=AB hr
 have hfi:((z:Int)+tot > 150):=by omega
 clear hi hall e1 e2 ht hr hsa
 go_enter Tryz.func30,Tryz.ntmps30
 go_wp2_with fail
 refine(AE HO).mono ?_
 rintro e w2 ⟨rfl,hb2⟩
 have hs2:w.heap.size≤w2.heap.size:=hb2.size
 have HB:Hid (∀ x,Below w.heap.size w (w2.alloc x)):=fun x=>hb2.alloc hb2.size x
 clear hb2
 go_wp2_with fail
 refine(AE HT _).mono ?_
 have m0:=AH w2 [.int .i64 (t:Nat),.int .i64 (f:Nat)] 101 0 _ rfl
 have m1:=AH w2 [.int .i64 (t:Nat),.int .i64 (f:Nat)] 101 1 _ rfl
 rw[Ch] at m0 m1
 simp only[Nat.zero_add] at m0 m1
 have e3:w2.heap.size<(w2.alloc (.cells #[.int .i64 (t:Nat),.int .i64 (f:Nat)] 101)).heap.size:=by simp
 have hbb:=HB.out (.cells #[.int .i64 (t:Nat),.int .i64 (f:Nat)] 101)
 generalize w2.alloc (.cells #[.int .i64 (t:Nat),.int .i64 (f:Nat)] 101)=wb at *
 rintro e w3 ⟨rfl,hb3⟩
 have F:Hid (∀ w',Below w3.heap.size w3 w'→w'.cell? ⟨w2.heap.size,0,none⟩=some (.int .i64 (t:Nat))∧w'.cell? ⟨w2.heap.size,1,none⟩=some (.int .i64 (f:Nat))∧w'.cell? ⟨g,3,none⟩=some (.slice ta ss.length tc)∧Below w.heap.size w w'):=by
  intro w' hb
  have hw3:Below w.heap.size w w3:=hbb.trans (hb3.mono (by omega))
  have hw':Below w.heap.size w w':=hw3.trans (hb.mono hw3.size)
  have hx3:w2.heap.size<w3.heap.size:=Nat.lt_of_lt_of_le e3 hb3.size
  exact⟨(hb.cell (p:=⟨w2.heap.size,0,none⟩) hx3).trans ((hb3.cell (p:=⟨w2.heap.size,0,none⟩) e3).trans m0),(hb.cell (p:=⟨w2.heap.size,1,none⟩) hx3).trans ((hb3.cell (p:=⟨w2.heap.size,1,none⟩) e3).trans m1),((AF HR.out hw').cell 3).trans rfl,hw'⟩
 have hx3:w2.heap.size<w3.heap.size:=Nat.lt_of_lt_of_le e3 hb3.size
 clear hb3 hbb m0 m1 e3 HB HT HO
 obtain⟨f0,f1,f2,_⟩:=F.out w3 (Below.refl _ _)
 go_wp2_with fail
 refine(AE HZ _).mono ?_
 rintro e w4 ⟨rfl,hb4⟩
 clear f0 f1 f2
 obtain⟨f0,f1,f2,_⟩:=F.out w4 hb4
 have Bc:Hid (Below w3.heap.size w3 w4.drew):=below_drewN hb4 1
 clear hb4
 have hwrap:IntKind.i64.wrap ((z:Int)+tot)=(z:Int)+tot:=by rw[IntKind.wrap_i64];omega
 have hzi:(((z:Nat):Int) == 0)=false:=by simp;omega
 go_wp2_with fail
 go_region_with (first
  | (go_at_call 61;refine(AE HZ _).mono ?_;rintro e wa ⟨rfl,hba⟩;have Bc:Hid (Below w3.heap.size w3 wa):=Bc.out.trans (hba.mono Bc.out.size);clear hba;obtain⟨f0,f1,f2,_⟩:=F.out wa Bc.out)
  | (go_at_call 62;refine(AE HTT _ (F.out _ Bc.out).2.2.2).mono ?_;rintro e wa ⟨rfl,hba⟩;have Bc:Hid (Below w3.heap.size w3 wa):=Bc.out.trans (hba.mono Bc.out.size);clear hba;obtain⟨f0,f1,f2,_⟩:=F.out wa Bc.out))
 all_goals
  go_wp2
  go_ret
  exact⟨rfl,(F.out _ Bc.out).2.2.2⟩
end Go.Proofs.YthboeppmlhbofaaGreatDoor
