import Derived.Test.YthboeppmlhbofaaDoorMoo
import Derived.Test.YthboeppmlhbofaaDoorOpp
import Derived.Test.YthboeppmlhbofaaDoorLns
namespace Go.Proofs.YthboeppmlhbofaaDoor
open Go.RowKit Txt
set_option maxRecDepth 100000
def G0(u:Nat):Nat→Nat
 | 0=>0
 | v+1=>G0 u v|||(if u.testBit v then 2^(2*v) else 2^(2*v+1))
def Be(u:Nat):Nat:=G0 u 10
theorem Sj(u:Nat):∀ v,v≤10→G0 u v<2^20:=by
 intro v
 induction v with
 | zero=>intro _;simp[G0]
 | succ v ih =>
  intro h
  simp only[G0]
  refine Nat.or_lt_two_pow (ih (by omega)) ?_
  split
  ·exact Nat.pow_lt_pow_right (by decide) (by omega)
  ·exact Nat.pow_lt_pow_right (by decide) (by omega)
theorem U5(u:Nat):Be u<1048576:=Sj u 10 (by omega)
theorem G5(u:Nat):∀ v j,(G0 u v).testBit j=(decide (j / 2<v) && (if j % 2=0 then u.testBit (j / 2) else !u.testBit (j / 2))):=by
 intro v
 induction v with
 | zero=>intro j;simp[G0]
 | succ v ih =>
  intro j
  simp only[G0]
  rw[Nat.testBit_or,ih]
  by_cases h:j / 2=v
  ·have h1:decide (j / 2<v)=false:=by simp;omega
   have h2:decide (j / 2<v+1)=true:=by simp;omega
   rw[h1,h2,Bool.false_and,Bool.false_or,Bool.true_and,h]
   rcases Nat.mod_two_eq_zero_or_one j with e | e
   ·rw[if_pos e]
    have ej:j=2*v:=by omega
    subst ej
    cases u.testBit v <;> simp only[Bool.false_eq_true,if_true,if_false,Nat.testBit_two_pow] <;> simp
   ·rw[if_neg (by omega:¬ j % 2=0)]
    have ej:j=2*v+1:=by omega
    subst ej
    cases u.testBit v <;> simp only[Bool.false_eq_true,if_true,if_false,Nat.testBit_two_pow] <;> simp
  ·have hz:(if u.testBit v=true then 2^(2*v) else 2^(2*v+1)).testBit j=false:=by
    split
    ·rw[Nat.testBit_two_pow];simp;omega
    ·rw[Nat.testBit_two_pow];simp;omega
   rw[hz,Bool.or_false]
   by_cases h3:j / 2<v
   ·rw[decide_eq_true h3,decide_eq_true (by omega:j / 2<v+1)]
   ·rw[decide_eq_false h3,decide_eq_false (by omega:¬ j / 2<v+1)]
theorem ZH(v:Nat):Cs ((v:Int)+1)=2^(2*v):=by
 unfold Cs
 rw[if_pos (by omega)]
 congr 1
 omega
theorem X7(v:Nat):Cs (-((v:Int)+1))=2^(2*v+1):=by
 unfold Cs
 rw[if_neg (by omega)]
 congr 1
 omega
theorem Yq(u k:Nat)(hu:u<1048576):bits .and .i64 ((u:Int) / 2^k) 1=(((u.testBit k).toNat:Nat):Int):=by
 have h1:((u:Int) / 2^k)=((u / 2^k:Nat):Int):=by rw[Int.natCast_ediv,Int.natCast_pow];rfl
 have h2:u / 2^k≤u:=Nat.div_le_self _ _
 have h3:bits .and .i64 ((u / 2^k:Nat):Int) 1=((u / 2^k&&&1:Nat):Int):=Eb (u / 2^k) 1 (by omega) (by decide)
 rw[h1,h3,Nat.and_one_is_mod,Ic]
theorem Yt(k:Nat)(h:k<10):AK ((k:Int)+1)=true:=by simp only[AK,Bool.and_eq_true,bne_iff_ne,decide_eq_true_eq];omega
theorem Xj(k:Nat)(h:k<10):AK (-((k:Int)+1))=true:=by simp only[AK,Bool.and_eq_true,bne_iff_ne,decide_eq_true_eq];omega
def EH(cs:List Nat)(m u:Nat):Bool:=cs.all (fun c=>c&&&Be u != 0) && (m&&&Be u == m)
def Ky(cs:List Nat)(m:Nat):Bool:=(List.range 1024).any (EH cs m)
theorem UK(a b:Nat):((a:Int) == (b:Int))=(a == b):=by
 rw[Bool.eq_iff_iff]
 simp only[beq_iff_eq]
 omega
theorem K9(u i:Nat)(hi:i<20):(AS (Be u)).testBit i=!(Be u).testBit i:=by
 have key:∀ v,v<10→(Be u).testBit (2*v)=u.testBit v∧(Be u).testBit (2*v+1)=!u.testBit v:=by
  intro v hv
  unfold Be
  rw[G5,G5,show 2*v / 2=v by omega,show(2*v+1) / 2=v by omega,decide_eq_true hv,if_pos (by omega),if_neg (by omega)]
  exact⟨Bool.true_and _,Bool.true_and _⟩
 rcases Nat.mod_two_eq_zero_or_one i with e | e
 ·have ei:i=2*(i / 2):=by omega
  obtain⟨k1,k2⟩:=key (i / 2) (by omega)
  rw[ei,Eh _ _ (by omega),k1,k2]
 ·have ei:i=2*(i / 2)+1:=by omega
  obtain⟨k1,k2⟩:=key (i / 2) (by omega)
  rw[ei,Fa _ _ (by omega),k1,k2,Bool.not_not]
theorem Sl(u:Nat):A4 (Be u)=false:=by
 have:Be u&&&AS (Be u)=0:=by
  apply Nat.eq_of_testBit_eq
  intro i
  rw[Nat.zero_testBit,Nat.testBit_and]
  by_cases hi:i<20
  ·rw[K9 u i hi];cases (Be u).testBit i <;> rfl
  ·rw[Nat.testBit_lt_two_pow (Nat.lt_of_lt_of_le (U5 u) (Nat.pow_le_pow_right (n:=2) (i:=20) (by decide) (by omega)))];rfl
 simp[A4,this]
theorem Sk(u c:Nat)(hc:c<1048576):Ah c (Be u)=c&&&Be u:=by
 apply Nat.eq_of_testBit_eq
 intro i
 rw[DO,Nat.testBit_and]
 by_cases hi:i<20
 ·rw[K9 u i hi,Bool.not_not]
 ·rw[Nat.testBit_lt_two_pow (Nat.lt_of_lt_of_le hc (Nat.pow_le_pow_right (n:=2) (i:=20) (by decide) (by omega)))];rfl
theorem Jd{cs:List Nat}{k u:Nat}(hc:∀ c∈cs,c<1048576)(ha:∀ c∈cs,c&&&Be u≠0)(hk:AH k (Be u)):AU cs k=false:=by
 refine CY (K:=Be u) (fun c hcc=>?_) (Sl u) hk
 rw[Sk u c (hc c hcc)]
 exact⟨ha c hcc,fun _ i q=>by rw[Nat.testBit_and,Bool.and_eq_true] at q;exact q.2⟩
def CV(v:Nat):Nat:=v&&&(18446744073709551616 - v)
theorem Vr:∀ (v n:Nat),v≠0→v<2^n→∃ j,v.testBit j=true∧v&&&(2^n - v)=2^j:=by
 intro v
 induction v using Nat.strongRecOn with
 | ind v ih =>
  intro n h0 hn
  cases n with
  | zero=>simp at hn;omega
  | succ n =>
   have hp:2^(n+1)=2*2^n:=by rw[Nat.pow_succ];omega
   have e1:(v&&&(2^(n+1) - v)) / 2=v / 2&&&(2^(n+1) - v) / 2:=Nat.and_div_two
   have e2:(v&&&(2^(n+1) - v)) % 2=(v % 2)&&&((2^(n+1) - v) % 2):=by
    have:=@Nat.and_mod_two_pow v (2^(n+1) - v) 1
    simpa using this
   rcases Nat.mod_two_eq_zero_or_one v with a | a
   ·obtain⟨j,hj,hj2⟩:=ih (v / 2) (by omega) n (by omega) (by omega)
    have e3:(2^(n+1) - v) / 2=2^n - v / 2:=by omega
    rw[a,Nat.zero_and] at e2
    rw[e3,hj2] at e1
    refine⟨j+1,by rw[Nat.testBit_succ];exact hj,?_⟩
    rw[Nat.pow_succ 2 j]
    omega
   ·have e3:(2^(n+1) - v) / 2=2^n - (v / 2+1):=by omega
    have e4:(2^(n+1) - v) % 2=1:=by omega
    rw[a,e4] at e2
    have e5:v / 2&&&(2^n - (v / 2+1))=0:=by
     apply Nat.eq_of_testBit_eq
     intro i
     rw[Nat.zero_testBit,Nat.testBit_and,Nat.testBit_two_pow_sub_succ (by omega)]
     cases (v / 2).testBit i <;> simp
    rw[e3,e5] at e1
    have e6:(1&&&1:Nat)=1:=rfl
    rw[e6] at e2
    exact⟨0,by rw[Nat.testBit_zero,a];rfl,by omega⟩
theorem Vs(v:Nat)(hv:v<1048576):bits .and .i64 (v:Int) (-(v:Int))=((CV v:Nat):Int):=by
 by_cases h0:v=0
 ·subst h0;decide
 ·have hle:CV v≤v:=Nat.and_le_left
  have e1:(BitVec.ofInt IntKind.i64.bits (v:Int)).toNat=v:=by
   show(BitVec.ofInt 64 (v:Int)).toNat=v
   rw[BitVec.toNat_ofInt]
   omega
  have e2:(BitVec.ofInt IntKind.i64.bits (-(v:Int))).toNat=18446744073709551616 - v:=by
   show(BitVec.ofInt 64 (-(v:Int))).toNat=_
   rw[BitVec.toNat_ofInt]
   omega
  unfold bits
  simp only[BitVec.toNat_and]
  rw[e1,e2]
  exact Hs _ (by omega) (by show((CV v:Nat):Int)<_;omega)
def Ds(p c:Nat):Nat:=if Ag c&&&p=0 then p else p|||Ag c
def DL(cs:List Nat):Nat→Nat→Nat
 | 0,p=>p
 | m+1,p=>DL cs m (cs.foldl Ds p)
def Ca(cs:List Nat)(v:Nat):Bool:=v&&&DL cs 10 (CV v) == v
theorem Tt{p c:Nat}(hp:p<1048576):Ds p c<1048576:=by
 unfold Ds
 split
 ·exact hp
 ·exact Nat.or_lt_two_pow (n:=20) hp (GJ c)
theorem Qc:∀ (cs:List Nat) (p:Nat),p<1048576→cs.foldl Ds p<1048576:=by
 intro cs
 induction cs with
 | nil=>intro p h;exact h
 | cons c cs ih=>intro p h;exact ih _ (Tt h)
def BJ(xs:List Int)(b:Int):Int:=if 20<xs.length then 2 else if xs.all AK=false then 4 else if b<0 then 6 else 0
theorem Rn(ns:List Nd)(t f:Nat):∀ (m k a:Nat),m+k=10→Ar ns t f k=some a→BK ns a (Bj t f (k+1) m)=(match Ar ns t f 10 with | none=>0 | some b=>(ns.getD b Ac).c):=by
 intro m
 induction m with
 | zero =>
  intro k a hk hd
  have e:k=10:=by omega
  subst e
  rw[hd]
  rfl
 | succ m ih =>
  intro k a hk hd
  have hs:Ar ns t f (k+1)=if (ns.getD a Ac).nx (C9 t f ((k+1:Nat):Int))=0 then none else some ((ns.getD a Ac).nx (C9 t f ((k+1:Nat):Int))):=by simp only[Ar,hd]
  simp only[Bj,BK]
  by_cases hz:(ns.getD a Ac).nx (C9 t f ((k+1:Nat):Int))=0
  ·rw[if_pos hz] at hs ⊢
   have h2:=Jf (10 - (k+1)) (k+1) hs
   rw[show k+1+(10 - (k+1))=10 by omega] at h2
   rw[h2]
  ·rw[if_neg hz] at hs ⊢
   exact ih (k+1) _ (by omega) hs
theorem Gt(ns:List Nd)(t f:Nat):BK ns 0 (Bj t f 1 10)=(match Ar ns t f 10 with | none=>0 | some b=>(ns.getD b Ac).c):=Rn ns t f 10 0 0 rfl rfl
theorem SH{ns:List Nd}(hw:Wf ns)(hp:0<ns.length){path:Nat→List Nat}(h:VT ns path)(t f:Nat):∀ (k a:Nat),Ar ns t f k=some a→path a=Bj t f 1 k:=by
 intro k
 induction k with
 | zero=>intro a e;simp only[Ar,Option.some.injEq] at e;rw[← e];exact h.root
 | succ k ih =>
  intro a e
  simp only[Ar] at e
  split at e
  ·simp at e
  ·rename_i b hb
   split at e
   ·simp at e
   ·rename_i hz
    simp only[Option.some.injEq] at e
    rw[← e,h.step b (Dc hw hp t f k b hb) _ (EM _ _ _) hz,ih b hb,L6,show 1+k=k+1 by omega]
theorem Gq{ns ns':List Nd}(hnx:∀ b k,(ns'.getD b Ac).nx k=(ns.getD b Ac).nx k)(t f:Nat):∀ k,Ar ns' t f k=Ar ns t f k:=by
 intro k
 induction k with
 | zero=>rfl
 | succ k ih=>simp only[Ar,ih,hnx]
theorem Ph{ns:List Nd}{a:Nat}(ha:a<ns.length)(x:Nat)(b k:Nat):((ns.set a { ns.getD a Ac with c:=x }).getD b Ac).nx k=(ns.getD b Ac).nx k:=by
 rw[A9 _ _ _ _ ha]
 split
 ·rename_i e;rw[e];rfl
 ·rfl
theorem Sz.drop_leaf{ns ns':List Nd}(h:Sz ns){t f:Nat}(hd:DI ns t f=some ns'):(∀ ws,(∀ j∈ws,j<4)→ws≠Bj t f 1 10→BK ns' 0 ws=BK ns 0 ws)∧BK ns' 0 (Bj t f 1 10)+1=BK ns 0 (Bj t f 1 10):=by
 unfold DI at hd
 cases ha:Ar ns t f 10 with
 | none=>rw[ha] at hd;simp at hd
 | some a =>
  have hal:=Dc h.wf h.pos t f 10 a ha
  rw[ha] at hd
  simp only at hd
  split at hd
  ·simp at hd
  ·rename_i hz
   simp only[Option.some.injEq] at hd
   subst hd
   obtain⟨path,hp⟩:=h.path
   refine⟨fun ws h4 hne=>Nk h.wf hp hal _ ws 0 h.pos h4 ?_,?_⟩
   ·rw[hp.root,SH h.wf h.pos hp t f 10 a ha]
    exact hne
   ·rw[Gt,Gt,Gq (Ph hal _),ha]
    simp only
    rw[A9 _ _ _ _ hal,if_pos rfl]
    show(ns.getD a Ac).c - 1+1=_
    omega
theorem Re{ns:List Nd}{t f:Nat}:DI ns t f=none↔BK ns 0 (Bj t f 1 10)=0:=by
 rw[Gt]
 unfold DI
 cases ha:Ar ns t f 10 with
 | none=>simp
 | some a =>
  simp
theorem Vk{ns:List Nd}{a k:Nat}(ha:a<ns.length)(hk:k<4)(b j:Nat)(hj:j<4)(hn:(ns.getD b Ac).nx j≠0):((CG ns a k).1.getD b Ac).nx j=(ns.getD b Ac).nx j:=by
 unfold CG
 split
 ·rename_i hz
  show((ns.set a ((ns.getD a Ac).put k ns.length)++[Ac]).getD b Ac).nx j=_
  rw[Dd,A9 _ _ _ _ ha]
  split
  ·rename_i e
   rw[e] at hn ⊢
   exact JR _ hk hj (fun e2=>hn (by rw[e2];exact hz))
  ·rfl
 ·rfl
theorem NT{ns:List Nd}{a k:Nat}(ha:a<ns.length)(hk:k<4)(t f:Nat):∀ (j b:Nat),Ar ns t f j=some b→Ar (CG ns a k).1 t f j=some b:=by
 intro j
 induction j with
 | zero=>intro b h;exact h
 | succ j ih =>
  intro b h
  simp only[Ar] at h ⊢
  split at h
  ·simp at h
  ·rename_i c hc
   split at h
   ·simp at h
   ·rename_i hz
    simp only[Option.some.injEq] at h
    rw[ih c hc]
    simp only
    rw[Vk ha hk c _ (EM _ _ _) hz,if_neg hz,h]
theorem Ol{ns:List Nd}(hw:Wf ns)(hp:0<ns.length)(t f:Nat):∀ k,Ar (As ns t f k).1 t f k=some (As ns t f k).2:=by
 intro k
 induction k with
 | zero=>rfl
 | succ k ih =>
  obtain⟨w1,w2,w3⟩:=EO hw hp t f k
  have h1:=NT w2 (EM t f ((k+1:Nat):Int)) t f k _ ih
  show Ar (CG (As ns t f k).1 (As ns t f k).2 (C9 t f ((k+1:Nat):Int))).1 t f (k+1)=_
  simp only[Ar,h1]
  show _=some (CG (As ns t f k).1 (As ns t f k).2 (C9 t f ((k+1:Nat):Int))).2
  generalize hwy:C9 t f ((k+1:Nat):Int)=wy at *
  have hwl:wy<4:=hwy ▸ EM t f _
  unfold CG
  split
  ·rename_i hz
   show(if ((((As ns t f k).1.set _ _)++[Ac]).getD _ Ac).nx wy=0 then none else some _)=some _
   rw[Lf w2,Nd.put_nx _ hwl,if_neg (by omega)]
  ·rfl
theorem Sz.add_leaf{ns:List Nd}(h:Sz ns)(t f c:Nat):BK (DX ns t f c) 0 (Bj t f 1 10)=BK ns 0 (Bj t f 1 10)+c:=by
 obtain⟨path,hp⟩:=h.path
 obtain⟨_,q3⟩:=KA h.wf h.pos hp t f 10
 obtain⟨w1,w2,w3⟩:=EO h.wf h.pos t f 10
 have hd:=Ol h.wf h.pos t f 10
 have h4:∀ j∈Bj t f 1 10,j<4:=by
  intro j hj
  simp only[Bj,List.mem_cons,List.not_mem_nil,or_false] at hj
  rcases hj with rfl|rfl|rfl|rfl|rfl|rfl|rfl|rfl|rfl|rfl <;> exact EM _ _ _
 rw[← q3 _ h4,Gt,Gt,hd]
 unfold DX
 rw[Gq (Ph w2 _),hd]
 simp only
 rw[A9 _ _ _ _ w2,if_pos rfl]
set_option maxHeartbeats 4000000 in
theorem Q7(g:Nat)(a:Option Addr)(c:Nat)(xs:List Int)(r h l:Int)(ta:Option Addr)(ss:List Pr)(tc em se:Nat)(w:World)(hx:xs.length≤9223372036854775807)(hi:Ad w a xs)(hall:xs.all AK=true)(ht:(Aa xs&&&AZ xs != 0)=false)
  (hr:Ab w g 67 (DQ r h l ta ss.length tc em se)) (hz:Am (Aa xs,AZ xs)=0) (hem:em≤9223372036854775806) :
  Calls Tryd.prog 25 #[.pointer (some ⟨g,0,none⟩),.slice a xs.length c] w fun e w'=>e=.returned (.int .i64 0)∧Ab w' g 67 (DQ r h l ta ss.length tc (em+1) se)∧DW w w' g (.slice none 0 0):=by
 have HO:=AA (Ea a c xs w hx hi)
 have e1:CO xs=Aa xs:=by simp[CO,hall]
 have e2:CN xs=AZ xs:=by simp[CN,hall]
 have HT:Hid (∀ w,Calls Tryd.prog 46 #[.agg #[.int .i64 (Aa xs:Nat),.int .i64 (AZ xs:Nat)]] w fun e w'=>e=.returned (.bool false)∧Below w.heap.size w w'):=fun w=>by
  have:=Cw (Aa xs) (AZ xs) (CF xs hall) (CA xs hall) w
  rwa [ht] at this
 have HZ:Hid (∀ w,Calls Tryd.prog 47 #[.agg #[.int .i64 (Aa xs:Nat),.int .i64 (AZ xs:Nat)]] w fun e w'=>e=.returned (.int .i64 (Am (Aa xs,AZ xs):Nat))∧Below w.heap.size w w'):=fun w=>Df (Aa xs) (AZ xs) (CF xs hall) (CA xs hall) w
 rw[hall,e1,e2] at HO
 have h1:=Dh (Aa xs,AZ xs)
 generalize Am (Aa xs,AZ xs)=z at *
 subst hz
 generalize Aa xs=t at *
 generalize AZ xs=f at *
 have HR:=AA hr
 clear hi hall e1 e2 ht hr
 go_enter Tryd.func25,Tryd.ntmps25
 go_wp2_with fail
 refine(AE HO).mono ?_
 rintro e w2 ⟨rfl,hb2⟩
 have hs2:w.heap.size≤w2.heap.size:=hb2.size
 have HB:Hid (∀ x,Below w.heap.size w (w2.alloc x)):=fun x=>hb2.alloc hb2.size x
 clear hb2
 go_wp2_with fail
 refine(AE HT _).mono ?_
 have m0:=AX w2 [.int .i64 (t:Nat),.int .i64 (f:Nat)] 86 0 _ rfl
 have m1:=AX w2 [.int .i64 (t:Nat),.int .i64 (f:Nat)] 86 1 _ rfl
 rw[FR] at m0 m1
 simp only[Nat.zero_add] at m0 m1
 have e3:w2.heap.size<(w2.alloc (.cells #[.int .i64 (t:Nat),.int .i64 (f:Nat)] 86)).heap.size:=by simp
 have hbb:=HB.out (.cells #[.int .i64 (t:Nat),.int .i64 (f:Nat)] 86)
 generalize w2.alloc (.cells #[.int .i64 (t:Nat),.int .i64 (f:Nat)] 86)=wb at *
 rintro e w3 ⟨rfl,hb3⟩
 have F:Hid (∀ w',Below w3.heap.size w3 w'→w'.cell? ⟨w2.heap.size,0,none⟩=some (.int .i64 (t:Nat))∧w'.cell? ⟨w2.heap.size,1,none⟩=some (.int .i64 (f:Nat))∧w'.cell? ⟨g,3,none⟩=some (.slice ta ss.length tc)∧Below w.heap.size w w'):=by
  intro w' hb
  have hw3:Below w.heap.size w w3:=hbb.trans (hb3.mono (by omega))
  have hw':Below w.heap.size w w':=hw3.trans (hb.mono hw3.size)
  have hx3:w2.heap.size<w3.heap.size:=Nat.lt_of_lt_of_le e3 hb3.size
  exact⟨(hb.cell (p:=⟨w2.heap.size,0,none⟩) hx3).trans ((hb3.cell (p:=⟨w2.heap.size,0,none⟩) e3).trans m0),(hb.cell (p:=⟨w2.heap.size,1,none⟩) hx3).trans ((hb3.cell (p:=⟨w2.heap.size,1,none⟩) e3).trans m1),((AB HR.out hw').cell 3).trans rfl,hw'⟩
 have hx3:w2.heap.size<w3.heap.size:=Nat.lt_of_lt_of_le e3 hb3.size
 clear hb3 hbb m0 m1 e3 HB HT HO
 obtain⟨f0,f1,f2,_⟩:=F.out w3 (Below.refl _ _)
 go_wp2_with fail
 refine(AE HZ _).mono ?_
 rintro e w4 ⟨rfl,hb4⟩
 have hbw:Below w.heap.size w w4:=(F.out w4 hb4).2.2.2
 have R2:=AA (AB HR.out hbw)
 have c4:w4.cell? ⟨g,4,none⟩=some (.int .i64 em):=(R2.out.cell 4).trans rfl
 have z4:=R2.out.frozen 4
 have HBW:=AA hbw
 have HE:Hid (((em+1:Nat):Int)=(em:Int)+1):=by show _=_;omega
 clear hb4 hbw F
 go_wp2
 go_ret
 refine⟨rfl,?_,(DW.of g _ HBW.out).set 4 _⟩
 have:=R2.out.set 4 (.int .i64 ((em:Int)+1))
 rw[← HE.out] at this
 exact this
set_option maxHeartbeats 4000000 in
theorem TJ(g:Nat)(a:Option Addr)(c:Nat)(xs:List Int)(r h l:Int)(ta:Option Addr)(ss:List Pr)(tc em se:Nat)(w:World)(hx:xs.length≤9223372036854775807)(hi:Ad w a xs)(hall:xs.all AK=true)(ht:(Aa xs&&&AZ xs != 0)=false)
  (hr:Ab w g 67 (DQ r h l ta ss.length tc em se)) (hsa:Cr w ta ss) (hsl:ss.length≤1000000) (hsb:Hid (∀ p∈ss,p.1<2^11∧p.2<2^11)) (hz0:Am (Aa xs,AZ xs)≠0) (hfull:150<Am (Aa xs,AZ xs)+Af ss) :
  Calls Tryd.prog 25 #[.pointer (some ⟨g,0,none⟩),.slice a xs.length c] w fun e w'=>e=.returned (.int .i64 5)∧Below w.heap.size w w':=by
 have HO:=AA (Ea a c xs w hx hi)
 have e1:CO xs=Aa xs:=by simp[CO,hall]
 have e2:CN xs=AZ xs:=by simp[CN,hall]
 have HT:Hid (∀ w,Calls Tryd.prog 46 #[.agg #[.int .i64 (Aa xs:Nat),.int .i64 (AZ xs:Nat)]] w fun e w'=>e=.returned (.bool false)∧Below w.heap.size w w'):=fun w=>by
  have:=Cw (Aa xs) (AZ xs) (CF xs hall) (CA xs hall) w
  rwa [ht] at this
 have HZ:Hid (∀ w,Calls Tryd.prog 47 #[.agg #[.int .i64 (Aa xs:Nat),.int .i64 (AZ xs:Nat)]] w fun e w'=>e=.returned (.int .i64 (Am (Aa xs,AZ xs):Nat))∧Below w.heap.size w w'):=fun w=>Df (Aa xs) (AZ xs) (CF xs hall) (CA xs hall) w
 have HTT:Hid (∀ w',Below w.heap.size w w'→Calls Tryd.prog 37 #[.slice ta ss.length tc] w' fun e w''=>e=.returned (.int .i64 (Af ss:Nat))∧Below w'.heap.size w' w''):=fun w' hb=>EE ta tc ss w' (hsa.below hb) hsl hsb
 have h2:=Eu ss
 rw[hall,e1,e2] at HO
 have h1:=Dh (Aa xs,AZ xs)
 generalize Am (Aa xs,AZ xs)=z at *
 generalize Af ss=tot at *
 generalize Aa xs=t at *
 generalize AZ xs=f at *
 have HR:=AA hr
 have hfi:((z:Int)+tot > 150):=by omega
 clear hi hall e1 e2 ht hr hsa
 go_enter Tryd.func25,Tryd.ntmps25
 go_wp2_with fail
 refine(AE HO).mono ?_
 rintro e w2 ⟨rfl,hb2⟩
 have hs2:w.heap.size≤w2.heap.size:=hb2.size
 have HB:Hid (∀ x,Below w.heap.size w (w2.alloc x)):=fun x=>hb2.alloc hb2.size x
 clear hb2
 go_wp2_with fail
 refine(AE HT _).mono ?_
 have m0:=AX w2 [.int .i64 (t:Nat),.int .i64 (f:Nat)] 86 0 _ rfl
 have m1:=AX w2 [.int .i64 (t:Nat),.int .i64 (f:Nat)] 86 1 _ rfl
 rw[FR] at m0 m1
 simp only[Nat.zero_add] at m0 m1
 have e3:w2.heap.size<(w2.alloc (.cells #[.int .i64 (t:Nat),.int .i64 (f:Nat)] 86)).heap.size:=by simp
 have hbb:=HB.out (.cells #[.int .i64 (t:Nat),.int .i64 (f:Nat)] 86)
 generalize w2.alloc (.cells #[.int .i64 (t:Nat),.int .i64 (f:Nat)] 86)=wb at *
 rintro e w3 ⟨rfl,hb3⟩
 have F:Hid (∀ w',Below w3.heap.size w3 w'→w'.cell? ⟨w2.heap.size,0,none⟩=some (.int .i64 (t:Nat))∧w'.cell? ⟨w2.heap.size,1,none⟩=some (.int .i64 (f:Nat))∧w'.cell? ⟨g,3,none⟩=some (.slice ta ss.length tc)∧Below w.heap.size w w'):=by
  intro w' hb
  have hw3:Below w.heap.size w w3:=hbb.trans (hb3.mono (by omega))
  have hw':Below w.heap.size w w':=hw3.trans (hb.mono hw3.size)
  have hx3:w2.heap.size<w3.heap.size:=Nat.lt_of_lt_of_le e3 hb3.size
  exact⟨(hb.cell (p:=⟨w2.heap.size,0,none⟩) hx3).trans ((hb3.cell (p:=⟨w2.heap.size,0,none⟩) e3).trans m0),(hb.cell (p:=⟨w2.heap.size,1,none⟩) hx3).trans ((hb3.cell (p:=⟨w2.heap.size,1,none⟩) e3).trans m1),((AB HR.out hw').cell 3).trans rfl,hw'⟩
 have hx3:w2.heap.size<w3.heap.size:=Nat.lt_of_lt_of_le e3 hb3.size
 clear hb3 hbb m0 m1 e3 HB HT HO
 obtain⟨f0,f1,f2,_⟩:=F.out w3 (Below.refl _ _)
 go_wp2_with fail
 refine(AE HZ _).mono ?_
 rintro e w4 ⟨rfl,hb4⟩
 clear f0 f1 f2
 obtain⟨f0,f1,f2,_⟩:=F.out w4 hb4
 have Bc:Hid (Below w3.heap.size w3 w4.drew):=below_drewN hb4 1
 clear hb4
 have hwrap:IntKind.i64.wrap ((z:Int)+tot)=(z:Int)+tot:=by rw[IntKind.wrap_i64];omega
 have hzi:(((z:Nat):Int) == 0)=false:=by simp;omega
 go_wp2_with fail
 go_region_with (first
  | (go_at_call 47;refine(AE HZ _).mono ?_;rintro e wa ⟨rfl,hba⟩;have Bc:Hid (Below w3.heap.size w3 wa):=Bc.out.trans (hba.mono Bc.out.size);clear hba;obtain⟨f0,f1,f2,_⟩:=F.out wa Bc.out)
  | (go_at_call 37;refine(AE HTT _ (F.out _ Bc.out).2.2.2).mono ?_;rintro e wa ⟨rfl,hba⟩;have Bc:Hid (Below w3.heap.size w3 wa):=Bc.out.trans (hba.mono Bc.out.size);clear hba;obtain⟨f0,f1,f2,_⟩:=F.out wa Bc.out))
 all_goals
  go_wp2
  go_ret
  exact⟨rfl,(F.out _ Bc.out).2.2.2⟩
end Go.Proofs.YthboeppmlhbofaaDoor
