import Derived.Test.YthboeppmlhbofabDoorMoo
import Derived.Test.YthboeppmlhbofabDoorOpp
import Derived.Test.YthboeppmlhbofabDoorLns
namespace Go.Proofs.YthboeppmlhbofabDoor
open Go.RowKit Txt
set_option maxRecDepth 100000
def trueTo(u:Nat):Nat→Nat
 | 0=>0
 | v+1=>trueTo u v|||(if u.testBit v then 2^(2*v) else 2^(2*v+1))
def trueN(u:Nat):Nat:=trueTo u 10
theorem trueTo_lt(u:Nat):∀ v,v≤10→trueTo u v<2^20:=by
 intro v
 induction v with
 | zero=>intro _;simp[trueTo]
 | succ v ih =>
  intro h
  simp only[trueTo]
  refine Nat.or_lt_two_pow (ih (by omega)) ?_
  split
  ·exact Nat.pow_lt_pow_right (by decide) (by omega)
  ·exact Nat.pow_lt_pow_right (by decide) (by omega)
theorem trueN_lt(u:Nat):trueN u<1048576:=trueTo_lt u 10 (by omega)
theorem trueTo_bits(u:Nat):∀ v j,(trueTo u v).testBit j=(decide (j / 2<v) && (if j % 2=0 then u.testBit (j / 2) else !u.testBit (j / 2))):=by
 intro v
 induction v with
 | zero=>intro j;simp[trueTo]
 | succ v ih =>
  intro j
  simp only[trueTo]
  rw[Nat.testBit_or,ih]
  by_cases h:j / 2=v
  ·have h1:decide (j / 2<v)=false:=by simp;omega
   have h2:decide (j / 2<v+1)=true:=by simp;omega
   rw[h1,h2,Bool.false_and,Bool.false_or,Bool.true_and,h]
   rcases Nat.mod_two_eq_zero_or_one j with e | e
   ·rw[if_pos e]
    have ej:j=2*v:=by omega
    subst ej
    cases u.testBit v <;> simp only[Bool.false_eq_true,if_true,if_false,Nat.testBit_two_pow] <;> simp
   ·rw[if_neg (by omega:¬ j % 2=0)]
    have ej:j=2*v+1:=by omega
    subst ej
    cases u.testBit v <;> simp only[Bool.false_eq_true,if_true,if_false,Nat.testBit_two_pow] <;> simp
  ·have hz:(if u.testBit v=true then 2^(2*v) else 2^(2*v+1)).testBit j=false:=by
    split
    ·rw[Nat.testBit_two_pow];simp;omega
    ·rw[Nat.testBit_two_pow];simp;omega
   rw[hz,Bool.or_false]
   by_cases h3:j / 2<v
   ·rw[decide_eq_true h3,decide_eq_true (by omega:j / 2<v+1)]
   ·rw[decide_eq_false h3,decide_eq_false (by omega:¬ j / 2<v+1)]
theorem bit_up(v:Nat):bitN ((v:Int)+1)=2^(2*v):=by
 unfold bitN
 rw[if_pos (by omega)]
 congr 1
 omega
theorem bit_down(v:Nat):bitN (-((v:Int)+1))=2^(2*v+1):=by
 unfold bitN
 rw[if_neg (by omega)]
 congr 1
 omega
theorem bit_int(u k:Nat)(hu:u<1048576):bits .and .i64 ((u:Int) / 2^k) 1=(((u.testBit k).toNat:Nat):Int):=by
 have h1:((u:Int) / 2^k)=((u / 2^k:Nat):Int):=by rw[Int.natCast_ediv,Int.natCast_pow];rfl
 have h2:u / 2^k≤u:=Nat.div_le_self _ _
 have h3:bits .and .i64 ((u / 2^k:Nat):Int) 1=((u / 2^k&&&1:Nat):Int):=and64 (u / 2^k) 1 (by omega) (by decide)
 rw[h1,h3,Nat.and_one_is_mod,bit_div]
theorem litB_up(k:Nat)(h:k<10):litB ((k:Int)+1)=true:=by simp only[litB,Bool.and_eq_true,bne_iff_ne,decide_eq_true_eq];omega
theorem litB_down(k:Nat)(h:k<10):litB (-((k:Int)+1))=true:=by simp only[litB,Bool.and_eq_true,bne_iff_ne,decide_eq_true_eq];omega
def allowsD(cs:List Nat)(m u:Nat):Bool:=cs.all (fun c=>c&&&trueN u != 0) && (m&&&trueN u == m)
def someD(cs:List Nat)(m:Nat):Bool:=(List.range 1024).any (allowsD cs m)
theorem nat_beqD(a b:Nat):((a:Int) == (b:Int))=(a == b):=by
 rw[Bool.eq_iff_iff]
 simp only[beq_iff_eq]
 omega
theorem true_opp(u i:Nat)(hi:i<20):(oppN (trueN u)).testBit i=!(trueN u).testBit i:=by
 have key:∀ v,v<10→(trueN u).testBit (2*v)=u.testBit v∧(trueN u).testBit (2*v+1)=!u.testBit v:=by
  intro v hv
  unfold trueN
  rw[trueTo_bits,trueTo_bits,show 2*v / 2=v by omega,show(2*v+1) / 2=v by omega,decide_eq_true hv,if_pos (by omega),if_neg (by omega)]
  exact⟨Bool.true_and _,Bool.true_and _⟩
 rcases Nat.mod_two_eq_zero_or_one i with e | e
 ·have ei:i=2*(i / 2):=by omega
  obtain⟨k1,k2⟩:=key (i / 2) (by omega)
  rw[ei,opp_bit_even _ _ (by omega),k1,k2]
 ·have ei:i=2*(i / 2)+1:=by omega
  obtain⟨k1,k2⟩:=key (i / 2) (by omega)
  rw[ei,opp_bit_odd _ _ (by omega),k1,k2,Bool.not_not]
theorem true_twin(u:Nat):twinB (trueN u)=false:=by
 have:trueN u&&&oppN (trueN u)=0:=by
  apply Nat.eq_of_testBit_eq
  intro i
  rw[Nat.zero_testBit,Nat.testBit_and]
  by_cases hi:i<20
  ·rw[true_opp u i hi];cases (trueN u).testBit i <;> rfl
  ·rw[Nat.testBit_lt_two_pow (Nat.lt_of_lt_of_le (trueN_lt u) (Nat.pow_le_pow_right (n:=2) (i:=20) (by decide) (by omega)))];rfl
 simp[twinB,this]
theorem true_left(u c:Nat)(hc:c<1048576):leftN c (trueN u)=c&&&trueN u:=by
 apply Nat.eq_of_testBit_eq
 intro i
 rw[left_bit,Nat.testBit_and]
 by_cases hi:i<20
 ·rw[true_opp u i hi,Bool.not_not]
 ·rw[Nat.testBit_lt_two_pow (Nat.lt_of_lt_of_le hc (Nat.pow_le_pow_right (n:=2) (i:=20) (by decide) (by omega)))];rfl
theorem clash_sound{cs:List Nat}{k u:Nat}(hc:∀ c∈cs,c<1048576)(ha:∀ c∈cs,c&&&trueN u≠0)(hk:SubN k (trueN u)):clashD cs k=false:=by
 refine clash_stay (K:=trueN u) (fun c hcc=>?_) (true_twin u) hk
 rw[true_left u c (hc c hcc)]
 exact⟨ha c hcc,fun _ i q=>by rw[Nat.testBit_and,Bool.and_eq_true] at q;exact q.2⟩
def lowN(v:Nat):Nat:=v&&&(18446744073709551616 - v)
theorem low_bit:∀ (v n:Nat),v≠0→v<2^n→∃ j,v.testBit j=true∧v&&&(2^n - v)=2^j:=by
 intro v
 induction v using Nat.strongRecOn with
 | ind v ih =>
  intro n h0 hn
  cases n with
  | zero=>simp at hn;omega
  | succ n =>
   have hp:2^(n+1)=2*2^n:=by rw[Nat.pow_succ];omega
   have e1:(v&&&(2^(n+1) - v)) / 2=v / 2&&&(2^(n+1) - v) / 2:=Nat.and_div_two
   have e2:(v&&&(2^(n+1) - v)) % 2=(v % 2)&&&((2^(n+1) - v) % 2):=by
    have:=@Nat.and_mod_two_pow v (2^(n+1) - v) 1
    simpa using this
   rcases Nat.mod_two_eq_zero_or_one v with a | a
   ·obtain⟨j,hj,hj2⟩:=ih (v / 2) (by omega) n (by omega) (by omega)
    have e3:(2^(n+1) - v) / 2=2^n - v / 2:=by omega
    rw[a,Nat.zero_and] at e2
    rw[e3,hj2] at e1
    refine⟨j+1,by rw[Nat.testBit_succ];exact hj,?_⟩
    rw[Nat.pow_succ 2 j]
    omega
   ·have e3:(2^(n+1) - v) / 2=2^n - (v / 2+1):=by omega
    have e4:(2^(n+1) - v) % 2=1:=by omega
    rw[a,e4] at e2
    have e5:v / 2&&&(2^n - (v / 2+1))=0:=by
     apply Nat.eq_of_testBit_eq
     intro i
     rw[Nat.zero_testBit,Nat.testBit_and,Nat.testBit_two_pow_sub_succ (by omega)]
     cases (v / 2).testBit i <;> simp
    rw[e3,e5] at e1
    have e6:(1&&&1:Nat)=1:=rfl
    rw[e6] at e2
    exact⟨0,by rw[Nat.testBit_zero,a];rfl,by omega⟩
theorem low_int(v:Nat)(hv:v<1048576):bits .and .i64 (v:Int) (-(v:Int))=((lowN v:Nat):Int):=by
 by_cases h0:v=0
 ·subst h0;decide
 ·have hle:lowN v≤v:=Nat.and_le_left
  have e1:(BitVec.ofInt IntKind.i64.bits (v:Int)).toNat=v:=by
   show(BitVec.ofInt 64 (v:Int)).toNat=v
   rw[BitVec.toNat_ofInt]
   omega
  have e2:(BitVec.ofInt IntKind.i64.bits (-(v:Int))).toNat=18446744073709551616 - v:=by
   show(BitVec.ofInt 64 (-(v:Int))).toNat=_
   rw[BitVec.toNat_ofInt]
   omega
  unfold bits
  simp only[BitVec.toNat_and]
  rw[e1,e2]
  exact wraps_i64 _ (by omega) (by show((lowN v:Nat):Int)<_;omega)
def linkD(p c:Nat):Nat:=if varsN c&&&p=0 then p else p|||varsN c
def joinTo(cs:List Nat):Nat→Nat→Nat
 | 0,p=>p
 | m+1,p=>joinTo cs m (cs.foldl linkD p)
def joinedD(cs:List Nat)(v:Nat):Bool:=v&&&joinTo cs 10 (lowN v) == v
theorem linkD_lt{p c:Nat}(hp:p<1048576):linkD p c<1048576:=by
 unfold linkD
 split
 ·exact hp
 ·exact Nat.or_lt_two_pow (n:=20) hp (varsN_lt c)
theorem fold_lt:∀ (cs:List Nat) (p:Nat),p<1048576→cs.foldl linkD p<1048576:=by
 intro cs
 induction cs with
 | nil=>intro p h;exact h
 | cons c cs ih=>intro p h;exact ih _ (linkD_lt h)
def askedD(xs:List Int)(b:Int):Int:=if 20<xs.length then 2 else if xs.all litB=false then 4 else if b<0 then 6 else 0
theorem leaf_drop(ns:List Nd)(t f:Nat):∀ (m k a:Nat),m+k=10→dropTo ns t f k=some a→leafP ns a (ways t f (k+1) m)=(match dropTo ns t f 10 with | none=>0 | some b=>(ns.getD b nd0).c):=by
 intro m
 induction m with
 | zero =>
  intro k a hk hd
  have e:k=10:=by omega
  subst e
  rw[hd]
  rfl
 | succ m ih =>
  intro k a hk hd
  have hs:dropTo ns t f (k+1)=if (ns.getD a nd0).nx (wayN t f ((k+1:Nat):Int))=0 then none else some ((ns.getD a nd0).nx (wayN t f ((k+1:Nat):Int))):=by simp only[dropTo,hd]
  simp only[ways,leafP]
  by_cases hz:(ns.getD a nd0).nx (wayN t f ((k+1:Nat):Int))=0
  ·rw[if_pos hz] at hs ⊢
   have h2:=dropTo_none (10 - (k+1)) (k+1) hs
   rw[show k+1+(10 - (k+1))=10 by omega] at h2
   rw[h2]
  ·rw[if_neg hz] at hs ⊢
   exact ih (k+1) _ (by omega) hs
theorem leaf_way(ns:List Nd)(t f:Nat):leafP ns 0 (ways t f 1 10)=(match dropTo ns t f 10 with | none=>0 | some b=>(ns.getD b nd0).c):=leaf_drop ns t f 10 0 0 rfl rfl
theorem path_drop{ns:List Nd}(hw:Wf ns)(hp:0<ns.length){path:Nat→List Nat}(h:Pth ns path)(t f:Nat):∀ (k a:Nat),dropTo ns t f k=some a→path a=ways t f 1 k:=by
 intro k
 induction k with
 | zero=>intro a e;simp only[dropTo,Option.some.injEq] at e;rw[← e];exact h.root
 | succ k ih =>
  intro a e
  simp only[dropTo] at e
  split at e
  ·simp at e
  ·rename_i b hb
   split at e
   ·simp at e
   ·rename_i hz
    simp only[Option.some.injEq] at e
    rw[← e,h.step b (dropTo_lt hw hp t f k b hb) _ (wayN_lt _ _ _) hz,ih b hb,ways_snoc,show 1+k=k+1 by omega]
theorem dropTo_same{ns ns':List Nd}(hnx:∀ b k,(ns'.getD b nd0).nx k=(ns.getD b nd0).nx k)(t f:Nat):∀ k,dropTo ns' t f k=dropTo ns t f k:=by
 intro k
 induction k with
 | zero=>rfl
 | succ k ih=>simp only[dropTo,ih,hnx]
theorem set_nx{ns:List Nd}{a:Nat}(ha:a<ns.length)(x:Nat)(b k:Nat):((ns.set a { ns.getD a nd0 with c:=x }).getD b nd0).nx k=(ns.getD b nd0).nx k:=by
 rw[getD_set _ _ _ _ ha]
 split
 ·rename_i e;rw[e];rfl
 ·rfl
theorem Tre.drop_leaf{ns ns':List Nd}(h:Tre ns){t f:Nat}(hd:dropN ns t f=some ns'):(∀ ws,(∀ j∈ws,j<4)→ws≠ways t f 1 10→leafP ns' 0 ws=leafP ns 0 ws)∧leafP ns' 0 (ways t f 1 10)+1=leafP ns 0 (ways t f 1 10):=by
 unfold dropN at hd
 cases ha:dropTo ns t f 10 with
 | none=>rw[ha] at hd;simp at hd
 | some a =>
  have hal:=dropTo_lt h.wf h.pos t f 10 a ha
  rw[ha] at hd
  simp only at hd
  split at hd
  ·simp at hd
  ·rename_i hz
   simp only[Option.some.injEq] at hd
   subst hd
   obtain⟨path,hp⟩:=h.path
   refine⟨fun ws h4 hne=>leaf_set h.wf hp hal _ ws 0 h.pos h4 ?_,?_⟩
   ·rw[hp.root,path_drop h.wf h.pos hp t f 10 a ha]
    exact hne
   ·rw[leaf_way,leaf_way,dropTo_same (set_nx hal _),ha]
    simp only
    rw[getD_set _ _ _ _ hal,if_pos rfl]
    show(ns.getD a nd0).c - 1+1=_
    omega
theorem drop_none{ns:List Nd}{t f:Nat}:dropN ns t f=none↔leafP ns 0 (ways t f 1 10)=0:=by
 rw[leaf_way]
 unfold dropN
 cases ha:dropTo ns t f 10 with
 | none=>simp
 | some a =>
  simp
theorem grow_nx{ns:List Nd}{a k:Nat}(ha:a<ns.length)(hk:k<4)(b j:Nat)(hj:j<4)(hn:(ns.getD b nd0).nx j≠0):((growN ns a k).1.getD b nd0).nx j=(ns.getD b nd0).nx j:=by
 unfold growN
 split
 ·rename_i hz
  show((ns.set a ((ns.getD a nd0).put k ns.length)++[nd0]).getD b nd0).nx j=_
  rw[getD_snoc,getD_set _ _ _ _ ha]
  split
  ·rename_i e
   rw[e] at hn ⊢
   exact put_other _ hk hj (fun e2=>hn (by rw[e2];exact hz))
  ·rfl
 ·rfl
theorem dropTo_grow{ns:List Nd}{a k:Nat}(ha:a<ns.length)(hk:k<4)(t f:Nat):∀ (j b:Nat),dropTo ns t f j=some b→dropTo (growN ns a k).1 t f j=some b:=by
 intro j
 induction j with
 | zero=>intro b h;exact h
 | succ j ih =>
  intro b h
  simp only[dropTo] at h ⊢
  split at h
  ·simp at h
  ·rename_i c hc
   split at h
   ·simp at h
   ·rename_i hz
    simp only[Option.some.injEq] at h
    rw[ih c hc]
    simp only
    rw[grow_nx ha hk c _ (wayN_lt _ _ _) hz,if_neg hz,h]
theorem addTo_drop{ns:List Nd}(hw:Wf ns)(hp:0<ns.length)(t f:Nat):∀ k,dropTo (addTo ns t f k).1 t f k=some (addTo ns t f k).2:=by
 intro k
 induction k with
 | zero=>rfl
 | succ k ih =>
  obtain⟨w1,w2,w3⟩:=addTo_wf hw hp t f k
  have h1:=dropTo_grow w2 (wayN_lt t f ((k+1:Nat):Int)) t f k _ ih
  show dropTo (growN (addTo ns t f k).1 (addTo ns t f k).2 (wayN t f ((k+1:Nat):Int))).1 t f (k+1)=_
  simp only[dropTo,h1]
  show _=some (growN (addTo ns t f k).1 (addTo ns t f k).2 (wayN t f ((k+1:Nat):Int))).2
  generalize hwy:wayN t f ((k+1:Nat):Int)=wy at *
  have hwl:wy<4:=hwy ▸ wayN_lt t f _
  unfold growN
  split
  ·rename_i hz
   show(if ((((addTo ns t f k).1.set _ _)++[nd0]).getD _ nd0).nx wy=0 then none else some _)=some _
   rw[get_grown w2,Nd.put_nx _ hwl,if_neg (by omega)]
  ·rfl
theorem Tre.add_leaf{ns:List Nd}(h:Tre ns)(t f c:Nat):leafP (addN ns t f c) 0 (ways t f 1 10)=leafP ns 0 (ways t f 1 10)+c:=by
 obtain⟨path,hp⟩:=h.path
 obtain⟨_,q3⟩:=addTo_leaf h.wf h.pos hp t f 10
 obtain⟨w1,w2,w3⟩:=addTo_wf h.wf h.pos t f 10
 have hd:=addTo_drop h.wf h.pos t f 10
 have h4:∀ j∈ways t f 1 10,j<4:=by
  intro j hj
  simp only[ways,List.mem_cons,List.not_mem_nil,or_false] at hj
  rcases hj with rfl|rfl|rfl|rfl|rfl|rfl|rfl|rfl|rfl|rfl <;> exact wayN_lt _ _ _
 rw[← q3 _ h4,leaf_way,leaf_way,hd]
 unfold addN
 rw[dropTo_same (set_nx w2 _),hd]
 simp only
 rw[getD_set _ _ _ _ w2,if_pos rfl]
def SubT(ns ns':List Nd):Prop:=∀ ws,(∀ k∈ws,k<4)→leafP ns 0 ws≤leafP ns' 0 ws
theorem SubT.add{ns ns':List Nd}(h:SubT ns ns')(h1:Tre ns)(h2:Tre ns')(t f c:Nat):SubT (addN ns t f c) (addN ns' t f c):=by
 intro ws h4
 by_cases e:ws=ways t f 1 10
 ·subst e
  rw[h1.add_leaf,h2.add_leaf]
  have:=h _ h4
  omega
 ·rw[(h1.add t f c).2 ws h4 e,(h2.add t f c).2 ws h4 e]
  exact h ws h4
theorem SubT.more{ns:List Nd}(h1:Tre ns)(t f c:Nat):SubT ns (addN ns t f c):=by
 intro ws h4
 by_cases e:ws=ways t f 1 10
 ·subst e
  rw[h1.add_leaf]
  omega
 ·rw[(h1.add t f c).2 ws h4 e]
  exact Nat.le_refl _
theorem step_mono{ns ns':List Nd}(h:SubT ns ns')(h1:Tre ns)(h2:Tre ns')(lt:Nat)(xs:List Int)(he:(stepN ns lt xs).1=0):(stepN ns' lt xs).1=0∧SubT (stepN ns lt xs).2 (stepN ns' lt xs).2∧Tre (stepN ns lt xs).2∧Tre (stepN ns' lt xs).2:=by
 unfold stepN at he ⊢
 split at he
 ·rename_i h100
  rw[if_pos h100,if_pos h100]
  have hw4:∀ j∈ways (posOk xs) (negOk xs) 1 10,j<4:=by
   intro j hj
   simp only[ways,List.mem_cons,List.not_mem_nil,or_false] at hj
   rcases hj with rfl|rfl|rfl|rfl|rfl|rfl|rfl|rfl|rfl|rfl <;> exact wayN_lt _ _ _
  cases hd:dropN ns (posOk xs) (negOk xs) with
  | none=>rw[hd] at he;simp at he
  | some n1 =>
   obtain⟨a1,a2⟩:=h1.drop_leaf hd
   cases hd':dropN ns' (posOk xs) (negOk xs) with
   | none =>
    have:=drop_none.1 hd'
    have:=h _ hw4
    omega
   | some n2 =>
    obtain⟨b1,b2⟩:=h2.drop_leaf hd'
    refine⟨rfl,fun ws h4=>?_,(h1.drop hd).1,(h2.drop hd').1⟩
    show leafP n1 0 ws≤leafP n2 0 ws
    by_cases e:ws=ways (posOk xs) (negOk xs) 1 10
    ·subst e
     have:=h _ h4
     omega
    ·rw[a1 ws h4 e,b1 ws h4 e]
     exact h ws h4
 ·rename_i h100
  rw[if_neg h100,if_neg h100]
  split at he
  ·simp at he
  ·rename_i hf
   have hfo:followsN ns (posOk xs) (negOk xs)=true:=by simpa using hf
   have hfo':=follows_mono (ns':=ns') (fun ws _ h4 hq=>by have:=h ws h4;omega) (posOk_lt xs) (negOk_lt xs) hfo
   rw[if_neg hf,if_neg (by rw[hfo'];simp)]
   split
   ·exact⟨rfl,h.add h1 h2 _ _ _,(h1.add _ _ _).1,(h2.add _ _ _).1⟩
   ·exact⟨rfl,h,h1,h2⟩
theorem chk_mono(l:List UInt8):∀ (m:Nat) (ns ns':List Nd) (p n lt:Nat) (xs:List Int),SubT ns ns'→Tre ns→Tre ns'→(chkN l m ns p n lt xs).2.1=0→chkN l m ns' p n lt xs=chkN l m ns p n lt xs:=by
 intro m
 induction m with
 | zero=>intro ns ns' p n lt xs _ _ _ h;simp[chkN] at h
 | succ m ih =>
  intro ns ns' p n lt xs hs h1 h2 h
  simp only[chkN] at h ⊢
  split at h
  ·rename_i hp
   rw[if_pos hp,if_pos hp]
   cases hr:rdLine l p with
   | none=>rfl
   | some r =>
    obtain⟨lt',xs',q⟩:=r
    rw[hr] at h
    simp only at h ⊢
    by_cases he:(stepN ns lt' xs').1=0
    ·obtain⟨s1,s2,s3,s4⟩:=step_mono hs h1 h2 lt' xs' he
     rw[if_neg (by simpa using he)] at h
     have e1:¬ (stepN ns' lt' xs').1≠0:=by simpa using s1
     have e2:¬ (stepN ns lt' xs').1≠0:=by simpa using he
     rw[if_neg e1,if_neg e2]
     exact ih _ _ _ _ _ _ s2 s3 s4 h
    ·rw[if_pos he] at h
     exact absurd h he
  ·rename_i hp
   rw[if_neg hp,if_neg hp]
set_option maxHeartbeats 4000000 in
theorem add_empty(g:Nat)(a:Option Addr)(c:Nat)(xs:List Int)(r h l:Int)(ta:Option Addr)(ss:List Pr)(tc em se:Nat)(w:World)(hx:xs.length≤9223372036854775807)(hi:IntsAt w a xs)(hall:xs.all litB=true)(ht:(posN xs&&&negN xs != 0)=false)
  (hr:Row w g 68 (solCells r h l ta ss.length tc em se)) (hz:prSize (posN xs,negN xs)=0) (hem:em≤9223372036854775806) :
  Calls Tryd.prog 23 #[.pointer (some ⟨g,0,none⟩),.slice a xs.length c] w fun e w'=>e=.returned (.int .i64 0)∧Row w' g 68 (solCells r h l ta ss.length tc (em+1) se)∧Kept w w' g (.slice none 0 0):=by
 have HO:=hide (of_any a c xs w hx hi)
 have e1:posOk xs=posN xs:=by simp[posOk,hall]
 have e2:negOk xs=negN xs:=by simp[negOk,hall]
 have HT:Hid (∀ w,Calls Tryd.prog 44 #[.agg #[.int .i64 (posN xs:Nat),.int .i64 (negN xs:Nat)]] w fun e w'=>e=.returned (.bool false)∧Below w.heap.size w w'):=fun w=>by
  have:=isTaut_any (posN xs) (negN xs) (posN_lt xs hall) (negN_lt xs hall) w
  rwa [ht] at this
 have HZ:Hid (∀ w,Calls Tryd.prog 45 #[.agg #[.int .i64 (posN xs:Nat),.int .i64 (negN xs:Nat)]] w fun e w'=>e=.returned (.int .i64 (prSize (posN xs,negN xs):Nat))∧Below w.heap.size w w'):=fun w=>lsize_any (posN xs) (negN xs) (posN_lt xs hall) (negN_lt xs hall) w
 rw[hall,e1,e2] at HO
 have h1:=prSize_le (posN xs,negN xs)
 generalize prSize (posN xs,negN xs)=z at *
 subst hz
 generalize posN xs=t at *
 generalize negN xs=f at *
 have HR:=hide hr
 clear hi hall e1 e2 ht hr
 go_enter Tryd.func23,Tryd.ntmps23
 go_wp2_with fail
 refine(unhide HO).mono ?_
 rintro e w2 ⟨rfl,hb2⟩
 have hs2:w.heap.size≤w2.heap.size:=hb2.size
 have HB:Hid (∀ x,Below w.heap.size w (w2.alloc x)):=fun x=>hb2.alloc hb2.size x
 clear hb2
 go_wp2_with fail
 refine(unhide HT _).mono ?_
 have m0:=new_cells1 w2 [.int .i64 (t:Nat),.int .i64 (f:Nat)] 84 0 _ rfl
 have m1:=new_cells1 w2 [.int .i64 (t:Nat),.int .i64 (f:Nat)] 84 1 _ rfl
 rw[addr0] at m0 m1
 simp only[Nat.zero_add] at m0 m1
 have e3:w2.heap.size<(w2.alloc (.cells #[.int .i64 (t:Nat),.int .i64 (f:Nat)] 84)).heap.size:=by simp
 have hbb:=HB.out (.cells #[.int .i64 (t:Nat),.int .i64 (f:Nat)] 84)
 generalize w2.alloc (.cells #[.int .i64 (t:Nat),.int .i64 (f:Nat)] 84)=wb at *
 rintro e w3 ⟨rfl,hb3⟩
 have F:Hid (∀ w',Below w3.heap.size w3 w'→w'.cell? ⟨w2.heap.size,0,none⟩=some (.int .i64 (t:Nat))∧w'.cell? ⟨w2.heap.size,1,none⟩=some (.int .i64 (f:Nat))∧w'.cell? ⟨g,3,none⟩=some (.slice ta ss.length tc)∧Below w.heap.size w w'):=by
  intro w' hb
  have hw3:Below w.heap.size w w3:=hbb.trans (hb3.mono (by omega))
  have hw':Below w.heap.size w w':=hw3.trans (hb.mono hw3.size)
  have hx3:w2.heap.size<w3.heap.size:=Nat.lt_of_lt_of_le e3 hb3.size
  exact⟨(hb.cell (p:=⟨w2.heap.size,0,none⟩) hx3).trans ((hb3.cell (p:=⟨w2.heap.size,0,none⟩) e3).trans m0),(hb.cell (p:=⟨w2.heap.size,1,none⟩) hx3).trans ((hb3.cell (p:=⟨w2.heap.size,1,none⟩) e3).trans m1),((row_below HR.out hw').cell 3).trans rfl,hw'⟩
 have hx3:w2.heap.size<w3.heap.size:=Nat.lt_of_lt_of_le e3 hb3.size
 clear hb3 hbb m0 m1 e3 HB HT HO
 obtain⟨f0,f1,f2,_⟩:=F.out w3 (Below.refl _ _)
 go_wp2_with fail
 refine(unhide HZ _).mono ?_
 rintro e w4 ⟨rfl,hb4⟩
 have hbw:Below w.heap.size w w4:=(F.out w4 hb4).2.2.2
 have R2:=hide (row_below HR.out hbw)
 have c4:w4.cell? ⟨g,4,none⟩=some (.int .i64 em):=(R2.out.cell 4).trans rfl
 have z4:=R2.out.frozen 4
 have HBW:=hide hbw
 have HE:Hid (((em+1:Nat):Int)=(em:Int)+1):=by show _=_;omega
 clear hb4 hbw F
 go_wp2
 go_ret
 refine⟨rfl,?_,(Kept.of g _ HBW.out).set 4 _⟩
 have:=R2.out.set 4 (.int .i64 ((em:Int)+1))
 rw[← HE.out] at this
 exact this
set_option maxHeartbeats 4000000 in
theorem add_full(g:Nat)(a:Option Addr)(c:Nat)(xs:List Int)(r h l:Int)(ta:Option Addr)(ss:List Pr)(tc em se:Nat)(w:World)(hx:xs.length≤9223372036854775807)(hi:IntsAt w a xs)(hall:xs.all litB=true)(ht:(posN xs&&&negN xs != 0)=false)
  (hr:Row w g 68 (solCells r h l ta ss.length tc em se)) (hsa:SetsAt w ta ss) (hsl:ss.length≤1000000) (hsb:Hid (∀ p∈ss,p.1<2^11∧p.2<2^11)) (hz0:prSize (posN xs,negN xs)≠0) (hfull:150<prSize (posN xs,negN xs)+totalN ss) :
  Calls Tryd.prog 23 #[.pointer (some ⟨g,0,none⟩),.slice a xs.length c] w fun e w'=>e=.returned (.int .i64 5)∧Below w.heap.size w w':=by
 have HO:=hide (of_any a c xs w hx hi)
 have e1:posOk xs=posN xs:=by simp[posOk,hall]
 have e2:negOk xs=negN xs:=by simp[negOk,hall]
 have HT:Hid (∀ w,Calls Tryd.prog 44 #[.agg #[.int .i64 (posN xs:Nat),.int .i64 (negN xs:Nat)]] w fun e w'=>e=.returned (.bool false)∧Below w.heap.size w w'):=fun w=>by
  have:=isTaut_any (posN xs) (negN xs) (posN_lt xs hall) (negN_lt xs hall) w
  rwa [ht] at this
 have HZ:Hid (∀ w,Calls Tryd.prog 45 #[.agg #[.int .i64 (posN xs:Nat),.int .i64 (negN xs:Nat)]] w fun e w'=>e=.returned (.int .i64 (prSize (posN xs,negN xs):Nat))∧Below w.heap.size w w'):=fun w=>lsize_any (posN xs) (negN xs) (posN_lt xs hall) (negN_lt xs hall) w
 have HTT:Hid (∀ w',Below w.heap.size w w'→Calls Tryd.prog 42 #[.slice ta ss.length tc] w' fun e w''=>e=.returned (.int .i64 (totalN ss:Nat))∧Below w'.heap.size w' w''):=fun w' hb=>total_any ta tc ss w' (hsa.below hb) hsl hsb
 have h2:=totalN_le ss
 rw[hall,e1,e2] at HO
 have h1:=prSize_le (posN xs,negN xs)
 generalize prSize (posN xs,negN xs)=z at *
 generalize totalN ss=tot at *
 generalize posN xs=t at *
 generalize negN xs=f at *
 have HR:=hide hr
 have hfi:((z:Int)+tot > 150):=by omega
 clear hi hall e1 e2 ht hr hsa
 go_enter Tryd.func23,Tryd.ntmps23
 go_wp2_with fail
 refine(unhide HO).mono ?_
 rintro e w2 ⟨rfl,hb2⟩
 have hs2:w.heap.size≤w2.heap.size:=hb2.size
 have HB:Hid (∀ x,Below w.heap.size w (w2.alloc x)):=fun x=>hb2.alloc hb2.size x
 clear hb2
 go_wp2_with fail
 refine(unhide HT _).mono ?_
 have m0:=new_cells1 w2 [.int .i64 (t:Nat),.int .i64 (f:Nat)] 84 0 _ rfl
 have m1:=new_cells1 w2 [.int .i64 (t:Nat),.int .i64 (f:Nat)] 84 1 _ rfl
 rw[addr0] at m0 m1
 simp only[Nat.zero_add] at m0 m1
 have e3:w2.heap.size<(w2.alloc (.cells #[.int .i64 (t:Nat),.int .i64 (f:Nat)] 84)).heap.size:=by simp
 have hbb:=HB.out (.cells #[.int .i64 (t:Nat),.int .i64 (f:Nat)] 84)
 generalize w2.alloc (.cells #[.int .i64 (t:Nat),.int .i64 (f:Nat)] 84)=wb at *
 rintro e w3 ⟨rfl,hb3⟩
 have F:Hid (∀ w',Below w3.heap.size w3 w'→w'.cell? ⟨w2.heap.size,0,none⟩=some (.int .i64 (t:Nat))∧w'.cell? ⟨w2.heap.size,1,none⟩=some (.int .i64 (f:Nat))∧w'.cell? ⟨g,3,none⟩=some (.slice ta ss.length tc)∧Below w.heap.size w w'):=by
  intro w' hb
  have hw3:Below w.heap.size w w3:=hbb.trans (hb3.mono (by omega))
  have hw':Below w.heap.size w w':=hw3.trans (hb.mono hw3.size)
  have hx3:w2.heap.size<w3.heap.size:=Nat.lt_of_lt_of_le e3 hb3.size
  exact⟨(hb.cell (p:=⟨w2.heap.size,0,none⟩) hx3).trans ((hb3.cell (p:=⟨w2.heap.size,0,none⟩) e3).trans m0),(hb.cell (p:=⟨w2.heap.size,1,none⟩) hx3).trans ((hb3.cell (p:=⟨w2.heap.size,1,none⟩) e3).trans m1),((row_below HR.out hw').cell 3).trans rfl,hw'⟩
 have hx3:w2.heap.size<w3.heap.size:=Nat.lt_of_lt_of_le e3 hb3.size
 clear hb3 hbb m0 m1 e3 HB HT HO
 obtain⟨f0,f1,f2,_⟩:=F.out w3 (Below.refl _ _)
 go_wp2_with fail
 refine(unhide HZ _).mono ?_
 rintro e w4 ⟨rfl,hb4⟩
 clear f0 f1 f2
 obtain⟨f0,f1,f2,_⟩:=F.out w4 hb4
 have Bc:Hid (Below w3.heap.size w3 w4.drew):=below_drewN hb4 1
 clear hb4
 have hwrap:IntKind.i64.wrap ((z:Int)+tot)=(z:Int)+tot:=by rw[IntKind.wrap_i64];omega
 have hzi:(((z:Nat):Int) == 0)=false:=by simp;omega
 go_wp2_with fail
 go_region_with (first
  | (go_at_call 45;refine(unhide HZ _).mono ?_;rintro e wa ⟨rfl,hba⟩;have Bc:Hid (Below w3.heap.size w3 wa):=Bc.out.trans (hba.mono Bc.out.size);clear hba;obtain⟨f0,f1,f2,_⟩:=F.out wa Bc.out)
  | (go_at_call 42;refine(unhide HTT _ (F.out _ Bc.out).2.2.2).mono ?_;rintro e wa ⟨rfl,hba⟩;have Bc:Hid (Below w3.heap.size w3 wa):=Bc.out.trans (hba.mono Bc.out.size);clear hba;obtain⟨f0,f1,f2,_⟩:=F.out wa Bc.out))
 all_goals
  go_wp2
  go_ret
  exact⟨rfl,(F.out _ Bc.out).2.2.2⟩
end Go.Proofs.YthboeppmlhbofabDoor
