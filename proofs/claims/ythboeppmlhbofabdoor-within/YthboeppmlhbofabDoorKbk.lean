import Derived.Test.YthboeppmlhbofabDoorDcd
import Derived.Test.YthboeppmlhbofabDoorKba
import Derived.Test.YthboeppmlhbofabDoorKad
namespace Go.Proofs.YthboeppmlhbofabDoor
open Go.RowKit Txt
set_option maxRecDepth 100000
structure Cu where
 n:Nat
 s:Int
 i:Bool
 o:List Int
def dgB(c:UInt8):Bool:=decide (48≤c.toNat) && decide (c.toNat≤57)
def cuS(q:Cu)(c:UInt8):Cu:=if dgB c then ⟨10*q.n % 10000+(c.toNat - 48),q.s,true,q.o⟩ else if c.toNat=45 then { q with s:=-1 } else ⟨0,1,false,if q.i then q.o++[q.s*q.n] else q.o⟩
def cuE(q:Cu):List Int:=if q.i && q.n != 0 then q.o++[q.s*q.n] else q.o
def cu0:Cu:=⟨0,1,false,[]⟩
def cuL(l:List UInt8):Cu:=l.foldl cuS cu0
theorem cuL_snoc(l:List UInt8)(c:UInt8):cuL (l++[c])=cuS (cuL l) c:=by simp[cuL]
theorem cu_lit{x:Int}(h:litB x=true)(o:List Int):(litT x).foldl cuS ⟨0,1,false,o⟩=⟨0,1,false,o++[x]⟩:=by
 have key:∀ x,litB x=true→∃ l:List UInt8,litT x=l∧∀ o,l.foldl cuS ⟨0,1,false,o⟩=⟨0,1,false,o++[x]⟩:=by
  intro x h
  rcases lit_cases h with rfl|rfl|rfl|rfl|rfl|rfl|rfl|rfl|rfl|rfl|rfl|rfl|rfl|rfl|rfl|rfl|rfl|rfl|rfl|rfl
  ·exact⟨[45,49,48,32],by decide +kernel,fun o=>rfl⟩
  ·exact⟨[45,57,32],by decide +kernel,fun o=>rfl⟩
  ·exact⟨[45,56,32],by decide +kernel,fun o=>rfl⟩
  ·exact⟨[45,55,32],by decide +kernel,fun o=>rfl⟩
  ·exact⟨[45,54,32],by decide +kernel,fun o=>rfl⟩
  ·exact⟨[45,53,32],by decide +kernel,fun o=>rfl⟩
  ·exact⟨[45,52,32],by decide +kernel,fun o=>rfl⟩
  ·exact⟨[45,51,32],by decide +kernel,fun o=>rfl⟩
  ·exact⟨[45,50,32],by decide +kernel,fun o=>rfl⟩
  ·exact⟨[45,49,32],by decide +kernel,fun o=>rfl⟩
  ·exact⟨[49,32],by decide +kernel,fun o=>rfl⟩
  ·exact⟨[50,32],by decide +kernel,fun o=>rfl⟩
  ·exact⟨[51,32],by decide +kernel,fun o=>rfl⟩
  ·exact⟨[52,32],by decide +kernel,fun o=>rfl⟩
  ·exact⟨[53,32],by decide +kernel,fun o=>rfl⟩
  ·exact⟨[54,32],by decide +kernel,fun o=>rfl⟩
  ·exact⟨[55,32],by decide +kernel,fun o=>rfl⟩
  ·exact⟨[56,32],by decide +kernel,fun o=>rfl⟩
  ·exact⟨[57,32],by decide +kernel,fun o=>rfl⟩
  ·exact⟨[49,48,32],by decide +kernel,fun o=>rfl⟩
 obtain⟨l,e,hl⟩:=key x h
 rw[e]
 exact hl o
theorem cu_lits:∀ (xs:List Int) (o:List Int),xs.all litB=true→(litsT xs).foldl cuS ⟨0,1,false,o⟩=⟨0,1,false,o++xs⟩:=by
 intro xs
 induction xs with
 | nil=>intro o _;simp[litsT]
 | cons x xs ih =>
  intro o h
  simp only[List.all_cons,Bool.and_eq_true] at h
  have e:litsT (x :: xs)=litT x++litsT xs:=by simp[litsT]
  rw[e,List.foldl_append,cu_lit h.1,ih _ h.2]
  simp
def bodyT(xs:List Int):List UInt8:=32 :: (litsT xs++[48])
theorem cu_body{xs:List Int}(h:xs.all litB=true):cuE (cuL (bodyT xs))=xs:=by
 have e:cuL (bodyT xs)=⟨0,1,true,xs⟩:=by
  unfold cuL bodyT
  rw[List.foldl_cons,List.foldl_append]
  have e1:cuS cu0 32=⟨0,1,false,[]⟩:=rfl
  rw[e1,cu_lits xs [] h]
  simp[cuS,dgB]
 rw[e]
 simp[cuE]
theorem itoa_end{x:Int}(h:litB x=true):(litT x).all (fun c=>c != 10)=true:=by
 rcases lit_cases h with rfl|rfl|rfl|rfl|rfl|rfl|rfl|rfl|rfl|rfl|rfl|rfl|rfl|rfl|rfl|rfl|rfl|rfl|rfl|rfl <;> decide +kernel
theorem body_end:∀ {xs:List Int},xs.all litB=true→∀ c∈bodyT xs,c≠10:=by
 have key:∀ xs:List Int,xs.all litB=true→(litsT xs).all (fun c=>c != 10)=true:=by
  intro xs
  induction xs with
  | nil=>intro _;simp[litsT]
  | cons x xs ih =>
   intro h
   simp only[List.all_cons,Bool.and_eq_true] at h
   have e:litsT (x :: xs)=litT x++litsT xs:=by simp[litsT]
   rw[e,List.all_append,itoa_end h.1,ih h.2]
   rfl
 intro xs h c hc
 unfold bodyT at hc
 simp only[List.mem_cons,List.mem_append,List.not_mem_nil,or_false] at hc
 rcases hc with rfl | hc | rfl
 ·decide
 ·have:=List.all_eq_true.1 (key xs h) c hc
  simpa using this
 ·decide
theorem line_parts(lt:UInt8)(xs:List Int):lineT lt xs=lt :: (bodyT xs++[10]):=by simp[lineT,bodyT]
theorem cu_bd(l:List UInt8):(cuL l).n≤10008∧((cuL l).s=1∨(cuL l).s=-1)∧(cuL l).o.length≤l.length:=by
 have key:∀ (l:List UInt8) (q:Cu) (m:Nat),q.n≤10008→(q.s=1∨q.s=-1)→q.o.length≤m→(l.foldl cuS q).n≤10008∧((l.foldl cuS q).s=1∨(l.foldl cuS q).s=-1)∧(l.foldl cuS q).o.length≤m+l.length:=by
  intro l
  induction l with
  | nil=>intro q m a b c;exact⟨a,b,by simpa using c⟩
  | cons x l ih =>
   intro q m a b c
   simp only[List.foldl_cons,List.length_cons]
   have:m+(l.length+1)=(m+1)+l.length:=by omega
   rw[this]
   refine ih (cuS q x) (m+1) ?_ ?_ ?_
   ·unfold cuS
    split
    ·rename_i h
     simp only[dgB,Bool.and_eq_true,decide_eq_true_eq] at h
     simp only
     omega
    ·split
     ·exact a
     ·simp
   ·unfold cuS
    split
    ·exact b
    ·split
     ·exact .inr rfl
     ·exact .inl rfl
   ·unfold cuS
    split
    ·simp only;omega
    ·split
     ·simp only;omega
     ·split
      ·simp;omega
      ·simp only;omega
 have:=key l cu0 0 (by simp[cu0]) (.inl rfl) (by simp[cu0])
 simpa [cuL] using this
def posL(L:List Lin)(k:Nat):Nat:=(linesT (L.take k)).length
theorem linesT_app(A B:List Lin):linesT (A++B)=linesT A++linesT B:=by
 unfold linesT
 exact List.flatMap_append
theorem linesT_split(L:List Lin)(k:Nat):linesT L=linesT (L.take k)++linesT (L.drop k):=by
 rw[← linesT_app,List.take_append_drop]
theorem pos_drop{L:List Lin}{k:Nat}(hk:k<L.length):(linesT L).drop (posL L k)=(L.getD k (0,[])).1 :: (bodyT (L.getD k (0,[])).2++10 :: linesT (L.drop (k+1))):=by
 rw[linesT_split L k]
 unfold posL
 rw[List.drop_left,List.drop_eq_getElem_cons hk,linesT_cons,line_parts,List.getD_eq_getElem?_getD,List.getElem?_eq_getElem hk]
 simp
theorem pos_succ{L:List Lin}{k:Nat}(hk:k<L.length):posL L (k+1)=posL L k+(bodyT (L.getD k (0,[])).2).length+2:=by
 unfold posL
 rw[List.take_succ_eq_append_getElem hk,List.getD_eq_getElem?_getD,List.getElem?_eq_getElem hk]
 have e2:linesT [L[k]]=lineT L[k].1 L[k].2:=by unfold linesT;simp
 have e:linesT (L.take k++[L[k]])=linesT (L.take k)++lineT L[k].1 L[k].2:=by rw[linesT_app,e2]
 rw[e,line_parts]
 simp
 omega
theorem pos_end(L:List Lin):posL L L.length=(linesT L).length:=by unfold posL;rw[List.take_length]
theorem pos_lt{L:List Lin}{k:Nat}(hk:k<L.length):posL L k+(bodyT (L.getD k (0,[])).2).length+2≤(linesT L).length:=by
 rw[← pos_succ hk]
 have h:=congrArg List.length (linesT_split L (k+1))
 rw[List.length_append] at h
 unfold posL
 omega
def frOk(hv:List Nat):List Nat→List Lin→Prop
 | _,[]=>True
 | lr,p :: ps=>p.2.all litB=true∧((p.1=97∧sizeN (setOk p.2)=p.2.length∧twinB (setOk p.2)=false∧setOk p.2 ∉ hv++lr∧frOk hv (lr++[setOk p.2]) ps)∨(p.1=101∧frOk hv lr ps))
theorem fr_lines{h l:Int}{hv:List Nat}(rest:List Lin):∀ (ls:List Lin) (j:JV),linesOk 0 h l hv j ls→frOk hv (linesTo j ls).lr rest→frOk hv j.lr (ls++rest):=by
 intro ls
 induction ls with
 | nil=>intro j _ hr;exact hr
 | cons p ls ih =>
  intro j hl hr
  obtain⟨a1,a2,_,a4⟩:=hl
  have h1:=ih (lineTo j p) a4 hr
  refine⟨a1,?_⟩
  rcases a2.2 with⟨e,b,_⟩ | ⟨e,_⟩ | ⟨_,_,e,_⟩
  ·have e1:(lineTo j p).lr=j.lr++[setOk p.2]:=by unfold lineTo;rw[if_pos e]
   rw[e1] at h1
   unfold clauseD at b
   simp only[Bool.and_eq_true,beq_iff_eq,Bool.false_or,Bool.not_eq_true',decide_eq_false_iff_not] at b
   exact .inl ⟨e,b.1.1.1.2,b.2.1,b.2.2,h1⟩
  ·have e1:(lineTo j p).lr=j.lr:=by unfold lineTo;rw[e,if_neg (by decide),if_neg (by decide)]
   rw[e1] at h1
   exact .inr ⟨e,h1⟩
  ·exact absurd rfl e
theorem fr_solve{v v':Vw}{xs:List Int}{b:Int}{x:Ans}{ls rest:List Lin}{st:Nat}(so:SolveOk v xs b v' x ls st)(hr:v.r=0)(h:frOk v.hv v'.lr rest):frOk v.hv v.lr (ls++rest):=by
 have h1:=so.ok
 rw[hr] at h1
 refine fr_lines rest ls ⟨v.lr,litsN v.lr,v.log,0⟩ h1 ?_
 rw[so.to]
 exact h
def alikeB(a b:List Int):Bool:=(a.length == b.length) && a.all (fun x=>b.any (fun y=>y == x))
theorem alike_no{tk ls:List (List Int)}(htk:∀ c∈tk,c.all litB=true)(hls:∀ c∈ls,c.all litB=true){c:List Int}(hc:c.all litB=true)(h1:sizeN (setOk c)=c.length)(h2:twinB (setOk c)=false)(h3:setOk c ∉ hvOf tk++ls.map setOk){b:List Int}(hb:b∈tk++ls):alikeB c b=false:=by
 cases ha:alikeB c b with
 | false=>rfl
 | true =>
  exfalso
  unfold alikeB at ha
  rw[Bool.and_eq_true,beq_iff_eq] at ha
  have hbl:b.all litB=true:=(List.mem_append.1 hb).elim (htk b) (hls b)
  have hsub:SubN (setN c) (setN b):=fun i hi=>by
   obtain⟨n,hn,rfl⟩:=set_bit hi
   have:=List.all_eq_true.1 ha.2 n hn
   obtain⟨y,hy,e⟩:=List.any_eq_true.1 this
   rw[beq_iff_eq] at e
   subst e
   exact bit_set hy
  have e:setN c=setN b:=by
   by_cases q:setN c=setN b
   ·exact q
   ·exfalso
    have hb20:setN b<2^20:=setN_lt b hbl
    have q1:=size_lt hsub hb20 q
    have q2:=size_le_len b
    rw[set_ok hc] at h1
    omega
  rw[set_ok hc,e] at h2 h3
  refine h3 (List.mem_append.2 ?_)
  rcases List.mem_append.1 hb with q | q
  ·refine .inl ?_
   unfold hvOf
   exact List.mem_map.2 ⟨b,List.mem_filter.2 ⟨q,by rw[h2];rfl⟩,rfl⟩
  ·exact .inr (List.mem_map.2 ⟨b,q,set_ok hbl⟩)
theorem fresh_three{P:Prg}{s:P.S}{tk:List (List Int)}(t:TkOk P 0 1048576 1048576 s tk){xs:List Int}{b:Int}(ha:askedD xs b=0) :
  P.Ok (P.slv s xs b)∧P.Ok (P.slv (P.slv s xs b) [] 1)∧P.Ok (P.slv (P.slv (P.slv s xs b) [] 1) [] 0)∧(P.vw (P.slv s xs b)).hv=hvOf tk∧(P.vw (P.slv (P.slv s xs b) [] 1)).hv=hvOf tk∧∃ L,(P.vw (P.slv (P.slv (P.slv s xs b) [] 1) [] 0)).pf=linesT L∧frOk (hvOf tk) [] L:=by
 obtain⟨o1,l1,t1,q1⟩:=P.slvV s xs b t.ok ha
 obtain⟨o2,l2,t2,q2⟩:=P.slvV _ [] 1 o1 (by decide)
 obtain⟨o3,l3,t3,q3⟩:=P.slvV _ [] 0 o2 (by decide)
 have hv0:(P.vw s).hv=hvOf tk:=by rw[t.v]
 have hr0:(P.vw s).r=0:=by rw[t.v]
 have hl0:(P.vw s).lr=[]:=by rw[t.v]
 have hp0:(P.vw s).pf=[]:=by rw[t.v]
 have hv1:=q1.hv.trans hv0
 have hv2:=q2.hv.trans hv1
 have hr1:=q1.r.trans hr0
 have hr2:=q2.r.trans hr1
 refine⟨o1,o2,o3,hv1,hv2,l1++(l2++(l3++[])),?_,?_⟩
 ·rw[q3.pf,q2.pf,q1.pf,hp0]
  simp[linesT]
 ·have h3:frOk (hvOf tk) (P.vw (P.slv (P.slv s xs b) [] 1)).lr (l3++[]):=by rw[← hv2];exact fr_solve q3 hr2 trivial
  have h2:frOk (hvOf tk) (P.vw (P.slv s xs b)).lr (l2++(l3++[])):=by
   rw[← hv1];rw[← hv1] at h3;exact fr_solve q2 hr1 h3
  have h1:frOk (hvOf tk) (P.vw s).lr (l1++(l2++(l3++[]))):=by
   rw[← hv0];rw[← hv0] at h2;exact fr_solve q1 hr0 h2
  rw[hl0] at h1
  exact h1
theorem digitT_any(c:Nat)(w:World):Calls Tryd.prog 38 #[.int .u8 c] w fun e w'=>e=.returned (.bool (decide (48≤c) && decide (c≤57)))∧w'=w:=by
 by_cases h1:(c:Int) ≥ 48
 ·by_cases h2:(c:Int)≤57
  ·go_enter Tryd.func38,Tryd.ntmps38
   go_wp2
   go_ret
   refine⟨ret_bool ?_,rfl⟩
   have a:48≤c:=by omega
   have b:c≤57:=by omega
   simp[a,b]
  ·go_enter Tryd.func38,Tryd.ntmps38
   go_wp2
   go_ret
   refine⟨ret_bool ?_,rfl⟩
   have b:¬ c≤57:=by omega
   simp[b]
 ·go_enter Tryd.func38,Tryd.ntmps38
  go_wp2
  go_ret
  refine⟨ret_bool ?_,rfl⟩
  have b:¬ 48≤c:=by omega
  simp[b]
set_option maxHeartbeats 8000000 in
theorem lineT_any(s:ByteArray)(p:Nat)(lt:UInt8)(body post:List UInt8)(w:World)(hd:(bs s).drop p=lt :: (body++10 :: post))(hb:∀ c∈body,c≠10)(hs:s.size≤4194304) :
  Calls Tryd.prog 17 #[.string s,.int .i64 p] w fun e w'=>∃ a' c',e=.returned (.tuple #[.int .u8 (lt.toNat:Nat),.slice a' (cuE (cuL body)).length c',.int .i64 ((p+body.length+2:Nat):Int)])∧w'.ownsRow w.heap.size 3 1 (.slice a' (cuE (cuL body)).length c') (cuE (cuL body)).length (i64s (cuE (cuL body)))∧Below w.heap.size w w':=by
 obtain⟨i0,hi0,hz0,hz1,hz2⟩:=info_parts Tryd.infoInt
 obtain⟨R,hR⟩:∃ R,R=cuE (cuL body):=⟨_,rfl⟩
 rw[← hR]
 have HRR:=hide hR
 clear hR
 have hp:p<s.size:=by
  have:=(drop_at hd).2
  rw[bs_length] at this
  exact this
 have hlt:s[p]=lt:=by
  have:=bs_drop s p hp
  rw[hd] at this
  simp only[List.cons.injEq] at this
  exact this.1.symm
 have hd1:(bs s).drop (p+1)=body++10 :: post:=by
  have:=bs_drop s p hp
  rw[hd] at this
  simp only[List.cons.injEq] at this
  exact this.2.symm
 have hbl:body.length+p+2≤s.size:=by
  have:=congrArg List.length hd
  simp only[List.length_drop,bs_length,List.length_cons,List.length_append] at this
  omega
 subst hlt
 have HD1:=hide hd1
 have HBN:=hide hb
 have HDG:Hid (∀ (c:Nat) (w:World),Calls Tryd.prog 38 #[.int .u8 c] w fun e w'=>e=.returned (.bool (decide (48≤c) && decide (c≤57)))∧w'=w):=digitT_any
 clear hd hd1 hb
 go_enter Tryd.func17,Tryd.ntmps17
 go_wp2
 go_loopw [1,8,9,10,11] (fun x1 x8 x9 x10 x11 wr=>∃ (j:Nat) (dn rest:List UInt8) (a1:Option Addr) (c1:Nat),x1=.int .i64 j∧Hid (body=dn++rest)∧Hid ((bs s).drop j=rest++10 :: post)∧Hid (j=p+1+dn.length)∧x8=.slice a1 (cuL dn).o.length c1∧x9=.int .i64 (cuL dn).n∧x10=.int .i64 (cuL dn).s∧x11=.bool (cuL dn).i∧Hid (wr.ownsRow w.heap.size 3 1 (.slice a1 (cuL dn).o.length c1) (cuL dn).o.length (i64s (cuL dn).o))∧Hid (Below w.heap.size w wr)) (fun x1 _ _ _ _ _=>s.size - (intOf x1).toNat)
 case atStart=>exact⟨p+1,[],body,none,0,by go_num,rfl,HD1,rfl,rfl,rfl,rfl,rfl,⟨by simp[cuL,cu0,i64s],.inl ⟨by simp[cuL,cu0],by simp[cuL,cu0]⟩⟩,Below.refl _ _⟩
 case round =>
  obtain⟨j,dn,rest,a1,c1,rfl,HE,HD,HJ,rfl,rfl,rfl,rfl,HO,HB⟩:=hrel
  have hz:w.heap.size≤wr.heap.size:=HB.out.size
  obtain⟨hn,hsg,hol⟩:=cu_bd dn
  have hjs:j<s.size:=by
   have:=(drop_at (c:=(rest++10 :: post).headD 0) (b:=(rest++10 :: post).tail) (by rw[HD.out];cases rest <;> rfl)).2
   rw[bs_length] at this
   exact this
  have hwr:∀ m:Int,-20000≤m→m≤20000→IntKind.i64.wrap m=m:=fun m q1 q2=>by rw[IntKind.wrap_i64];omega
  have hmul:Hid (IntKind.i64.wrap ((cuL dn).s*((cuL dn).n:Int))=(cuL dn).s*((cuL dn).n:Int)):=by
   refine hwr _ ?_ ?_
   ·rcases hsg with e | e <;> rw[e] <;> omega
   ·rcases hsg with e | e <;> rw[e] <;> omega
  have d1:Hid ((cuL dn).o.length+1≤maxLen):=by
   have h1:=congrArg List.length HE.out
   simp only[List.length_append] at h1
   show _≤_;unfold maxLen;omega
  have d2:Hid (((cuL dn).o.length+1)*8≤140737488355328):=by
   have h1:=congrArg List.length HE.out
   simp only[List.length_append] at h1
   show _≤_;omega
  cases rest with
  | nil =>
   have hc:s[j]=10:=by
    have:=bs_drop s j hjs
    rw[HD.out] at this
    simp only[List.nil_append,List.cons.injEq] at this
    exact this.1.symm
   have hb10:(((s[j].toNat:Nat):Int) != 10)=false:=by rw[hc];rfl
   have eb:body=dn:=by simpa using HE.out
   subst eb
   have HJ2:Hid ((j:Int)+1=((p+body.length+2:Nat):Int)):=by show _=_;have:=HJ.out;omega
   have HEE:Hid (R=if (cuL body).i && (cuL body).n != 0 then (cuL body).o++[(cuL body).s*(cuL body).n] else (cuL body).o):=HRR.out
   clear HD HE HJ HBN HDG hc hwr hsg hol HRR HD1
   generalize cuL body=q at *
   obtain⟨n,sg,i,o⟩:=q
   simp only at *
   cases i with
   | false =>
    obtain rfl:R=o:=by rw[HEE.out];rfl
    clear HEE
    go_wp2
    go_ret3
    refine⟨a1,c1,?_,HO.out,HB.out⟩
    rw[← HJ2.out]
    rfl
   | true =>
    by_cases hn0:n=0
    ·subst hn0
     obtain rfl:R=o:=by rw[HEE.out];rfl
     clear HEE
     go_wp2
     go_ret3
     refine⟨a1,c1,?_,HO.out,HB.out⟩
     rw[← HJ2.out]
     rfl
    ·have hnb:((n:Int) != 0)=true:=by simp[hn0]
     obtain rfl:R=o++[sg*n]:=by
      rw[HEE.out]
      simp[hn0]
     clear HEE
     have hmul':=hmul.out
     go_wp2_with (at_builtin;refine wpList_append_at _ rfl _ _ 23 rfl w.heap.size 3 i0 (.int .i64 0) 8 Tryd.undInts hi0 hz0 hz1 hz2 rfl (.slice a1 o.length c1) o.length (i64s o) rfl (HO.out.alloc _) ⟨wr.heap.size,0,none⟩ 1 1 [.int .i64 (sg*n)] rfl rfl (new_cells1 wr [.int .i64 (sg*n)] 3) (by intro u hu;simp at hu;subst hu;rfl) (by decide) d1.out d2.out (by simp;exact Nat.le_succ_of_le hz) ?_;intro v3 w3 hown3 hg3 hwh3)
     obtain⟨a3,c3,rfl⟩:=own_shape hown3
     have HB3:Hid (Below w.heap.size w w3):=(HB.out.alloc hz _).grown hg3 (HB.out.alloc hz _).size (fun k hk=>(HO.out.lt k hk).1)
     have HO3:Hid (w3.ownsRow w.heap.size 3 1 (.slice a3 (o++[sg*n]).length c3) (o++[sg*n]).length (i64s (o++[sg*n]))):=by
      have e:i64s (o++[sg*n])=i64s o++[.int .i64 (sg*n)]:=by simp[i64s]
      rw[e,List.length_append];exact hown3
     clear hown3 hg3 hwh3
     go_wp2
     go_ret3
     refine⟨a3,c3,?_,HO3.out,HB3.out⟩
     rw[← HJ2.out,List.length_append]
     rfl
  | cons c rest =>
   have hc:s[j]=c:=by
    have:=bs_drop s j hjs
    rw[HD.out] at this
    simp only[List.cons_append,List.cons.injEq] at this
    exact this.1.symm
   have HD2:Hid ((bs s).drop (j+1)=rest++10 :: post):=by
    have:=bs_drop s j hjs
    rw[HD.out] at this
    simp only[List.cons_append,List.cons.injEq] at this
    exact this.2.symm
   subst hc
   have hne:s[j]≠10:=HBN.out _ (by rw[HE.out];simp)
   have hb10:(((s[j].toNat:Nat):Int) != 10)=true:=by
    rw[bne_iff_ne]
    intro e
    exact hne (UInt8.toNat_inj.1 (by show s[j].toNat=10;omega))
   have HE2:Hid (body=(dn++[s[j]])++rest):=by show _=_;rw[HE.out];simp
   have HJ2:Hid (j+1=p+1+(dn++[s[j]]).length):=by show _=_;have:=HJ.out;simp;omega
   have HSN:=hide (cuL_snoc dn s[j])
   have hu8:s[j].toNat<256:=UInt8.toNat_lt _
   have HM:Hid (IntKind.i64.wrap (10*((cuL dn).n:Int))=10*((cuL dn).n:Int)):=by
    show _=_
    rw[IntKind.wrap_i64];omega
   have HTM:Hid (Int.tmod (10*((cuL dn).n:Int)) 10000=((10*(cuL dn).n % 10000:Nat):Int)):=by
    show _=_
    rw[Int.tmod_eq_emod_of_nonneg (by omega)]
    omega
   clear HD HE HJ HBN hne HRR HD1
   by_cases hdg:48≤s[j].toNat∧s[j].toNat≤57
   ·have HDB:Hid ((decide (48≤s[j].toNat) && decide (s[j].toNat≤57))=true):=by
     show _=_
     rw[decide_eq_true hdg.1,decide_eq_true hdg.2];rfl
    have HQ:Hid (cuL (dn++[s[j]])=⟨10*(cuL dn).n % 10000+(s[j].toNat - 48),(cuL dn).s,true,(cuL dn).o⟩):=by
     show _=_
     rw[HSN.out]
     unfold cuS dgB
     rw[if_pos HDB.out]
    generalize cuL dn=q at *
    obtain⟨n,sg,i,o⟩:=q
    simp only at *
    have hm:=HM.out
    have htm:=HTM.out
    have hu:IntKind.u8.wrap (((s[j].toNat:Nat):Int) - 48)=((s[j].toNat - 48:Nat):Int):=by
     rw[show(((s[j].toNat:Nat):Int) - 48)=((s[j].toNat - 48:Nat):Int) by omega]
     exact wraps_u8 _ (by omega) (by omega)
    clear HSN HM HTM hmul hwr hsg
    go_wp2_with fail
    refine(unhide HDG s[j].toNat _).mono ?_
    rintro e w2 ⟨rfl,hw⟩
    obtain rfl:=hw.symm
    rw[HDB.out]
    go_wp2
    go_roundw
    case rel=>exact⟨j+1,dn++[s[j]],rest,a1,c1,by go_num,HE2,HD2,HJ2,by rw[HQ.out],by rw[HQ.out];exact congrArg (Value.int .i64) (by show _=((10*n % 10000+(s[j].toNat - 48):Nat):Int);omega),by rw[HQ.out],by rw[HQ.out],by rw[HQ.out];exact HO,HB⟩
    case measure=>simp[intOf];omega
   ·have HDB:Hid ((decide (48≤s[j].toNat) && decide (s[j].toNat≤57))=false):=by
     show _=_
     rw[Bool.and_eq_false_iff,decide_eq_false_iff_not,decide_eq_false_iff_not];omega
    have hdn:dgB s[j]=false:=HDB.out
    by_cases h45:s[j].toNat=45
    ·have HQ:Hid (cuL (dn++[s[j]])=⟨(cuL dn).n,-1,(cuL dn).i,(cuL dn).o⟩):=by
      show _=_
      rw[HSN.out]
      unfold cuS
      rw[hdn,if_neg (by simp),if_pos h45]
     have hb45:(((s[j].toNat:Nat):Int) == 45)=true:=by rw[h45];rfl
     generalize cuL dn=q at *
     obtain⟨n,sg,i,o⟩:=q
     simp only at *
     clear HSN HM HTM hmul hwr hsg hdn h45
     go_wp2_with fail
     refine(unhide HDG s[j].toNat _).mono ?_
     rintro e w2 ⟨rfl,hw⟩
     obtain rfl:=hw.symm
     rw[HDB.out]
     go_wp2
     go_roundw
     case rel=>exact⟨j+1,dn++[s[j]],rest,a1,c1,by go_num,HE2,HD2,HJ2,by rw[HQ.out],by rw[HQ.out],by rw[HQ.out],by rw[HQ.out],by rw[HQ.out];exact HO,HB⟩
     case measure=>simp[intOf];omega
    ·have HQ:Hid (cuL (dn++[s[j]])=⟨0,1,false,if (cuL dn).i then (cuL dn).o++[(cuL dn).s*(cuL dn).n] else (cuL dn).o⟩):=by
      show _=_
      rw[HSN.out]
      unfold cuS
      rw[hdn,if_neg (by simp),if_neg h45]
     have hb45:(((s[j].toNat:Nat):Int) == 45)=false:=by
      rw[beq_eq_false_iff_ne];omega
     generalize cuL dn=q at *
     obtain⟨n,sg,i,o⟩:=q
     simp only at *
     clear HSN HM HTM hwr hsg hdn h45 hdg
     cases i with
     | false =>
      simp only[Bool.false_eq_true,if_false] at HQ
      clear hmul
      go_wp2_with fail
      refine(unhide HDG s[j].toNat _).mono ?_
      rintro e w2 ⟨rfl,hw⟩
      obtain rfl:=hw.symm
      rw[HDB.out]
      go_wp2
      go_roundw
      case rel=>exact⟨j+1,dn++[s[j]],rest,a1,c1,by go_num,HE2,HD2,HJ2,by rw[HQ.out],by rw[HQ.out];rfl,by rw[HQ.out],by rw[HQ.out],by rw[HQ.out];exact HO,HB⟩
      case measure=>simp[intOf];omega
     | true =>
      simp only[if_true] at HQ
      have hmul':=hmul.out
      go_wp2_with fail
      refine(unhide HDG s[j].toNat _).mono ?_
      rintro e w2 ⟨rfl,hw⟩
      obtain rfl:=hw.symm
      rw[HDB.out]
      go_wp2_with (at_builtin;refine wpList_append_at _ rfl _ _ 23 rfl w.heap.size 3 i0 (.int .i64 0) 8 Tryd.undInts hi0 hz0 hz1 hz2 rfl (.slice a1 o.length c1) o.length (i64s o) rfl (HO.out.alloc _) ⟨wr.heap.size,0,none⟩ 1 1 [.int .i64 (sg*n)] rfl rfl (new_cells1 wr [.int .i64 (sg*n)] 3) (by intro u hu;simp at hu;subst hu;rfl) (by decide) d1.out d2.out (by simp;exact Nat.le_succ_of_le hz) ?_;intro v3 w3 hown3 hg3 hwh3)
      obtain⟨a3,c3,rfl⟩:=own_shape hown3
      have HB3:Hid (Below w.heap.size w w3):=(HB.out.alloc hz _).grown hg3 (HB.out.alloc hz _).size (fun k hk=>(HO.out.lt k hk).1)
      have HO3:Hid (w3.ownsRow w.heap.size 3 1 (.slice a3 (o++[sg*n]).length c3) (o++[sg*n]).length (i64s (o++[sg*n]))):=by
       have e:i64s (o++[sg*n])=i64s o++[.int .i64 (sg*n)]:=by simp[i64s]
       rw[e,List.length_append];exact hown3
      clear hown3 hg3 hwh3
      go_wp2
      go_roundw
      case rel=>exact⟨j+1,dn++[s[j]],rest,a3,c3,by go_num,HE2,HD2,HJ2,by rw[HQ.out,List.length_append];rfl,by rw[HQ.out];rfl,by rw[HQ.out],by rw[HQ.out],by rw[HQ.out];exact HO3,HB3⟩
      case measure=>simp[intOf];omega
def cntA(ys:List Int)(v:Int)(k:Nat):Nat:=((ys.take k).filter fun b=>b == v).length
theorem cntA_succ(ys:List Int)(v:Int)(k:Nat)(hk:k<ys.length):cntA ys v (k+1)=cntA ys v k+(if ys.getD k 0=v then 1 else 0):=by
 unfold cntA
 rw[List.take_succ_eq_append_getElem hk,List.filter_append,List.length_append,List.getD_eq_getElem?_getD,List.getElem?_eq_getElem hk]
 simp only[Option.getD_some,List.filter_cons,List.filter_nil]
 by_cases h:ys[k]=v
 ·simp[h]
 ·simp[h]
theorem cntA_any(ys:List Int)(v:Int):ys.any (fun y=>y == v)=!(cntA ys v ys.length == 0):=by
 unfold cntA
 rw[List.take_of_length_le (Nat.le_refl _)]
 induction ys with
 | nil=>rfl
 | cons y ys ih =>
  rw[List.any_cons,List.filter_cons]
  cases h:y == v with
  | true=>simp
  | false=>simpa using ih
def inAll(xs ys:List Int)(k:Nat):Bool:=(xs.take k).all (fun x=>ys.any (fun y=>y == x))
theorem inAll_succ(xs ys:List Int)(k:Nat)(hk:k<xs.length):inAll xs ys (k+1)=(inAll xs ys k && ys.any (fun y=>y == xs.getD k 0)):=by
 unfold inAll
 rw[List.take_succ_eq_append_getElem hk,List.all_append,List.getD_eq_getElem?_getD,List.getElem?_eq_getElem hk]
 simp
theorem inAll_no{xs ys:List Int}{k:Nat}(hk:k<xs.length)(h:ys.any (fun y=>y == xs.getD k 0)=false):alikeB xs ys=false:=by
 unfold alikeB
 rw[List.getD_eq_getElem?_getD,List.getElem?_eq_getElem hk] at h
 rw[Bool.and_eq_false_iff]
 refine .inr (List.all_eq_false.2 ⟨xs[k],List.getElem_mem hk,?_⟩)
 have h':ys.any (fun y=>y == xs[k])=false:=h
 rw[h']
 simp
set_option maxHeartbeats 4000000 in
theorem alikeT_any(a1 a2:Option Addr)(c1 c2:Nat)(xs ys:List Int)(w:World)(h1:IntsAt w a1 xs)(h2:IntsAt w a2 ys)(hx:xs.length≤10000000)(hy:ys.length≤10000000) :
  Calls Tryd.prog 20 #[.slice a1 xs.length c1,.slice a2 ys.length c2] w fun e w'=>e=.returned (.bool (alikeB xs ys))∧Below w.heap.size w w':=by
 by_cases hl:xs.length=ys.length
 ·have H1:=hide h1
  have H2:=hide h2
  have hlb:((xs.length:Int) != (ys.length:Int))=false:=by rw[hl];simp
  have HB0:Hid (Below w.heap.size w w):=Below.refl _ _
  have HAL:Hid (alikeB xs ys=inAll xs ys xs.length):=by
   show _=_
   unfold alikeB inAll
   rw[hl,beq_self_eq_true,Bool.true_and,← hl,List.take_of_length_le (Nat.le_refl _)]
  have HNO:Hid (∀ k,k<xs.length→ys.any (fun y=>y == xs.getD k 0)=false→alikeB xs ys=false):=fun k q1 q2=>inAll_no q1 q2
  have HL:=hide hl
  generalize alikeB xs ys=RES at *
  clear h1 h2 hl
  go_enter Tryd.func20,Tryd.ntmps20
  go_wp2_with fail
  go_loopw [5] (fun x5 wr=>∃ i:Nat,i≤xs.length∧x5=.int .i64 i∧Hid (inAll xs ys i=true)∧Hid (Below w.heap.size w wr)) (fun x5 _=>xs.length - (intOf x5).toNat)
  case atStart=>exact⟨0,Nat.zero_le _,rfl,rfl,HB0⟩
  case round =>
   clear HB0
   obtain⟨i,hi,rfl,HI,BB⟩:=hrel
   by_cases hlt:i<xs.length
   ·have HX1:Hid (∀ wr,Below w.heap.size w wr→∃ b off,a1=some ⟨b,off,none⟩∧wr.cell? ⟨b,off+i,none⟩=some (.int .i64 (xs.getD i 0))):=fun wr hb=>by
     obtain⟨b,off,e,hc⟩:=(H1.out.below hb).get (by omega)
     exact⟨b,off,e,hc i hlt⟩
    have i1:(0:Int)≤(i:Int):=by omega
    have i2:(i:Int)<(xs.length:Int):=by omega
    have HN2:=hide (HNO.out i hlt)
    have HSU:=hide (inAll_succ xs ys i hlt)
    generalize xs.getD i 0=x at *
    clear HNO
    go_wp2_with fail
    go_loopw [6,7] (fun x6 x7 wz=>∃ (k n:Nat),k≤ys.length∧n≤k∧x7=.int .i64 k∧x6=.int .i64 n∧Hid (cntA ys x k=n)∧Hid (Below w.heap.size w wz)) (fun _ x7 _=>ys.length - (intOf x7).toNat)
    case atStart=>exact⟨0,0,Nat.zero_le _,Nat.le_refl _,rfl,rfl,rfl,BB⟩
    case round =>
     clear BB
     obtain⟨k,n,hk,hn,rfl,rfl,HC,BZ⟩:=hrel
     have BD:Hid (Below w.heap.size w wr.drew):=below_drewN BZ.out 1
     by_cases hk2:k<ys.length
     ·obtain⟨b2,o2,rfl,hc2⟩:=(H2.out.below BZ.out).get (by omega)
      have y1:=hc2 k hk2
      obtain⟨b1,o1,rfl,x1⟩:=HX1.out wr BZ.out
      have HS:=hide (cntA_succ ys x k hk2)
      have k1:(0:Int)≤(k:Int):=by omega
      have k2:(k:Int)<(ys.length:Int):=by omega
      generalize ys.getD k 0=y at *
      clear hc2
      by_cases e:y=x
      ·have eb:(x == y)=true:=by simpa using e.symm
       have HC2:Hid (cntA ys x (k+1)=n+1):=by show _=_;rw[HS.out,HC.out,if_pos e]
       clear e HS HC
       go_wp2_with fail
       go_region
       all_goals
        go_wp2
        go_roundw
        case rel=>exact⟨k+1,n+1,by omega,by omega,by go_num,by go_num,HC2,BD⟩
        case measure=>simp[intOf];omega
      ·have eb:(x == y)=false:=by simpa using fun q=>e (Eq.symm q)
       have HC2:Hid (cntA ys x (k+1)=n):=by show _=_;rw[HS.out,HC.out,if_neg e];rfl
       clear e HS HC
       go_wp2_with fail
       go_region
       all_goals
        go_wp2
        go_roundw
        case rel=>exact⟨k+1,n,by omega,by omega,by go_num,rfl,HC2,BD⟩
        case measure=>simp[intOf];omega
     ·obtain rfl:k=ys.length:=by omega
      have HAN:Hid (ys.any (fun y=>y == x)=!(n == 0)):=by show _=_;rw[cntA_any,HC.out]
      clear HC
      by_cases hn0:n=0
      ·subst hn0
       have hr:RES=false:=HN2.out (by rw[HAN.out];rfl)
       subst hr
       clear HAN HN2 HSU HAL
       go_wp2
       go_ret
       exact⟨rfl,BZ.out⟩
      ·have hnb:((n:Int) == 0)=false:=by rw[beq_eq_false_iff_ne];omega
       have HI2:Hid (inAll xs ys (i+1)=true):=by
        show _=_
        rw[HSU.out,HI.out,HAN.out]
        simp[hn0]
       clear HAN HN2 HSU hn0 HAL
       go_wp2
       go_roundw
       case rel=>exact⟨i+1,by omega,by go_num,HI2,BZ⟩
       case measure=>simp[intOf];omega
   ·obtain rfl:i=xs.length:=by omega
    have hr:RES=true:=by rw[HAL.out,HI.out]
    subst hr
    clear HAL HNO HI
    go_wp2
    go_ret
    exact⟨rfl,BB.out⟩
 ·have hr:alikeB xs ys=false:=by
   unfold alikeB
   rw[beq_eq_false_iff_ne.2 hl,Bool.false_and]
  have hlb:((xs.length:Int) != (ys.length:Int))=true:=by rw[bne_iff_ne];omega
  rw[hr]
  clear hr hl h1 h2
  go_enter Tryd.func20,Tryd.ntmps20
  go_wp2
  go_ret
  exact⟨rfl,Below.refl _ _⟩
end Go.Proofs.YthboeppmlhbofabDoor
