import Derived.Test.YthboeppmlhbofabDoorKad
import Derived.Test.YthboeppmlhbofabDoorClf
import Derived.Test.YthboeppmlhbofabDoorHal
import Derived.Test.YthboeppmlhbofabDoorKpt
namespace Go.Proofs.YthboeppmlhbofabDoor
open Go.RowKit Txt
set_option maxRecDepth 100000
def accD:List Nat→List Lin→Option (List Nat)
 | cs,[]=>some cs
 | cs,p :: ps=>if (stepD cs p.1.toNat p.2).1≠0 then none else accD (stepD cs p.1.toNat p.2).2 ps
theorem acc_app:∀ (a b:List Lin) (cs:List Nat),accD cs (a++b)=(accD cs a).bind fun cs'=>accD cs' b:=by
 intro a
 induction a with
 | nil=>intro b cs;rfl
 | cons p a ih =>
  intro b cs
  simp only[List.cons_append,accD]
  split
  ·rfl
  ·exact ih b _
theorem acc_lines{h l:Int}{hv:List Nat}:∀ (ls:List Lin) (j:JV),linesOk 0 h l hv j ls→accD (hv++j.lr) ls=some (hv++(linesTo j ls).lr):=by
 intro ls
 induction ls with
 | nil=>intro j _;rfl
 | cons p ls ih =>
  intro j hj
  obtain⟨_,a2,_,a4⟩:=hj
  have key:(stepD (hv++j.lr) p.1.toNat p.2).1=0∧(stepD (hv++j.lr) p.1.toNat p.2).2=hv++(lineTo j p).lr:=by
   have cl:∀ tail,clauseD hv j.lr p.2 tail=true→clashD (hv++j.lr) (oppN (setOk p.2))=true:=fun tail hc=>by
    unfold clauseD at hc
    simp only[Bool.and_eq_true] at hc
    exact hc.1.2
   rcases a2.2 with⟨e,b,_⟩ | ⟨e,b⟩ | ⟨_,_,b,_⟩
   ·have e1:p.1.toNat=97:=by rw[e];rfl
    unfold stepD lineTo
    rw[e1,cl _ b,if_neg (by decide),if_neg (by decide),if_pos rfl,if_pos e]
    exact⟨rfl,List.append_assoc ..⟩
   ·have e1:p.1.toNat=101:=by rw[e];rfl
    unfold stepD lineTo
    rw[e1,cl _ b,if_neg (by decide),if_neg (by decide),if_neg (by decide),e,if_neg (by decide),if_neg (by decide)]
    exact⟨rfl,rfl⟩
   ·exact absurd rfl b
  simp only[accD]
  rw[if_neg (by rw[key.1];simp),key.2,ih _ a4]
  rfl
theorem ln_text(l:List UInt8):∀ (ls:List Lin) (pre post:List UInt8) (m:Nat) (cs cs':List Nat) (n lt:Nat) (xs:List Int),l=pre++(linesT ls++post)→(∀ p∈ls,p.2.all litB=true∧(p.1=97∨p.1=100∨p.1=101))→accD cs ls=some cs' →
  lnD l (ls.length+m) cs pre.length n lt xs=lnD l m cs' (pre.length+(linesT ls).length) (n+ls.length) (ls.foldl (fun _ p=>p.1.toNat) lt) (ls.foldl (fun _ p=>p.2) xs):=by
 intro ls
 induction ls with
 | nil=>intro pre post m cs cs' n lt xs _ _ ha;simp only[accD,Option.some.injEq] at ha;subst ha;simp[linesT]
 | cons p ls ih =>
  intro pre post m cs cs' n lt xs hl hp ha
  obtain⟨p1,p2⟩:=hp p (List.mem_cons_self ..)
  have h2:l=pre++(lineT p.1 p.2++(linesT ls++post)):=by rw[hl,linesT_cons,List.append_assoc]
  have hrd:=rdLine_line pre (linesT ls++post) p.1 p.2 p1 (by rcases p2 with e | e | e <;> rw[e] <;> decide)
  rw[← h2] at hrd
  have hlt:pre.length<l.length:=by
   rw[h2]
   simp[lineT]
  have hs:(stepD cs p.1.toNat p.2).1=0:=by
   simp only[accD] at ha
   split at ha
   ·simp at ha
   ·rename_i hh;simpa using hh
  have ha2:accD (stepD cs p.1.toNat p.2).2 ls=some cs':=by
   simp only[accD] at ha
   rw[if_neg (by rw[hs];simp)] at ha
   exact ha
  have hm:(p :: ls).length+m=(ls.length+m)+1:=by simp only[List.length_cons];omega
  rw[hm]
  simp only[lnD]
  rw[if_pos hlt,hrd]
  simp only
  rw[if_neg (by rw[hs];simp)]
  have:=ih (pre++lineT p.1 p.2) post m _ cs' (n+1) p.1.toNat p.2 (by rw[h2,List.append_assoc]) (fun q hq=>hp q (List.mem_cons_of_mem _ hq)) ha2
  rw[List.length_append] at this
  rw[this,linesT_cons]
  simp only[List.length_append,List.length_cons,List.foldl_cons]
  rw[show n+1+ls.length=n+(ls.length+1) by omega,Nat.add_assoc]
theorem lines_ge:∀ ls:List Lin,ls.length≤(linesT ls).length:=by
 intro ls
 induction ls with
 | nil=>simp[linesT]
 | cons p ls ih =>
  rw[linesT_cons]
  simp only[List.length_append,List.length_cons,lineT,List.length_nil]
  omega
theorem check_log{tk:List (List Int)}{hv:List Nat}(ht:takeD tk [] 0 0=.inr hv){L:List Lin}{xs:List Int}{cs':List Nat}(ha:accD hv (L++[(101,xs)])=some cs')(hp:∀ p∈L++[(101,xs)],p.2.all litB=true∧(p.1=97∨p.1=100∨p.1=101))(hlen:(linesT (L++[(101,xs)])).length≤4194304) :
  checkD tk (linesT (L++[(101,xs)]))=(xs,0,L.length+1):=by
 unfold checkD
 rw[if_neg (by omega),ht]
 simp only
 have hge:=lines_ge (L++[(101,xs)])
 obtain⟨m,hm⟩:∃ m,(linesT (L++[(101,xs)])).length+1=(L++[(101,xs)]).length+(m+1):=⟨(linesT (L++[(101,xs)])).length - (L++[(101,xs)]).length,by omega⟩
 have h1:=ln_text (linesT (L++[(101,xs)])) (L++[(101,xs)]) [] [] (m+1) hv cs' 0 0 [] (by simp) hp ha
 simp only[List.length_nil,Nat.zero_add] at h1
 rw[hm,h1]
 simp only[lnD]
 rw[if_neg (by omega)]
 simp[List.foldl_append]
theorem take_app(c:List Int):∀ (a:List (List Int)) (hv hv':List Nat) (i:Nat),takeD a hv (litsN hv) i=.inr hv'→takeD (a++[c]) hv (litsN hv) i=(match takenK c (litsN hv') with
  | .lit=>.inl (4,i+a.length)
  | .full=>.inl (5,i+a.length)
  | .taut=>.inr hv'
  | .takes=>.inr (hv'++[setN c])):=by
 intro a
 induction a with
 | nil =>
  intro hv hv' i h
  simp only[takeD,Sum.inr.injEq] at h
  subst h
  simp only[List.nil_append,takeD,List.length_nil,Nat.add_zero]
  cases takenK c (litsN hv) <;> rfl
 | cons x a ih =>
  intro hv hv' i h
  simp only[List.cons_append,takeD] at h ⊢
  cases hk:takenK x (litsN hv) with
  | lit=>rw[hk] at h;simp at h
  | full=>rw[hk] at h;simp at h
  | taut =>
   rw[hk] at h
   simp only at h ⊢
   rw[ih hv hv' (i+1) h]
   simp only[List.length_cons]
   rw[show i+1+a.length=i+(a.length+1) by omega]
  | takes =>
   rw[hk] at h
   simp only at h ⊢
   rw[← litsN_snoc] at h ⊢
   rw[ih (hv++[setN x]) hv' (i+1) h]
   simp only[List.length_cons]
   rw[show i+1+a.length=i+(a.length+1) by omega]
theorem sizeTo_pow(s i:Nat):∀ n,sizeTo (s|||2^i) n≤sizeTo s n+1∧(s.testBit i=true→sizeTo (s|||2^i) n=sizeTo s n):=by
 have hb:∀ k,(s|||2^i) / 2^k % 2=((s|||2^i).testBit k).toNat:=fun k=>(Nat.toNat_testBit _ _).symm
 have hc:∀ k,s / 2^k % 2=(s.testBit k).toNat:=fun k=>(Nat.toNat_testBit _ _).symm
 have key:∀ n,sizeTo (s|||2^i) n=sizeTo s n+(if i<n∧s.testBit i=false then 1 else 0):=by
  intro n
  induction n with
  | zero=>simp[sizeTo]
  | succ n ih =>
   simp only[sizeTo]
   rw[ih,hb,hc,Nat.testBit_or,Nat.testBit_two_pow]
   by_cases e:i=n
   ·subst e
    cases h:s.testBit i
    ·simp
    ·simp
   ·have e2:decide (i=n)=false:=by simpa using e
    rw[e2,Bool.or_false]
    by_cases h1:i<n
    ·by_cases h2:s.testBit i=false
     ·rw[if_pos ⟨h1,h2⟩,if_pos ⟨by omega,h2⟩];omega
     ·rw[if_neg (fun q=>h2 q.2),if_neg (fun q=>h2 q.2)];omega
    ·rw[if_neg (fun q=>h1 q.1),if_neg (fun q=>by omega)];omega
 intro n
 refine⟨?_,fun h=>?_⟩
 ·rw[key n];split <;> omega
 ·rw[key n,if_neg (fun q=>by rw[h] at q;simp at q)];rfl
theorem size_le_len(xs:List Int):sizeN (setN xs)≤xs.length:=by
 induction xs with
 | nil=>decide
 | cons x xs ih =>
  have e:setN (x :: xs)=setN xs|||2^bitI x:=by
   have:=setN_app [x] xs
   rw[setN_one] at this
   rw[Nat.or_comm];exact this
  rw[e]
  have:=(sizeTo_pow (setN xs) (bitI x) 20).1
  have c:∀ s,sizeN s=sizeTo s 20:=fun _=>rfl
  rw[c] at ih ⊢
  simp only[List.length_cons]
  omega
theorem size_nodup:∀ {xs:List Int},sizeN (setN xs)=xs.length→xs.Nodup:=by
 intro xs
 induction xs with
 | nil=>intro _;exact List.nodup_nil
 | cons x xs ih =>
  intro h
  have e:setN (x :: xs)=setN xs|||2^bitI x:=by
   have:=setN_app [x] xs
   rw[setN_one] at this
   rw[Nat.or_comm];exact this
  rw[e] at h
  have h1:=sizeTo_pow (setN xs) (bitI x) 20
  have h2:=size_le_len xs
  have c:∀ s,sizeN s=sizeTo s 20:=fun _=>rfl
  rw[c] at h h2
  simp only[List.length_cons] at h
  refine List.nodup_cons.2 ⟨fun hx=>?_,ih (by rw[c];omega)⟩
  have:=h1.2 (bit_set hx)
  omega
theorem litI_inj{x y:Int}(hx:litB x=true)(hy:litB y=true)(h:bitI x=bitI y):x=y:=by
 simp only[litB,Bool.and_eq_true,bne_iff_ne,decide_eq_true_eq] at hx hy
 unfold bitI at h
 split at h <;> split at h <;> omega
theorem litI_neg{x:Int}(hx:litB x=true):bitI (-x)=par (bitI x):=by
 rcases lit_cases hx with rfl|rfl|rfl|rfl|rfl|rfl|rfl|rfl|rfl|rfl|rfl|rfl|rfl|rfl|rfl|rfl|rfl|rfl|rfl|rfl <;> decide
theorem lit_neg{x:Int}(hx:litB x=true):litB (-x)=true:=by
 simp only[litB,Bool.and_eq_true,bne_iff_ne,decide_eq_true_eq] at hx ⊢
 omega
theorem nodup_one{l:List Int}(hn:l.Nodup){x:Int}(hx:x∈l):(l.filter fun b=>b == x).length=1:=by
 induction l with
 | nil=>simp at hx
 | cons y l ih =>
  obtain⟨h1,h2⟩:=List.nodup_cons.1 hn
  rcases List.mem_cons.1 hx with rfl | hx
  ·have:l.filter (fun b=>b == x)=[]:=by
    rw[List.filter_eq_nil_iff]
    intro z hz
    simp only[beq_iff_eq]
    exact fun e=>h1 (e ▸ hz)
   simp[this]
  ·have hne:(y == x)=false:=by simp only[beq_eq_false_iff_ne];exact fun e=>h1 (e ▸ hx)
   simp only[List.filter_cons,hne]
   exact ih h2 hx
theorem mirror_ok{co last:List Int}(hco:co.all litB=true)(hla:last.all litB=true)(s1:sizeN (setOk co)=co.length)(s2:sizeN (setOk last)=last.length)(op:setOk last=oppN (setOk co)):co.length=last.length∧∀ a∈co,(last.filter fun b=>b == -a).length=1:=by
 have hT:=Two.ok co
 have e1:sizeN (oppN (setOk co))=sizeN (setOk co):=by rw[hT.opp.size,hT.size,Nat.add_comm]
 refine⟨by rw[← s1,← s2,op,e1],fun a ha=>?_⟩
 have hla2:last.Nodup:=size_nodup (by rw[← set_ok hla];exact s2)
 refine nodup_one hla2 ?_
 have hl:=List.all_eq_true.1 hco a ha
 have hb:(setOk co).testBit (bitI a)=true:=by rw[set_ok hco];exact bit_set ha
 have h1:(setOk last).testBit (bitI (-a))=true:=by
  have h20:bitI (-a)<20:=by
   have:=lit_neg hl
   simp only[litB,Bool.and_eq_true,bne_iff_ne,decide_eq_true_eq] at this
   unfold bitI
   split <;> omega
  rw[op,opp_par _ h20,litI_neg hl,par_par]
  exact hb
 rw[set_ok hla] at h1
 obtain⟨n,hn,e⟩:=set_bit h1
 rw[← litI_inj (List.all_eq_true.1 hla n hn) (lit_neg hl) e]
 exact hn
theorem tk_take{P:Prg}{r h l:Int}{s:P.S}(t:TkOk P r h l s [])(cs:List (List Int)):takeD (begL P s cs).2 [] 0 0=.inr (hvOf (begL P s cs).2):=by
 have key:∀ (cs:List (List Int)) (p:P.S × List (List Int)),TkOk P r h l p.1 p.2→takeD p.2 [] 0 0=.inr (hvOf p.2)→takeD (cs.foldl (begStep P) p).2 [] 0 0=.inr (hvOf (cs.foldl (begStep P) p).2):=by
  intro cs
  induction cs with
  | nil=>intro p _ h;exact h
  | cons c cs ih =>
   intro p hp ht
   refine ih _ (hp.step c) ?_
   have e2:(begStep P p c).2=if errOf (takenK c (litsN (P.vw p.1).hv))=0 then p.2++[c] else p.2:=rfl
   rw[e2]
   have hv:(P.vw p.1).hv=hvOf p.2:=by rw[hp.v]
   have h3:=take_app c p.2 [] (hvOf p.2) 0 ht
   have e0:litsN []=0:=rfl
   rw[e0,← hv] at h3
   split
   ·rename_i h0
    rw[h3]
    cases hk:takenK c (litsN (P.vw p.1).hv) with
    | lit=>rw[hk] at h0;simp[errOf] at h0
    | full=>rw[hk] at h0;simp[errOf] at h0
    | taut =>
     have hq:=hk
     unfold takenK at hq
     split at hq
     ·split at hq
      ·rename_i htw
       simp only[hv]
       simp[hvOf,List.filter_append,htw]
      ·split at hq <;> simp at hq
     ·simp at hq
    | takes =>
     have hq:=hk
     unfold takenK at hq
     split at hq
     ·split at hq
      ·simp at hq
      ·rename_i htw
       simp only[hv]
       simp[hvOf,List.filter_append,htw]
     ·simp at hq
   ·exact ht
 exact key cs (s,[]) t rfl
def cntK(ys:List Int)(v:Int)(k:Nat):Nat:=((ys.take k).filter fun b=>b == v).length
theorem cntK_succ(ys:List Int)(v:Int)(k:Nat)(hk:k<ys.length):cntK ys v (k+1)=cntK ys v k+(if ys.getD k 0=v then 1 else 0):=by
 unfold cntK
 rw[List.take_succ_eq_append_getElem hk,List.filter_append,List.length_append,List.getD_eq_getElem?_getD,List.getElem?_eq_getElem hk]
 simp only[Option.getD_some,List.filter_cons,List.filter_nil]
 by_cases h:ys[k]=v
 ·simp[h]
 ·simp[h]
theorem cntK_le(ys:List Int)(v:Int)(k:Nat):cntK ys v k≤k:=by
 unfold cntK
 have:=List.length_filter_le (fun b=>b == v) (ys.take k)
 have h2:(ys.take k).length≤k:=by simp;omega
 omega
set_option maxHeartbeats 4000000 in
theorem mirrored_any(a1 a2:Option Addr)(c1 c2:Nat)(xs ys:List Int)(w:World)(h1:IntsAt w a1 xs)(h2:IntsAt w a2 ys)(hx:xs.length≤1000)(hl:xs.length=ys.length)(hlit:xs.all litB=true)(hone:∀ x∈xs,(ys.filter fun b=>b == -x).length=1) :
  Calls Tryd.prog 16 #[.slice a1 xs.length c1,.slice a2 ys.length c2] w fun e w'=>e=.returned (.bool true)∧Below w.heap.size w w':=by
 have H1:=hide h1
 have H2:=hide h2
 have HONE:=hide hone
 have HLIT:=hide hlit
 have hly:ys.length≤1000:=by omega
 have hlb:((xs.length:Int) == (ys.length:Int))=true:=by rw[hl];simp
 have hln:¬ ((xs.length:Int)≠(ys.length:Int)):=by rw[hl];simp
 have HB0:Hid (Below w.heap.size w w):=Below.refl _ _
 clear h1 h2 hone hlit hl
 go_enter Tryd.func16,Tryd.ntmps16
 go_wp2_with fail
 go_loopw [5] (fun x5 wr=>∃ i:Nat,i≤xs.length∧x5=.int .i64 i∧Hid (Below w.heap.size w wr)) (fun x5 _=>xs.length - (intOf x5).toNat)
 case atStart=>exact⟨0,Nat.zero_le _,rfl,HB0⟩
 case round =>
  clear HB0
  obtain⟨i,hi,rfl,BB⟩:=hrel
  by_cases hlt:i<xs.length
  ·have hm:xs.getD i 0∈xs:=by
    rw[List.getD_eq_getElem?_getD,List.getElem?_eq_getElem hlt]
    exact List.getElem_mem hlt
   have hlx:=List.all_eq_true.1 HLIT.out _ hm
   have HO:=hide (HONE.out _ hm)
   have HX1:Hid (∀ wr,Below w.heap.size w wr→∃ b off,a1=some ⟨b,off,none⟩∧wr.cell? ⟨b,off+i,none⟩=some (.int .i64 (xs.getD i 0))):=fun wr hb=>by
    obtain⟨b,off,e,hc⟩:=(H1.out.below hb).get (by omega)
    exact⟨b,off,e,hc i hlt⟩
   have i1:(0:Int)≤(i:Int):=by omega
   have i2:(i:Int)<(xs.length:Int):=by omega
   generalize xs.getD i 0=x at *
   simp only[litB,Bool.and_eq_true,bne_iff_ne,decide_eq_true_eq] at hlx
   have hng:IntKind.i64.wrap (-x)=-x:=by rw[IntKind.wrap_i64];omega
   have hxb:-10≤x∧x≤10:=⟨hlx.1.2,hlx.2⟩
   clear hm hlx
   go_wp2_with fail
   go_loopw [6,7] (fun x6 x7 wz=>∃ (k n:Nat),k≤ys.length∧n≤k∧x7=.int .i64 k∧x6=.int .i64 n∧Hid (cntK ys (-x) k=n)∧Hid (Below w.heap.size w wz)) (fun _ x7 _=>ys.length - (intOf x7).toNat)
   case atStart=>exact⟨0,0,Nat.zero_le _,Nat.le_refl _,rfl,rfl,rfl,BB⟩
   case round =>
    clear BB
    obtain⟨k,n,hk,hn,rfl,rfl,HC,BZ⟩:=hrel
    have BD:Hid (Below w.heap.size w wr.drew):=below_drewN BZ.out 1
    by_cases hk2:k<ys.length
    ·obtain⟨b2,o2,rfl,hc2⟩:=(H2.out.below BZ.out).get (by omega)
     have y1:=hc2 k hk2
     obtain⟨b1,o1,rfl,x1⟩:=HX1.out wr BZ.out
     have HS:=hide (cntK_succ ys (-x) k hk2)
     have k1:(0:Int)≤(k:Int):=by omega
     have k2:(k:Int)<(ys.length:Int):=by omega
     generalize ys.getD k 0=y at *
     clear hc2
     by_cases e:y=-x
     ·have eb:(y == -x)=true:=by simpa using e
      have HC2:Hid (cntK ys (-x) (k+1)=n+1):=by show _=_;rw[HS.out,HC.out,if_pos e]
      clear e HS HC
      go_wp2_with fail
      go_region
      all_goals
       go_wp2
       go_roundw
       case rel=>exact⟨k+1,n+1,by omega,by omega,by go_num,by go_num,HC2,BD⟩
       case measure=>simp[intOf];omega
     ·have eb:(y == -x)=false:=by simpa using e
      have HC2:Hid (cntK ys (-x) (k+1)=n):=by show _=_;rw[HS.out,HC.out,if_neg e];rfl
      clear e HS HC
      go_wp2_with fail
      go_region
      all_goals
       go_wp2
       go_roundw
       case rel=>exact⟨k+1,n,by omega,by omega,by go_num,rfl,HC2,BD⟩
       case measure=>simp[intOf];omega
    ·obtain rfl:n=1:=by
      have h3:=HC.out
      unfold cntK at h3
      rw[List.take_of_length_le (by omega),HO.out] at h3
      exact h3.symm
     clear HC
     go_wp2
     go_roundw
     case rel=>exact⟨i+1,by omega,by go_num,BZ⟩
     case measure=>simp[intOf];omega
  ·go_wp2
   go_ret
   exact⟨rfl,BB.out⟩
structure LogI(P:Prg)(tk:List (List Int))(n:Nat)(s:P.S)(L:List Lin):Prop where
 ok:P.Ok s
 room:Roomy (P.vw s)
 un:(P.vw s).unsat≤n
 hv:(P.vw s).hv=hvOf tk
 pf:(P.vw s).pf=linesT L
 acc:accD (hvOf tk) L=some (hvOf tk++(P.vw s).lr)
 each:∀ p∈L,p.2.all litB=true∧(p.1=97∨p.1=100∨p.1=101)
theorem TkOk.log{P:Prg}{s:P.S}{tk:List (List Int)}(t:TkOk P 0 1048576 1048576 s tk):LogI P tk 0 s []:=by
 refine⟨t.ok,t.roomy,by rw[t.v];exact Nat.le_refl _,by rw[t.v],by rw[t.v];rfl,?_,fun p hp=>by simp at hp⟩
 rw[t.v]
 simp[accD]
theorem lines_letters{r h l:Int}{hv:List Nat}:∀ (ls:List Lin) (j:JV),linesOk r h l hv j ls→∀ p∈ls,p.2.all litB=true∧(p.1=97∨p.1=100∨p.1=101):=by
 intro ls
 induction ls with
 | nil=>intro j _ p hp;simp at hp
 | cons q ls ih =>
  intro j h p hp
  obtain⟨a1,a2,_,a4⟩:=h
  rcases List.mem_cons.1 hp with rfl | hp
  ·refine⟨a1,?_⟩
   rcases a2.2 with⟨b,_⟩ | ⟨b,_⟩ | ⟨b,_⟩
   ·exact .inl b
   ·exact .inr (.inr b)
   ·exact .inr (.inl b)
  ·exact ih _ a4 p hp
theorem closed_last{r h l:Int}{hv:List Nat}:∀ (ls:List Lin) (j:JV),linesOk r h l hv j ls→closedOf ls=true→∃ l0,ls=l0++[(101,lastOf ls)]∧sizeN (setOk (lastOf ls))=(lastOf ls).length∧(lastOf ls).all litB=true:=by
 intro ls
 induction ls with
 | nil=>intro j _ h;simp[closedOf] at h
 | cons q ls ih =>
  intro j h hc
  obtain⟨a1,a2,a3,a4⟩:=h
  by_cases e:q.1=101
  ·have hn:=a3 e
   subst hn
   refine⟨[],?_,?_,a1⟩
   ·obtain⟨q1,q2⟩:=q
    simp only at e
    subst e
    rfl
   ·rcases a2.2 with⟨b,_⟩ | ⟨_,b⟩ | ⟨b,_⟩
    ·rw[e] at b;simp at b
    ·unfold clauseD at b
     simp only[Bool.and_eq_true,beq_iff_eq] at b
     exact b.1.1.1.2
    ·rw[e] at b;simp at b
  ·have hc2:closedOf ls=true:=by
    unfold closedOf at hc ⊢
    rw[List.any_cons,Bool.or_eq_true] at hc
    rcases hc with hc | hc
    ·exact absurd (by simpa using hc) e
    ·exact hc
   obtain⟨l0,b1,b2,b3⟩:=ih _ a4 hc2
   have el:lastOf (q :: ls)=lastOf ls:=by
    cases ls with
    | nil=>simp[closedOf] at hc2
    | cons p ls=>rfl
   exact⟨q :: l0,by rw[el,List.cons_append,← b1],by rw[el];exact b2,by rw[el];exact b3⟩
theorem LogI.step{P:Prg}{tk:List (List Int)}{n:Nat}{s:P.S}{L:List Lin}(h:LogI P tk n s L)(hn:n≤800)(ht:takeD tk [] 0 0=.inr (hvOf tk)){xs:List Int}(ha:askedD xs 0=0)(hx:xs.all litB=true) :
  ∃ L',LogI P tk (n+1) (P.slv s xs 0) L'∧((P.ans s xs 0).st=1∨((P.ans s xs 0).st=2∧∃ last k,checkD tk (P.vw (P.slv s xs 0)).pf=(last,0,k)∧(P.ans s xs 0).co.all litB=true∧(P.ans s xs 0).co.length=last.length∧∀ a∈(P.ans s xs 0).co,(last.filter fun b=>b == -a).length=1))∧(P.ans s xs 0).co.length≤1000:=by
 obtain⟨ok',ls,st,so,how⟩:=wide_ok h.ok h.room ha
 have hr:=h.room.r
 have hlo:linesOk 0 (P.vw s).h (P.vw s).l (hvOf tk) ⟨(P.vw s).lr,litsN (P.vw s).lr,(P.vw s).log,0⟩ ls:=by
  have:=so.ok
  rw[hr,h.hv] at this
  exact this
 have hac:=acc_lines ls _ hlo
 have hlt:=so.to
 have hun:(P.vw (P.slv s xs 0)).unsat≤n+1:=by
  have:=h.un
  rcases how with⟨_,e,_⟩ | ⟨_,e,_⟩ <;> omega
 have hacc:accD (hvOf tk) (L++ls)=some (hvOf tk++(P.vw (P.slv s xs 0)).lr):=by
  rw[acc_app,h.acc]
  show accD (hvOf tk++(P.vw s).lr) ls=_
  rw[hac,hlt]
 have hpf:(P.vw (P.slv s xs 0)).pf=linesT (L++ls):=by
  rw[so.pf,h.pf]
  simp[linesT]
 have heach:∀ p∈L++ls,p.2.all litB=true∧(p.1=97∨p.1=100∨p.1=101):=fun p hp=>by
  rcases List.mem_append.1 hp with q | q
  ·exact h.each p q
  ·exact lines_letters ls _ hlo p q
 refine⟨L++ls,⟨ok',h.room.solve so (by omega),hun,by rw[so.hv,h.hv],hpf,hacc,heach⟩,?_,so.len.2.1⟩
 rcases how with⟨e,_⟩ | ⟨e,_,hcl,hu⟩
 ·exact .inl e
 ·refine .inr ⟨e,?_⟩
  obtain⟨l0,b1,b2,b3⟩:=closed_last ls _ hlo hcl
  have hco:(P.ans s xs 0).co.all litB=true:=by
   rw[List.all_eq_true]
   intro y hy
   exact List.all_eq_true.1 hx y (among_sub hu.am y hy)
  obtain⟨m1,m2⟩:=mirror_ok hco b3 hu.sz b2 hu.op
  have hlen:=(P.bd ok').pfl
  clear hac hlt hlo hcl hu so b2 b3
  generalize lastOf ls=la at *
  subst b1
  have e2:L++(l0++[(101,la)])=(L++l0)++[(101,la)]:=(List.append_assoc ..).symm
  rw[e2] at hacc heach hpf
  rw[hpf] at hlen
  exact⟨la,(L++l0).length+1,by rw[hpf];exact check_log ht hacc heach hlen,hco,m1,m2⟩
structure LgM(P:Prg)(w:World)(g:Nat)(tk:List (List Int))(l:List Int)(T:Nat)(ta:Option Addr)(tc:Nat)(vs:List Value)(a4:Option Addr)(c4 b0 k:Nat)(wr:World)(s:P.S)(F:Nat→Prop)(L:List Lin):Prop where
 beg:Beg P wr w.heap.size g s F ta tc vs tk
 log:LogI P tk k s L
 row:Row wr T 26 [.pointer (some ⟨g,0,none⟩),.slice ta tk.length tc,.bool true]
 nf:¬ F T
 own:wr.ownsRow b0 3 1 (.slice a4 l.length c4) l.length (i64s l)
 dis:∀ q,F q→(Value.slice a4 l.length c4).ownBlock≠some q
 bel:Below w.heap.size w wr
theorem LgM.below{P:Prg}{w:World}{g:Nat}{tk:List (List Int)}{l:List Int}{T:Nat}{ta:Option Addr}{tc:Nat}{vs:List Value}{a4:Option Addr}{c4 b0 k:Nat}{wr wz:World}{s:P.S}{F:Nat→Prop}{L:List Lin}(h:LgM P w g tk l T ta tc vs a4 c4 b0 k wr s F L)(hb:Below wr.heap.size wr wz):LgM P w g tk l T ta tc vs a4 c4 b0 k wz s F L :=
 ⟨h.beg.below hb,h.log,row_below h.row hb,h.nf,own_below h.own hb,h.dis,h.bel.trans (hb.mono h.bel.size)⟩
theorem log_call{P:Prg}{w:World}{g:Nat}{tk:List (List Int)}{l:List Int}{T:Nat}{ta:Option Addr}{tc:Nat}{vs:List Value}{a4:Option Addr}{c4 b0 k:Nat}{wr:World}{s:P.S}{F:Nat→Prop}{L:List Lin}(h:LgM P w g tk l T ta tc vs a4 c4 b0 k wr s F L)(hk:k≤800)(htk:tk.length≤40)(ht:takeD tk [] 0 0=.inr (hvOf tk))(htab:Tab w)(h0:0<w.heap.size)
  (a:Option Addr) (c:Nat) (ys:List Int) (hy:(a=none∧c=0∧ys=[])∨(a=a4∧c=c4∧ys=l)) (ha:askedD ys 0=0) (hx:ys.all litB=true) (hyl:ys.length≤100) :
  Calls Tryd.prog 13 #[.pointer (some ⟨g,0,none⟩),.slice a ys.length c,.int .i64 0] wr fun e w'=>∃ p:A3,e=.returned (.tuple #[.agg #[.int .i64 (P.ans s ys 0).st,.int .i64 (P.ans s ys 0).re,.slice p.a1 (P.ans s ys 0).vs.length p.c1,.slice p.a2 (P.ans s ys 0).co.length p.c2,.slice p.a3 (P.ans s ys 0).cl.length p.c3],.int .i64 0]) ∧
   AnsOwn w' wr.heap.size (P.ans s ys 0) p∧(∃ F' L',LgM P w g tk l T ta tc vs a4 c4 b0 (k+1) w' (P.slv s ys 0) F' L'∧∀ q,F' q→F q∨wr.heap.size≤q)∧Chn F wr w'∧(P.ans s ys 0).co.length≤1000 ∧
   ((P.ans s ys 0).st=1∨((P.ans s ys 0).st=2∧∃ last n,checkD tk (P.vw (P.slv s ys 0)).pf=(last,0,n)∧(P.ans s ys 0).co.all litB=true∧(P.ans s ys 0).co.length=last.length∧∀ a∈(P.ans s ys 0).co,(last.filter fun b=>b == -a).length=1)):=by
 obtain⟨L',hl',hst,hcl⟩:=h.log.step hk ht ha hx
 have hn:(P.vw s).hv.length≤1000:=by
  rw[h.log.hv]
  have:=hvOf_len tk
  omega
 have hz:w.heap.size≤wr.heap.size:=h.bel.size
 have hF0:¬ F 0:=fun q=>by have:=h.beg.fb 0 q;omega
 have key:Calls Tryd.prog 13 #[.pointer (some ⟨g,0,none⟩),.slice a ys.length c,.int .i64 0] wr fun e w'=>∃ p:A3,e=.returned (.tuple #[.agg #[.int .i64 (P.ans s ys 0).st,.int .i64 (P.ans s ys 0).re,.slice p.a1 (P.ans s ys 0).vs.length p.c1,.slice p.a2 (P.ans s ys 0).co.length p.c2,.slice p.a3 (P.ans s ys 0).cl.length p.c3],.int .i64 (askedD ys 0)]) ∧
   AnsOwn w' wr.heap.size (P.ans s ys 0) p∧∃ F',P.At w' g (P.slv s ys 0) F'∧Chn F wr w'∧(∀ q,F' q→F q∨wr.heap.size≤q)∧∀ k,p.At k→¬ F' k:=by
  rcases hy with⟨rfl,rfl,rfl⟩ | ⟨rfl,rfl,rfl⟩
  ·have:=solve_nil P h.beg.x h.log.ok hn (htab.below h.bel h0) (by omega) hF0
   rw[ha]
   exact this
  ·exact solve_own P h.beg.x h.log.ok hn (htab.below h.bel h0) (by omega) hF0 h.own h.dis (by omega) 0
 rw[ha] at key
 refine key.mono ?_
 rintro e w' ⟨p,rfl,hao,F',x,hc,hn',hq⟩
 obtain⟨F2,X2,hc2,hn2,_⟩:=h.beg.call hz (Q:=fun F'=>∀ k,p.At k→¬ F' k) ⟨F',x,hc,hn',hq⟩
 refine⟨p,rfl,hao,⟨F2,L',⟨X2,hl',(hc.block _ h.row.lt h.nf).trans h.row,fun q=>?_,own_keep h.own fun q e=>hc.block q (h.own.lt q e).2 fun hf=>h.dis q hf e,fun q hf e=>?_,chn_below h.bel hc hz h.beg.fb⟩,hn2⟩,hc,hcl,hst⟩
 ·rcases hn2 _ q with z | z
  ·exact h.nf z
  ·have:=h.row.lt;omega
 ·rcases hn2 q hf with z | z
  ·exact h.dis q z e
  ·have:=(h.own.lt q e).2;omega
end Go.Proofs.YthboeppmlhbofabDoor
