import Derived.Test.YthboeppmlhbofabDoorClh
import Derived.Test.YthboeppmlhbofabDoorWrt
import Derived.Test.YthboeppmlhbofabDoorChl
namespace Go.Proofs.YthboeppmlhbofabDoor
open Go.RowKit Txt
set_option maxRecDepth 100000
structure Chn(P:Nat→Prop)(w w':World):Prop where
 os:w'.os=w.os
 tape:w'.tape=w.tape
 output:w'.output=w.output
 size:w.heap.size≤w'.heap.size
 block:∀ k,k<w.heap.size→¬ P k→w'.heap[k]?=w.heap[k]?
theorem Chn.of{P:Nat→Prop}{w w':World}(h:Below w.heap.size w w'):Chn P w w':=⟨h.os,h.tape,h.output,h.size,fun k hk _=>h.block k hk⟩
theorem Chn.trans{P:Nat→Prop}{w w1 w2:World}(h:Chn P w w1)(h':Chn P w1 w2):Chn P w w2:=⟨h'.os.trans h.os,h'.tape.trans h.tape,h'.output.trans h.output,Nat.le_trans h.size h'.size,fun k hk hn=>(h'.block k (Nat.lt_of_lt_of_le hk h.size) hn).trans (h.block k hk hn)⟩
theorem Chn.mono{P Q:Nat→Prop}{w w':World}(h:Chn P w w')(hp:∀ k,k<w.heap.size→P k→Q k):Chn Q w w':=⟨h.os,h.tape,h.output,h.size,fun k hk hn=>h.block k hk (fun hq=>hn (hp k hk hq))⟩
theorem Chn.below{P:Nat→Prop}{w w1 w2:World}(h:Chn P w w1)(hb:Below w1.heap.size w1 w2):Chn P w w2:=h.trans (Chn.of hb)
theorem Chn.grown{P:Nat→Prop}{w w1 w2:World}{q:Option Nat}(h:Chn P w w1)(hk:w1.grownBy w2 q)(hq:∀ b,q=some b→P b∨w.heap.size≤b):Chn P w w2 :=
 ⟨hk.os.trans h.os,hk.tape.trans h.tape,hk.output.trans h.output,Nat.le_trans h.size hk.size,fun k hl hn=>(hk.block k (Nat.lt_of_lt_of_le hl h.size) (fun e=>(hq k e.symm).elim hn (fun h=>by omega))).trans (h.block k hl hn)⟩
theorem Chn.set{P:Nat→Prop}{w w1:World}(h:Chn P w w1)(g i:Nat)(x:Value)(hq:P g∨w.heap.size≤g):Chn P w (w1.setCell ⟨g,i,none⟩ x) :=
 ⟨h.os,h.tape,h.output,by simpa [World.setCell] using h.size,fun k hl hn=>(Below.heap_setCell w1 ⟨g,i,none⟩ x k (fun e=>by have e':k=g:=e;subst e';exact hq.elim hn (fun h=>by omega))).trans (h.block k hl hn)⟩
open Txt
def headB:List UInt8→Bool
 | []=>false
 | c :: _=>!((c.toNat:Int) == 99)
structure LitText(n:Int)(l:List UInt8):Prop where
 num:numOf l=(n,0)
 gaps:l.all (fun c=>!gapB c)=true
 head:headB l=true
theorem itoa_text{n:Int}(h:litB n=true):LitText n (Lib.itoa n):=by
 rcases lit_cases h with rfl|rfl|rfl|rfl|rfl|rfl|rfl|rfl|rfl|rfl|rfl|rfl|rfl|rfl|rfl|rfl|rfl|rfl|rfl|rfl <;>
  exact⟨by decide +kernel,by decide +kernel,by decide +kernel⟩
theorem wlen_gap(l:List UInt8)(h:l.all (fun c=>!gapB c)=true)(g:UInt8)(hg:gapB g=true)(r:List UInt8):wlen (l++g :: r)=l.length:=by
 induction l with
 | nil=>simp[wlen,hg]
 | cons c l ih =>
  simp only[List.all_cons,Bool.and_eq_true,Bool.not_eq_true'] at h
  simp[wlen,h.1,ih h.2]
theorem gap32:gapB 32=true:=by decide
theorem gap10:gapB 10=true:=by decide
theorem num0:numOf [48]=(0,0):=by decide
def lineT(lt:UInt8)(xs:List Int):List UInt8:=[lt,32]++(litsT xs++[48,10])
theorem drop_parts{l a b:List UInt8}{p:Nat}(h:l.drop p=a++b):l.drop (p+a.length)=b:=by
 rw[← List.drop_drop,h,List.drop_left]
theorem drop_at{l b:List UInt8}{p:Nat}{c:UInt8}(h:l.drop p=c :: b):l.getD p 0=c∧p<l.length:=by
 have hp:p<l.length:=by
  apply Classical.byContradiction
  intro hn
  rw[List.drop_eq_nil_of_le (by omega)] at h
  simp at h
 rw[List.drop_eq_getElem_cons hp] at h
 simp only[List.cons.injEq] at h
 exact⟨by rw[List.getD_eq_getElem?_getD,List.getElem?_eq_getElem hp];exact h.1,hp⟩
theorem rdl_lits(l post:List UInt8):∀ (xs:List Int) (m p:Nat) (acc:List Int),xs.all litB=true→xs.length<m→l.drop p=litsT xs++(48 :: 10 :: post)→rdl l m p acc=some (acc++xs,p+(litsT xs).length+2):=by
 intro xs
 induction xs with
 | nil =>
  intro m p acc _ hm h
  obtain⟨m,rfl⟩:∃ k,m=k+1:=⟨m - 1,by omega⟩
  have h':l.drop p=48 :: 10 :: post:=by simpa [litsT] using h
  have hw:wlen (l.drop p)=1:=by
   rw[h']
   exact wlen_gap [48] (by decide) 10 gap10 post
  have hd1:l.drop (p+1)=10 :: post:=drop_parts (a:=[48]) (by rw[h'];rfl)
  obtain⟨g1,g2⟩:=drop_at hd1
  simp only[rdl,hw]
  rw[if_pos g2,show p+1 - p=1 by omega,h']
  have ht:(48 :: 10 :: post).take 1=[48]:=rfl
  rw[ht,num0,if_neg (by simp),g1,if_pos ⟨rfl,by decide⟩]
  simp[litsT]
 | cons x xs ih =>
  intro m p acc hall hm h
  obtain⟨m,rfl⟩:∃ k,m=k+1:=⟨m - 1,by omega⟩
  simp only[List.all_cons,Bool.and_eq_true] at hall
  have hx:=itoa_text hall.1
  have h':l.drop p=Lib.itoa x++(32 :: (litsT xs++(48 :: 10 :: post))):=by
   rw[h]
   simp[litsT,litT]
  have hw:wlen (l.drop p)=(Lib.itoa x).length:=by
   rw[h']
   exact wlen_gap _ hx.gaps 32 gap32 _
  have hd1:=drop_parts h'
  obtain⟨g1,g2⟩:=drop_at hd1
  have hd2:l.drop (p+(Lib.itoa x).length+1)=litsT xs++(48 :: 10 :: post):=drop_parts (a:=[32]) (by rw[hd1];rfl)
  have hne:x≠0:=by
   have:=hall.1
   simp only[litB,Bool.and_eq_true,bne_iff_ne] at this
   exact this.1.1
  simp only[rdl,hw]
  rw[if_pos g2,show p+(Lib.itoa x).length - p=(Lib.itoa x).length by omega,h',List.take_left,hx.num]
  rw[if_neg (by simp),g1,if_neg (fun q=>hne q.1),if_neg (fun q=>q.elim hne (fun q=>q (by decide)))]
  rw[ih m _ _ hall.2 (by simpa using hm) hd2]
  simp[litsT,litT]
  omega
theorem rdLine_line(pre post:List UInt8)(lt:UInt8)(xs:List Int)(h:xs.all litB=true)(hl:lt.toNat=97∨lt.toNat=100∨lt.toNat=101):rdLine (pre++(lineT lt xs++post)) pre.length=some (lt.toNat,xs,pre.length+(lineT lt xs).length):=by
 have h0:(pre++(lineT lt xs++post)).drop pre.length=lt :: 32 :: (litsT xs++(48 :: 10 :: post)):=by
  rw[List.drop_left]
  simp[lineT]
 have h1:(pre++(lineT lt xs++post)).drop (pre.length+1)=32 :: (litsT xs++(48 :: 10 :: post)):=drop_parts (a:=[lt]) (by rw[h0];rfl)
 have h2:(pre++(lineT lt xs++post)).drop (pre.length+2)=litsT xs++(48 :: 10 :: post):=drop_parts (a:=[lt,32]) (by rw[h0];rfl)
 obtain⟨a1,a2⟩:=drop_at h0
 obtain⟨b1,b2⟩:=drop_at h1
 have hlen:xs.length≤(litsT xs).length:=by
  clear h0 h1 h2 a1 a2 b1 b2
  induction xs with
  | nil=>simp
  | cons x xs ih =>
   simp only[List.all_cons,Bool.and_eq_true] at h
   have:=ih h.2
   simp[litsT,litT] at this ⊢
   omega
 have hlb:lbB (pre++(lineT lt xs++post)) pre.length=true:=by
  unfold lbB
  rw[a1,b1,decide_eq_true (by omega)]
  rcases hl with e | e | e <;> rw[e] <;> decide
 have hlt:(pre++(lineT lt xs++post)).length=pre.length+((litsT xs).length+4)+post.length:=by simp[lineT];omega
 unfold rdLine
 rw[if_pos hlb,rdl_lits _ post xs _ _ [] h (by omega) h2,a1]
 simp[lineT]
 omega
structure JV where
 lr:List Nat
 held:Nat
 log:Nat
 st:Nat
abbrev Lin:=UInt8 × List Int
def linesT(ls:List Lin):List UInt8:=ls.flatMap fun p=>lineT p.1 p.2
def lineOk(r h l:Int)(hv:List Nat)(j:JV)(p:Lin):Prop :=
 (j.log:Int)+p.2.length+1≤l∧((p.1=97∧clauseD hv j.lr p.2 false=true∧(j.held:Int)+p.2.length≤h∧(r=0∨(j.lr.length:Int)+1≤r))∨(p.1=101∧clauseD hv j.lr p.2 true=true)∨(p.1=100∧setOk p.2∈j.lr∧r≠0∧sizeN (setOk p.2)=p.2.length∧p.2.length≤j.held))
def lineTo(j:JV)(p:Lin):JV:=if p.1=97 then ⟨j.lr++[setOk p.2],j.held+p.2.length,j.log+p.2.length+1,j.st+1⟩ else if p.1=100 then ⟨j.lr.erase (setOk p.2),j.held - p.2.length,j.log+p.2.length+1,j.st⟩ else { j with log:=j.log+p.2.length+1 }
def linesOk(r h l:Int)(hv:List Nat):JV→List Lin→Prop
 | _,[]=>True
 | j,p :: ps=>p.2.all litB=true∧lineOk r h l hv j p∧(p.1=101→ps=[])∧linesOk r h l hv (lineTo j p) ps
def linesTo(j:JV)(ls:List Lin):JV:=ls.foldl lineTo j
def SE.put(d:SE)(j:JV)(al:Option Addr)(cl:Nat):SE:={ d with lr:=j.lr,held:=j.held,log:=j.log,st:=j.st,al:=al,cl:=cl }
theorem linesT_cons(p:Lin)(ls:List Lin):linesT (p :: ls)=lineT p.1 p.2++linesT ls:=by simp[linesT]
theorem rows_below{w w':World}{a:Option Addr}{A:Nat→Option Addr}{C:Nat→Nat}{xss:List (List Int)}(h:RowsAt w a A C xss)(hb:Below w.heap.size w w'):RowsAt w' a A C xss :=
 h.kept fun b off _ hv=>(hb.cell (p:=⟨b,off,none⟩) (World.block_lt_of_cell? w _ hv)).trans hv
theorem tak_nil:Tak []:=⟨fun p hp=>by simp at hp,Nat.le_refl _,by decide⟩
theorem takeN_at(cls:List (List Int))(k:Nat)(ss:List Pr)(em:Nat)(h:k<cls.length):takeN (cls.drop k) ss em k=match addR (cls.getD k []) ss em with | .err e=>.inl (e,k) | .ok ss' em'=>takeN (cls.drop (k+1)) ss' em' (k+1):=by
 rw[List.drop_eq_getElem_cons h,List.getD_eq_getElem?_getD,List.getElem?_eq_getElem h]
 rfl
theorem addR_err{xs:List Int}{ss:List Pr}{em:Nat}{e:Int}(h:addR xs ss em=.err e):e≠0:=by
 unfold addR at h
 split at h
 ·simp only[AR.err.injEq] at h;omega
 ·split at h
  ·simp at h
  ·split at h
   ·simp at h
   ·split at h
    ·simp only[AR.err.injEq] at h;omega
    ·simp at h
set_option maxHeartbeats 4000000 in
theorem checkT_any(a:Option Addr)(c:Nat)(A:Nat→Option Addr)(C:Nat→Nat)(cls:List (List Int))(s:ByteArray)(w:World)(hr:RowsAt w a A C cls)(hcl:cls.length≤9223372036850000000)(hsz:s.size≤4611686018427387904) :
  Calls Tryd.prog 15 #[.slice a cls.length c,.string s] w (CkPost w.heap.size w (checkN cls (bs s))):=by
 by_cases hbig:4194304<s.size
 ·have HE:Hid (checkN cls (bs s)=([],2,0)):=by show _=_;unfold checkN;rw[bs_length,if_pos hbig]
  generalize checkN cls (bs s)=R at *
  have hbi:((s.size:Int) > 4194304):=by omega
  clear hr
  go_enter Tryd.func15,Tryd.ntmps15
  go_wp2
  go_ret3
  rw[HE.out]
  exact⟨Below.refl _ _,none,0,rfl,rfl,.inl ⟨rfl,rfl⟩⟩
 ·have HE:Hid (checkN cls (bs s)=match takeN cls [] 0 0 with | .inl (e,i)=>([],e,i) | .inr (ss,em)=>chkN (bs s) (s.size+1) (standN ss em) 0 0 0 []):=by show _=_;unfold checkN;rw[bs_length,if_neg hbig];rfl
  generalize checkN cls (bs s)=R at *
  have hbi:¬ ((s.size:Int) > 4194304):=by omega
  have hb1:Below w.heap.size w (w.alloc (.cells (solCells 0 0 0 none 0 0 0 0).toArray 68)):=(Below.refl _ _).alloc (Nat.le_refl _) _
  have S1:Hid (SvI (w.alloc (.cells (solCells 0 0 0 none 0 0 0 0).toArray 68)) w.heap.size w.heap.size [] 0 none 0 0):=⟨heap_alloc_new w _,⟨rfl,.inl ⟨rfl,rfl⟩⟩,by decide,Nat.le_refl _⟩
  have HB1:=hide hb1
  have HR:=hide hr
  generalize htk:takeN cls [] 0 0=TK at HE
  have HTK:=hide htk
  clear hr hb1 htk
  simp only[solCells] at S1 HB1
  go_enter Tryd.func15,Tryd.ntmps15
  go_wp2_with fail
  go_loopw [17] (fun i wr=>∃ (k:Nat) (ss:List Pr) (em:Nat) (ta:Option Addr) (tc se:Nat),k≤cls.length∧em≤k∧i=.int .i64 k∧Hid (SvI wr w.heap.size w.heap.size ss em ta tc se)∧Hid (Tak ss)∧Hid (Below w.heap.size w wr)∧Hid (takeN (cls.drop k) ss em k=TK)) (fun i _=>cls.length - (intOf i).toNat)
  case atStart=>exact⟨0,[],0,none,0,0,Nat.zero_le _,Nat.le_refl _,rfl,S1,tak_nil,HB1,HTK⟩
  case round =>
   clear S1 HB1 HTK
   obtain⟨k,ss,em,ta,tc,se,hk,hem,rfl,S,HT,HB,HK⟩:=hrel
   have hzr:w.heap.size≤wr.heap.size:=HB.out.size
   by_cases hlt:k<cls.length
   ·have hkk:=HK.out
    rw[takeN_at cls k ss em hlt] at hkk
    obtain⟨b,off,rfl,hc⟩:=(rows_below HR.out HB.out).get (by omega)
    obtain⟨q0,q1,q2⟩:=hc k hlt
    generalize cls.getD k []=xs at *
    generalize A k=ak at *
    generalize C k=ck at *
    have HA:=hide (addS_any wr w.heap.size w.heap.size ss em ta tc se S.out HT.out ak ck xs q2 q1 hzr (by omega))
    have HTN:Hid (∀ ss' em',addR xs ss em=.ok ss' em'→Tak ss'∧em'≤em+1):=fun ss' em' h=>addR_tak HT.out h
    have HNE:Hid (∀ e,addR xs ss em=.err e→e≠0):=fun e h=>addR_err h
    have HKK:=hide hkk
    have i1:(0:Int)≤(k:Int):=by omega
    have i2:(k:Int)<(cls.length:Int):=by omega
    generalize addR xs ss em=AA at *
    clear hc q1 hkk
    go_wp2_with fail
    refine(unhide HA).mono ?_
    rintro e w2 ⟨hb2,hp2⟩
    have B2:Hid (Below w.heap.size w w2):=HB.out.trans hb2
    cases AA with
    | err er =>
     simp only at hp2
     subst hp2
     have hk2:=HKK.out
     simp only at hk2
     have HE2:=HE.out
     rw[← hk2] at HE2
     simp only at HE2
     have HE3:=hide HE2
     clear hb2 HA HE2 hk2 HKK
     have heri:(er != 0)=true:=by simp;exact HNE.out er rfl
     go_wp2
     go_ret3
     rw[HE3.out]
     exact⟨B2.out,none,0,rfl,rfl,.inl ⟨rfl,rfl⟩⟩
    | ok ss' em' =>
     simp only at hp2
     obtain⟨rfl,ta',tc',se',hs2⟩:=hp2
     obtain⟨t1,t2⟩:=HTN.out ss' em' rfl
     have S2:=hide hs2
     have T2:=hide t1
     have hk2:=HKK.out
     simp only at hk2
     have HK2:=hide hk2
     clear hb2 HA hs2 t1 hk2 HKK HTN
     go_wp2
     go_roundw
     case rel=>exact⟨k+1,ss',em',ta',tc',se',by omega,by omega,by go_num,S2,T2,B2,HK2⟩
     case measure=>simp[intOf];omega
   ·obtain rfl:k=cls.length:=by omega
    have hkk:=HK.out
    rw[List.drop_length] at hkk
    simp only[takeN] at hkk
    have HE2:=HE.out
    rw[← hkk] at HE2
    simp only at HE2
    have HE3:=hide HE2
    have h1:=HT.out.one
    have h2:=HT.out.all
    obtain⟨w1',w2',w3',w4'⟩:=stand_wf ss em
    have W1:=hide w1'
    have W3:=hide w3'
    have HS:=hide (standing_any wr w.heap.size w.heap.size ss em ta tc se S.out HT.out hzr (by omega))
    clear hkk HE2 HK w1' w3'
    go_wp2_with fail
    refine(unhide HS).mono ?_
    rintro e w2 ⟨cb,na,nc,rfl,t2,hb2⟩
    have B2:Hid (Below w.heap.size w w2):=HB.out.trans hb2
    have HC:=hide (check_anyP w2 w.heap.size cb na nc (standN ss em) t2 W1.out (em+ss.length) W3.out s (by omega) (Nat.le_trans hzr hb2.size) (by omega) (by omega))
    clear t2 hb2 HS
    go_wp2_with fail
    refine(unhide HC).mono ?_
    rintro e w3 ⟨hb3,a3,c3,rfl,ho3⟩
    have B3:Hid (Below w.heap.size w w3):=B2.out.trans hb3
    have O3:=hide ho3
    clear hb3 ho3 HC
    generalize chkN (bs s) (s.size+1) (standN ss em) 0 0 0 []=CR at *
    go_wp2
    go_ret3
    refine⟨B3.out,a3,c3,?_,?_⟩
    ·rw[HE3.out];rfl
    ·rw[HE3.out];exact O3.out
end Go.Proofs.YthboeppmlhbofabDoor
