import Derived.Test.YthboeppmlhbofaaDoorClh
import Derived.Test.YthboeppmlhbofaaDoorWrt
import Derived.Test.YthboeppmlhbofaaDoorChl
namespace Go.Proofs.YthboeppmlhbofaaDoor
open Go.RowKit Txt
set_option maxRecDepth 100000
structure EX(P:Nat→Prop)(w w':World):Prop where
 os:w'.os=w.os
 tape:w'.tape=w.tape
 output:w'.output=w.output
 size:w.heap.size≤w'.heap.size
 block:∀ k,k<w.heap.size→¬ P k→w'.heap[k]?=w.heap[k]?
theorem EX.of{P:Nat→Prop}{w w':World}(h:Below w.heap.size w w'):EX P w w':=⟨h.os,h.tape,h.output,h.size,fun k hk _=>h.block k hk⟩
theorem EX.trans{P:Nat→Prop}{w w1 w2:World}(h:EX P w w1)(h':EX P w1 w2):EX P w w2:=⟨h'.os.trans h.os,h'.tape.trans h.tape,h'.output.trans h.output,Nat.le_trans h.size h'.size,fun k hk hn=>(h'.block k (Nat.lt_of_lt_of_le hk h.size) hn).trans (h.block k hk hn)⟩
theorem EX.mono{P Q:Nat→Prop}{w w':World}(h:EX P w w')(hp:∀ k,k<w.heap.size→P k→Q k):EX Q w w':=⟨h.os,h.tape,h.output,h.size,fun k hk hn=>h.block k hk (fun hq=>hn (hp k hk hq))⟩
theorem EX.below{P:Nat→Prop}{w w1 w2:World}(h:EX P w w1)(hb:Below w1.heap.size w1 w2):EX P w w2:=h.trans (EX.of hb)
theorem EX.grown{P:Nat→Prop}{w w1 w2:World}{q:Option Nat}(h:EX P w w1)(hk:w1.grownBy w2 q)(hq:∀ b,q=some b→P b∨w.heap.size≤b):EX P w w2 :=
 ⟨hk.os.trans h.os,hk.tape.trans h.tape,hk.output.trans h.output,Nat.le_trans h.size hk.size,fun k hl hn=>(hk.block k (Nat.lt_of_lt_of_le hl h.size) (fun e=>(hq k e.symm).elim hn (fun h=>by omega))).trans (h.block k hl hn)⟩
theorem EX.set{P:Nat→Prop}{w w1:World}(h:EX P w w1)(g i:Nat)(x:Value)(hq:P g∨w.heap.size≤g):EX P w (w1.setCell ⟨g,i,none⟩ x) :=
 ⟨h.os,h.tape,h.output,by simpa [World.setCell] using h.size,fun k hl hn=>(Below.heap_setCell w1 ⟨g,i,none⟩ x k (fun e=>by have e':k=g:=e;subst e';exact hq.elim hn (fun h=>by omega))).trans (h.block k hl hn)⟩
def SE.Own(d:SE)(b:Nat):Prop:=b=d.cb∨(Value.slice d.al d.lr.length d.cl).ownBlock=some b
open Txt
def YJ:List UInt8→Bool
 | []=>false
 | c :: _=>!((c.toNat:Int) == 99)
structure VR(n:Int)(l:List UInt8):Prop where
 num:CQ l=(n,0)
 gaps:l.all (fun c=>!EZ c)=true
 head:YJ l=true
theorem Ri{n:Int}(h:AK n=true):VR n (Lib.itoa n):=by
 rcases Eo h with rfl|rfl|rfl|rfl|rfl|rfl|rfl|rfl|rfl|rfl|rfl|rfl|rfl|rfl|rfl|rfl|rfl|rfl|rfl|rfl <;>
  exact⟨by decide +kernel,by decide +kernel,by decide +kernel⟩
theorem Og(l:List UInt8)(h:l.all (fun c=>!EZ c)=true)(g:UInt8)(hg:EZ g=true)(r:List UInt8):CR (l++g :: r)=l.length:=by
 induction l with
 | nil=>simp[CR,hg]
 | cons c l ih =>
  simp only[List.all_cons,Bool.and_eq_true,Bool.not_eq_true'] at h
  simp[CR,h.1,ih h.2]
theorem YI:EZ 32=true:=by decide
theorem YH:EZ 10=true:=by decide
theorem ZL:CQ [48]=(0,0):=by decide
def BZ(lt:UInt8)(xs:List Int):List UInt8:=[lt,32]++(Aw xs++[48,10])
theorem FA{l a b:List UInt8}{p:Nat}(h:l.drop p=a++b):l.drop (p+a.length)=b:=by
 rw[← List.drop_drop,h,List.drop_left]
theorem Jz{l b:List UInt8}{p:Nat}{c:UInt8}(h:l.drop p=c :: b):l.getD p 0=c∧p<l.length:=by
 have hp:p<l.length:=by
  apply Classical.byContradiction
  intro hn
  rw[List.drop_eq_nil_of_le (by omega)] at h
  simp at h
 rw[List.drop_eq_getElem_cons hp] at h
 simp only[List.cons.injEq] at h
 exact⟨by rw[List.getD_eq_getElem?_getD,List.getElem?_eq_getElem hp];exact h.1,hp⟩
theorem Ui(l post:List UInt8):∀ (xs:List Int) (m p:Nat) (acc:List Int),xs.all AK=true→xs.length<m→l.drop p=Aw xs++(48 :: 10 :: post)→WE l m p acc=some (acc++xs,p+(Aw xs).length+2):=by
 intro xs
 induction xs with
 | nil =>
  intro m p acc _ hm h
  obtain⟨m,rfl⟩:∃ k,m=k+1:=⟨m - 1,by omega⟩
  have h':l.drop p=48 :: 10 :: post:=by simpa [Aw] using h
  have hw:CR (l.drop p)=1:=by
   rw[h']
   exact Og [48] (by decide) 10 YH post
  have hd1:l.drop (p+1)=10 :: post:=FA (a:=[48]) (by rw[h'];rfl)
  obtain⟨g1,g2⟩:=Jz hd1
  simp only[WE,hw]
  rw[if_pos g2,show p+1 - p=1 by omega,h']
  have ht:(48 :: 10 :: post).take 1=[48]:=rfl
  rw[ht,ZL,if_neg (by simp),g1,if_pos ⟨rfl,by decide⟩]
  simp[Aw]
 | cons x xs ih =>
  intro m p acc hall hm h
  obtain⟨m,rfl⟩:∃ k,m=k+1:=⟨m - 1,by omega⟩
  simp only[List.all_cons,Bool.and_eq_true] at hall
  have hx:=Ri hall.1
  have h':l.drop p=Lib.itoa x++(32 :: (Aw xs++(48 :: 10 :: post))):=by
   rw[h]
   simp[Aw,Ci]
  have hw:CR (l.drop p)=(Lib.itoa x).length:=by
   rw[h']
   exact Og _ hx.gaps 32 YI _
  have hd1:=FA h'
  obtain⟨g1,g2⟩:=Jz hd1
  have hd2:l.drop (p+(Lib.itoa x).length+1)=Aw xs++(48 :: 10 :: post):=FA (a:=[32]) (by rw[hd1];rfl)
  have hne:x≠0:=by
   have:=hall.1
   simp only[AK,Bool.and_eq_true,bne_iff_ne] at this
   exact this.1.1
  simp only[WE,hw]
  rw[if_pos g2,show p+(Lib.itoa x).length - p=(Lib.itoa x).length by omega,h',List.take_left,hx.num]
  rw[if_neg (by simp),g1,if_neg (fun q=>hne q.1),if_neg (fun q=>q.elim hne (fun q=>q (by decide)))]
  rw[ih m _ _ hall.2 (by simpa using hm) hd2]
  simp[Aw,Ci]
  omega
theorem Ww(pre post:List UInt8)(lt:UInt8)(xs:List Int)(h:xs.all AK=true)(hl:lt.toNat=97∨lt.toNat=100∨lt.toNat=101):Gy (pre++(BZ lt xs++post)) pre.length=some (lt.toNat,xs,pre.length+(BZ lt xs).length):=by
 have h0:(pre++(BZ lt xs++post)).drop pre.length=lt :: 32 :: (Aw xs++(48 :: 10 :: post)):=by
  rw[List.drop_left]
  simp[BZ]
 have h1:(pre++(BZ lt xs++post)).drop (pre.length+1)=32 :: (Aw xs++(48 :: 10 :: post)):=FA (a:=[lt]) (by rw[h0];rfl)
 have h2:(pre++(BZ lt xs++post)).drop (pre.length+2)=Aw xs++(48 :: 10 :: post):=FA (a:=[lt,32]) (by rw[h0];rfl)
 obtain⟨a1,a2⟩:=Jz h0
 obtain⟨b1,b2⟩:=Jz h1
 have hlen:xs.length≤(Aw xs).length:=by
  clear h0 h1 h2 a1 a2 b1 b2
  induction xs with
  | nil=>simp
  | cons x xs ih =>
   simp only[List.all_cons,Bool.and_eq_true] at h
   have:=ih h.2
   simp[Aw,Ci] at this ⊢
   omega
 have hlb:ZJ (pre++(BZ lt xs++post)) pre.length=true:=by
  unfold ZJ
  rw[a1,b1,decide_eq_true (by omega)]
  rcases hl with e | e | e <;> rw[e] <;> decide
 have hlt:(pre++(BZ lt xs++post)).length=pre.length+((Aw xs).length+4)+post.length:=by simp[BZ];omega
 unfold Gy
 rw[if_pos hlb,Ui _ post xs _ _ [] h (by omega) h2,a1]
 simp[BZ]
 omega
structure JV where
 lr:List Nat
 held:Nat
 log:Nat
 st:Nat
abbrev EY:=UInt8 × List Int
def EC(ls:List EY):List UInt8:=ls.flatMap fun p=>BZ p.1 p.2
def PQ(r h l:Int)(hv:List Nat)(j:JV)(p:EY):Prop :=
 (j.log:Int)+p.2.length+1≤l∧((p.1=97∧Bz hv j.lr p.2 false=true∧(j.held:Int)+p.2.length≤h∧(r=0∨(j.lr.length:Int)+1≤r))∨(p.1=101∧Bz hv j.lr p.2 true=true)∨(p.1=100∧AO p.2∈j.lr∧r≠0∧AG (AO p.2)=p.2.length∧p.2.length≤j.held))
def Bu(j:JV)(p:EY):JV:=if p.1=97 then ⟨j.lr++[AO p.2],j.held+p.2.length,j.log+p.2.length+1,j.st+1⟩ else if p.1=100 then ⟨j.lr.erase (AO p.2),j.held - p.2.length,j.log+p.2.length+1,j.st⟩ else { j with log:=j.log+p.2.length+1 }
def Eg(r h l:Int)(hv:List Nat):JV→List EY→Prop
 | _,[]=>True
 | j,p :: ps=>p.2.all AK=true∧PQ r h l hv j p∧(p.1=101→ps=[])∧Eg r h l hv (Bu j p) ps
def Ay(j:JV)(ls:List EY):JV:=ls.foldl Bu j
def SE.jv(d:SE):JV:=⟨d.lr,d.held,d.log,d.st⟩
def SE.put(d:SE)(j:JV)(al:Option Addr)(cl:Nat):SE:={ d with lr:=j.lr,held:=j.held,log:=j.log,st:=j.st,al:=al,cl:=cl }
theorem Jj(p:EY)(ls:List EY):EC (p :: ls)=BZ p.1 p.2++EC ls:=by simp[EC]
theorem XN{w w':World}{a:Option Addr}{A:Nat→Option Addr}{C:Nat→Nat}{xss:List (List Int)}(h:Br w a A C xss)(hb:Below w.heap.size w w'):Br w' a A C xss :=
 h.kept fun b off _ hv=>(hb.cell (p:=⟨b,off,none⟩) (World.block_lt_of_cell? w _ hv)).trans hv
theorem ZA:Xa []:=⟨fun p hp=>by simp at hp,Nat.le_refl _,by decide⟩
theorem Yf(cls:List (List Int))(k:Nat)(ss:List Pr)(em:Nat)(h:k<cls.length):Jq (cls.drop k) ss em k=match Gc (cls.getD k []) ss em with | .err e=>.inl (e,k) | .ok ss' em'=>Jq (cls.drop (k+1)) ss' em' (k+1):=by
 rw[List.drop_eq_getElem_cons h,List.getD_eq_getElem?_getD,List.getElem?_eq_getElem h]
 rfl
theorem Xz{xs:List Int}{ss:List Pr}{em:Nat}{e:Int}(h:Gc xs ss em=.err e):e≠0:=by
 unfold Gc at h
 split at h
 ·simp only[AR.err.injEq] at h;omega
 ·split at h
  ·simp at h
  ·split at h
   ·simp at h
   ·split at h
    ·simp only[AR.err.injEq] at h;omega
    ·simp at h
end Go.Proofs.YthboeppmlhbofaaDoor
