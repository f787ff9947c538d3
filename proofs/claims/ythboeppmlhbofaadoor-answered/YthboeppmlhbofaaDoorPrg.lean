import Derived.Test.YthboeppmlhbofaaDoorLns
namespace Go.Proofs.YthboeppmlhbofaaDoor
open Go.RowKit Txt
set_option maxRecDepth 100000
theorem XJ{l:List UInt8}:∀ (m p:Nat) (acc:List Int) (xs:List Int) (q:Nat),WE l m p acc=some (xs,q)→p<q∧q≤l.length∧xs.length≤acc.length+(q - p):=by
 intro m
 induction m with
 | zero=>intro p acc xs q h;simp[WE] at h
 | succ m ih =>
  intro p acc xs q h
  simp only[WE] at h
  split at h
  ·split at h
   ·simp at h
   ·split at h
    ·simp only[Option.some.injEq,Prod.mk.injEq] at h
     obtain⟨rfl,rfl⟩:=h
     exact⟨by omega,by omega,by omega⟩
    ·split at h
     ·simp at h
     ·obtain⟨h1,h2,h3⟩:=ih _ _ _ _ h
      rw[GI] at h3
      exact⟨by omega,h2,by omega⟩
  ·simp at h
theorem SO{l:List UInt8}{p lt q:Nat}{xs:List Int}(h:Gy l p=some (lt,xs,q)):p<q∧q≤l.length∧xs.length≤q:=by
 unfold Gy at h
 split at h
 ·cases hr:WE l (l.length+1) (p+2) [] with
  | none=>rw[hr] at h;simp at h
  | some r =>
   obtain⟨ys,z⟩:=r
   rw[hr] at h
   simp only[Option.map_some,Option.some.injEq,Prod.mk.injEq] at h
   obtain⟨_,rfl,rfl⟩:=h
   obtain⟨h1,h2,h3⟩:=XJ _ _ _ _ _ hr
   simp only[List.length_nil] at h3
   exact⟨by omega,h2,by omega⟩
 ·simp at h
theorem Ya{ns:List Nd}{M:Nat}(hw:Wf ns)(hp:0<ns.length)(hc:CB ns M)(lt:Nat)(xs:List Int):Wf (Gz ns lt xs).2∧0<(Gz ns lt xs).2.length∧CB (Gz ns lt xs).2 (M+1)∧(Gz ns lt xs).2.length≤ns.length+10:=by
 have h0:Wf ns∧0<ns.length∧CB ns (M+1)∧ns.length≤ns.length+10:=⟨hw,hp,fun j=>Nat.le_succ_of_le (hc j),by omega⟩
 unfold Gz
 split
 ·unfold DI
  cases hd:Ar ns (CO xs) (CN xs) 10 with
  | none=>exact h0
  | some a =>
   have ha:=Dc hw hp _ _ _ _ hd
   by_cases hz:(ns.getD a Ac).c=0
   ·simp only[hz,if_true];exact h0
   ·simp only[hz,if_false]
    refine⟨fun j hj=>?_,by rw[List.length_set];exact hp,fun j=>?_,by rw[List.length_set];omega⟩
    ·rw[List.length_set] at hj ⊢
     rw[A9 _ _ _ _ ha]
     split
     ·exact hw a ha
     ·exact hw j hj
    ·rw[A9 _ _ _ _ ha]
     split
     ·have:=hc a
      show(ns.getD a Ac).c - 1≤_
      omega
     ·exact Nat.le_succ_of_le (hc j)
 ·split
  ·exact h0
  ·split
   ·obtain⟨h1,h2,h3⟩:=HJ hw hp (CO xs) (CN xs) 1
    exact⟨h1,h3,IW hc hw hp _ _ _,h2⟩
   ·exact h0
def Oy(l:List UInt8):Nat→List Nd→Nat→Nat→Nat→List Int→List Int × Int × Nat
 | 0,_,_,n,_,_=>([],3,n)
 | m+1,ns,p,n,lt,xs =>
  if p<l.length then
   match Gy l p with
   | none=>([],3,n)
   | some (lt',xs',q)=>if (Gz ns lt' xs').1≠0 then ([],(Gz ns lt' xs').1,n) else Oy l m (Gz ns lt' xs').2 q (n+1) lt' xs'
  else if lt≠101 then ([],9,n) else (xs,0,n)
def ZD(B:Nat)(w:World)(r:List Int × Int × Nat)(e:Ending)(w':World):Prop:=Below B w w'∧∃ a c,e=.returned (.tuple #[.slice a r.1.length c,.int .i64 r.2.1,.int .i64 (r.2.2:Nat)])∧w'.ownsRow B 3 1 (.slice a r.1.length c) r.1.length (AW r.1)
theorem Zk:(107:Nat)≠75:=by decide
theorem Zl:(107:Nat)≠3:=by decide
theorem Zi:(3:Nat)≠110:=by decide
theorem Zh:(75:Nat)≠110:=by decide
theorem DW.row{w w':World}{B cb n g t:Nat}{na:Option Addr}{nc:Nat}{ns:List Nd}{zs:List Value}(hk:DW w w' cb (.slice na n nc))(h:Cf w B cb na nc ns)(hr:Ab w g t zs)(h1:107≠t)(h2:t≠110):Ab w' g t zs:=by
 refine(hk.block g hr.lt (fun e=>?_) ?_).trans hr
 ·subst e
  have a1:w.heap[g]?=some (.cells zs.toArray t (0,0)):=hr
  have a2:w.heap[g]?=some (.cells [Value.slice na ns.length nc].toArray 110 (0,0)):=h.row
  rw[a1] at a2
  simp only[Option.some.injEq,Obj.cells.injEq] at a2
  exact h2 a2.2.1
 ·have e:(Value.slice na n nc).ownBlock=(Value.slice na ns.length nc).ownBlock:=Hl
  rw[e]
  exact DZ h.own hr h1
theorem DW.own{w w':World}{B B' cb n m s t:Nat}{na:Option Addr}{nc:Nat}{ns:List Nd}{v:Value}{zs:List Value}(hk:DW w w' cb (.slice na n nc))(h:Cf w B cb na nc ns)(hr:w.ownsRow B' t s v m zs)(h1:107≠t)(h2:t≠110):w'.ownsRow B' t s v m zs:=by
 refine⟨hr.1,?_⟩
 rcases hr.2 with hn | ⟨g,cap,cur,hv,q1,hg,r⟩
 ·exact .inl hn
 ·refine .inr ⟨g,cap,cur,hv,q1,?_,r⟩
  have hrow:Ab w g t cur.toList:=by show _=_;rw[hg]
  exact(hk.row h hrow h1 h2).trans (by rw[Array.toArray_toList])
theorem K0{w w':World}{B cb n:Nat}{na na':Option Addr}{nc nc':Nat}{ns ns':List Nd}(h:Cf w B cb na nc ns)(hn:DN w w' B cb na nc n na' nc' ns')(hB:B≤w.heap.size):Below B w w' :=
 ⟨hn.kept.os,hn.kept.tape,hn.kept.output,hn.kept.size,fun k hk=>hn.kept.block k (by omega) (by have:=h.base;omega) (fun e=>by
  have e':(Value.slice na ns.length nc).ownBlock=some k:=by rw[← e];exact Hl
  have:=(h.own.lt k e').1
  omega)⟩
theorem BO{w:World}{b B e s n:Nat}{v:Value}{xs:List Value}(h:w.ownsRow b e s v n xs)(hb:B≤b):w.ownsRow B e s v n xs:=by
 refine⟨h.1,?_⟩
 rcases h.2 with hn | ⟨g,cap,cur,hv,h1,r⟩
 ·exact .inl hn
 ·exact .inr ⟨g,cap,cur,hv,Nat.le_trans hb h1,r⟩
def BK(ns:List Nd):Nat→List Nat→Nat
 | a,[]=>(ns.getD a Ac).c
 | a,k :: ws=>if (ns.getD a Ac).nx k=0 then 0 else BK ns ((ns.getD a Ac).nx k) ws
def Bj(t f:Nat):Nat→Nat→List Nat
 | _,0=>[]
 | v,m+1=>C9 t f ((v:Nat):Int) :: Bj t f (v+1) m
theorem J2(t f:Nat){v:Nat}(h1:1≤v)(h2:v≤10):Bv t f (v:Int)=t.testBit v:=by
 have e1:ER (v:Int)=2^v:=by unfold ER;rw[if_pos (by omega),Int.toNat_natCast]
 have e2:ER (-(v:Int))=0:=by unfold ER;rw[if_neg (by omega)]
 unfold Bv
 rw[e1,e2,Nat.and_zero,Jw]
 cases t.testBit v <;> simp
theorem J1(t f:Nat){v:Nat}(h1:1≤v)(h2:v≤10):Bv t f (-(v:Int))=f.testBit v:=by
 have e1:ER (v:Int)=2^v:=by unfold ER;rw[if_pos (by omega),Int.toNat_natCast]
 have e2:ER (-(v:Int))=0:=by unfold ER;rw[if_neg (by omega)]
 unfold Bv
 rw[Int.neg_neg,e1,e2,Nat.and_zero,Jw]
 cases f.testBit v <;> simp
structure VT(ns:List Nd)(path:Nat→List Nat):Prop where
 root:path 0=[]
 step:∀ a,a<ns.length→∀ k,k<4→(ns.getD a Ac).nx k≠0→path ((ns.getD a Ac).nx k)=path a++[k]
theorem JR(d:Nd){k j x:Nat}(hk:k<4)(hj:j<4)(h:j≠k):(d.put k x).nx j=d.nx j:=by
 have a:k=0∨k=1∨k=2∨k=3:=by omega
 have b:j=0∨j=1∨j=2∨j=3:=by omega
 rcases a with rfl|rfl|rfl|rfl <;> rcases b with rfl|rfl|rfl|rfl <;> first | rfl | omega
theorem Nj(ns:List Nd)(b:Nat)(h:ns.getD b Ac=Ac)(ws:List Nat):BK ns b ws=0:=by
 cases ws with
 | nil=>simp only[BK,h];rfl
 | cons k ws =>
  simp only[BK,h]
  rw[if_pos]
  unfold Nd.nx Ac
  split <;> rfl
theorem Ro{ns:List Nd}(hw:Wf ns){a k:Nat}(ha:a<ns.length)(hk:k<4):∀ (ws:List Nat) (b:Nat),b<ns.length→(∀ j∈ws,j<4)→BK (CG ns a k).1 b ws=BK ns b ws:=by
 unfold CG
 split
 ·rename_i hz
  intro ws
  induction ws with
  | nil =>
   intro b hb _
   simp only[BK]
   rw[Dd,A9 _ _ _ _ ha]
   split
   ·rename_i e;rw[Wv,e]
   ·rfl
  | cons j ws ih =>
   intro b hb h4
   have hj:j<4:=h4 j (by simp)
   have hsame:b≠a∨j≠k→((ns.set a ((ns.getD a Ac).put k ns.length)++[Ac]).getD b Ac).nx j=(ns.getD b Ac).nx j:=by
    intro h
    rw[Dd,A9 _ _ _ _ ha]
    split
    ·rename_i e
     rw[e]
     exact JR _ hk hj (h.resolve_left (fun hne=>hne e))
    ·rfl
   by_cases hc:b=a∧j=k
   ·obtain⟨rfl,rfl⟩:=hc
    simp only[BK,hz,if_true]
    rw[Dd,A9 _ _ _ _ ha,if_pos rfl,Nd.put_nx _ hk]
    rw[if_neg (by omega)]
    apply Nj
    rw[Dd,List.getD_eq_getElem?_getD,List.getElem?_eq_none (by rw[List.length_set];exact Nat.le_refl _)]
    rfl
   ·have hs:=hsame (by
     by_cases e:b=a
     ·exact .inr (fun e2=>hc ⟨e,e2⟩)
     ·exact .inl e)
    simp only[BK,hs]
    split
    ·rfl
    ·exact ih _ (hw.nx hb j) (fun x hx=>h4 x (by simp[hx]))
 ·intro ws b _ _;rfl
theorem SJ{ns:List Nd}(hw:Wf ns)(hp:0<ns.length){path:Nat→List Nat}(h:VT ns path){a k:Nat}(ha:a<ns.length)(hk:k<4):∃ path',VT (CG ns a k).1 path'∧path' (CG ns a k).2=path a++[k]:=by
 unfold CG
 split
 ·rename_i hz
  refine⟨fun i=>if i=ns.length then path a++[k] else path i,⟨?_,?_⟩,by simp⟩
  ·show(if 0=ns.length then _ else _)=_
   rw[if_neg (by omega)];exact h.root
  ·intro b hb j hj hne
   have hlen:(ns.set a ((ns.getD a Ac).put k ns.length)++[Ac]).length=ns.length+1:=by simp
   rw[hlen] at hb
   rw[Dd,A9 _ _ _ _ ha] at hne ⊢
   by_cases hbl:b=ns.length
   ·subst hbl
    rw[if_neg (by omega)] at hne
    have e:ns.getD ns.length Ac=Ac:=by rw[List.getD_eq_getElem?_getD,List.getElem?_eq_none (Nat.le_refl _)];rfl
    rw[e] at hne
    exfalso
    apply hne
    unfold Nd.nx Ac
    split <;> rfl
   ·have hb2:b<ns.length:=by omega
    by_cases e:b=a
    ·subst e
     rw[if_pos rfl] at hne ⊢
     by_cases ej:j=k
     ·subst ej
      rw[Nd.put_nx _ hk]
      show(if ns.length=ns.length then _ else _)=(if b=ns.length then _ else _)++_
      rw[if_pos rfl,if_neg (by omega)]
     ·rw[JR _ hk hj ej] at hne ⊢
      have hl:=hw.nx hb2 j
      show(if _=ns.length then _ else _)=(if b=ns.length then _ else _)++_
      rw[if_neg (by omega),if_neg (by omega)]
      exact h.step b hb2 j hj hne
    ·rw[if_neg e] at hne ⊢
     have hl:=hw.nx hb2 j
     show(if _=ns.length then _ else _)=(if b=ns.length then _ else _)++_
     rw[if_neg (by omega),if_neg (by omega)]
     exact h.step b hb2 j hj hne
 ·rename_i hz
  exact⟨path,h,h.step a ha k hk hz⟩
theorem VD(t f:Nat):∀ (m v:Nat),(Bj t f v m).length=m:=by
 intro m
 induction m with
 | zero=>intro v;rfl
 | succ m ih=>intro v;simp[Bj,ih]
theorem L6(t f:Nat):∀ (m v:Nat),Bj t f v (m+1)=Bj t f v m++[C9 t f ((v+m:Nat):Int)]:=by
 intro m
 induction m with
 | zero=>intro v;rfl
 | succ m ih =>
  intro v
  have:=ih (v+1)
  simp only[Bj] at this ⊢
  rw[this,show v+1+m=v+(m+1) by omega]
  rfl
theorem KA{ns:List Nd}(hw:Wf ns)(hp:0<ns.length){path:Nat→List Nat}(h:VT ns path)(t f:Nat):∀ k,(∃ path',VT (As ns t f k).1 path'∧path' (As ns t f k).2=Bj t f 1 k)∧∀ ws,(∀ j∈ws,j<4)→BK (As ns t f k).1 0 ws=BK ns 0 ws:=by
 intro k
 induction k with
 | zero=>exact⟨⟨path,h,h.root⟩,fun ws _=>rfl⟩
 | succ k ih =>
  obtain⟨⟨p1,q1,q2⟩,q3⟩:=ih
  obtain⟨w1,w2,w3⟩:=EO hw hp t f k
  have hp1:0<(As ns t f k).1.length:=by omega
  obtain⟨p2,r1,r2⟩:=SJ w1 hp1 q1 w2 (EM t f ((k+1:Nat):Int))
  refine⟨⟨p2,r1,?_⟩,fun ws h4=>?_⟩
  ·show p2 (CG _ _ _).2=_
   rw[r2,q2,L6,show 1+k=k+1 by omega]
  ·show BK (CG _ _ _).1 0 ws=_
   rw[Ro w1 w2 (EM _ _ _) ws 0 hp1 h4]
   exact q3 ws h4
theorem Nk{ns:List Nd}(hw:Wf ns){path:Nat→List Nat}(h:VT ns path){a:Nat}(ha:a<ns.length)(x:Nat):∀ (ws:List Nat) (b:Nat),b<ns.length→(∀ j∈ws,j<4)→path b++ws≠path a→BK (ns.set a { ns.getD a Ac with c:=x }) b ws=BK ns b ws:=by
 intro ws
 induction ws with
 | nil =>
  intro b hb _ hne
  simp only[BK]
  rw[A9 _ _ _ _ ha,if_neg (fun e=>hne (by rw[e];simp))]
 | cons k ws ih =>
  intro b hb h4 hne
  have hnx:((ns.set a { ns.getD a Ac with c:=x }).getD b Ac).nx k=(ns.getD b Ac).nx k:=by
   rw[A9 _ _ _ _ ha]
   split
   ·rename_i e;rw[e];rfl
   ·rfl
  simp only[BK,hnx]
  split
  ·rfl
  ·rename_i hz
   refine ih _ (hw.nx hb k) (fun j hj=>h4 j (by simp[hj])) ?_
   rw[h.step b hb k (h4 k (by simp)) hz,List.append_assoc]
   exact hne
theorem OG{ns:List Nd}{path:Nat→List Nat}(h:VT ns path){a:Nat}(ha:a<ns.length)(x:Nat):VT (ns.set a { ns.getD a Ac with c:=x }) path:=by
 refine⟨h.root,fun b hb k hk hne=>?_⟩
 rw[List.length_set] at hb
 have hnx:((ns.set a { ns.getD a Ac with c:=x }).getD b Ac).nx k=(ns.getD b Ac).nx k:=by
  rw[A9 _ _ _ _ ha]
  split
  ·rename_i e;rw[e];rfl
  ·rfl
 rw[hnx] at hne ⊢
 exact h.step b hb k hk hne
structure Sz(ns:List Nd):Prop where
 wf:Wf ns
 pos:0<ns.length
 path:∃ path,VT ns path
theorem Sz.add{ns:List Nd}(h:Sz ns)(t f c:Nat):Sz (DX ns t f c)∧∀ ws,(∀ j∈ws,j<4)→ws≠Bj t f 1 10→BK (DX ns t f c) 0 ws=BK ns 0 ws:=by
 obtain⟨path,hp⟩:=h.path
 obtain⟨⟨p1,q1,q2⟩,q3⟩:=KA h.wf h.pos hp t f 10
 obtain⟨w1,w2,w3⟩:=EO h.wf h.pos t f 10
 obtain⟨a1,a2,a3⟩:=HJ h.wf h.pos t f c
 refine⟨⟨a1,a3,p1,OG q1 w2 _⟩,fun ws h4 hne=>?_⟩
 rw[← q3 ws h4]
 refine Nk w1 q1 w2 _ ws 0 (by omega) h4 ?_
 rw[q1.root,q2]
 exact hne
theorem Vm{ns ns':List Nd}(hnx:∀ b k,(ns'.getD b Ac).nx k=(ns.getD b Ac).nx k)(hc:∀ b,(ns'.getD b Ac).c≤(ns.getD b Ac).c):∀ (ws:List Nat) (b:Nat),BK ns' b ws≤BK ns b ws:=by
 intro ws
 induction ws with
 | nil=>intro b;exact hc b
 | cons k ws ih =>
  intro b
  simp only[BK,hnx]
  split
  ·exact Nat.le_refl _
  ·exact ih _
theorem Sz.drop{ns ns':List Nd}(h:Sz ns){t f:Nat}(hd:DI ns t f=some ns'):Sz ns'∧∀ ws,BK ns' 0 ws≤BK ns 0 ws:=by
 unfold DI at hd
 cases ha:Ar ns t f 10 with
 | none=>rw[ha] at hd;simp at hd
 | some a =>
  have hal:=Dc h.wf h.pos t f 10 a ha
  rw[ha] at hd
  simp only at hd
  split at hd
  ·simp at hd
  ·simp only[Option.some.injEq] at hd
   subst hd
   obtain⟨path,hp⟩:=h.path
   refine⟨⟨fun j hj=>?_,by rw[List.length_set];exact h.pos,path,OG hp hal _⟩,fun ws=>Vm (fun b k=>?_) (fun b=>?_) ws 0⟩
   ·rw[List.length_set] at hj ⊢
    rw[A9 _ _ _ _ hal]
    split
    ·exact h.wf a hal
    ·exact h.wf j hj
   ·rw[A9 _ _ _ _ hal]
    split
    ·rename_i e;rw[e];rfl
    ·rfl
   ·rw[A9 _ _ _ _ hal]
    split
    ·rename_i e
     rw[e]
     show(ns.getD a Ac).c - 1≤_
     omega
    ·exact Nat.le_refl _
def PH(kt kf v k:Nat):Prop:=(k=1∧kt.testBit v=true)∨(k=2∧kf.testBit v=true)
def JQ(kt kf v k:Nat):Prop:=(k=1∧kf.testBit v=true)∨(k=2∧kt.testBit v=true)
def ZI(kt kf:Nat):Nat→List Nat→Prop
 | _,[]=>False
 | v,k :: ws=>PH kt kf v k∨ZI kt kf (v+1) ws
def Dn(kt kf:Nat):Nat→List Nat→Prop
 | _,[]=>True
 | v,k :: ws=>(k=0∨JQ kt kf v k)∧Dn kt kf (v+1) ws
def EK(kt kf:Nat):Nat→List Nat→Int→Prop
 | _,[],_=>False
 | v,k :: ws,x=>((k=0∨JQ kt kf v k)∧EK kt kf (v+1) ws x)∨(((k=1∧x=(v:Int))∨(k=2∧x=-(v:Int)))∧¬ PH kt kf v k∧¬ JQ kt kf v k∧Dn kt kf (v+1) ws)
def LI(x:Int)(s:PS):Prop:=(0<x∧s.gt.testBit x.toNat=true)∨(x<0∧s.gf.testBit (-x).toNat=true)
theorem Ti{x:Int}{s:PS}(h:LI x s)(c:Nat)(op:Int):LI x (Dg c op s):=by
 unfold Dg
 split
 ·exact h
 ·split
  ·exact h
  ·rcases h with⟨h1,h2⟩ | ⟨h1,h2⟩
   ·exact .inl ⟨h1,by show(s.gt|||Cq op).testBit _=true;rw[Nat.testBit_or,h2];rfl⟩
   ·exact .inr ⟨h1,by show(s.gf|||Cp op).testBit _=true;rw[Nat.testBit_or,h2];rfl⟩
theorem Vg{s:PS}(h:s.cl=true)(c:Nat)(op:Int):(Dg c op s).cl=true:=by
 unfold Dg
 split
 ·exact h
 ·split
  ·rfl
  ·exact h
theorem QD{ns:List Nd}{kt kf:Nat}(m a v:Nat)(op:Int)(s:PS)(h:m+v=11)(hv:1≤v)(ho:op=0∨AK op=true):(∀ x,LI x s→LI x (AJ ns kt kf m a v op s))∧(s.cl=true→(AJ ns kt kf m a v op s).cl=true) :=
 LC (fun s r=>(∀ x,LI x s→LI x r)∧(s.cl=true→r.cl=true)) (fun _=>⟨fun _ h=>h,fun h=>h⟩) (fun _ _ _ h h'=>⟨fun x q=>h'.1 x (h.1 x q),fun q=>h'.2 (h.2 q)⟩) (fun c op _ _=>⟨fun _ q=>Ti q c op,fun q=>Vg q c op⟩) m a v op s h hv ho
theorem Ru{x:Int}(hx:AK x=true){s:PS}{c:Nat}(hc:c≠0):LI x (Dg c x s):=by
 simp only[AK,Bool.and_eq_true,bne_iff_ne,decide_eq_true_eq] at hx
 unfold Dg
 rw[if_neg hc,if_neg hx.1.1]
 by_cases hp:0<x
 ·refine .inl ⟨hp,?_⟩
  show(s.gt|||Cq x).testBit _=true
  unfold Cq
  rw[if_pos hp,Nat.testBit_or,Nat.testBit_two_pow]
  simp
 ·refine .inr ⟨by omega,?_⟩
  show(s.gf|||Cp x).testBit _=true
  unfold Cp
  rw[if_neg hp,Nat.testBit_or,Nat.testBit_two_pow]
  simp
theorem G7(ns:List Nd)(kt kf:Nat):∀ (m a v:Nat) (op:Int) (s:PS),m+v=11→1≤v→(op=0∨AK op=true)→(AJ ns kt kf m a v op s).cl=false →
  ∀ ws,ws.length=m→(∀ k∈ws,k<3)→BK ns a ws≠0→(op=0→¬ Dn kt kf v ws)∧(op≠0→Dn kt kf v ws→LI op (AJ ns kt kf m a v op s))∧(op=0→∀ x,EK kt kf v ws x→LI x (AJ ns kt kf m a v op s)):=by
 intro m
 induction m with
 | zero =>
  intro a v op s _ _ ho hc ws hl _ hleaf
  have:ws=[]:=List.eq_nil_of_length_eq_zero hl
  subst this
  have hleaf':(ns.getD a Ac).c≠0:=hleaf
  simp only[AJ] at hc ⊢
  by_cases hs:s.cl=true
  ·rw[if_pos hs] at hc;rw[hs] at hc;simp at hc
  ·rw[if_neg hs] at hc ⊢
   refine⟨fun h0 _=>?_,fun h0 _=>Ru (ho.resolve_left h0) hleaf',fun _ x h=>h.elim⟩
   unfold Dg at hc
   rw[if_neg hleaf',if_pos h0] at hc
   simp at hc
 | succ m ih =>
  intro a v op s hmv hv ho hc ws hl h3 hleaf
  cases ws with
  | nil=>simp at hl
  | cons k ws =>
   have hl':ws.length=m:=by simpa using hl
   have h3':∀ j∈ws,j<3:=fun j hj=>h3 j (by simp[hj])
   have hk3:k<3:=h3 k (by simp)
   have hnz:(ns.getD a Ac).nx k≠0:=by
    intro e
    apply hleaf
    simp only[BK,e,if_true]
   have hq:BK ns ((ns.getD a Ac).nx k) ws≠0:=by
    have:=hleaf
    simp only[BK,hnz,if_false] at this
    exact this
   have hl1:AK (v:Int)=true:=by simp only[AK,Bool.and_eq_true,bne_iff_ne,decide_eq_true_eq];omega
   have hl2:AK (-(v:Int))=true:=by simp only[AK,Bool.and_eq_true,bne_iff_ne,decide_eq_true_eq];omega
   have hp:=J2 kt kf hv (show v≤10 by omega)
   have hn:=J1 kt kf hv (show v≤10 by omega)
   have keep:=fun (a:Nat) (op:Int) (ho:op=0∨AK op=true) (s:PS)=>QD (ns:=ns) (kt:=kt) (kf:=kf) m a (v+1) op s (by omega) (by omega) ho
   simp only[AJ,hp,hn] at hc ⊢
   by_cases hs:s.cl=true
   ·rw[if_pos hs] at hc;rw[hs] at hc;simp at hc
   rw[if_neg hs] at hc ⊢
   generalize e1:(if (ns.getD a Ac).n0=0 then s else AJ ns kt kf m (ns.getD a Ac).n0 (v+1) op s)=s1 at hc ⊢
   generalize e2:(if (ns.getD a Ac).n1=0 then s1 else if kf.testBit v=true then AJ ns kt kf m (ns.getD a Ac).n1 (v+1) op s1 else if op=0∧kt.testBit v=false then AJ ns kt kf m (ns.getD a Ac).n1 (v+1) (v:Int) s1 else s1)=s2 at hc ⊢
   generalize e3:(if (ns.getD a Ac).n2=0 then s2 else if kt.testBit v=true then AJ ns kt kf m (ns.getD a Ac).n2 (v+1) op s2 else if op=0∧kf.testBit v=false then AJ ns kt kf m (ns.getD a Ac).n2 (v+1) (-(v:Int)) s2 else s2)=s3 at hc ⊢
   have k23:(∀ x,LI x s2→LI x s3)∧(s2.cl=true→s3.cl=true):=by
    rw[← e3]
    split
    ·exact⟨fun _ h=>h,fun h=>h⟩
    ·split
     ·exact keep _ _ ho _
     ·split
      ·exact keep _ _ (.inr hl2) _
      ·exact⟨fun _ h=>h,fun h=>h⟩
   have k12:(∀ x,LI x s1→LI x s2)∧(s1.cl=true→s2.cl=true):=by
    rw[← e2]
    split
    ·exact⟨fun _ h=>h,fun h=>h⟩
    ·split
     ·exact keep _ _ ho _
     ·split
      ·exact keep _ _ (.inr hl1) _
      ·exact⟨fun _ h=>h,fun h=>h⟩
   have c2:s2.cl=false:=by
    cases h:s2.cl with
    | false=>rfl
    | true=>rw[k23.2 h] at hc;simp at hc
   have c1:s1.cl=false:=by
    cases h:s1.cl with
    | false=>rfl
    | true=>rw[k12.2 h] at c2;simp at c2
   have hk:k=0∨k=1∨k=2:=by omega
   rcases hk with rfl|rfl|rfl
   ·have hnz':(ns.getD a Ac).n0≠0:=hnz
    rw[if_neg hnz'] at e1
    obtain⟨q1,q2,q3⟩:=ih (ns.getD a Ac).n0 (v+1) op s (by omega) (by omega) ho (by rw[e1];exact c1) ws hl' h3' hq
    change (op≠0→Dn kt kf (v+1) ws→LI op (AJ ns kt kf m (ns.getD a Ac).n0 (v+1) op s)) at q2
    change (op=0→∀ x,EK kt kf (v+1) ws x→LI x (AJ ns kt kf m (ns.getD a Ac).n0 (v+1) op s)) at q3
    rw[e1] at q2 q3
    refine⟨fun h0 h=>q1 h0 h.2,fun h0 h=>k23.1 _ (k12.1 _ (q2 h0 h.2)),fun h0 x h=>?_⟩
    rcases h with⟨_,h⟩ | ⟨h,_⟩
    ·exact k23.1 _ (k12.1 _ (q3 h0 x h))
    ·rcases h with⟨h,_⟩ | ⟨h,_⟩ <;> omega
   ·have hnz':(ns.getD a Ac).n1≠0:=hnz
    rw[if_neg hnz'] at e2
    by_cases hf:kf.testBit v=true
    ·rw[if_pos hf] at e2
     obtain⟨q1,q2,q3⟩:=ih (ns.getD a Ac).n1 (v+1) op s1 (by omega) (by omega) ho (by rw[e2];exact c2) ws hl' h3' hq
     change (op≠0→Dn kt kf (v+1) ws→LI op (AJ ns kt kf m (ns.getD a Ac).n1 (v+1) op s1)) at q2
     change (op=0→∀ x,EK kt kf (v+1) ws x→LI x (AJ ns kt kf m (ns.getD a Ac).n1 (v+1) op s1)) at q3
     rw[e2] at q2 q3
     refine⟨fun h0 h=>q1 h0 h.2,fun h0 h=>k23.1 _ (q2 h0 h.2),fun h0 x h=>?_⟩
     rcases h with⟨_,h⟩ | ⟨_,_,h,_⟩
     ·exact k23.1 _ (q3 h0 x h)
     ·exact absurd (.inl ⟨rfl,hf⟩) h
    ·rw[if_neg hf] at e2
     have noff:¬ JQ kt kf v 1:=by
      rintro(⟨_,h⟩ | ⟨h,_⟩)
      ·exact hf h
      ·omega
     refine⟨fun _ h=>?_,fun _ h=>?_,fun h0 x h=>?_⟩
     ·rcases h.1 with h | h
      ·omega
      ·exact noff h
     ·rcases h.1 with h | h
      ·omega
      ·exact absurd h noff
     ·rcases h with⟨h,_⟩ | ⟨h,hin,_,hoff⟩
      ·rcases h with h | h
       ·omega
       ·exact absurd h noff
      ·have hx:x=(v:Int):=by
        rcases h with⟨_,h⟩ | ⟨h,_⟩
        ·exact h
        ·omega
       have hkt:kt.testBit v=false:=by
        cases hb:kt.testBit v with
        | false=>rfl
        | true=>exact absurd (.inl ⟨rfl,hb⟩) hin
       rw[if_pos ⟨h0,hkt⟩] at e2
       obtain⟨_,q2,_⟩:=ih (ns.getD a Ac).n1 (v+1) (v:Int) s1 (by omega) (by omega) (.inr hl1) (by rw[e2];exact c2) ws hl' h3' hq
       change ((v:Int)≠0→Dn kt kf (v+1) ws→LI (v:Int) (AJ ns kt kf m (ns.getD a Ac).n1 (v+1) (v:Int) s1)) at q2
       rw[e2] at q2
       rw[hx]
       exact k23.1 _ (q2 (by omega) hoff)
   ·have hnz':(ns.getD a Ac).n2≠0:=hnz
    rw[if_neg hnz'] at e3
    by_cases hf:kt.testBit v=true
    ·rw[if_pos hf] at e3
     obtain⟨q1,q2,q3⟩:=ih (ns.getD a Ac).n2 (v+1) op s2 (by omega) (by omega) ho (by rw[e3];exact hc) ws hl' h3' hq
     change (op≠0→Dn kt kf (v+1) ws→LI op (AJ ns kt kf m (ns.getD a Ac).n2 (v+1) op s2)) at q2
     change (op=0→∀ x,EK kt kf (v+1) ws x→LI x (AJ ns kt kf m (ns.getD a Ac).n2 (v+1) op s2)) at q3
     rw[e3] at q2 q3
     refine⟨fun h0 h=>q1 h0 h.2,fun h0 h=>q2 h0 h.2,fun h0 x h=>?_⟩
     rcases h with⟨_,h⟩ | ⟨_,_,h,_⟩
     ·exact q3 h0 x h
     ·exact absurd (.inr ⟨rfl,hf⟩) h
    ·rw[if_neg hf] at e3
     have noff:¬ JQ kt kf v 2:=by
      rintro(⟨h,_⟩ | ⟨_,h⟩)
      ·omega
      ·exact hf h
     refine⟨fun _ h=>?_,fun _ h=>?_,fun h0 x h=>?_⟩
     ·rcases h.1 with h | h
      ·omega
      ·exact noff h
     ·rcases h.1 with h | h
      ·omega
      ·exact absurd h noff
     ·rcases h with⟨h,_⟩ | ⟨h,hin,_,hoff⟩
      ·rcases h with h | h
       ·omega
       ·exact absurd h noff
      ·have hx:x=-(v:Int):=by
        rcases h with⟨h,_⟩ | ⟨_,h⟩
        ·omega
        ·exact h
       have hkf:kf.testBit v=false:=by
        cases hb:kf.testBit v with
        | false=>rfl
        | true=>exact absurd (.inr ⟨rfl,hb⟩) hin
       rw[if_pos ⟨h0,hkf⟩] at e3
       obtain⟨_,q2,_⟩:=ih (ns.getD a Ac).n2 (v+1) (-(v:Int)) s2 (by omega) (by omega) (.inr hl2) (by rw[e3];exact hc) ws hl' h3' hq
       change (-(v:Int)≠0→Dn kt kf (v+1) ws→LI (-(v:Int)) (AJ ns kt kf m (ns.getD a Ac).n2 (v+1) (-(v:Int)) s2)) at q2
       rw[e3] at q2
       rw[hx]
       exact q2 (by omega) hoff
end Go.Proofs.YthboeppmlhbofaaDoor
