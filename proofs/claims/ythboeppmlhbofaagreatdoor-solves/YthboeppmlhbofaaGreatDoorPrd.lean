import Derived.Test.YthboeppmlhbofaaGreatDoorGaf
import Derived.Test.YthboeppmlhbofaaGreatDoorGae
import Derived.Deep.RegionLaw
namespace Go.Proofs.YthboeppmlhbofaaGreatDoor
open Go.RowKit Txt
set_option maxRecDepth 100000
theorem Ww{B:Nat}{w w':World}{l:List UInt8}{e:Ending}(h:dr B w (Cs l) e w') :
  ∃ a c vs cl,e=.returned (.tuple #[.slice a cl.length c,.bool true])∧Js w' B 24 3 (.slice a cl.length c) vs cl∧Below B w w'∧cl.length≤1000∧∀ x∈cl,x.length≤1000:=by
 obtain⟨hb,h⟩:=h
 have hlens:=NR l
 cases hr:Cs l with
 | err x p =>
  rw[hr] at h
  refine⟨none,0,[],[],h,⟨⟨rfl,.inl ⟨rfl,rfl⟩⟩,trivial,List.Pairwise.nil⟩,hb,by simp,fun x hx=>by simp at hx⟩
 | ok cl =>
  rw[hr] at h
  obtain⟨a,c,vs,h1,h2⟩:=h
  obtain⟨h3,h4⟩:=hlens cl hr
  exact⟨a,c,vs,cl,h1,h2,hb,h3,h4⟩
theorem LG{w:World}{gs:List Nat}{xss:List (List Int)}(h:Ek w gs xss):(BQ gs xss).length=xss.length:=by
 induction gs generalizing xss with
 | nil=>cases xss with
  | nil=>rfl
  | cons c cs=>exact h.elim
 | cons g gs ih=>cases xss with
  | nil=>exact h.elim
  | cons c cs=>simp[BQ,ih h.2]
theorem VR{w:World}{B:Nat}{gs:List Nat}{xss:List (List Int)}(h:Ek w gs xss)(hB:∀ g∈gs,B≤g)(hl:∀ x∈xss,x.length≤1000):Aq w B 3 (BQ gs xss) xss:=by
 induction gs generalizing xss with
 | nil=>cases xss with
  | nil=>trivial
  | cons c cs=>exact h.elim
 | cons g gs ih=>cases xss with
  | nil=>exact h.elim
  | cons c cs=>exact⟨Ji h.1 (hB g (by simp)) (Nat.le_trans (hl c (by simp)) (by decide)),ih h.2 (fun x hx=>hB x (by simp[hx])) (fun x hx=>hl x (by simp[hx]))⟩
theorem Zc{w:World}{B B' G gl:Nat}{gs:List Nat}{xss:List (List Int)}(h:Sp w B' G gs gl xss)(hB:B≤B')(hl:xss.length≤1000):w.ownsRow B 24 1 (.slice (some ⟨G,0,none⟩) xss.length (xss.length+1)) xss.length (BQ gs xss):=by
 have hc:=LG h.each
 exact⟨by omega,.inr ⟨G,xss.length+1,(BQ gs xss++[Value.slice (some ⟨gl,0,none⟩) 1 1]).toArray,rfl,Nat.le_trans hB h.base.1,h.top,by omega,by unfold maxLen;omega,by simp[hc],by simp[← hc]⟩⟩
theorem QN{w:World}{b B e:Nat}{vs:List Value}{cs:List (List Int)}(h:Aq w b e vs cs)(hb:B≤b):Aq w B e vs cs:=by
 induction vs generalizing cs with
 | nil=>cases cs with
  | nil=>trivial
  | cons _ _=>exact h.elim
 | cons u us ih=>cases cs with
  | nil=>exact h.elim
  | cons _ _=>exact⟨Kx h.1 hb,ih h.2⟩
theorem ZI{n:Nat}{w0 w1 w2 w3:World}{Wb B:Nat}{V:WV}{s:St}{a:Option Addr}{c G gl:Nat}{gs:List Nat}{vs:List Value}{cl:List (List Int)}(H1:WI w1 Wb B V s)(hbd:Bd n s)(hb1:Below B w0 w1)(hB1:B≤w1.heap.size)
  (hl:Js w2 w1.heap.size 24 3 (.slice a cl.length c) vs cl) (hb2:Below w1.heap.size w1 w2) (hsp:Sp w3 w2.heap.size G gs gl cl) (hb3:Below w2.heap.size w2 w3) (hcl:cl.length≤1000) (hc1:∀ x∈cl,x.length≤1000) :
  ∃ V' s',WI (w3.setCell ⟨Wb,1,none⟩ (.slice (some ⟨G,0,none⟩) cl.length (cl.length+1))) Wb B V' s'∧Bd n s'∧Below B w0 (w3.setCell ⟨Wb,1,none⟩ (.slice (some ⟨G,0,none⟩) cl.length (cl.length+1)))∧(V'.nx=V.nx∧V'.vxs=V.vxs) ∧
   Ev (w3.setCell ⟨Wb,1,none⟩ (.slice (some ⟨G,0,none⟩) cl.length (cl.length+1))) B V' s' (.slice a cl.length c) cl.length vs vs cl∧Jr w1 (w3.setCell ⟨Wb,1,none⟩ (.slice (some ⟨G,0,none⟩) cl.length (cl.length+1))) Wb V V'∧∀ u∈vs,∀ b,u.ownBlock=some b→w1.heap.size≤b:=by
 have H2:=H1.below hb2
 have H3:=H2.below hb3
 have hB2:B≤w2.heap.size:=Nat.le_trans hB1 hb2.size
 have htop:=Zc (B:=B) hsp hB2 hcl
 have heach:=VR (B:=w2.heap.size) hsp.each (fun g hg=>(hsp.out g hg).2.2) hc1
 have heachB:Aq w3 B 3 (BQ gs cl) cl:=VR hsp.each (fun g hg=>Nat.le_trans hB2 (hsp.out g hg).2.2) hc1
 have htop2:=Zc (B:=w2.heap.size) hsp (Nat.le_refl _) hcl
 have hset:=fun {e u m xs} (he:e≠34) (hu:w3.ownsRow B e 1 u m xs)=>Cl H3.blk 1 (.slice (some ⟨G,0,none⟩) cl.length (cl.length+1)) he hu
 have hmem:∀ u∈vs,∃ xs,w2.ownsRow w1.heap.size 3 1 u xs.length (AO xs):=fun u hu=>hl.each.mem hu
 refine⟨{ V with ac:=some ⟨G,0,none⟩,cc:=cl.length+1,vcs:=BQ gs cl },{ s with clauses:=cl },H3.setClauses (Eb H3.blk 1 _) _ _ cl (BQ gs cl) (H3.blk.set 1 _) (hset By htop) (heachB.map (fun _ _ _ _ hh=>hset Bm hh)) ?_ ?_ ?_,?_,?_,⟨rfl,rfl⟩,?_,fun b h1 h2 h3=>⟨((Jr.of Wb V (hb2.trans (hb3.mono hb2.size))).set 1 _ b h1 h2 h3).1,h3.l,Pg (by have:=hsp.base.1;have:=hb2.size;omega),h3.t,h3.x,h3.o,h3.w,fun u hu e=>?_,h3.os,h3.ws⟩,fun u hu b e=>?_⟩
 ·intro u hu
  obtain⟨xs,hx⟩:=heach.mem hu
  exact Ax H2.list hx (Nat.le_refl _)
 ·exact Ax H2.ot htop2 (Nat.le_refl _)
 ·exact Ax H2.wt htop2 (Nat.le_refl _)
 ·exact⟨hbd.list,by show cl.length≤_;omega,fun x hx=>Nat.le_trans (hc1 x hx) (by decide),hbd.txs,hbd.tx1,hbd.outs,hbd.out1,hbd.mark,hbd.same⟩
 ·exact((hb1.trans (hb2.mono hB1)).trans (hb3.mono hB2)).setCell (p:=⟨Wb,1,none⟩) H1.base _
 ·refine⟨hset By (AK (Kx hl.top hB1) hb3),?_,hl.apart,?_,?_,?_,?_,?_,?_⟩
  ·have:=QN hl.each hB1
   exact this.map (fun _ _ _ _ hh=>hset Bm (AK hh hb3))
  ·exact Ax H1.ot hl.top (Nat.le_refl _)
  ·exact Ax H1.wt hl.top (Nat.le_refl _)
  ·intro u hu
   obtain⟨xs,hx⟩:=hmem u hu
   exact Ax H1.list hx (Nat.le_refl _)
  ·intro u hu v hv
   obtain⟨xs,hx⟩:=hmem u hu
   obtain⟨ys,hy⟩:=heach.mem hv
   exact Ax hx hy (Nat.le_refl _)
  ·intro u hu v hv
   obtain⟨xs,hx⟩:=hmem u hu
   obtain⟨ys,hy⟩:=H1.oe.mem hv
   exact(Ax hy hx (Nat.le_refl _)).symm
  ·intro u hu v hv
   obtain⟨xs,hx⟩:=hmem u hu
   obtain⟨ys,hy⟩:=H1.we.mem hv
   exact(Ax hy hx (Nat.le_refl _)).symm
 ·obtain⟨xs,hx⟩:=heach.mem hu
  have q1:=(hx.lt b e).1
  have q2:=hb2.size
  omega
 ·obtain⟨xs,hx⟩:=hmem u hu
  exact(hx.lt b e).1
set_option maxHeartbeats 4000000 in
theorem Tw(Wb B n:Nat)(V:WV)(s:St)(w:World)(o:Cq)(ho:o.Ok)(hk:o.k=10)(h:WI w Wb B V s)(hbd:Bd n s)(hn:n≤16384)(h0:0<s.texts.length) :
  Calls Tryz.prog 15 #[.pointer (some ⟨Wb,0,none⟩),.agg o.cells] w fun e w'=>e=.returned (.bool true)∧II (n+1) w w' Wb B V:=by
 obtain⟨k,a,b,c,t⟩:=o
 subst hk
 have hx:=hbd.txs
 have hBs:B≤w.heap.size:=Nat.le_trans h.base (Nat.le_of_lt h.blk.lt)
 have p1:=fun w=>DV a s.texts.length w h0 (by omega) ho.a.1 ho.a.2
 have l1:=DU a s.texts.length h0
 generalize Er a s.texts.length=j1 at p1 l1
 obtain⟨g,eg,c1⟩:=JO h.tx l1
 have s1:=hbd.tx1 (s.texts.getD j1 ByteArray.empty) (by rw[List.getD_eq_getElem?_getD,List.getElem?_eq_getElem l1];exact List.getElem_mem l1)
 generalize s.texts.getD j1 ByteArray.empty=t1 at c1 s1
 have H:=AB h
 have HBD:=AB hbd
 have P1:=AB p1
 have hlt:Wb<w.heap.size:=h.blk.lt
 have hgt:g<w.heap.size:=World.block_lt_of_cell? w _ c1
 have f2w:w.cell? ⟨Wb,2,none⟩=some (.slice (some ⟨g,0,none⟩) s.texts.length V.ct):=(h.blk.cell 2).trans (by simp only[WV.cells,WV.vt,eg];rfl)
 have RD:Hid (∀ w,Calls Tryz.prog 27 #[.string t1] w fun e w'=>dr w.heap.size w (Cs (bs t1)) e w'):=fun w=>ZJ t1 w (by omega)
 simp only[Cq.cells] at *
 clear h hbd ho p1 eg
 have q1:(0:Int)≤(j1:Int):=by omega
 have q3:(j1:Int)<(s.texts.length:Int):=by omega
 have hpt:((s.texts.length:Int) > 0):=by omega
 go_enter Tryz.func15,Tryz.ntmps15
 go_wp2_with (go_at_call 16;refine(AE P1 _).mono ?_;rintro e w' ⟨rfl,hw⟩;obtain rfl:=hw.symm)
 have hb1:Below w.heap.size w (w.alloc (.cells #[.int .i64 10,.int .i64 a,.int .i64 b,.int .i64 c,.string t] 27)):=(Below.refl _ _).alloc (Nat.le_refl _) _
 generalize w.alloc (.cells #[.int .i64 10,.int .i64 a,.int .i64 b,.int .i64 c,.string t] 27)=w1 at *
 have H1:=AB (H.out.below hb1)
 have HB1:=AB hb1
 have hB1:B≤w1.heap.size:=Nat.le_trans hBs hb1.size
 clear hb1 hw c1 f2w q1 q3 P1
 refine(AE RD _).mono ?_
 intro e w2 hrd
 obtain⟨a',c',vs,cl,rfl,hl,hb2,hcl,hc1⟩:=Ww hrd
 obtain⟨A,C,hr⟩:=hl.rowsAt (fun x hx=>Nat.le_trans (hc1 x hx) (by decide))
 have SP:=AB (IY a' c' A C cl w2 (by omega) hr (fun x hx=>Nat.le_trans (hc1 x hx) (by decide)))
 have HL:=AB hl
 have HC1:=AB hc1
 have HB2:=AB hb2
 clear hrd hl hb2 hr hc1 RD
 go_wp2_with fail
 refine(AE SP).mono ?_
 rintro e w3 ⟨G,gs,gl,rfl,hsp,hb3⟩
 have H3:=AB ((H1.out.below HB2.out).below hb3)
 have k1:w3.cell? ⟨Wb,1,none⟩=some (.slice V.ac s.clauses.length V.cc):=(H3.out.blk.cell 1).trans rfl
 have k1':=H3.out.blk.frozen 1
 have HE:=AB (ZI H1.out HBD.out (HB1.out.mono hBs) hB1 HL.out HB2.out hsp hb3 hcl HC1.out)
 clear hsp hb3 SP HL
 go_wp2_with fail
 obtain⟨V',s',i1,i2,i3,i4,i5,i6,i7⟩:=HE.out
 refine(Ki Wb B n V' s' _ i1 i2 (by omega) a' c' cl vs i5 hcl (fun x hx=>Nat.le_trans (HC1.out x hx) (by decide))).mono ?_
 rintro e w' ⟨rfl,hN⟩
 have HN:=AB (hN.nxt i3 i4 (Jr.pre HB1.out i6) (fun u hu b e=>Nat.le_trans HB1.out.size (i7 u hu b e)))
 clear i1 i2 i3 i4 i5 i6 i7 hN HE
 go_wp2
 go_ret
 exact⟨rfl,HN.out⟩
theorem WI.frameN{w w':World}{Wb B:Nat}{V:WV}{s:St}{D:Nat→Prop}(h:WI w Wb B V s)(hc:CM D w w')(hD:∀ b,D b→b≠Wb∧V.Free b):WI w' Wb B V s:=by
 have k:∀ {e n xs},∀ {v:Value},(∀ b,V.Free b→v.ownBlock≠some b)→w.ownsRow B e 1 v n xs→w'.ownsRow B e 1 v n xs:=fun hv ho=>BV ho (fun b e=>hc.block b (Dh ho b e) (fun hd=>hv b (hD b hd).2 e))
 exact⟨(hc.block _ h.blk.lt (fun hd=>(hD _ hd).1 rfl)).trans h.blk,h.base,k (fun b hf e=>GG hf.l _ _ e.symm) h.list,k (fun b hf e=>GG hf.c _ _ e.symm) h.clt,h.cle.map (fun u hu _ _ ho=>k (fun b hf e=>hf.cs u hu e) ho),k (fun b hf e=>GG hf.t _ _ e.symm) h.tx,
  k (fun b hf e=>GG hf.x _ _ e.symm) h.xs,k (fun b hf e=>GG hf.o _ _ e.symm) h.ot,h.oe.map (fun u hu _ _ ho=>k (fun b hf e=>hf.os u hu e) ho),k (fun b hf e=>GG hf.w _ _ e.symm) h.wt,h.we.map (fun u hu _ _ ho=>k (fun b hf e=>hf.ws u hu e) ho),
  h.a1,h.a2,h.a3,h.b1,h.b2,h.b3⟩
structure AX{P:DH}(w:World)(Wb B n:Nat)(V:WV)(s:St)(ds:List (SX P)):Prop where
 i:WI w Wb B V s
 b:Bd n s
 nx:V.nx=ds.length
 ptr:∀ (j:Nat) d,ds[j]?=some d→V.vxs[j]?=some (Value.pointer (some ⟨d.d.cb,0,none⟩))
 each:∀ (j:Nat) d,ds[j]?=some d→Ii w B d
 out:∀ (j:Nat) d,ds[j]?=some d→∀ b,d.At b→b≠Wb∧V.Free b
 pw:∀ (j k:Nat) d d',ds[j]?=some d→ds[k]?=some d'→j≠k→∀ b,d.At b→¬ d'.At b
 bd:∀ (j:Nat) d,ds[j]?=some d→d.d.hv.length≤n∧d.given.length≤n∧∀ g∈d.given,g.length≤17384
 dl:ds.length≤n
def MF(P:DH)(n:Nat)(w w':World)(Wb B:Nat):Prop:=∃ V s,∃ ds:List (SX P),AX w' Wb B n V s ds∧Below B w w'
theorem MF.pre{P:DH}{n:Nat}{w w1 w':World}{Wb B:Nat}(h:MF P n w1 w' Wb B)(hb:Below B w w1):MF P n w w' Wb B:=by
 obtain⟨V,s,ds,h1,h2⟩:=h
 exact⟨V,s,ds,h1,hb.trans h2⟩
theorem AX.nxt{P:DH}{w w':World}{Wb B n:Nat}{V:WV}{s:St}{ds:List (SX P)}(h:AX w Wb B n V s ds)(hN:II (n+1) w w' Wb B V):MF P (n+1) w w' Wb B:=by
 obtain⟨V',s',i1,i2,i3,i4,i5,i6⟩:=hN
 have k:∀ (j:Nat) d,ds[j]?=some d→∀ b,d.At b→w'.heap[b]?=w.heap[b]?∧V'.Free b:=fun j d hd b hb=>i6 b ((h.each j d hd).lt hb).2 (h.out j d hd b hb).1 (h.out j d hd b hb).2
 exact⟨V',s',ds,⟨i1,i2,i4.trans h.nx,fun j d hd=>i5 ▸ h.ptr j d hd,fun j d hd=>(h.each j d hd).frame (fun b hb=>(k j d hd b hb).1),fun j d hd b hb=>⟨(h.out j d hd b hb).1,(k j d hd b hb).2⟩,h.pw,fun j d hd=>by
  obtain⟨b1,b2,b3⟩:=h.bd j d hd
  exact⟨by omega,by omega,b3⟩,by have:=h.dl;omega⟩,i3⟩
theorem AX.hB{P:DH}{w:World}{Wb B n:Nat}{V:WV}{s:St}{ds:List (SX P)}(h:AX w Wb B n V s ds):B≤w.heap.size:=Nat.le_trans h.i.base (Nat.le_of_lt h.i.blk.lt)
theorem AX.below{P:DH}{w w':World}{Wb B n:Nat}{V:WV}{s:St}{ds:List (SX P)}(h:AX w Wb B n V s ds)(hb:Below w.heap.size w w'):AX w' Wb B n V s ds :=
 ⟨h.i.below hb,h.b,h.nx,h.ptr,fun j d hd=>(h.each j d hd).below hb,h.out,h.pw,h.bd,h.dl⟩
theorem AX.on{P:DH}{w:World}{Wb B n:Nat}{V:WV}{s:St}{ds:List (SX P)}(h:AX w Wb B n V s ds):AX w Wb B (n+1) V s ds :=
 ⟨h.i,h.b.next,h.nx,h.ptr,h.each,h.out,h.pw,fun j d hd=>by
  obtain⟨b1,b2,b3⟩:=h.bd j d hd
  exact⟨by omega,by omega,b3⟩,by have:=h.dl;omega⟩
theorem FG{P:DH}{ds:List (SX P)}{j k:Nat}{d d' x:SX P}(_:ds[j]?=some d)(hx:(ds.set j d')[k]?=some x):(k=j∧x=d')∨(k≠j∧ds[k]?=some x):=by
 rw[List.getElem?_set] at hx
 by_cases e:j=k
 ·subst e
  rw[if_pos rfl] at hx
  split at hx
  ·simp only[Option.some.injEq] at hx;exact .inl ⟨rfl,hx.symm⟩
  ·simp at hx
 ·rw[if_neg e] at hx
  exact .inr ⟨fun e'=>e e'.symm,hx⟩
theorem AX.put{P:DH}{w w':World}{Wb B n m j:Nat}{V:WV}{s:St}{ds:List (SX P)}{d d':SX P}{xs:List Int}(h:AX w Wb B n V s ds)(hj:ds[j]?=some d)(hs:Sm w w' B d d' xs)(hm:n≤m)(hbm:Bd m s)(hbq:d'.d.hv.length≤m∧d'.given.length≤m∧∀ g∈d'.given,g.length≤17384):AX w' Wb B m V s (ds.set j d')∧Below B w w':=by
 have hout:=h.out j d hj
 have hI:=h.each j d hj
 refine⟨⟨h.i.frameN hs.chg hout,hbm,by rw[List.length_set];exact h.nx,fun k x hk=>?_,fun k x hk=>?_,fun k x hk b hb=>?_,fun k l x y hk hl hne b hb hb'=>?_,fun k x hk=>?_,by rw[List.length_set];have:=h.dl;omega⟩,hs.chg.toBelow h.hB (fun b hb=>(hI.lt hb).1)⟩
 ·rcases FG hj hk with⟨rfl,rfl⟩ | ⟨_,hk⟩
  ·rw[hs.cb];exact h.ptr _ _ hj
  ·exact h.ptr _ _ hk
 ·rcases FG hj hk with⟨rfl,rfl⟩ | ⟨hne,hk⟩
  ·exact hs.i
  ·exact(h.each _ _ hk).frame (fun b hb=>hs.chg.block b ((h.each _ _ hk).lt hb).2 (h.pw _ _ _ _ hk hj hne b hb))
 ·rcases FG hj hk with⟨rfl,rfl⟩ | ⟨hne,hk⟩
  ·rcases hs.at_ b hb with hb | hb
   ·exact hout b hb
   ·have hw:=h.i
    refine⟨by have:=hw.blk.lt;omega,?_⟩
    have of:∀ {e m zs} {a:Option Addr} {p q:Nat},w.ownsRow B e 1 (.slice a p q) m zs→off a b:=fun ho g e=>by
     subst e
     have:=Dh ho g.block rfl
     omega
    have orow:∀ {vs:List Value} {cs:List (List Int)},Aq w B 3 vs cs→∀ u∈vs,u.ownBlock≠some b:=fun ho u hu e=>by
     obtain⟨zs,hz⟩:=ho.mem hu
     have:=Dh hz b e
     omega
    exact⟨of hw.list,of hw.clt,of hw.tx,of hw.xs,of hw.ot,of hw.wt,orow hw.cle,orow hw.oe,orow hw.we⟩
  ·exact h.out _ _ hk b hb
 ·rcases FG hj hk with⟨rfl,rfl⟩ | ⟨hne1,hk1⟩
  ·rcases FG hj hl with⟨rfl,rfl⟩ | ⟨hne2,hl⟩
   ·exact hne rfl
   ·rcases hs.at_ b hb with hb | hb
    ·exact h.pw _ _ _ _ hj hl hne b hb hb'
    ·have:=((h.each _ _ hl).lt hb').2;omega
  ·have hk2:=hk1
   rcases FG hj hl with⟨rfl,rfl⟩ | ⟨hne2,hl⟩
   ·rcases hs.at_ b hb' with hb' | hb'
    ·exact h.pw _ _ _ _ hk2 hj hne b hb hb'
    ·have:=((h.each _ _ hk2).lt hb).2;omega
   ·exact h.pw _ _ _ _ hk2 hl hne b hb hb'
 ·rcases FG hj hk with⟨rfl,rfl⟩ | ⟨_,hk⟩
  ·exact hbq
  ·obtain⟨b1,b2,b3⟩:=h.bd _ _ hk
   exact⟨by omega,by omega,b3⟩
theorem AX.sol{P:DH}{w w':World}{Wb B n j:Nat}{V:WV}{s:St}{ds:List (SX P)}{d d':SX P}{xs:List Int}(h:AX w Wb B n V s ds)(hj:ds[j]?=some d)(hs:Sm w w' B d d' xs)(hx:xs.length≤17384):MF P (n+1) w w' Wb B:=by
 obtain⟨b1,b2,b3⟩:=h.bd _ _ hj
 have q1:=hs.nh
 have q2:=hs.gl
 obtain⟨i1,i2⟩:=h.put hj hs (Nat.le_succ n) h.b.next ⟨by omega,by omega,fun g hg=>by
  rcases hs.g1 g hg with hg | rfl
  ·exact b3 g hg
  ·exact hx⟩
 exact⟨V,s,_,i1,i2⟩
theorem AX.nxk{P:DH}{w w':World}{Wb B n:Nat}{V:WV}{s:St}{ds:List (SX P)}{vs:List Value}(h:AX w Wb B n V s ds)(hN:dI (n+1) w w' Wb B V vs)(hv:∀ (j:Nat) d,ds[j]?=some d→∀ b,d.At b→∀ u∈vs,u.ownBlock≠some b):MF P (n+1) w w' Wb B:=by
 obtain⟨V',s',i1,i2,i3,i4,i5,i6⟩:=hN
 have k:∀ (j:Nat) d,ds[j]?=some d→∀ b,d.At b→w'.heap[b]?=w.heap[b]?∧V'.Free b:=fun j d hd b hb=>i6 b ((h.each j d hd).lt hb).2 (h.out j d hd b hb).1 (h.out j d hd b hb).2 (hv j d hd b hb)
 exact⟨V',s',ds,⟨i1,i2,i4.trans h.nx,fun j d hd=>i5 ▸ h.ptr j d hd,fun j d hd=>(h.each j d hd).frame (fun b hb=>(k j d hd b hb).1),fun j d hd b hb=>⟨(h.out j d hd b hb).1,(k j d hd b hb).2⟩,h.pw,fun j d hd=>by
  obtain⟨b1,b2,b3⟩:=h.bd j d hd
  exact⟨by omega,by omega,b3⟩,by have:=h.dl;omega⟩,i3⟩
theorem AX.at_{P:DH}{w:World}{Wb B n:Nat}{V:WV}{s:St}{ds:List (SX P)}(h:AX w Wb B n V s ds){j:Nat}(hj:j<ds.length):∃ g d,V.ax=some ⟨g,0,none⟩∧ds[j]?=some d∧w.cell? ⟨g,j,none⟩=some (.pointer (some ⟨d.d.cb,0,none⟩)):=by
 have hd:ds[j]?=some ds[j]:=List.getElem?_eq_getElem hj
 have hp:=h.ptr j _ hd
 rcases h.i.xs.2 with⟨_,h0⟩ | ⟨g,cap,cur,hv,_⟩
 ·have:=h.nx;omega
 ·simp only[WV.vx,Value.slice.injEq] at hv
  have h3:=h.i.xs.cells (g:=g) (by simp[WV.vx,Value.ownBlock,hv.1]) j _ hp
  rw[Ch] at h3
  simp only[Nat.zero_add] at h3
  exact⟨g,_,hv.1,hd,h3⟩
theorem WI.setSX{w w':World}{Wb B:Nat}{V:WV}{s:St}(h:WI w Wb B V s)(ho:Sk w w' B V.vx)(a:Option Addr)(c n:Nat)(vs:List Value)(hblk:AY w' Wb 34 ((V.cells s).set 3 (.slice a n c)))
  (hown:w'.ownsRow B 37 1 (.slice a n c) n vs) :
  WI w' Wb B { V with ax:=a,cx:=c,nx:=n,vxs:=vs } s :=
 ⟨hblk,h.base,ho _ _ _ _ Bm h.list (AL Wa h.list h.xs),ho _ _ _ _ By h.clt (AL Wd h.clt h.xs),h.cle.map (fun _ _ _ _ hh=>ho _ _ _ _ Bm hh (AL Wa hh h.xs)),ho _ _ _ _ Hc h.tx (AL dW h.tx h.xs),hown,
  ho _ _ _ _ By h.ot (AL Wd h.ot h.xs),h.oe.map (fun _ _ _ _ hh=>ho _ _ _ _ Bm hh (AL Wa hh h.xs)),ho _ _ _ _ By h.wt (AL Wd h.wt h.xs),h.we.map (fun _ _ _ _ hh=>ho _ _ _ _ Bm hh (AL Wa hh h.xs)),h.a1,h.a2,h.a3,h.b1,h.b2,h.b3⟩
theorem Vx{w:World}{Wb B:Nat}{V:WV}{s:St}(hw:WI w Wb B V s){b:Nat}(hb:w.heap.size≤b):V.Free b:=by
 have of:∀ {e m zs} {a:Option Addr} {p q:Nat},w.ownsRow B e 1 (.slice a p q) m zs→off a b:=fun ho g e=>by
  subst e
  have:=Dh ho g.block rfl
  omega
 have orow:∀ {vs:List Value} {cs:List (List Int)},Aq w B 3 vs cs→∀ u∈vs,u.ownBlock≠some b:=fun ho u hu e=>by
  obtain⟨zs,hz⟩:=ho.mem hu
  have:=Dh hz b e
  omega
 exact⟨of hw.list,of hw.clt,of hw.tx,of hw.xs,of hw.ot,of hw.wt,orow hw.cle,orow hw.oe,orow hw.we⟩
theorem Wu{P:DH}{w w2 w3:World}{Wb B n k:Nat}{V:WV}{s:St}{ds:List (SX P)}{d:SX P}{a3:Option Addr}{c3:Nat}{o:Obj}{p:Prop}(h:AX w Wb B n V s ds)(hb2:Below w.heap.size w w2)(I:Ii w2 B d)(hnew:∀ b,d.At b→w.heap.size≤b)(h0:d.d.hv=[])(h1:d.given=[])
  (hg3:(w2.alloc o).grownBy w3 V.vx.ownBlock) (hl3:V.vx=.slice a3 V.nx c3∨a3=some ⟨k,0,none⟩∧p) (hk:w2.heap.size≤k)
  (hown3:w3.ownsRow B 37 1 (.slice a3 (V.nx+1) c3) (V.nx+1) (V.vxs++[.pointer (some ⟨d.d.cb,0,none⟩)])):MF P (n+1) w (w3.setCell ⟨Wb,3,none⟩ (.slice a3 (V.nx+1) c3)) Wb B:=by
 have h2:=h.below hb2
 have hrow:AY w3 Wb 34 (V.cells s):=B8 (AF h2.i.blk ((Below.refl _ _).alloc (Nat.le_refl _) _)) (h2.i.xs.alloc _) LM hg3
 have hz:=hb2.size
 have hWb:=h.i.blk.lt
 have hfr:∀ b,b<w2.heap.size→b≠Wb→off V.ax b→(w3.setCell ⟨Wb,3,none⟩ (.slice a3 (V.nx+1) c3)).heap[b]?=w2.heap[b]?:=fun b q1 q2 q3=>GO (Below.refl _ _) hg3 3 _ q1 q2 q3
 have hvl:V.vxs.length=ds.length:=by have:=h.i.xs.1;have:=h.nx;omega
 have hfree:∀ b,d.At b→b≠Wb∧V.Free b:=fun b hb=>⟨by have:=hnew b hb;omega,Vx h.i (hnew b hb)⟩
 have hfree':∀ b,b<w2.heap.size→V.Free b→WV.Free { V with ax:=a3,cx:=c3,nx:=V.nx+1,vxs:=V.vxs++[.pointer (some ⟨d.d.cb,0,none⟩)] } b:=fun b q1 q=>⟨q.l,q.c,q.t,Hz q.x hl3 (by omega),q.o,q.w,q.cs,q.os,q.ws⟩
 have hget:∀ (j:Nat) x,(ds++[d])[j]?=some x→ds[j]?=some x∨(j=ds.length∧x=d):=by
  intro j x hx
  rw[List.getElem?_append] at hx
  split at hx
  ·exact .inl hx
  ·rename_i hlt
   have hx2:=hx
   rw[List.getElem?_singleton] at hx2
   split at hx2
   ·simp only[Option.some.injEq] at hx2
    exact .inr ⟨by omega,hx2.symm⟩
   ·simp at hx2
 refine⟨{ V with ax:=a3,cx:=c3,nx:=V.nx+1,vxs:=V.vxs++[.pointer (some ⟨d.d.cb,0,none⟩)] },s,ds++[d],⟨h2.i.setSX (GS o (GW (GU hg3) (Eb hrow 3 _))) a3 c3 (V.nx+1) _ (hrow.set 3 _) (Cl hrow 3 _ LM hown3),h.b.next,?_,?_,?_,?_,?_,?_,?_⟩,?_⟩
 ·rw[Ar];show V.nx+1=_;rw[h.nx]
 ·intro j x hx
  show(V.vxs++[_])[j]?=_
  rcases hget j x hx with hx | ⟨rfl,rfl⟩
  ·have hj:j<ds.length:=(List.getElem?_eq_some_iff.1 hx).1
   rw[List.getElem?_append_left (by omega)]
   exact h.ptr j x hx
  ·rw[List.getElem?_append_right (by omega),hvl,Nat.sub_self];rfl
 ·intro j x hx
  rcases hget j x hx with hx | ⟨rfl,rfl⟩
  ·exact(h2.each j x hx).frame (fun b hb=>hfr b ((h2.each j x hx).lt hb).2 (h.out j x hx b hb).1 (h.out j x hx b hb).2.x)
  ·exact I.frame (fun b hb=>hfr b (I.lt hb).2 (hfree b hb).1 (hfree b hb).2.x)
 ·intro j x hx b hb
  rcases hget j x hx with hx | ⟨rfl,rfl⟩
  ·exact⟨(h.out j x hx b hb).1,hfree' b ((h2.each j x hx).lt hb).2 (h.out j x hx b hb).2⟩
  ·exact⟨(hfree b hb).1,hfree' b (I.lt hb).2 (hfree b hb).2⟩
 ·intro i j x y hx hy hne b hb hb'
  rcases hget i x hx with hx1 | ⟨hi,hxd⟩
  ·rcases hget j y hy with hy1 | ⟨hj,hyd⟩
   ·exact h.pw i j x y hx1 hy1 hne b hb hb'
   ·have:=((h.each i x hx1).lt hb).2
    have:=hnew b (hyd ▸ hb')
    omega
  ·rcases hget j y hy with hy1 | ⟨hj,hyd⟩
   ·have:=((h.each j y hy1).lt hb').2
    have:=hnew b (hxd ▸ hb)
    omega
   ·omega
 ·intro j x hx
  rcases hget j x hx with hx | ⟨rfl,rfl⟩
  ·obtain⟨b1,b2,b3⟩:=h.bd j x hx
   exact⟨by omega,by omega,b3⟩
  ·rw[h0,h1]
   exact⟨by simp,by simp,fun g hg=>by simp at hg⟩
 ·rw[Ar];have:=h.dl;omega
 ·exact((((hb2.mono h.hB)).alloc h2.hB o).grown hg3 (by simp;have:=h2.hB;omega) (fun j hj=>(h.i.xs.lt j hj).1)).setCell (p:=⟨Wb,3,none⟩) h.i.base _
theorem Tryz.infoPtrX:(Tryz.prog.info? 37).map (fun i=>(i.zero,i.size,i.bytes))=some (some (.pointer none),1,8):=by kernel_rfl
theorem Tryz.undXsX:Tryz.prog.underlying 32=some (.slice 37):=by kernel_rfl
def ZW(o:Cq):Int:=if o.k=12 then 0 else o.a
def ZU(o:Cq):Int:=if o.k=12 then o.a else o.b
def ZV(o:Cq):Int:=if o.k=12 then o.b else o.c
set_option maxHeartbeats 4000000 in
theorem NM(P:DH)(Wb B n:Nat)(V:WV)(s:St)(ds:List (SX P))(w:World)(o:Cq)(hk:o.k=12∨o.k=13)(h:AX w Wb B n V s ds)(hn:n≤16384) :
  Calls Tryz.prog 15 #[.pointer (some ⟨Wb,0,none⟩),.agg o.cells] w fun e w'=>e=.returned (.bool true)∧MF P (n+1) w w' Wb B:=by
 obtain⟨i0,hi,hz0,hz1,hz2⟩:=info_parts Tryz.infoPtrX
 have hdl:=h.dl
 have hnx:=h.nx
 have hBs:=h.hB
 have d1:Hid (V.nx+1≤maxLen):=by show _≤_;unfold maxLen;omega
 have d2:Hid ((V.nx+1)*8≤140737488355328):=by show _≤_;omega
 clear hnx hdl
 have HB:Hid (∀ x,Below w.heap.size w (w.alloc x)):=fun x=>(Below.refl _ _).alloc (Nat.le_refl _) x
 have HK:Hid (∀ w,Calls Tryz.prog 22 #[.pointer (some ⟨Wb,0,none⟩),.slice none 0 0] w fun e w'=>e=.returned (.tuple #[])∧w'=w):=fun w=>FT Wb w
 have H:=AB h
 have hlt:Wb<w.heap.size:=h.i.blk.lt
 have f2:w.cell? ⟨Wb,2,none⟩=some (.slice V.at_ s.texts.length V.ct):=(h.i.blk.cell 2).trans rfl
 have HM:Hid (∀ w r h l,BT r h l=false→Calls Tryz.prog 26 #[.int .i64 r,.int .i64 h,.int .i64 l] w fun e w'=>e=.returned (.tuple #[.pointer none,.bool true])∧Below w.heap.size w w'):=fun w r h l hs=>Yj P r h l w hs
 have HY:Hid (∀ w r h l,BT r h l=true→B≤w.heap.size→Calls Tryz.prog 26 #[.int .i64 r,.int .i64 h,.int .i64 l] w fun e w'=>∃ d:SX P,e=.returned (.tuple #[.pointer (some ⟨d.d.cb,0,none⟩),.bool true])∧Ii w' B d∧(∀ b,d.At b→w.heap.size≤b)∧d.d.hv=[]∧d.given=[]∧Below w.heap.size w w'):=fun w r h l hs hB=>WW P B r h l w hs hB
 cases hs:BT (ZW o) (ZU o) (ZV o) with
 | false =>
  obtain⟨k,a,b,c,t⟩:=o
  simp only[Cq.cells,ZW,ZU,ZV] at *
  clear h
  rcases hk with rfl|rfl
  all_goals
   go_enter Tryz.func15,Tryz.ntmps15
   go_wp2_with fail
   refine(AE HM _ _ _ _ hs).mono ?_
   rintro e w2 ⟨rfl,hb2⟩
   have HB2:Hid (Below w.heap.size w w2):=(HB.out _).trans (hb2.mono (by simp))
   clear hb2
   go_wp2_with (go_at_call 22;refine(AE HK _).mono ?_;rintro e w' ⟨rfl,hw⟩;obtain rfl:=hw.symm)
   go_ret
   exact⟨rfl,V,s,ds,(H.out.below HB2.out).on,HB2.out.mono hBs⟩
 | true =>
  obtain⟨k,a,b,c,t⟩:=o
  simp only[Cq.cells,ZW,ZU,ZV] at *
  clear h
  rcases hk with rfl|rfl
  all_goals
   go_enter Tryz.func15,Tryz.ntmps15
   go_wp2_with fail
   refine(AE HY _ _ _ _ hs (by simp;omega)).mono ?_
   rintro e w2 ⟨d,rfl,hI,hnew,hd0,hd1,hb2⟩
   have HB2:Hid (Below w.heap.size w w2):=(HB.out _).trans (hb2.mono (by simp))
   have HI:=AB hI
   have HNW:Hid (∀ b,d.At b→w.heap.size≤b):=fun b hb=>Nat.le_trans (by simp) (hnew b hb)
   have HD:Hid (d.d.hv=[]∧d.given=[]):=⟨hd0,hd1⟩
   have H2:=AB (H.out.below HB2.out)
   have k3:w2.cell? ⟨Wb,3,none⟩=some (.slice V.ax V.nx V.cx):=(H2.out.i.blk.cell 3).trans rfl
   have hz2s:w.heap.size≤w2.heap.size:=HB2.out.size
   clear hb2 hI hnew hd0 hd1 f2
   go_wp2_with (first
    | (at_builtin;refine Ap _ rfl (.tmp 50) (.tmp 52) 32 rfl B 37 i0 (.pointer none) 8 Tryz.undXsX hi hz0 hz1 hz2 rfl (.slice V.ax V.nx V.cx) V.nx V.vxs rfl (H2.out.i.xs.alloc _) ⟨w2.heap.size,0,none⟩ 1 1 [.pointer (some ⟨d.d.cb,0,none⟩)] rfl rfl (AH w2 [.pointer (some ⟨d.d.cb,0,none⟩)] 37) (by intro u hu;simp at hu;subst hu;rfl) (by decide) d1.out d2.out (by simp;omega) (w2.heap.size+1) (by simp) ?_;intro a3 c3 w4 hown3 hg3 hl3;
          have HR3:Hid (AY w4 Wb 34 (V.cells s)):=B8 (AF H2.out.i.blk ((Below.refl _ _).alloc (Nat.le_refl _) _)) (H2.out.i.xs.alloc _) LM hg3;
          have g2:w4.cell? ⟨Wb,3,none⟩=some (.slice V.ax V.nx V.cx):=(HR3.out.cell 3).trans rfl;
          have g2':=HR3.out.frozen 3;
          have HX3:=AB (Wu H.out HB2.out HI.out HNW.out HD.out.1 HD.out.2 hg3 hl3 (Nat.le_succ _) hown3);clear hown3 hg3 hl3)
    | (go_at_call 22;refine(AE HK _).mono ?_;rintro e w' ⟨rfl,hw⟩;obtain rfl:=hw.symm))
   go_ret
   exact⟨rfl,HX3.out⟩
theorem Sv(P:DH)(B:Nat)(q:SX P)(a:Option Addr)(c:Nat)(xs:List Int)(w:World)(h:Ii w B q)(hi:AS w a xs)(hd:∀ g,a=some g→¬ q.At g.block)(hx:xs.length≤100000)(hB:B≤w.heap.size)(hn:q.d.hv.length≤100000)(hg:q.given.length≤100000) :
  Calls Tryz.prog 18 #[.pointer (some ⟨q.d.cb,0,none⟩),.slice a xs.length c] w fun e w'=>e=.returned (.bool true)∧∃ q',Sm w w' B q q' xs:=by
 cases hk:Aw xs q.d.lits with
 | takes=>exact Sx P B q a c xs w h hi hd hx hB hn hg hk
 | lit=>exact LY P B q a c xs w h hi hd hx hB hn (by rw[hk];rfl)
 | taut=>exact LY P B q a c xs w h hi hd hx hB hn (by rw[hk];rfl)
 | full=>exact LY P B q a c xs w h hi hd hx hB hn (by rw[hk];rfl)
theorem Ry{w:World}{B:Nat}{gs:List Nat}{xss:List (List Int)}(h:Ek w gs xss)(hB:∀ g∈gs,B≤g)(hl:∀ x∈xss,x.length≤100000):Aq w B 3 (BQ gs xss) xss:=by
 induction gs generalizing xss with
 | nil=>cases xss with
  | nil=>trivial
  | cons c cs=>exact h.elim
 | cons g gs ih=>cases xss with
  | nil=>exact h.elim
  | cons c cs=>exact⟨Ji h.1 (hB g (by simp)) (Nat.le_trans (hl c (by simp)) (by decide)),ih h.2 (fun x hx=>hB x (by simp[hx])) (fun x hx=>hl x (by simp[hx]))⟩
theorem VQ{w:World}{B B' G gl:Nat}{gs:List Nat}{xss:List (List Int)}(h:Sp w B' G gs gl xss)(hB:B≤B')(hl:xss.length≤100000):w.ownsRow B 24 1 (.slice (some ⟨G,0,none⟩) xss.length (xss.length+1)) xss.length (BQ gs xss):=by
 have hc:=LG h.each
 exact⟨by omega,.inr ⟨G,xss.length+1,(BQ gs xss++[Value.slice (some ⟨gl,0,none⟩) 1 1]).toArray,rfl,Nat.le_trans hB h.base.1,h.top,by omega,by unfold maxLen;omega,by simp[hc],by simp[← hc]⟩⟩
theorem bW{gs:List Nat}{xss:List (List Int)}{u:Value}(h:u∈BQ gs xss):∃ g∈gs,u.ownBlock=some g:=by
 induction gs generalizing xss with
 | nil=>cases xss <;> simp[BQ] at h
 | cons g gs ih=>cases xss with
  | nil=>simp[BQ] at h
  | cons c cs =>
   simp only[BQ,List.mem_cons] at h
   rcases h with rfl | h
   ·exact⟨g,by simp,rfl⟩
   ·obtain⟨g',h1,h2⟩:=ih h
    exact⟨g',by simp[h1],h2⟩
theorem UQ{n:Nat}{w1 w3:World}{Wb B:Nat}{V:WV}{s:St}{G gl:Nat}{gs:List Nat}{cl:List (List Int)}(H1:WI w1 Wb B V s)(hbd:Bd n s)
  (hsp:Sp w3 w1.heap.size G gs gl cl) (hb3:Below w1.heap.size w1 w3) (hcl:cl.length≤n) (hn:n≤16384) (hc1:∀ x∈cl,x.length≤17384) :
  II (n+1) w1 (w3.setCell ⟨Wb,1,none⟩ (.slice (some ⟨G,0,none⟩) cl.length (cl.length+1))) Wb B V:=by
 have hB1:B≤w1.heap.size:=Nat.le_trans H1.base (Nat.le_of_lt H1.blk.lt)
 have H3:=H1.below hb3
 have hc2:∀ x∈cl,x.length≤100000:=fun x hx=>Nat.le_trans (hc1 x hx) (by decide)
 have htop:=VQ (B:=B) hsp hB1 (by omega)
 have heach:=Ry (B:=w1.heap.size) hsp.each (fun g hg=>(hsp.out g hg).2.2) hc2
 have heachB:Aq w3 B 3 (BQ gs cl) cl:=Ry hsp.each (fun g hg=>Nat.le_trans hB1 (hsp.out g hg).2.2) hc2
 have htop2:=VQ (B:=w1.heap.size) hsp (Nat.le_refl _) (by omega)
 have hset:=fun {e u m xs} (he:e≠34) (hu:w3.ownsRow B e 1 u m xs)=>Cl H3.blk 1 (.slice (some ⟨G,0,none⟩) cl.length (cl.length+1)) he hu
 have hGb:=hsp.base.1
 refine⟨{ V with ac:=some ⟨G,0,none⟩,cc:=cl.length+1,vcs:=BQ gs cl },{ s with clauses:=cl },H3.setClauses (Eb H3.blk 1 _) _ _ cl (BQ gs cl) (H3.blk.set 1 _) (hset By htop) (heachB.map (fun _ _ _ _ hh=>hset Bm hh)) ?_ ?_ ?_,?_,?_,rfl,rfl,fun b h1 h2 h3=>⟨((Jr.of Wb V hb3).set 1 _ b h1 h2 h3).1,h3.l,Pg (by omega),h3.t,h3.x,h3.o,h3.w,?_,h3.os,h3.ws⟩⟩
 ·intro u hu
  obtain⟨xs,hx⟩:=heach.mem hu
  exact Ax H1.list hx (Nat.le_refl _)
 ·exact Ax H1.ot htop2 (Nat.le_refl _)
 ·exact Ax H1.wt htop2 (Nat.le_refl _)
 ·exact⟨hbd.next.list,by show cl.length≤_;omega,hc1,hbd.next.txs,hbd.tx1,hbd.next.outs,hbd.out1,hbd.next.mark,hbd.same⟩
 ·exact(hb3.mono hB1).setCell (p:=⟨Wb,1,none⟩) H1.base _
 ·intro u hu e
  obtain⟨g,hg,e'⟩:=bW hu
  rw[e',Option.some.injEq] at e
  have:=(hsp.out g hg).2.2
  omega
set_option maxHeartbeats 4000000 in
theorem Zg(P:DH)(Wb B n:Nat)(V:WV)(s:St)(ds:List (SX P))(w:World)(o:Cq)(ho:o.Ok)(hk:o.k=14)(h:AX w Wb B n V s ds)(hn:n≤16384)(hp:0<ds.length) :
  Calls Tryz.prog 12 #[.pointer (some ⟨Wb,0,none⟩),.agg o.cells] w fun e w'=>e=.returned (.bool true)∧MF P (n+1) w w' Wb B:=by
 have hBs:=h.hB
 have HB:Hid (∀ x,Below w.heap.size w (w.alloc x)):=fun x=>(Below.refl _ _).alloc (Nat.le_refl _) x
 have HT:Hid (∀ x,Calls Tryz.prog 14 #[.pointer (some ⟨Wb,0,none⟩),.agg o.cells] (w.alloc x) fun e w'=>e=.returned (.bool false)∧Below (w.alloc x).heap.size (w.alloc x) w'):=by
  intro x
  refine(Dn Wb B n V s (w.alloc x) o ho (h.i.below (HB.out x)) h.b hn).mono ?_
  have hio:D9 o.k=false:=by rw[hk];rfl
  rintro e w' ⟨rfl,hm⟩
  exact⟨by rw[hio],hm.no hio⟩
 have HK:Hid (∀ w,Calls Tryz.prog 22 #[.pointer (some ⟨Wb,0,none⟩),.slice none 0 0] w fun e w'=>e=.returned (.tuple #[])∧w'=w):=fun w=>FT Wb w
 have hdl:=h.dl
 have hnx:=h.nx
 have p1:=fun w=>DV o.a V.nx w (by omega) (by omega) ho.a.1 ho.a.2
 have l1:=DU o.a V.nx (by omega)
 generalize Er o.a V.nx=j1 at p1 l1
 obtain⟨g,d,eg,hd,c1⟩:=h.at_ (j:=j1) (by omega)
 obtain⟨bd1,bd2,bd3⟩:=h.bd j1 d hd
 have hgt:g<w.heap.size:=World.block_lt_of_cell? w _ c1
 have BD3:=AB bd3
 have P1:=AB p1
 have HD:=AB hd
 have H:=AB h
 have HEG:=AB eg
 have q1:(0:Int)≤(j1:Int):=by omega
 have q3:(j1:Int)<(V.nx:Int):=by omega
 have hnz:((V.nx:Int) == 0)=false:=by simp;omega
 have hlt:Wb<w.heap.size:=h.i.blk.lt
 obtain⟨k,a,b,c,t⟩:=o
 subst hk
 simp only[Cq.cells] at *
 clear h ho p1 hd eg hnx bd3 hdl
 go_enter Tryz.func12,Tryz.ntmps12
 go_wp2_with fail
 refine(AE HT _).mono ?_
 have m0:=AH w [.int .i64 14,.int .i64 a,.int .i64 b,.int .i64 c,.string t] 27 0 _ rfl
 have m1:=AH w [.int .i64 14,.int .i64 a,.int .i64 b,.int .i64 c,.string t] 27 1 _ rfl
 have hb1:Below w.heap.size w (w.alloc (.cells #[.int .i64 14,.int .i64 a,.int .i64 b,.int .i64 c,.string t] 27)):=(Below.refl _ _).alloc (Nat.le_refl _) _
 have e3:w.heap.size<(w.alloc (.cells #[.int .i64 14,.int .i64 a,.int .i64 b,.int .i64 c,.string t] 27)).heap.size:=by simp
 rw[Ch] at m0 m1
 simp only[Nat.zero_add] at m0 m1
 generalize w.alloc (.cells #[.int .i64 14,.int .i64 a,.int .i64 b,.int .i64 c,.string t] 27)=w1 at *
 rintro e w2 ⟨rfl,hb2⟩
 have k0:=(hb2.cell (p:=⟨w.heap.size,0,none⟩) e3).trans m0
 have k1:=(hb2.cell (p:=⟨w.heap.size,1,none⟩) e3).trans m1
 have hbw:Below w.heap.size w w2:=hb1.trans (hb2.mono (Nat.le_of_lt e3))
 have HW2:=AB hbw
 have k3:w2.cell? ⟨Wb,3,none⟩=some (.slice (some ⟨g,0,none⟩) V.nx V.cx):=((H.out.i.below hbw).blk.cell 3).trans (by simp only[WV.cells,WV.vx,HEG.out];rfl)
 have kx:w2.cell? ⟨g,j1,none⟩=some (.pointer (some ⟨d.d.cb,0,none⟩)):=(hbw.cell (p:=⟨g,j1,none⟩) hgt).trans c1
 have he2:w.heap.size<w2.heap.size:=Nat.lt_of_lt_of_le e3 hb2.size
 clear m0 m1 hb1 hb2 HT hbw c1 HB
 go_wp2_with fail
 go_quiet ((go_at_call 16;exact Calls.quiet_of_same (AE P1 _)))
 have hb3:Below w2.heap.size w2 (w2.drewN nq):=below_drewN (Below.refl _ _) _
 generalize w2.drewN nq=w3 at *
 have HW3:Hid (Below w.heap.size w w3):=HW2.out.trans (hb3.mono HW2.out.size)
 have y0:=(hb3.cell (p:=⟨w.heap.size,0,none⟩) he2).trans k0
 have H3:=AB (H.out.below HW3.out)
 have I3:=AB (H3.out.each j1 d HD.out)
 clear hb3 k0 k1 k3 kx HW2 P1 q1 q3 hnz
 have z0:w3.cell? ⟨Wb,0,none⟩=some (.slice V.al s.list.length V.cl):=(H3.out.i.blk.cell 0).trans rfl
 have hll:=H3.out.b.list
 have HA:=AB (Sv P B d V.al V.cl s.list w3 I3.out (BF H3.out.i.list) (fun ga e hat=>(H3.out.out j1 d HD.out _ hat).2.l ga e rfl) (by omega) H3.out.hB (by omega) (by omega))
 go_wp2_with fail
 refine(AE HA).mono ?_
 rintro e w4 ⟨rfl,d',hs⟩
 have HN:=AB ((H3.out.sol HD.out hs (by omega)).pre (HW3.out.mono hBs))
 clear hs HA
 go_wp2_with (go_at_call 22;refine(AE HK _).mono ?_;rintro e w' ⟨rfl,hw⟩;obtain rfl:=hw.symm)
 go_ret
 exact⟨rfl,HN.out⟩
end Go.Proofs.YthboeppmlhbofaaGreatDoor
