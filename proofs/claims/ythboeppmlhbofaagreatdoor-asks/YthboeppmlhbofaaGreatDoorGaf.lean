import Derived.Test.YthboeppmlhbofaaGreatDoorTrn
namespace Go.Proofs.YthboeppmlhbofaaGreatDoor
open Go.RowKit Txt
set_option maxRecDepth 100000
def SX.bare{P:DH}(q:SX P)(fx fy:Nat→Prop):SX P :=
 { d:={ q.d with vg:=.slice none 0 0,ah:=none,ch:=0,hv:=[],lits:=0,seen:=0,al:=none,cl:=0,lr:=[],held:=0,log:=0,unsat:=0,pf:=⟨#[]⟩ },s:=P.rst q.s,fx:=fx,fy:=fy,ag:=none,cg:=0,vgs:=[],given:=[] }
theorem SX.bare_j{P:DH}{q:SX P}{fx fy:Nat→Prop}{b:Nat}(h:(q.bare fx fy).J b):b=q.d.cb:=by
 rcases h with e | e | e | e | ⟨u,hu,_⟩
 ·exact e
 ·simp[SX.bare,SX.vg,Value.ownBlock] at e
 ·simp[SX.bare,SE.vh,Value.ownBlock] at e
 ·simp[SX.bare,SE.vl,Value.ownBlock] at e
 ·simp[SX.bare] at hu
theorem Ru(d:SE)(r h l:Int)(hr:d.r=r)(hh:d.h=h)(hl:d.l=l)(h1:d.hv=[])(h2:d.lits=0)(h3:d.seen=0)(h4:d.lr=[])(h5:d.held=0)(h6:d.log=0)(h7:d.unsat=0)(h8:d.pf=⟨#[]⟩):aA d (Vw.none r h l):=⟨hr,hh,hl,h1,h2,h3,h4,h5,h6,h7,h8⟩
theorem T9{P:DH}{w w2 w3:World}{B:Nat}{q:SX P}{fx fy:Nat→Prop}(h:Ii w B q)(hB:B≤w.heap.size)(t:PA w w2 q (P.rst q.s) fx fy)(c3:CM (fun b=>b=q.d.cb) w2 w3)(r3:AY w3 q.d.cb 44 (q.bare fx fy).d.cells)(xs:List Int):Sm w w3 B q (q.bare fx fy) xs:=by
 have hlt:q.d.cb<w.heap.size:=h.js.ji.blk.lt
 have nc:∀ b,(fx b∨fy b)→b≠q.d.cb∧B≤b:=by
  intro b hb
  have k:q.XY b∨w.heap.size≤b:=by
   rcases hb with hb | hb
   ·exact(t.nx b hb).imp .inl id
   ·exact(t.ny b hb).imp .inr id
  rcases k with k | k
  ·exact⟨fun e=>(h.fb b k).2 (.inl e),(h.fb b k).1⟩
  ·exact⟨by omega,by omega⟩
 have X:=P.frame t.x (fun b hb=>c3.block b (P.lt t.x b hb) (nc b (.inl hb)).1)
 have Y:=P.frame t.y (fun b hb=>c3.block b (P.lt t.y b hb) (nc b (.inr hb)).1)
 have hvw:=(P.rstV q.s h.ok).2
 refine⟨⟨⟨⟨r3,⟨rfl,.inl ⟨rfl,rfl⟩⟩,⟨rfl,.inl ⟨rfl,rfl⟩⟩,⟨fun c hc=>by simp[SX.bare] at hc,fun c hc=>by simp[SX.bare] at hc⟩,⟨Nat.zero_le _,Nat.zero_le _⟩⟩,Dm _,h.js.base⟩,rfl,⟨rfl,.inl ⟨rfl,rfl⟩⟩,trivial,fun u hu=>by simp[SX.bare] at hu,X,Y,fun b hb=>⟨(nc b hb).2,fun hj=>(nc b hb).1 (SX.bare_j hj)⟩,t.xy,(P.rstV q.s h.ok).1,?_⟩,rfl,?_,?_,Nat.zero_le _,Nat.zero_le _,fun g hg=>by simp[SX.bare] at hg⟩
 ·show aA _ (P.vw (P.rst q.s))
  rw[hvw]
  exact Ru _ _ _ _ h.e.r h.e.h h.e.l rfl rfl rfl rfl rfl rfl rfl rfl
 ·exact(t.chg.mono (fun _ _ hq=>.inr hq)).trans (c3.mono (fun b _ e=>.inl (.inl e)))
 ·intro b hb
  rcases hb with hb | hb | hb
  ·exact .inl (.inl (.inl (SX.bare_j hb)))
  ·exact(t.nx b hb).imp (fun e=>.inr (.inl e)) id
  ·exact(t.ny b hb).imp (fun e=>.inr (.inr e)) id
set_option maxHeartbeats 4000000 in
theorem T8(P:DH)(B:Nat)(q:SX P)(w:World)(h:Ii w B q)(hB:B≤w.heap.size)(xs:List Int) :
  Calls Tryz.prog 19 #[.pointer (some ⟨q.d.cb,0,none⟩)] w fun e w'=>e=.returned (.bool true)∧∃ q',Sm w w' B q q' xs:=by
 have HA:=AB (P.rstC h.x h.ok)
 have c0:w.cell? ⟨q.d.cb,0,none⟩=some (.pointer (some ⟨q.d.gx,0,none⟩)):=(h.js.ji.blk.cell 0).trans rfl
 have H:=AB h
 clear h
 go_enter Tryz.func19,Tryz.ntmps19
 go_wp2_with fail
 refine(AE HA).mono ?_
 rintro e w1 ⟨rfl,fx',x1,k1,l1,_⟩
 have r1:AY w1 q.d.cb 44 q.d.cells:=(k1.block _ H.out.js.ji.blk.lt (fun e=>(H.out.fb _ (.inl e)).2 (.inl rfl))).trans H.out.js.ji.blk
 have c1:w1.cell? ⟨q.d.cb,1,none⟩=some (.pointer (some ⟨q.d.gy,0,none⟩)):=(r1.cell 1).trans rfl
 have HA2:=AB (P.rstC (H.out.yAt k1) H.out.ok)
 have X1:=AB x1
 have K1:=AB k1
 have L1:=AB l1
 clear x1 k1 l1 r1 HA c0
 go_wp2_with fail
 refine(AE HA2).mono ?_
 rintro e w2 ⟨rfl,fy',y2,k2,l2,_⟩
 have t:PA w w2 q (P.rst q.s) fx' fy':=by
  have x1l:=P.lt X1.out
  have yl:=P.lt H.out.y
  have z1:=K1.out.size
  refine⟨P.frame X1.out (fun b hb=>k2.block b (x1l b hb) (fun hq=>?_)),y2,?_,L1.out,fun b hb=>(l2 b hb).imp id (fun e=>by omega),fun b hb hb'=>?_⟩
  ·rcases L1.out b hb with e | e
   ·exact H.out.xy b e hq
   ·have:=yl b hq;omega
  ·exact⟨k2.os.trans K1.out.os,k2.tape.trans K1.out.tape,k2.output.trans K1.out.output,Nat.le_trans K1.out.size k2.size,fun j hj hn=>(k2.block j (by omega) (fun hq=>hn (.inr hq))).trans (K1.out.block j hj (fun hq=>hn (.inl hq)))⟩
  ·rcases l2 b hb' with e | e
   ·rcases L1.out b hb with e2 | e2
    ·exact H.out.xy b e2 e
    ·have:=yl b e;omega
   ·have:=x1l b hb;omega
 have r2:AY w2 q.d.cb 44 q.d.cells:=(H.out.jAt t.chg _ (.inl rfl)).trans H.out.js.ji.blk
 have T:=AB t
 have R2:=AB r2
 have e0:w2.cell? ⟨q.d.cb,0,none⟩=some (.pointer (some ⟨q.d.gx,0,none⟩)):=(r2.cell 0).trans rfl
 have e5:w2.cell? ⟨q.d.cb,5,none⟩=some q.d.vg:=(r2.cell 5).trans rfl
 have e6:w2.cell? ⟨q.d.cb,6,none⟩=some (.slice q.d.ah q.d.hv.length q.d.ch):=(r2.cell 6).trans rfl
 have e7:w2.cell? ⟨q.d.cb,7,none⟩=some (.int .i64 q.d.lits):=(r2.cell 7).trans rfl
 have e8:w2.cell? ⟨q.d.cb,8,none⟩=some (.int .i64 q.d.seen):=(r2.cell 8).trans rfl
 have e9:w2.cell? ⟨q.d.cb,9,none⟩=some (.slice q.d.al q.d.lr.length q.d.cl):=(r2.cell 9).trans rfl
 have e10:w2.cell? ⟨q.d.cb,10,none⟩=some (.int .i64 q.d.held):=(r2.cell 10).trans rfl
 have e11:w2.cell? ⟨q.d.cb,11,none⟩=some (.int .i64 q.d.log):=(r2.cell 11).trans rfl
 have e12:w2.cell? ⟨q.d.cb,12,none⟩=some (.int .i64 q.d.unsat):=(r2.cell 12).trans rfl
 have e13:w2.cell? ⟨q.d.cb,13,none⟩=some (.string q.d.pf):=(r2.cell 13).trans rfl
 have z5:=r2.frozen 5
 have z6:=r2.frozen 6
 have z7:=r2.frozen 7
 have z8:=r2.frozen 8
 have z9:=r2.frozen 9
 have z10:=r2.frozen 10
 have z11:=r2.frozen 11
 have z12:=r2.frozen 12
 have z13:=r2.frozen 13
 have r3:=AB ((((((((((R2.out.set 5 (.slice none 0 0)).set 6 (.slice none 0 0)).set 7 (.int .i64 0)).set 8 (.int .i64 0)).set 9 (.slice none 0 0)).set 10 (.int .i64 0)).set 11 (.int .i64 0)).set 12 (.int .i64 0)).set 13 (.string ⟨#[]⟩)))
 have ch:=AB ((((((((((CM.of (P:=fun b=>b=q.d.cb) (Below.refl _ w2)).set q.d.cb 5 (.slice none 0 0) (.inl rfl)).set q.d.cb 6 (.slice none 0 0) (.inl rfl)).set q.d.cb 7 (.int .i64 0) (.inl rfl)).set q.d.cb 8 (.int .i64 0) (.inl rfl)).set q.d.cb 9 (.slice none 0 0) (.inl rfl)).set q.d.cb 10 (.int .i64 0) (.inl rfl)).set q.d.cb 11 (.int .i64 0) (.inl rfl)).set q.d.cb 12 (.int .i64 0) (.inl rfl)).set q.d.cb 13 (.string ⟨#[]⟩) (.inl rfl))
 have HE:=AB (T9 H.out hB T.out ch.out r3.out xs)
 have HRD:=AB (DL P (q.bare fx' fy').d q.d.gx (P.rst q.s) fx' _ r3.out HE.out.i.x HE.out.i.ok HE.out.i.e (Nat.zero_le _))
 clear y2 k2 l2 r2 t HA2 c1 r3 ch X1 K1 L1 R2 T
 go_wp2_with fail
 refine(AE HRD).mono ?_
 rintro e w4 ⟨rfl,hb4⟩
 have HN:=AB (HE.out.below hb4)
 clear hb4
 go_wp2
 go_ret
 exact⟨rfl,_,HN.out⟩
set_option maxHeartbeats 4000000 in
theorem Yj(P:DH)(r h l:Int)(w:World)(hs:BT r h l=false) :
  Calls Tryz.prog 26 #[.int .i64 r,.int .i64 h,.int .i64 l] w fun e w'=>e=.returned (.tuple #[.pointer none,.bool true])∧Below w.heap.size w w':=by
 have HN:Hid (∀ w,Calls Tryz.prog 49 #[.agg #[.int .i64 r,.int .i64 h,.int .i64 l]] w fun e w'=>e=.returned (.tuple #[.pointer none,.int .i64 1])∧Below w.heap.size w w'):=fun w=>by
  refine(P.newC r h l w).mono ?_
  rintro e w' ⟨h1,h2⟩
  rw[hs] at h2
  exact⟨h2,h1⟩
 have HS:Hid (∀ w,Calls Tryz.prog 50 #[.int .i64 r,.int .i64 h,.int .i64 l] w fun e w'=>e=.returned (.bool false)∧w'=w):=fun w=>by
  have:=LC r h l w
  rwa [hs] at this
 have HNM:Hid (∀ n w,Calls Tryz.prog 33 #[.int .i64 n] w fun e w'=>e=.returned (.int .i64 n)∧w'=w):=fun n w=>G8 n w
 have HB:Hid (∀ x,Below w.heap.size w (w.alloc x)):=fun x=>(Below.refl _ _).alloc (Nat.le_refl _) x
 go_enter Tryz.func26,Tryz.ntmps26
 go_wp2_with fail
 refine(AE HN _).mono ?_
 rintro e w2 ⟨rfl,hb2⟩
 have HB2:Hid (Below w.heap.size w w2):=(HB.out _).trans (hb2.mono (by simp))
 clear hb2 HB
 go_wp2_with (first
  | (go_at_call 50;refine(AE HS _).mono ?_;rintro e w' ⟨rfl,hw⟩;obtain rfl:=hw.symm)
  | (go_at_call 33;refine(AE HNM _ _).mono ?_;rintro e w' ⟨rfl,hw⟩;obtain rfl:=hw.symm))
 go_ret2
 exact⟨rfl,HB2.out⟩
def Jq(P:DH)(cb gx gy:Nat)(r h l:Int)(fx fy:Nat→Prop):SX P :=
 ⟨⟨cb,gx,gy,r,h,l,.slice none 0 0,none,0,[],0,0,none,0,[],0,0,0,⟨#[]⟩,0⟩,P.new r h l,fx,fy,none,0,[],[]⟩
theorem Yv{P:DH}{cb gx gy:Nat}{r h l:Int}{fx fy:Nat→Prop}{b:Nat}(hb:(Jq P cb gx gy r h l fx fy).J b):b=cb:=by
 rcases hb with e | e | e | e | ⟨u,hu,_⟩
 ·exact e
 ·simp[Jq,SX.vg,Value.ownBlock] at e
 ·simp[Jq,SE.vh,Value.ownBlock] at e
 ·simp[Jq,SE.vl,Value.ownBlock] at e
 ·simp[Jq] at hu
set_option maxHeartbeats 4000000 in
theorem WW(P:DH)(B:Nat)(r h l:Int)(w:World)(hs:BT r h l=true)(hB:B≤w.heap.size) :
  Calls Tryz.prog 26 #[.int .i64 r,.int .i64 h,.int .i64 l] w fun e w'=>∃ q:SX P,e=.returned (.tuple #[.pointer (some ⟨q.d.cb,0,none⟩),.bool true])∧Ii w' B q∧(∀ b,q.At b→w.heap.size≤b)∧q.d.hv=[]∧q.given=[]∧Below w.heap.size w w':=by
 obtain⟨hok,hvw⟩:=P.newV r h l hs
 have HN:Hid (∀ w,Calls Tryz.prog 49 #[.agg #[.int .i64 r,.int .i64 h,.int .i64 l]] w fun e w'=>∃ g F,e=.returned (.tuple #[.pointer (some ⟨g,0,none⟩),.int .i64 0])∧P.At w' g (P.new r h l) F∧(∀ b,F b→w.heap.size≤b)∧Below w.heap.size w w'):=fun w=>by
  refine(P.newC r h l w).mono ?_
  rintro e w' ⟨h1,h2⟩
  rw[hs] at h2
  obtain⟨g,F,q1,q2,q3⟩:=h2
  exact⟨g,F,q1,q2,q3,h1⟩
 have HS:Hid (∀ w,Calls Tryz.prog 50 #[.int .i64 r,.int .i64 h,.int .i64 l] w fun e w'=>e=.returned (.bool true)∧w'=w):=fun w=>by
  have:=LC r h l w
  rwa [hs] at this
 have m:=fun j u hu=>AH w [.int .i64 r,.int .i64 h,.int .i64 l] 42 j u hu
 have m0:=m 0 _ rfl
 have m1:=m 1 _ rfl
 have m2:=m 2 _ rfl
 rw[Ch] at m0 m1 m2
 simp only[Nat.zero_add] at m0 m1 m2
 have HB1:Hid (Below w.heap.size w (w.alloc (.cells #[.int .i64 r,.int .i64 h,.int .i64 l] 42))):=(Below.refl _ _).alloc (Nat.le_refl _) _
 have e3:w.heap.size<(w.alloc (.cells #[.int .i64 r,.int .i64 h,.int .i64 l] 42)).heap.size:=by simp
 have HOK:=AB hok
 have HVW:=AB hvw
 clear m hok hvw
 go_enter Tryz.func26,Tryz.ntmps26
 go_wp2_with fail
 refine(AE HN _).mono ?_
 generalize w.alloc (.cells #[.int .i64 r,.int .i64 h,.int .i64 l] 42)=w1 at *
 rintro e w2 ⟨g,F,rfl,hx2,hn2,hb2⟩
 have k0:=(hb2.cell (p:=⟨w.heap.size,0,none⟩) e3).trans m0
 have k1:=(hb2.cell (p:=⟨w.heap.size,1,none⟩) e3).trans m1
 have k2:=(hb2.cell (p:=⟨w.heap.size,2,none⟩) e3).trans m2
 have hs2:=hb2.size
 have X2:=AB hx2
 have N2:=AB hn2
 have HB2:Hid (Below w.heap.size w w2):=HB1.out.trans (hb2.mono (Nat.le_of_lt e3))
 have e4:w.heap.size<w2.heap.size:=by omega
 clear hb2 hx2 hn2 m0 m1 m2 HB1
 go_wp2_with (go_at_call 50;refine(AE HS _).mono ?_;rintro e w' ⟨rfl,hw⟩;obtain rfl:=hw.symm)
 refine(AE HN _).mono ?_
 rintro e w3 ⟨g',F',rfl,hx3,hn3,hb3⟩
 have q0:=(hb3.cell (p:=⟨w.heap.size,0,none⟩) e4).trans k0
 have q1:=(hb3.cell (p:=⟨w.heap.size,1,none⟩) e4).trans k1
 have q2:=(hb3.cell (p:=⟨w.heap.size,2,none⟩) e4).trans k2
 have hs3:=hb3.size
 have Y3:=AB hx3
 have N3:=AB hn3
 have X3:=AB (P.below X2.out hb3)
 have HB3:Hid (Below w.heap.size w w3):=HB2.out.trans (hb3.mono (Nat.le_of_lt e4))
 have XL:Hid (∀ b,F b→b<w2.heap.size):=P.lt X2.out
 clear hb3 hx3 hn3 k0 k1 k2 HB2 X2 HS HN
 have r4:=AB (heap_alloc_new w3 (.cells (Jq P w3.heap.size g g' r h l F F').d.cells.toArray 44))
 have hb4:Hid (Below w3.heap.size w3 (w3.alloc (.cells (Jq P w3.heap.size g g' r h l F F').d.cells.toArray 44))):=(Below.refl _ _).alloc (Nat.le_refl _) _
 have x4:=AB (P.below X3.out hb4.out)
 have y4:=AB (P.below Y3.out hb4.out)
 have hse:aA (Jq P w3.heap.size g g' r h l F F').d (P.vw (P.new r h l)):=by rw[HVW.out];exact Ru _ _ _ _ rfl rfl rfl rfl rfl rfl rfl rfl rfl rfl rfl
 have HSE:=AB hse
 have HRD:=AB (DL P (Jq P w3.heap.size g g' r h l F F').d g (P.new r h l) F _ r4.out x4.out HOK.out hse (Nat.zero_le _))
 have xl3:=P.lt X3.out
 have yl3:=P.lt Y3.out
 have I4:Hid (Ii (w3.alloc (.cells (Jq P w3.heap.size g g' r h l F F').d.cells.toArray 44)) B (Jq P w3.heap.size g g' r h l F F')):=⟨⟨⟨r4.out,⟨rfl,.inl ⟨rfl,rfl⟩⟩,⟨rfl,.inl ⟨rfl,rfl⟩⟩,⟨fun c hc=>by simp[Jq] at hc,fun c hc=>by simp[Jq] at hc⟩,⟨Nat.zero_le _,Nat.zero_le _⟩⟩,Dm _,by show B≤w3.heap.size;omega⟩,rfl,⟨rfl,.inl ⟨rfl,rfl⟩⟩,trivial,fun u hu=>by simp[Jq] at hu,x4.out,y4.out,fun b hb=>⟨by
   rcases hb with hb | hb
   ·have:=N2.out b hb;omega
   ·have:=N3.out b hb;omega,fun hj=>by
   have e:=Yv hj
   rcases hb with hb | hb
   ·have:=xl3 b hb;omega
   ·have:=yl3 b hb;omega⟩,fun b hb hb'=>by
   have h1:=XL.out b hb
   have h2:=N3.out b hb'
   omega,HOK.out,HSE.out⟩
 have HB4:Hid (Below w.heap.size w (w3.alloc (.cells (Jq P w3.heap.size g g' r h l F F').d.cells.toArray 44))):=HB3.out.trans (hb4.out.mono (by omega))
 clear r4 hb4 x4 y4 X3 Y3 HB3 xl3 yl3 hse
 go_wp2_with fail
 refine(AE HRD).mono ?_
 rintro e w5 ⟨rfl,hb5⟩
 have I5:=AB (I4.out.below hb5)
 have HB5:Hid (Below w.heap.size w w5):=HB4.out.trans (hb5.mono HB4.out.size)
 clear hb5
 go_wp2
 go_ret2
 refine⟨Jq P w3.heap.size g g' r h l F F',rfl,I5.out,fun b hb=>?_,rfl,rfl,HB5.out⟩
 rcases hb with hb | hb | hb
 ·have e:=Yv hb;omega
 ·have e:=N2.out b hb;omega
 ·have e:=N3.out b hb;omega
theorem II.alloc{n:Nat}{w w':World}{Wb B:Nat}{V:WV}(h:II n w w' Wb B V)(hB:B≤w.heap.size)(x:Obj):II n w (w'.alloc x) Wb B V:=by
 obtain⟨V',s',i1,i2,i3,i4,i5,i6⟩:=h
 exact⟨V',s',i1.below ((Below.refl _ _).alloc (Nat.le_refl _) x),i2,i3.alloc (Nat.le_trans hB i3.size) x,i4,i5,i6.trans i3.size (Jr.of Wb V' ((Below.refl _ _).alloc (Nat.le_refl _) x))⟩
set_option maxHeartbeats 4000000 in
theorem Ts(Wb B n:Nat)(V:WV)(s:St)(w:World)(o:Cq)(hk:o.k=1)(h:WI w Wb B V s)(hbd:Bd n s)(hn:n≤16384) :
  Calls Tryz.prog 14 #[.pointer (some ⟨Wb,0,none⟩),.agg o.cells] w fun e w'=>e=.returned (.bool true)∧II (n+1) w w' Wb B V:=by
 obtain⟨k,a,b,c,t⟩:=o
 subst hk
 obtain⟨i0,hi,hz0,hz1,hz2⟩:=info_parts Tryz.infoInt
 have hx:=hbd.list
 have hBs:B≤w.heap.size:=Nat.le_trans h.base (Nat.le_of_lt h.blk.lt)
 have d1:Hid (s.list.length+1≤maxLen):=by show _≤_;unfold maxLen;omega
 have d2:Hid ((s.list.length+1)*8≤140737488355328):=by show _≤_;omega
 have H:=AB h
 have HBD:=AB hbd
 have hlt:Wb<w.heap.size:=h.blk.lt
 have f0w:w.cell? ⟨Wb,0,none⟩=some (.slice V.al s.list.length V.cl):=(h.blk.cell 0).trans rfl
 simp only[Cq.cells] at *
 clear h hbd
 go_enter Tryz.func14,Tryz.ntmps14
 go_wp2_with fail
 have e1:=fun j u hu=>AH w [.int .i64 1,.int .i64 a,.int .i64 b,.int .i64 c,.string t] 27 j u hu
 have hb1:Below w.heap.size w (w.alloc (.cells #[.int .i64 1,.int .i64 a,.int .i64 b,.int .i64 c,.string t] 27)):=(Below.refl _ _).alloc (Nat.le_refl _) _
 have e3:w.heap.size<(w.alloc (.cells #[.int .i64 1,.int .i64 a,.int .i64 b,.int .i64 c,.string t] 27)).heap.size:=by simp
 have m1:=e1 1 _ rfl
 rw[Ch] at m1
 simp only[Nat.zero_add] at m1
 clear e1
 generalize w.alloc (.cells #[.int .i64 1,.int .i64 a,.int .i64 b,.int .i64 c,.string t] 27)=w1 at *
 have f0:w1.cell? ⟨Wb,0,none⟩=some (.slice V.al s.list.length V.cl):=(hb1.cell (p:=⟨Wb,0,none⟩) hlt).trans f0w
 have H1:=AB (H.out.below hb1)
 have HB1:=AB hb1
 have hB1:B≤w1.heap.size:=by omega
 clear f0w hb1
 have f0a:∀ o,(w1.alloc o).cell? ⟨Wb,0,none⟩=some (.slice V.al s.list.length V.cl):=fun o=>(((Below.refl w1.heap.size w1).alloc (Nat.le_refl _) o).cell (p:=⟨Wb,0,none⟩) (show Wb<w1.heap.size by omega)).trans f0
 go_region_law (
  (refine DZ _ (by rfl) (.tmp 16) (.tmp 19) 24 (by rfl) B 3 i0 (.int .i64 0) 8 Tryz.undInts hi hz0 hz1 hz2 rfl (.slice V.al s.list.length V.cl) s.list.length (AO s.list) (by rfl) (by exact H1.out.list.alloc _) ⟨w1.heap.size,0,none⟩ 1 1 [.int .i64 a] (by rfl) rfl (by exact AH w1 [.int .i64 a] 3) (by intro u hu;simp at hu;subst hu;rfl) (by decide) d1.out d2.out (by simp;omega) (w1.heap.size+1) (by simp) ?_;intro a3 c3 w3 hown3 hg3 hl3;
       have HR3:Hid (AY w3 Wb 34 (V.cells s)):=B8 (AF H1.out.blk ((Below.refl _ _).alloc (Nat.le_refl _) _)) (H1.out.list.alloc _) Bm (Bj hg3);
       have g2:w3.cell? ⟨Wb,0,none⟩=some (.slice V.al s.list.length V.cl):=(HR3.out.cell 0).trans rfl;
       have g2':=HR3.out.frozen 0))
 all_goals
  go_wp2
  go_ret
  exact⟨rfl,Yb H1.out HBD.out HB1.out hBs (Bj hg3) hl3 hown3⟩
set_option maxHeartbeats 2000000 in
theorem Oe(Wb B n:Nat)(V:WV)(s:St)(w:World)(o:Cq)(hk:o.k=2∨o.k=4)(h:WI w Wb B V s)(hbd:Bd n s) :
  Calls Tryz.prog 14 #[.pointer (some ⟨Wb,0,none⟩),.agg o.cells] w fun e w'=>e=.returned (.bool true)∧II (n+1) w w' Wb B V:=by
 obtain⟨k,a,b,c,t⟩:=o
 have hlt:Wb<w.heap.size:=h.blk.lt
 have f0w:w.cell? ⟨Wb,0,none⟩=some (.slice V.al s.list.length V.cl):=(h.blk.cell 0).trans rfl
 have f1w:w.cell? ⟨Wb,1,none⟩=some (.slice V.ac s.clauses.length V.cc):=(h.blk.cell 1).trans rfl
 have z0:=h.blk.frozen 0
 have z1:=h.blk.frozen 1
 have hBs:B≤w.heap.size:=Nat.le_trans h.base (Nat.le_of_lt h.blk.lt)
 have H:=AB h
 have HBD:=AB hbd
 simp only[Cq.cells] at *
 clear h hbd
 rcases hk with rfl|rfl
 ·go_enter Tryz.func14,Tryz.ntmps14
  go_wp2
  go_ret
  exact⟨rfl,(Yc H.out HBD.out (Below.refl _ _) hBs).alloc hBs _⟩
 ·go_enter Tryz.func14,Tryz.ntmps14
  go_wp2
  go_ret
  exact⟨rfl,(QT H.out HBD.out (Below.refl _ _) hBs).alloc hBs _⟩
set_option maxHeartbeats 2000000 in
theorem Tt(Wb B n:Nat)(V:WV)(s:St)(w:World)(o:Cq)(ho:o.Ok)(h:WI w Wb B V s)(hbd:Bd n s)(hn:n≤16384)(h1:(o.k == 1)=false)(h2:(o.k == 2)=false)(h3:(o.k == 3)=false)(h4:(o.k == 4)=false) :
  Calls Tryz.prog 14 #[.pointer (some ⟨Wb,0,none⟩),.agg o.cells] w fun e w'=>e=.returned (.bool (Df o.k))∧Ns (Df o.k) n w w' Wb B V:=by
 have hBs:B≤w.heap.size:=Nat.le_trans h.base (Nat.le_of_lt h.blk.lt)
 have HB:Hid (∀ x,Below w.heap.size w (w.alloc x)):=fun x=>(Below.refl _ _).alloc (Nat.le_refl _) x
 have HT:Hid (∀ x,Calls Tryz.prog 25 #[.pointer (some ⟨Wb,0,none⟩),.agg o.cells] (w.alloc x) fun e w'=>e=.returned (.bool (Df o.k))∧Ns (Df o.k) n (w.alloc x) w' Wb B V):=fun x=>UO Wb B n V s (w.alloc x) o ho (h.below (HB.out x)) hbd (by omega)
 have HM:Hid (∀ x w',Ns (Df o.k) n (w.alloc x) w' Wb B V→Ns (Df o.k) n w w' Wb B V):=by
  intro x w' hm
  cases hb:Df o.k with
  | true =>
   obtain⟨V',s',i1,i2,i3,i4,i5,i6⟩:=hm.yes hb
   exact⟨V',s',i1,i2,((HB.out _).mono hBs).trans i3,i4,i5,Jr.pre (HB.out _) i6⟩
  | false=>exact(HB.out x).trans ((hm.no hb).mono (by simp))
 obtain⟨k,a,b,c,t⟩:=o
 simp only[Cq.cells] at *
 clear h hbd ho
 go_enter Tryz.func14,Tryz.ntmps14
 go_wp2_with fail
 refine(AE HT _).mono ?_
 rintro e w' ⟨rfl,hM⟩
 have HQ:=AB hM
 clear hM
 go_wp2
 go_ret
 exact⟨rfl,HM.out _ _ HQ.out⟩
set_option maxHeartbeats 4000000 in
theorem Pk(Wb B n:Nat)(V:WV)(s:St)(w:World)(o:Cq)(hk:o.k=3)(h:WI w Wb B V s)(hbd:Bd n s)(hn:n≤16384) :
  Calls Tryz.prog 14 #[.pointer (some ⟨Wb,0,none⟩),.agg o.cells] w fun e w'=>e=.returned (.bool true)∧II (n+1) w w' Wb B V:=by
 obtain⟨k,a,b,c,t⟩:=o
 subst hk
 obtain⟨i1,gi,gz0,gz1,gz2⟩:=info_parts Tryz.infoInts
 have hx:=hbd.cls
 have hy:=hbd.list
 have hBs:B≤w.heap.size:=Nat.le_trans h.base (Nat.le_of_lt h.blk.lt)
 have d1:Hid (s.clauses.length+1≤maxLen):=by show _≤_;unfold maxLen;omega
 have d2:Hid ((s.clauses.length+1)*24≤140737488355328):=by show _≤_;omega
 have hlb:Hid (s.list.length≤4294967296):=by show _≤_;omega
 have H:=AB h
 have HBD:=AB hbd
 have hlt:Wb<w.heap.size:=h.blk.lt
 simp only[Cq.cells] at *
 clear h hbd
 go_enter Tryz.func14,Tryz.ntmps14
 go_wp2_with fail
 have hb1:Below w.heap.size w (w.alloc (.cells #[.int .i64 3,.int .i64 a,.int .i64 b,.int .i64 c,.string t] 27)):=(Below.refl _ _).alloc (Nat.le_refl _) _
 have e3:w.heap.size<(w.alloc (.cells #[.int .i64 3,.int .i64 a,.int .i64 b,.int .i64 c,.string t] 27)).heap.size:=by simp
 generalize w.alloc (.cells #[.int .i64 3,.int .i64 a,.int .i64 b,.int .i64 c,.string t] 27)=w1 at *
 have H1:=AB (H.out.below hb1)
 have f0:w1.cell? ⟨Wb,0,none⟩=some (.slice V.al s.list.length V.cl):=(H1.out.blk.cell 0).trans rfl
 have f1:w1.cell? ⟨Wb,1,none⟩=some (.slice V.ac s.clauses.length V.cc):=(H1.out.blk.cell 1).trans rfl
 have HB1:=AB hb1
 have hB1:B≤w1.heap.size:=by omega
 have hri:Hid (AS w1.drew V.al s.list):=by
  show AS _ _ _
  exact(BF H1.out.list).kept fun _ _ _ h=>h
 clear hb1
 go_region_law (
  first
  | (refine DZ _ rfl (.tmp 34) (.tmp 40) 30 rfl B 24 i1 (.slice none 0 0) 24 Tryz.undLists gi gz0 gz1 gz2 rfl (.slice V.ac s.clauses.length V.cc) s.clauses.length V.vcs rfl (H2.out.clt.alloc _) ⟨w2.heap.size,0,none⟩ 1 1 [.slice (some ⟨w1.heap.size,0,none⟩) s.list.length (s.list.length+2)] rfl rfl (AH w2 [.slice (some ⟨w1.heap.size,0,none⟩) s.list.length (s.list.length+2)] 24) (by intro u hu;simp at hu;subst hu;rfl) (by decide) d1.out d2.out (by simp;omega) (w2.heap.size+1) (by simp) ?_;intro a3 c3 w3 hown3 hg3 hl3;
        have HR3:Hid (AY w3 Wb 34 (V.cells s)):=B8 (AF H2.out.blk ((Below.refl _ _).alloc (Nat.le_refl _) _)) (H2.out.clt.alloc _) By hg3;
        have g2:w3.cell? ⟨Wb,1,none⟩=some (.slice V.ac s.clauses.length V.cc):=(HR3.out.cell 1).trans rfl;
        have g2':=HR3.out.frozen 1)
  | (go_simp;go_at_call 24;refine(IB V.al V.cl s.list w1.drew hlb.out hri.out).mono ?_;rintro e w2 ⟨rfl,hrow2,hb2⟩;
        have HRW:Hid (AY w2 w1.heap.size 3 (AO s.list++Bx)):=hrow2;
        have HB2:Hid (Below w1.heap.size w1 w2):=(below_drewN (Below.refl _ _) 1).trans hb2;
        have H2:=AB (H1.out.below HB2.out);
        have hz2:w1.heap.size≤w2.heap.size:=HB2.out.size;
        have k1:w2.cell? ⟨Wb,1,none⟩=some (.slice V.ac s.clauses.length V.cc):=(H2.out.blk.cell 1).trans rfl;
        have k1a:∀ o,(w2.alloc o).cell? ⟨Wb,1,none⟩=some (.slice V.ac s.clauses.length V.cc):=fun o=>(((Below.refl w2.heap.size w2).alloc (Nat.le_refl _) o).cell (p:=⟨Wb,1,none⟩) (show Wb<w2.heap.size by omega)).trans k1;
        clear hrow2 hb2;go_wp2_with fail))
 all_goals
  go_wp2
  go_ret
  exact⟨rfl,TI H1.out HBD.out hn HB1.out HB2.out hBs (Nat.le_refl _) HRW.out hg3 hl3 hown3⟩
def D9(k:Int):Bool:=k == 1 || k == 2 || k == 3 || k == 4 || Df k
theorem Dn(Wb B n:Nat)(V:WV)(s:St)(w:World)(o:Cq)(ho:o.Ok)(h:WI w Wb B V s)(hbd:Bd n s)(hn:n≤16384) :
  Calls Tryz.prog 14 #[.pointer (some ⟨Wb,0,none⟩),.agg o.cells] w fun e w'=>e=.returned (.bool (D9 o.k))∧Ns (D9 o.k) n w w' Wb B V:=by
 by_cases h1:o.k=1
 ·have:D9 o.k=true:=by simp[D9,h1]
  rw[this]
  exact Ts Wb B n V s w o h1 h hbd hn
 ·by_cases h2:o.k=2
  ·have:D9 o.k=true:=by simp[D9,h2]
   rw[this]
   exact Oe Wb B n V s w o (.inl h2) h hbd
  ·by_cases h3:o.k=3
   ·have:D9 o.k=true:=by simp[D9,h3]
    rw[this]
    exact Pk Wb B n V s w o h3 h hbd hn
   ·by_cases h4:o.k=4
    ·have:D9 o.k=true:=by simp[D9,h4]
     rw[this]
     exact Oe Wb B n V s w o (.inr h4) h hbd
    ·have e:D9 o.k=Df o.k:=by simp[D9,h1,h2,h3,h4]
     rw[e]
     exact Tt Wb B n V s w o ho h hbd hn (by simpa using h1) (by simpa using h2) (by simpa using h3) (by simpa using h4)
def dI(n:Nat)(w w':World)(Wb B:Nat)(V:WV)(vs:List Value):Prop:=∃ V' s',WI w' Wb B V' s'∧Bd n s'∧Below B w w'∧V'.nx=V.nx∧V'.vxs=V.vxs∧OF w w' Wb V V' vs
theorem dI.nxt{n:Nat}{w0 w1 w2:World}{Wb B:Nat}{V V1:WV}{vs:List Value}(h:dI n w1 w2 Wb B V1 vs)(hb:Below B w0 w1)(h1:V1.nx=V.nx∧V1.vxs=V.vxs)(hf:Jr w0 w1 Wb V V1)(hv:∀ u∈vs,∀ b,u.ownBlock=some b→w0.heap.size≤b):II n w0 w2 Wb B V:=by
 obtain⟨V',s',i1,i2,i3,i4,i5,i6⟩:=h
 have hs:=hb.size
 refine⟨V',s',i1,i2,hb.trans i3,i4.trans h1.1,i5.trans h1.2,fun b q1 q2 q3=>?_⟩
 obtain⟨e1,f1⟩:=hf b q1 q2 q3
 obtain⟨e2,f2⟩:=i6 b (by omega) q2 f1 (fun u hu e=>by have:=hv u hu b e;omega)
 exact⟨e2.trans e1,f2⟩
theorem Ki(Wb B n:Nat)(V:WV)(s:St)(w:World)(h:WI w Wb B V s)(hbd:Bd n s)(hn:n≤20000)(a:Option Addr)(c:Nat)(cl:List (List Int))(vs:List Value)(hr:Ev w B V s (.slice a cl.length c) cl.length vs vs cl)
  (hcl:cl.length≤1000) (hc1:∀ x∈cl,x.length≤5000000) :
  Calls Tryz.prog 22 #[.pointer (some ⟨Wb,0,none⟩),.slice a cl.length c] w fun e w'=>e=.returned (.tuple #[])∧dI (n+1) w w' Wb B V vs:=by
 have h1:=hbd.outs
 have h2:=hbd.mark
 refine(aX Wb B V s w h a c cl vs hr hcl hc1 (by omega) (by omega) hbd.same).mono ?_
 rintro e w' ⟨rfl,V',s',i,hb,e1,e2,e3,e4,e5,e6,e7,e8,⟨e9,e10,_⟩,e11⟩
 refine⟨rfl,V',s',i,⟨by rw[e1];exact hbd.next.list,by rw[e2];exact hbd.next.cls,by rw[e2];exact hbd.cl1,by rw[e3];exact hbd.next.txs,by rw[e3];exact hbd.tx1,by omega,?_,by omega,e4⟩,hb,e9,e10,e11⟩
 intro x hx
 rcases e6 x hx with hx | hx
 ·exact hbd.out1 x hx
 ·omega
set_option maxHeartbeats 1000000 in
theorem FT(Wb:Nat)(w:World):Calls Tryz.prog 22 #[.pointer (some ⟨Wb,0,none⟩),.slice none 0 0] w fun e w'=>e=.returned (.tuple #[])∧w'=w:=by
 go_enter Tryz.func22,Tryz.ntmps22
 go_wp2
 go_loopw [4] (fun i wr=>i=.int .i64 0∧wr=w) (fun _ _=>0)
 case atStart=>exact⟨rfl,rfl⟩
 case round =>
  obtain⟨rfl,rfl⟩:=hrel
  go_wp2
  go_end0
  exact⟨rfl,rfl⟩
theorem Mr(Wb B n:Nat)(V:WV)(s:St)(w:World)(h:WI w Wb B V s)(hbd:Bd n s)(hn:n≤20000) :
  Calls Tryz.prog 22 #[.pointer (some ⟨Wb,0,none⟩),.slice none 0 0] w fun e w'=>e=.returned (.tuple #[])∧II n w w' Wb B V:=by
 have _:=hn
 refine(FT Wb w).mono ?_
 rintro e w' ⟨rfl,rfl⟩
 exact⟨rfl,V,s,h,hbd,Below.refl _ _,rfl,rfl,Jr.of Wb V (Below.refl _ _)⟩
theorem II.trans{m:Nat}{w w1 w2:World}{Wb B:Nat}{V V1:WV}(hb:Below B w w1)(h1:V1.nx=V.nx∧V1.vxs=V.vxs)(hf:Jr w w1 Wb V V1)(h:II m w1 w2 Wb B V1):II m w w2 Wb B V:=by
 obtain⟨V',s',i1,i2,i3,i4,i5,i6⟩:=h
 exact⟨V',s',i1,i2,hb.trans i3,i4.trans h1.1,i5.trans h1.2,hf.trans hb.size i6⟩
set_option maxHeartbeats 2000000 in
theorem Oj(Wb B n:Nat)(V:WV)(s:St)(w:World)(o:Cq)(h:WI w Wb B V s)(hbd:Bd n s)(hn:n≤16384)(h1:(o.k == 10)=true∧s.texts.length=0∨(o.k == 10)=false∧(o.k == 11)=false)(h3:(o.k == 12)=false)(h4:(o.k == 13)=false)(h5:(o.k == 19)=false) :
  Calls Tryz.prog 15 #[.pointer (some ⟨Wb,0,none⟩),.agg o.cells] w fun e w'=>e=.returned (.bool true)∧II (n+1) w w' Wb B V:=by
 have hBs:B≤w.heap.size:=Nat.le_trans h.base (Nat.le_of_lt h.blk.lt)
 have HB:Hid (∀ x,Below w.heap.size w (w.alloc x)):=fun x=>(Below.refl _ _).alloc (Nat.le_refl _) x
 have HT:Hid (∀ x,Calls Tryz.prog 22 #[.pointer (some ⟨Wb,0,none⟩),.slice none 0 0] (w.alloc x) fun e w'=>e=.returned (.tuple #[])∧II n (w.alloc x) w' Wb B V):=fun x=>Mr Wb B n V s (w.alloc x) (h.below (HB.out x)) hbd (by omega)
 obtain⟨k,a,b,c,t⟩:=o
 have hlt:Wb<w.heap.size:=h.blk.lt
 have f2:w.cell? ⟨Wb,2,none⟩=some (.slice V.at_ s.texts.length V.ct):=(h.blk.cell 2).trans rfl
 simp only[Cq.cells] at *
 clear h hbd
 rcases h1 with⟨h1,h0⟩ | ⟨h1,h2⟩
 ·obtain rfl:k=10:=by simpa using h1
  go_enter Tryz.func15,Tryz.ntmps15
  go_wp2_with fail
  refine(AE HT _).mono ?_
  rintro e w' ⟨rfl,V',s',i1,i2,i3,i4,i5,i6⟩
  go_wp2
  go_ret
  exact⟨rfl,V',s',i1,i2.next,((HB.out _).mono hBs).trans i3,i4,i5,Jr.pre (HB.out _) i6⟩
 ·go_enter Tryz.func15,Tryz.ntmps15
  go_wp2_with fail
  refine(AE HT _).mono ?_
  rintro e w' ⟨rfl,V',s',i1,i2,i3,i4,i5,i6⟩
  go_wp2
  go_ret
  exact⟨rfl,V',s',i1,i2.next,((HB.out _).mono hBs).trans i3,i4,i5,Jr.pre (HB.out _) i6⟩
theorem KE{w:World}{base tl ti:Nat}{ao:Option Addr}{cap n:Nat}{vs:List Value}{cs:List (List Int)}(ht:w.ownsRow base tl 1 (.slice ao n cap) cs.length vs)(he:Aq w base ti vs cs)(hb:∀ c∈cs,c.length≤9223372036854775807) :
  ∃ A C,CC w ao A C cs:=by
 refine⟨fun r=>match vs.getD r (.slice none 0 0) with | .slice a _ _=>a | _=>none,fun r=>match vs.getD r (.slice none 0 0) with | .slice _ _ c=>c | _=>0,?_⟩
 rcases ht.2 with⟨hv,h0⟩ | ⟨g,cap',cur,hv,_,hh,_⟩
 ·exact .inl (List.eq_nil_of_length_eq_zero h0)
 ·simp only[Value.slice.injEq] at hv
  obtain⟨rfl,rfl,rfl⟩:=hv
  refine .inr ⟨g,0,rfl,fun r hr=>?_⟩
  obtain⟨u,h1,h2⟩:=he.at r hr
  have h3:=ht.cells (g:=g) rfl r u h1
  rw[Ch] at h3
  obtain⟨a',c',rfl,h4⟩:=JK (cs.getD r []) rfl rfl h2
  have hg:vs.getD r (.slice none 0 0)=.slice a' (cs.getD r []).length c':=by rw[List.getD_eq_getElem?_getD,h1];rfl
  dsimp only
  rw[hg]
  refine⟨h3,BF h4,hb _ ?_⟩
  rw[List.getD_eq_getElem?_getD,List.getElem?_eq_getElem hr]
  exact List.getElem_mem hr
theorem Kx{w:World}{b B e n:Nat}{v:Value}{xs:List Value}(h:w.ownsRow b e 1 v n xs)(hb:B≤b):w.ownsRow B e 1 v n xs:=by
 refine⟨h.1,?_⟩
 rcases h.2 with hn | ⟨g,cap,cur,hv,h1,r⟩
 ·exact .inl hn
 ·exact .inr ⟨g,cap,cur,hv,Nat.le_trans hb h1,r⟩
theorem Ax{w w':World}{b b' e e' n m:Nat}{u v:Value}{xs ys:List Value}(h:w.ownsRow b e 1 u n xs)(h':w'.ownsRow b' e' 1 v m ys)(hb:w.heap.size≤b'):Af v u:=by
 intro j hj hu
 have h1:=(h'.lt j hj).1
 have h2:=(h.lt j hu).2
 omega
theorem bw(xss:List (List Int)):(QE xss).length≤1000:=by
 unfold QE
 split
 ·split
  ·simp
  ·omega
 ·simp
set_option maxHeartbeats 4000000 in
theorem Tx(Wb B n:Nat)(V:WV)(s:St)(w:World)(o:Cq)(hk:o.k=11)(h:WI w Wb B V s)(hbd:Bd n s)(hn:n≤16384)(hB0:0<B)(htab:Hid (Fx w)) :
  Calls Tryz.prog 15 #[.pointer (some ⟨Wb,0,none⟩),.agg o.cells] w fun e w'=>e=.returned (.bool true)∧II (n+1) w w' Wb B V:=by
 obtain⟨k,a,b,c,t⟩:=o
 subst hk
 obtain⟨i0,hi,hz0,hz1,hz2⟩:=info_parts Tryz.infoString
 have hx:=hbd.txs
 have hcl:=hbd.cls
 have hBs:B≤w.heap.size:=Nat.le_trans h.base (Nat.le_of_lt h.blk.lt)
 have d1:Hid (s.texts.length+1≤maxLen):=by show _≤_;unfold maxLen;omega
 have d2:Hid ((s.texts.length+1)*16≤140737488355328):=by show _≤_;omega
 have HW:Hid (∀ x,Calls Tryz.prog 28 #[.slice V.ac s.clauses.length V.cc] (w.alloc x) fun e w'=>e=.returned (.tuple #[.string ⟨(QE s.clauses).toArray⟩,.bool true])∧Below (w.alloc x).heap.size (w.alloc x) w'):=by
  intro x
  have hb:Below w.heap.size w (w.alloc x):=(Below.refl _ _).alloc (Nat.le_refl _) x
  have H1:=h.below hb
  obtain⟨A,C,hr⟩:=KE H1.clt H1.cle (fun c hc=>Nat.le_trans (hbd.cl1 c hc) (by decide))
  exact XW V.ac V.cc A C s.clauses (w.alloc x) (by simp) (Fx.below htab.out hb (by omega)) (by omega) hr (fun c hc=>Nat.le_trans (hbd.cl1 c hc) (by decide))
 have H:=AB h
 have HBD:=AB hbd
 have hlt:Wb<w.heap.size:=h.blk.lt
 have f1:w.cell? ⟨Wb,1,none⟩=some (.slice V.ac s.clauses.length V.cc):=(h.blk.cell 1).trans rfl
 have f2:w.cell? ⟨Wb,2,none⟩=some (.slice V.at_ s.texts.length V.ct):=(h.blk.cell 2).trans rfl
 have htz:(⟨(QE s.clauses).toArray⟩:ByteArray).size≤4194304:=Nat.le_trans (bw s.clauses) (by decide)
 generalize (⟨(QE s.clauses).toArray⟩:ByteArray)=t' at HW htz
 have HTZ:=AB htz
 have HB:Hid (∀ x,Below w.heap.size w (w.alloc x)):=fun x=>(Below.refl _ _).alloc (Nat.le_refl _) x
 simp only[Cq.cells] at *
 clear h hbd htz
 go_enter Tryz.func15,Tryz.ntmps15
 go_wp2_with fail
 refine(AE HW _).mono ?_
 rintro e w2 ⟨rfl,hb2⟩
 have hbw:Below w.heap.size w w2:=(HB.out _).trans (hb2.mono (by simp))
 have H2:=AB (H.out.below hbw)
 have HB2:=AB hbw
 have k2:w2.cell? ⟨Wb,2,none⟩=some (.slice V.at_ s.texts.length V.ct):=(H2.out.blk.cell 2).trans rfl
 have hz2s:w.heap.size≤w2.heap.size:=hbw.size
 clear hb2 hbw f1 f2 HW
 go_wp2_with (first
  | (at_builtin;refine Ap _ rfl (.tmp 94) (.tmp 96) 31 rfl B 9 i0 (.string ByteArray.empty) 16 Tryz.undStrings hi hz0 hz1 hz2 rfl (.slice V.at_ s.texts.length V.ct) s.texts.length (Ia s.texts) rfl (H2.out.tx.alloc _) ⟨w2.heap.size,0,none⟩ 1 1 [.string t'] rfl rfl (AH w2 [.string t'] 9) (by intro u hu;simp at hu;subst hu;rfl) (by decide) d1.out d2.out (by simp;omega) (w2.heap.size+1) (by simp) ?_;intro a3 c3 w4 hown3 hg3 hl3;
        have HR3:Hid (AY w4 Wb 34 (V.cells s)):=B8 (AF H2.out.blk ((Below.refl _ _).alloc (Nat.le_refl _) _)) (H2.out.tx.alloc _) Hc hg3;
        have g2:w4.cell? ⟨Wb,2,none⟩=some (.slice V.at_ s.texts.length V.ct):=(HR3.out.cell 2).trans rfl;
        have g2':=HR3.out.frozen 2;
        have HX3:=AB (IE H2.out HBD.out HB2.out hBs HTZ.out hg3 hl3 (by omega) hown3);clear hown3 hg3 hl3))
 obtain⟨V',s',i1,i2,i3,i4,i5,i6⟩:=HX3.out
 refine(Mr Wb B (n+1) V' s' _ i1 i2 (by omega)).mono ?_
 rintro e w' ⟨rfl,hN⟩
 have HN:=AB (II.trans i3 ⟨i4,i5⟩ i6 hN)
 clear i1 i2 i3 i4 i5 i6 hN HX3
 go_wp2
 go_ret
 exact⟨rfl,HN.out⟩
end Go.Proofs.YthboeppmlhbofaaGreatDoor
