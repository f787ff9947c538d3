import Derived.Test.YthboeppmlhbofaaGreatDoorKep
import Derived.Lib.ConvBytes
import Derived.Test.YthboeppmlhbofaaGreatDoorHag
import Derived.Test.YthboeppmlhbofaaGreatDoorSps
namespace Go.Proofs.YthboeppmlhbofaaGreatDoor
open Go.RowKit Txt
set_option maxRecDepth 100000
theorem Q5{w:World}{B n c k:Nat}{a:Option Addr}{vs:List Value}{cs:List (List Int)}(ht:w.ownsRow B 24 1 (.slice a n c) n vs)(he:Aq w B 3 vs cs)(hk:k<cs.length) :
  ∃ g au cu,a=some ⟨g,0,none⟩∧w.cell? ⟨g,k,none⟩=some (.slice au (cs.getD k []).length cu)∧AS w au (cs.getD k []):=by
 obtain⟨u,h1,h2⟩:=he.at k hk
 obtain⟨au,cu,rfl,h3⟩:=JK (cs.getD k []) rfl rfl h2
 have hl:=he.length
 rcases ht.2 with⟨_,h0⟩ | ⟨g,cap,cur,hv,_⟩
 ·have:=ht.1;omega
 ·simp only[Value.slice.injEq] at hv
  obtain⟨rfl,_,rfl⟩:=hv
  have h4:=ht.cells (g:=g) rfl k _ h1
  rw[Ch,Nat.zero_add] at h4
  exact⟨g,au,cu,rfl,h4,BF h3⟩
set_option maxHeartbeats 2000000 in
theorem WT(Wb B n:Nat)(V:WV)(s:St)(w:World)(h:WI w Wb B V s)(hbd:Bd n s)(hn:n≤20000) :
  Calls Tryz.prog 13 #[.pointer (some ⟨Wb,0,none⟩)] w fun e w'=>e=.returned (.bool true)∧∃ m,w'=w.drewN m:=by
 have hlen:s.outs.length=s.want.length:=by rw[hbd.same]
 have hol:=hbd.outs
 have ho1:=hbd.out1
 have H:=AB h
 have HS:=AB hbd.same
 have HO1:=AB ho1
 have HLN:=AB hlen
 clear h hbd ho1 hlen
 go_enter Tryz.func13,Tryz.ntmps13
 go_wp2
 go_loopw [3] (fun i wr=>∃ k m:Nat,k≤s.outs.length∧i=.int .i64 k∧Hid (wr=w.drewN m)) (fun i _=>s.outs.length - (intOf i).toNat)
 case atStart=>exact⟨0,0,Nat.zero_le _,rfl,rfl⟩
 case round =>
  obtain⟨k,m,hk,rfl,HW⟩:=hrel
  have Hr:Hid (WI wr Wb B V s):=by show WI _ _ _ _ _;rw[HW.out];exact H.out.below (Ef _ _)
  have k4:wr.cell? ⟨Wb,4,none⟩=some (.slice V.ao s.outs.length V.co):=(Hr.out.blk.cell 4).trans rfl
  have k5:wr.cell? ⟨Wb,5,none⟩=some (.slice V.aw s.want.length V.cw):=(Hr.out.blk.cell 5).trans rfl
  by_cases hlt:k<s.outs.length
  ·obtain⟨g1,a1,c1,e1,p1,q1⟩:=Q5 Hr.out.ot Hr.out.oe hlt
   obtain⟨g2,a2,c2,e2,p2,q2⟩:=Q5 Hr.out.wt Hr.out.we (show k<s.want.length by have:=HLN.out;omega)
   rw[e1] at k4
   rw[e2] at k5
   have hlx:(s.outs.getD k []).length≤5000002:=HO1.out _ (by rw[List.getD_eq_getElem?_getD,List.getElem?_eq_getElem hlt];exact List.getElem_mem hlt)
   rw[← HS.out] at p2 q2
   clear e1 e2
   generalize s.outs.getD k []=xs at p1 q1 p2 q2 hlx
   have hcs:∀ n,Calls Tryz.prog 23 #[.slice a1 xs.length c1,.slice a2 xs.length c2] (wr.drewN n) fun e w'=>e=.returned (.bool true)∧∃ m',w'=(wr.drewN n).drewN m':=fun n=>by
    have:=FE a1 a2 c1 c2 xs xs (wr.drewN n) (by omega) (q1.kept fun _ _ _ h=>h) (q2.kept fun _ _ _ h=>h)
    rwa [show Hq xs xs=true by simp[Hq]] at this
   have HCS:=AB hcs
   have hlw:k<s.want.length:=by have:=HLN.out;omega
   clear hcs q1 q2
   have hi1:(0:Int)≤(k:Int):=by omega
   have hi2:(k:Int)<(s.outs.length:Int):=by omega
   have hi3:(k:Int)<(s.want.length:Int):=by omega
   go_wp2
   go_quiet ((go_at_call 23;exact Calls.quiet_of (AE HCS _)))
   go_wp2
   go_roundw
   case rel=>exact⟨k+1,_,by omega,by go_num,by show _=_;rw[HW.out];exact World.drewN_drewN _ _ _⟩
   case measure=>simp[intOf];omega
  ·go_wp2
   go_ret
   exact⟨rfl,m,HW.out⟩
theorem Tryz.infoString:(Tryz.prog.info? 9).map (fun i=>(i.zero,i.size,i.bytes))=some (some (.string ByteArray.empty),1,16):=by kernel_rfl
theorem Tryz.undStrings:Tryz.prog.underlying 31=some (.slice 9):=by kernel_rfl
structure Cq where
 k:Int
 a:Int
 b:Int
 c:Int
 s:ByteArray
def Cq.cells(o:Cq):Array Value:=#[.int .i64 o.k,.int .i64 o.a,.int .i64 o.b,.int .i64 o.c,.string o.s]
structure Cq.Ok(o:Cq):Prop where
 a:-9223372036854775808≤o.a∧o.a≤9223372036854775807
 b:-9223372036854775808≤o.b∧o.b≤9223372036854775807
 s:o.s.size≤16384
def II(n:Nat)(w w':World)(Wb B:Nat)(V:WV):Prop:=∃ V' s',WI w' Wb B V' s'∧Bd n s'∧Below B w w'∧V'.nx=V.nx∧V'.vxs=V.vxs∧Jr w w' Wb V V'
theorem Bd.next{n:Nat}{s:St}(h:Bd n s):Bd (n+1) s :=
 ⟨by have:=h.list;omega,by have:=h.cls;omega,h.cl1,by have:=h.txs;omega,h.tx1,by have:=h.outs;omega,h.out1,by have:=h.mark;omega,h.same⟩
theorem II.stay{n:Nat}{w w':World}{Wb B:Nat}{V:WV}{s:St}(h:WI w Wb B V s)(hb:Bd n s)(hw:Below w.heap.size w w'):II (n+1) w w' Wb B V :=
 ⟨V,s,h.below hw,hb.next,hw.mono (Nat.le_trans h.base (Nat.le_of_lt h.blk.lt)),rfl,rfl,Jr.of Wb V hw⟩
theorem IE{n:Nat}{w0 w w3:World}{Wb B:Nat}{V:WV}{s:St}{t:ByteArray}{a3:Option Addr}{c3 k:Nat}{o:Obj}{p:Prop}(H:WI w Wb B V s)(hbd:Bd n s)(hbs:Below w0.heap.size w0 w)(hB:B≤w0.heap.size)(ht:t.size≤4194304)(hg3:(w.alloc o).grownBy w3 (V.vt s).ownBlock)(hl3:V.vt s=.slice a3 s.texts.length c3∨a3=some ⟨k,0,none⟩∧p)(hk:w0.heap.size≤k)
  (hown3:w3.ownsRow B 9 1 (.slice a3 (s.texts.length+1) c3) (s.texts.length+1) (Ia s.texts++[.string t])):II (n+1) w0 (w3.setCell ⟨Wb,2,none⟩ (.slice a3 (s.texts.length+1) c3)) Wb B V:=by
 have hrow:AY w3 Wb 34 (V.cells s):=B8 (AF H.blk ((Below.refl _ _).alloc (Nat.le_refl _) _)) (H.tx.alloc _) Hc hg3
 have hst:Ia s.texts++[.string t]=Ia (s.texts++[t]):=by simp[Ia]
 have hb:=hbs.mono hB
 refine⟨{ V with at_:=a3,ct:=c3 },{ s with texts:=s.texts++[t] },H.setTexts (GS o (GW (GU hg3) (Eb hrow 2 _))) a3 c3 (s.texts++[t]) ?_ ?_,?_,?_,rfl,rfl,fun b h1 h2 h3=>⟨GO hbs hg3 2 _ h1 h2 h3.t,h3.l,h3.c,Hz h3.t hl3 (by omega),h3.x,h3.o,h3.w,h3.cs,h3.os,h3.ws⟩⟩
 ·rw[Ar];exact hrow.set 2 _
 ·rw[Ar,← hst];exact Cl hrow 2 _ Hc hown3
 ·refine⟨hbd.next.list,hbd.next.cls,hbd.cl1,?_,?_,hbd.next.outs,hbd.out1,hbd.next.mark,hbd.same⟩
  ·show(s.texts++[t]).length≤_
   rw[Ar];have:=hbd.txs;omega
  ·intro x hx
   rcases List.mem_append.1 hx with hx | hx
   ·exact hbd.tx1 x hx
   ·simp at hx;subst hx;exact ht
 ·have hB2:B≤w.heap.size:=Nat.le_trans hB hb.size
  exact((hb.alloc hB2 o).grown hg3 (by simp;omega) (fun j hj=>(H.tx.lt j hj).1)).setCell (p:=⟨Wb,2,none⟩) H.base _
set_option maxHeartbeats 1000000 in
theorem SS(Wb:Nat)(w:World)(o:Cq)(h5:(o.k != 5)=true)(h6:(o.k != 6)=true)(h7:(o.k != 7)=true) :
  Calls Tryz.prog 25 #[.pointer (some ⟨Wb,0,none⟩),.agg o.cells] w fun e w'=>e=.returned (.bool false)∧Below w.heap.size w w':=by
 obtain⟨k,a,b,c,t⟩:=o
 have HN:Hid (∀ x,Below w.heap.size w (w.alloc x)):=fun x=>(Below.refl _ _).alloc (Nat.le_refl _) _
 simp only[Cq.cells] at *
 go_enter Tryz.func25,Tryz.ntmps25
 go_wp2
 go_ret
 exact⟨rfl,HN.out _⟩
set_option maxHeartbeats 2000000 in
theorem SU(Wb B n:Nat)(V:WV)(s:St)(w:World)(o:Cq)(ho:o.Ok)(hk:o.k=5)(h:WI w Wb B V s)(hbd:Bd n s)(hn:n≤20000) :
  Calls Tryz.prog 25 #[.pointer (some ⟨Wb,0,none⟩),.agg o.cells] w fun e w'=>e=.returned (.bool true)∧II (n+1) w w' Wb B V:=by
 obtain⟨k,a,b,c,t⟩:=o
 subst hk
 have hts:t.size≤16384:=ho.s
 obtain⟨i0,hi,hz0,hz1,hz2⟩:=info_parts Tryz.infoString
 have hx:=hbd.txs
 have hBs:B≤w.heap.size:=Nat.le_trans h.base (Nat.le_of_lt h.blk.lt)
 have d1:Hid (s.texts.length+1≤maxLen):=by show _≤_;unfold maxLen;omega
 have d2:Hid ((s.texts.length+1)*16≤140737488355328):=by show _≤_;omega
 have hb1:∀ x,Below w.heap.size w (w.alloc x):=fun x=>(Below.refl _ _).alloc (Nat.le_refl _) x
 have H1:=AB (h.below (hb1 (.cells #[.int .i64 5,.int .i64 a,.int .i64 b,.int .i64 c,.string t] 27)))
 have HBD:=AB hbd
 have f2:(w.alloc (.cells #[.int .i64 5,.int .i64 a,.int .i64 b,.int .i64 c,.string t] 27)).cell? ⟨Wb,2,none⟩=some (.slice V.at_ s.texts.length V.ct):=(H1.out.blk.cell 2).trans rfl
 have hlt:Wb<w.heap.size:=h.blk.lt
 have f2w:w.cell? ⟨Wb,2,none⟩=some (.slice V.at_ s.texts.length V.ct):=(h.blk.cell 2).trans rfl
 simp only[Cq.cells] at *
 clear h hbd ho hb1 f2
 go_enter Tryz.func25,Tryz.ntmps25
 go_wp2_with (first
  | (at_builtin;refine Ap _ rfl (.tmp 102) (.tmp 104) 31 rfl B 9 i0 (.string ByteArray.empty) 16 Tryz.undStrings hi hz0 hz1 hz2 rfl (.slice V.at_ s.texts.length V.ct) s.texts.length (Ia s.texts) rfl (H1.out.tx.alloc _) ⟨w.heap.size+1,0,none⟩ 1 1 [.string t] rfl rfl (FY _ (w.heap.size+1) (by simp) [.string t] 9) (by intro u hu;simp at hu;subst hu;rfl) (by decide) d1.out d2.out (by simp;omega) (w.heap.size+2) (by simp) ?_;intro a3 c3 w3 hown3 hg3 hl3;have HL3:=AB hl3;clear hl3;
        have HR3:Hid (AY w3 Wb 34 (V.cells s)):=B8 (AF H1.out.blk ((Below.refl _ _).alloc (Nat.le_refl _) _)) (H1.out.tx.alloc _) Hc hg3;
        have g2:w3.cell? ⟨Wb,2,none⟩=some (.slice V.at_ s.texts.length V.ct):=(HR3.out.cell 2).trans rfl;
        have g2':=HR3.out.frozen 2))
 go_ret
 exact⟨rfl,IE H1.out HBD.out ((Below.refl _ _).alloc (Nat.le_refl _) _) hBs (by omega) hg3 HL3.out (by omega) hown3⟩
theorem BV{w w':World}{B e s n:Nat}{v:Value}{xs:List Value}(h:w.ownsRow B e s v n xs)(hk:∀ b,v.ownBlock=some b→w'.heap[b]?=w.heap[b]?):w'.ownsRow B e s v n xs:=by
 refine⟨h.1,?_⟩
 rcases h.2 with hn | ⟨g,cap,cur,hv,h1,hg,r⟩
 ·exact .inl hn
 ·exact .inr ⟨g,cap,cur,hv,h1,(hk g (by subst hv;rfl)).trans hg,r⟩
structure aA(d:SE)(v:Vw):Prop where
 r:d.r=v.r
 h:d.h=v.h
 l:d.l=v.l
 hv:d.hv=v.hv
 lits:d.lits=Ad v.hv
 seen:d.seen=v.seen
 lr:d.lr=v.lr
 held:d.held=Ad v.lr
 log:d.log=v.log
 unsat:d.unsat=v.unsat
 pf:d.pf=bA v.pf
structure SX(P:DH) where
 d:SE
 s:P.S
 fx:Nat→Prop
 fy:Nat→Prop
 ag:Option Addr
 cg:Nat
 vgs:List Value
 given:List (List Int)
def SE.vh(d:SE):Value:=.slice d.ah d.hv.length d.ch
def SE.vl(d:SE):Value:=.slice d.al d.lr.length d.cl
def SX.vg{P:DH}(q:SX P):Value:=.slice q.ag q.given.length q.cg
def SX.J{P:DH}(q:SX P)(b:Nat):Prop:=b=q.d.cb∨q.vg.ownBlock=some b∨q.d.vh.ownBlock=some b∨q.d.vl.ownBlock=some b∨∃ u∈q.vgs,u.ownBlock=some b
def SX.At{P:DH}(q:SX P)(b:Nat):Prop:=q.J b∨q.fx b∨q.fy b
structure Ii{P:DH}(w:World)(B:Nat)(q:SX P):Prop where
 js:JS w B q.d
 vgE:q.d.vg=q.vg
 gv:w.ownsRow B 24 1 q.vg q.given.length q.vgs
 ge:Aq w B 3 q.vgs q.given
 gh:∀ u∈q.vgs,Af u q.d.vh∧Af u q.d.vl
 x:P.At w q.d.gx q.s q.fx
 y:P.At w q.d.gy q.s q.fy
 fb:∀ b,q.fx b∨q.fy b→B≤b∧¬ q.J b
 xy:∀ b,q.fx b→¬ q.fy b
 ok:P.Ok q.s
 e:aA q.d (P.vw q.s)
theorem JS.frame{w w':World}{B:Nat}{d:SE}(h:JS w B d)(hc:w'.heap[d.cb]?=w.heap[d.cb]?)(h1:∀ b,d.vh.ownBlock=some b→w'.heap[b]?=w.heap[b]?)(h2:∀ b,d.vl.ownBlock=some b→w'.heap[b]?=w.heap[b]?):JS w' B d :=
 ⟨⟨hc.trans h.ji.blk,BV h.ji.hv h1,BV h.ji.lr h2,h.ji.top,h.ji.len⟩,h.ap,h.base⟩
theorem Ii.frame{P:DH}{w w':World}{B:Nat}{q:SX P}(h:Ii w B q)(hk:∀ b,q.At b→w'.heap[b]?=w.heap[b]?):Ii w' B q :=
 ⟨h.js.frame (hk _ (.inl (.inl rfl))) (fun b e=>hk b (.inl (.inr (.inr (.inl e))))) (fun b e=>hk b (.inl (.inr (.inr (.inr (.inl e)))))),h.vgE,BV h.gv (fun b e=>hk b (.inl (.inr (.inl e)))),
  h.ge.map (fun u hu _ _ ho=>BV ho (fun b e=>hk b (.inl (.inr (.inr (.inr (.inr ⟨u,hu,e⟩))))))),h.gh,P.frame h.x (fun b e=>hk b (.inr (.inl e))),P.frame h.y (fun b e=>hk b (.inr (.inr e))),h.fb,h.xy,h.ok,h.e⟩
theorem Ii.ltJ{P:DH}{w:World}{B:Nat}{q:SX P}(h:Ii w B q){b:Nat}(hb:q.J b):B≤b∧b<w.heap.size:=by
 rcases hb with rfl | e | e | e | ⟨u,hu,e⟩
 ·exact⟨h.js.base,h.js.ji.blk.lt⟩
 ·exact h.gv.lt b e
 ·exact h.js.ji.hv.lt b e
 ·exact h.js.ji.lr.lt b e
 ·obtain⟨xs,hx⟩:=h.ge.mem hu
  exact hx.lt b e
theorem Ii.lt{P:DH}{w:World}{B:Nat}{q:SX P}(h:Ii w B q){b:Nat}(hb:q.At b):B≤b∧b<w.heap.size:=by
 rcases hb with hb | hb | hb
 ·exact h.ltJ hb
 ·exact⟨(h.fb b (.inl hb)).1,P.lt h.x b hb⟩
 ·exact⟨(h.fb b (.inr hb)).1,P.lt h.y b hb⟩
theorem Ii.below{P:DH}{w w':World}{B:Nat}{q:SX P}(h:Ii w B q)(hb:Below w.heap.size w w'):Ii w' B q:=h.frame (fun b hd=>hb.block b (h.lt hd).2)
set_option maxHeartbeats 8000000 in
theorem DL(P:DH)(d:SE)(g:Nat)(s:P.S)(F:Nat→Prop)(w:World)(hr:AY w d.cb 44 d.cells)(h:P.At w g s F)(hok:P.Ok s)(hE:aA d (P.vw s))(hn:d.hv.length≤1000000) :
  Calls Tryz.prog 20 #[.pointer (some ⟨d.cb,0,none⟩),.pointer (some ⟨g,0,none⟩)] w fun e w'=>e=.returned (.bool true)∧Below w.heap.size w w':=by
 have hbd:=P.bd hok
 have hsl:d.seen<1048576:=by rw[hE.seen];exact hbd.seen
 have HS:Hid (∀ w,Calls Tryz.prog 34 #[.int .i64 d.seen] w fun e w'=>e=.returned (.int .i64 (AG d.seen:Nat))∧w'=w):=fun w=>Fu d.seen hsl w
 have hc:=P.countsC h hok (by rw[← hE.hv];exact hn)
 rw[← hE.seen,← hE.lits,← hE.held,← hE.hv,← hE.lr,← hE.log,← hE.unsat] at hc
 have HC:=AB hc
 have HP:Hid (∀ w',Below w.heap.size w w'→Calls Tryz.prog 38 #[.pointer (some ⟨g,0,none⟩)] w' fun e w''=>e=.returned (.string d.pf)∧Below w'.heap.size w' w''):=fun w' hb=>by
  have:=P.proofC (P.below h hb) hok
  rwa [← hE.pf] at this
 generalize AG d.seen=cv at *
 have HR:=AB hr
 have hlt:d.cb<w.heap.size:=hr.lt
 clear h hok hE hr hc hbd hsl
 go_enter Tryz.func20,Tryz.ntmps20
 go_wp2_with fail
 refine(AE HC).mono ?_
 rintro e w2 ⟨rfl,hb2⟩
 have hs2:w.heap.size≤w2.heap.size:=hb2.size
 have HB2:Hid (∀ x,Below w.heap.size w (w2.alloc x)):=fun x=>hb2.alloc hb2.size x
 clear hb2 HC
 go_wp2_with fail
 have q:=fun j u hu=>AH w2 [.int .i64 (cv:Nat),.int .i64 (d.hv.length:Nat),.int .i64 (d.lits:Nat),.int .i64 (d.lr.length:Nat),.int .i64 (d.held:Nat),.int .i64 (d.log:Nat),.int .i64 (d.unsat:Nat)] 66 j u hu
 have q0:=q 0 _ rfl
 have q1:=q 1 _ rfl
 have q2:=q 2 _ rfl
 have q3:=q 3 _ rfl
 have q4:=q 4 _ rfl
 have q5:=q 5 _ rfl
 have q6:=q 6 _ rfl
 rw[Ch] at q0 q1 q2 q3 q4 q5 q6
 simp only[Nat.zero_add] at q0 q1 q2 q3 q4 q5 q6
 have hbb:=HB2.out (.cells #[.int .i64 (cv:Nat),.int .i64 (d.hv.length:Nat),.int .i64 (d.lits:Nat),.int .i64 (d.lr.length:Nat),.int .i64 (d.held:Nat),.int .i64 (d.log:Nat),.int .i64 (d.unsat:Nat)] 66)
 refine(AE HP _ (HB2.out _)).mono ?_
 clear q
 generalize w2.alloc (.cells #[.int .i64 (cv:Nat),.int .i64 (d.hv.length:Nat),.int .i64 (d.lits:Nat),.int .i64 (d.lr.length:Nat),.int .i64 (d.held:Nat),.int .i64 (d.log:Nat),.int .i64 (d.unsat:Nat)] 66)=w3 at *
 rintro e w4 ⟨rfl,hb4⟩
 have hbz:Below w.heap.size w w4:=hbb.trans (hb4.mono hbb.size)
 have t0:=(hb4.cell (p:=⟨w2.heap.size,0,none⟩) (World.block_lt_of_cell? w3 _ q0)).trans q0
 have t1:=(hb4.cell (p:=⟨w2.heap.size,1,none⟩) (World.block_lt_of_cell? w3 _ q1)).trans q1
 have t2:=(hb4.cell (p:=⟨w2.heap.size,2,none⟩) (World.block_lt_of_cell? w3 _ q2)).trans q2
 have t3:=(hb4.cell (p:=⟨w2.heap.size,3,none⟩) (World.block_lt_of_cell? w3 _ q3)).trans q3
 have t4:=(hb4.cell (p:=⟨w2.heap.size,4,none⟩) (World.block_lt_of_cell? w3 _ q4)).trans q4
 have t5:=(hb4.cell (p:=⟨w2.heap.size,5,none⟩) (World.block_lt_of_cell? w3 _ q5)).trans q5
 have t6:=(hb4.cell (p:=⟨w2.heap.size,6,none⟩) (World.block_lt_of_cell? w3 _ q6)).trans q6
 have R:=AB (AF HR.out hbz)
 have c6:w4.cell? ⟨d.cb,6,none⟩=some (.slice d.ah d.hv.length d.ch):=(R.out.cell 6).trans rfl
 have c7:w4.cell? ⟨d.cb,7,none⟩=some (.int .i64 d.lits):=(R.out.cell 7).trans rfl
 have c8:w4.cell? ⟨d.cb,8,none⟩=some (.int .i64 d.seen):=(R.out.cell 8).trans rfl
 have c9:w4.cell? ⟨d.cb,9,none⟩=some (.slice d.al d.lr.length d.cl):=(R.out.cell 9).trans rfl
 have c10:w4.cell? ⟨d.cb,10,none⟩=some (.int .i64 d.held):=(R.out.cell 10).trans rfl
 have c11:w4.cell? ⟨d.cb,11,none⟩=some (.int .i64 d.log):=(R.out.cell 11).trans rfl
 have c12:w4.cell? ⟨d.cb,12,none⟩=some (.int .i64 d.unsat):=(R.out.cell 12).trans rfl
 have c13:w4.cell? ⟨d.cb,13,none⟩=some (.string d.pf):=(R.out.cell 13).trans rfl
 have HBB:=AB hbz
 clear hbb hb4 hbz HB2 HP HR R q0 q1 q2 q3 q4 q5 q6
 go_wp2_with (go_at_call 34;refine(AE HS _).mono ?_;rintro e w' ⟨rfl,hw⟩;obtain rfl:=hw.symm)
 go_quiet (fail)
 go_wp2
 go_quiet (fail)
 go_wp2
 go_ret
 exact⟨rfl,below_drewN (below_drewN HBB.out _) _⟩
theorem Vz{w w':World}{a:Option Addr}{xs:List Int}(h:AS w a xs)(hk:∀ g,a=some g→w'.heap[g.block]?=w.heap[g.block]?):AS w' a xs:=by
 rcases h with h | ⟨b,off,rfl,h⟩
 ·exact .inl h
 ·exact .inr ⟨b,off,rfl,fun j hj=>(World.cell?_of_block (a:=⟨b,off+j,none⟩) (hk ⟨b,off,none⟩ rfl)).trans (h j hj)⟩
theorem YL{w:World}{a:Option Addr}{xs:List Int}(h:AS w a xs)(hp:0<xs.length)(g:Addr)(e:a=some g):g.block<w.heap.size:=by
 obtain⟨b,off,rfl,hc⟩:=h.get hp
 simp only[Option.some.injEq] at e
 subst e
 exact World.block_lt_of_cell? w _ (hc 0 hp)
theorem Dk{P:Nat→Prop}{w w':World}{a:Option Addr}{xs:List Int}(h:AS w a xs)(hc:CM P w w')(hd:∀ g,a=some g→¬ P g.block):AS w' a xs:=by
 by_cases hp:0<xs.length
 ·exact Vz h (fun g e=>hc.block g.block (YL h hp g e) (hd g e))
 ·exact .inl (List.eq_nil_of_length_eq_zero (by omega))
theorem CM.toBelow{P:Nat→Prop}{w w':World}{B:Nat}(h:CM P w w')(hB:B≤w.heap.size)(hp:∀ b,P b→B≤b):Below B w w' :=
 ⟨h.os,h.tape,h.output,h.size,fun k hk=>h.block k (by omega) (fun hq=>by have:=hp k hq;omega)⟩
def SX.XY{P:DH}(q:SX P)(b:Nat):Prop:=q.fx b∨q.fy b
structure PA{P:DH}(w w5:World)(q:SX P)(s:P.S)(fx fy:Nat→Prop):Prop where
 x:P.At w5 q.d.gx s fx
 y:P.At w5 q.d.gy s fy
 chg:CM q.XY w w5
 nx:∀ b,fx b→q.fx b∨w.heap.size≤b
 ny:∀ b,fy b→q.fy b∨w.heap.size≤b
 xy:∀ b,fx b→¬ fy b
theorem Ii.yAt{P:DH}{w w4:World}{B:Nat}{q:SX P}(h:Ii w B q)(c:CM q.fx w w4):P.At w4 q.d.gy q.s q.fy:=P.frame h.y (fun b hb=>c.block b (P.lt h.y b hb) (fun hq=>h.xy b hq hb))
theorem db{P:DH}{w w1 w2 w3 w4 w5:World}{B k:Nat}{q:SX P}{s:P.S}{fx fy:Nat→Prop}(h:Ii w B q)(hb1:Below w.heap.size w w1)(hk:k=w.heap.size)(hk1:k<w1.heap.size)
  (x2:P.At w2 q.d.gx s fx) (c2:CM q.fx w1 w2) (n2:∀ b,fx b→q.fx b∨w1.heap.size≤b) (g3:w2.grownBy w3 (some k)) (hb4:Below w3.heap.size w3 w4) (y5:P.At w5 q.d.gy s fy) (c5:CM q.fy w4 w5) (n5:∀ b,fy b→q.fy b∨w4.heap.size≤b):PA w w5 q s fx fy:=by
 have z1:=hb1.size
 have z2:=c2.size
 have z3:=g3.size
 have z4:=hb4.size
 have xl:=P.lt h.x
 have yl:=P.lt h.y
 have c1:CM q.XY w w1:=CM.of hb1
 have c12:CM q.XY w w2:=⟨c2.os.trans c1.os,c2.tape.trans c1.tape,c2.output.trans c1.output,Nat.le_trans c1.size c2.size,fun j hj hn=>(c2.block j (by omega) (fun hq=>hn (.inl hq))).trans (c1.block j hj hn)⟩
 have c3:CM q.XY w w3:=c12.grown g3 (fun b e=>.inr (by simp only[Option.some.injEq] at e;omega))
 have c4:=c3.below hb4
 have c45:CM q.XY w w5:=⟨c5.os.trans c4.os,c5.tape.trans c4.tape,c5.output.trans c4.output,Nat.le_trans c4.size c5.size,fun j hj hn=>(c5.block j (by omega) (fun hq=>hn (.inr hq))).trans (c4.block j hj hn)⟩
 have x2l:=P.lt x2
 have x3:P.At w3 q.d.gx s fx:=P.frame x2 (fun b hb=>g3.block b (x2l b hb) (fun e=>by
  simp only[Option.some.injEq] at e
  rcases n2 b hb with hq | hq
  ·have:=xl b hq;omega
  ·omega))
 have x4:=P.below x3 hb4
 have x4l:=P.lt x4
 refine⟨P.frame x4 (fun b hb=>c5.block b (x4l b hb) (fun hq=>?_)),y5,c45,fun b hb=>(n2 b hb).imp id (fun q=>by omega),fun b hb=>(n5 b hb).imp id (fun q=>by omega),fun b hb hb'=>?_⟩
 ·rcases n2 b hb with e | e
  ·exact h.xy b e hq
  ·have:=yl b hq;omega
 ·rcases n5 b hb' with e | e
  ·rcases n2 b hb with e2 | e2
   ·exact h.xy b e2 e
   ·have:=yl b e;omega
  ·have:=x4l b hb;omega
structure Sm{P:DH}(w w':World)(B:Nat)(q q':SX P)(xs:List Int):Prop where
 i:Ii w' B q'
 cb:q'.d.cb=q.d.cb
 chg:CM q.At w w'
 at_:∀ b,q'.At b→q.At b∨w.heap.size≤b
 nh:q'.d.hv.length≤q.d.hv.length+1
 gl:q'.given.length≤q.given.length+1
 g1:∀ g∈q'.given,g∈q.given∨g=xs
theorem Sm.below{P:DH}{w w5 w6:World}{B:Nat}{q q':SX P}{xs:List Int}(h:Sm w w5 B q q' xs)(hb:Below w5.heap.size w5 w6):Sm w w6 B q q' xs :=
 ⟨h.i.below hb,h.cb,h.chg.below hb,h.at_,h.nh,h.gl,h.g1⟩
theorem Ii.jAt{P:DH}{w w5:World}{B:Nat}{q:SX P}(h:Ii w B q)(c:CM q.XY w w5):∀ b,q.J b→w5.heap[b]?=w.heap[b]?:=fun b hb=>c.block b (h.ltJ hb).2 (fun hq=>(h.fb b hq).2 hb)
theorem PA.sol{P:DH}{w w5:World}{B:Nat}{q:SX P}{s:P.S}{fx fy:Nat→Prop}(t:PA w w5 q s fx fy)(h:Ii w B q)(hB:B≤w.heap.size)(hok:P.Ok s)(he:P.vw s=P.vw q.s):Ii w5 B { q with s:=s,fx:=fx,fy:=fy }:=by
 have k:=h.jAt t.chg
 refine⟨h.js.frame (k _ (.inl rfl)) (fun b e=>k b (.inr (.inr (.inl e)))) (fun b e=>k b (.inr (.inr (.inr (.inl e))))),h.vgE,BV h.gv (fun b e=>k b (.inr (.inl e))),h.ge.map (fun u hu _ _ ho=>BV ho (fun b e=>k b (.inr (.inr (.inr (.inr ⟨u,hu,e⟩)))))),h.gh,t.x,t.y,fun b hb=>?_,t.xy,hok,by show aA _ (P.vw s);rw[he];exact h.e⟩
 have key:q.XY b∨w.heap.size≤b:=by
  rcases hb with hb | hb
  ·exact(t.nx b hb).imp .inl id
  ·exact(t.ny b hb).imp .inr id
 rcases key with hq | hq
 ·exact h.fb b hq
 ·exact⟨by omega,fun hj=>by have:=(h.ltJ hj).2;omega⟩
theorem PA.solN{P:DH}{w w5:World}{B:Nat}{q:SX P}{s:P.S}{fx fy:Nat→Prop}(t:PA w w5 q s fx fy)(h:Ii w B q)(hB:B≤w.heap.size)(hok:P.Ok s)(he:P.vw s=P.vw q.s)(xs:List Int):Sm w w5 B q { q with s:=s,fx:=fx,fy:=fy } xs:=by
 refine⟨t.sol h hB hok he,rfl,t.chg.mono (fun _ _ hq=>.inr hq),fun b hb=>?_,Nat.le_succ _,Nat.le_succ _,fun g hg=>.inl hg⟩
 rcases hb with hb | hb | hb
 ·exact .inl (.inl hb)
 ·exact(t.nx b hb).imp (fun e=>.inr (.inl e)) id
 ·exact(t.ny b hb).imp (fun e=>.inr (.inr e)) id
theorem bM{k:Tk}{xs:List Int}(h:k.takes?=false):k.ret xs=.tuple #[.int .i64 0,.bool false,.int .i64 (OQ k)]:=by
 cases k <;> first | rfl | simp[Tk.takes?] at h
theorem Vw.add_no{v:Vw}{xs:List Int}(h:(Aw xs (Ad v.hv)).takes?=false):v.add xs=v:=by unfold Vw.add;rw[h];rfl
set_option maxHeartbeats 8000000 in
theorem LY(P:DH)(B:Nat)(q:SX P)(a:Option Addr)(c:Nat)(xs:List Int)(w:World)(h:Ii w B q)(hi:AS w a xs)(hd:∀ g,a=some g→¬ q.At g.block)(hx:xs.length≤100000)(hB:B≤w.heap.size)(hn:q.d.hv.length≤100000)(hk:(Aw xs q.d.lits).takes?=false) :
  Calls Tryz.prog 18 #[.pointer (some ⟨q.d.cb,0,none⟩),.slice a xs.length c] w fun e w'=>e=.returned (.bool true)∧∃ q',Sm w w' B q q' xs:=by
 have hbd:=P.bd h.ok
 have hlits:q.d.lits=Ad (P.vw q.s).hv:=h.e.lits
 have hnv:(P.vw q.s).hv.length≤1000000:=by rw[← h.e.hv];omega
 have hv1:P.vw (P.add q.s xs)=P.vw q.s:=by rw[(P.addV q.s xs h.ok).2];exact Vw.add_no (by rw[← hlits];exact hk)
 have hok1:=(P.addV q.s xs h.ok).1
 have HSP:Hid (∀ w',AS w' a xs→Calls Tryz.prog 24 #[.slice a xs.length c] w' fun e w''=>e=.returned (.slice (some ⟨w'.heap.size,0,none⟩) xs.length (xs.length+2))∧AY w'' w'.heap.size 3 (AO xs++Bx)∧Below w'.heap.size w' w''):=fun w' hi=>IB a c xs w' (by omega) hi
 have HTK:Hid (∀ w',AS w' a xs→Calls Tryz.prog 32 #[.slice a xs.length c,.int .i64 q.d.lits] w' fun e w''=>e=.returned (.tuple #[.int .i64 0,.bool false,.int .i64 (OQ (Aw xs q.d.lits))])∧w''=w'):=fun w' hi=>by
  have:=Ll a c xs q.d.lits w' (by omega) (by rw[hlits];have:=hbd.lits;omega) hi
  rwa [bM hk] at this
 have HAD:Hid (∀ (w':World) (g k:Nat) (F:Nat→Prop),P.At w' g q.s F→AS w' (some ⟨k,0,none⟩) xs→¬ F k→Calls Tryz.prog 30 #[.pointer (some ⟨g,0,none⟩),.slice (some ⟨k,0,none⟩) xs.length (xs.length+2)] w' fun e w''=>e=.returned (.int .i64 (OQ (Aw xs q.d.lits)))∧Z9 P.At F w' w'' g (P.add q.s xs) fun _=>True):=fun w' g k F h1 h2 h3=>by
  have:=P.addC (some ⟨k,0,none⟩) (xs.length+2) xs h1 h.ok h2 (fun ad e=>by simp only[Option.some.injEq] at e;subst e;exact h3) hx hnv
  rwa [← hlits] at this
 have HND:=AB hd
 have HI:=AB hi
 have H:=AB h
 have HV1:=AB hv1
 have HOK1:=AB hok1
 have HNM:Hid (∀ n w,Calls Tryz.prog 33 #[.int .i64 n] w fun e w'=>e=.returned (.int .i64 n)∧w'=w):=fun n w=>G8 n w
 clear hd hi h hk hbd hlits hnv hv1 hok1
 go_enter Tryz.func18,Tryz.ntmps18
 go_wp2_with fail
 refine(AE HSP _ HI.out).mono ?_
 rintro e w1 ⟨rfl,hr1,hb1⟩
 have HR1:=AB hr1
 have HB1:=AB hb1
 have c0:w1.cell? ⟨q.d.cb,0,none⟩=some (.pointer (some ⟨q.d.gx,0,none⟩)):=((AF H.out.js.ji.blk hb1).cell 0).trans rfl
 have hxl:∀ b,q.fx b→b<w.heap.size:=P.lt H.out.x
 have HA:=AB (HAD.out w1 q.d.gx w.heap.size q.fx (P.below H.out.x hb1) (EE xs w1 _ hr1) (fun hq=>by have:=hxl _ hq;omega))
 clear hr1 hb1
 go_wp2_with fail
 refine(AE HA).mono ?_
 rintro e w2 ⟨rfl,fx',x2,k2,l2,_⟩
 have hq1:w.heap.size<w1.heap.size:=HR1.out.lt
 have hr2:AY w2 w.heap.size 3 (AO xs++Bx):=(k2.block _ hq1 (fun hq=>by have:=hxl _ hq;omega)).trans HR1.out
 have ch2:CM q.fx w w2:=(CM.of HB1.out).trans ⟨k2.os,k2.tape,k2.output,k2.size,k2.block⟩
 have hi2:=Dk HI.out ch2 (fun g e hq=>HND.out g e (.inr (.inl hq)))
 have HST:=AB (IC w.heap.size a c xs w2 (by omega) hr2 hi2)
 have CH2:=AB ch2
 have K2:=AB k2
 have X2:=AB x2
 have L2:=AB l2
 clear hr2 ch2 hi2 k2 x2 l2 HA c0
 go_wp2_with fail
 refine(AE HST).mono ?_
 rintro e w3 ⟨rfl,g3⟩
 have ch3:CM q.fx w w3:=CH2.out.grown g3 (fun b e=>.inr (by simp only[Option.some.injEq] at e;omega))
 have hi3:=Dk HI.out ch3 (fun g e hq=>HND.out g e (.inr (.inl hq)))
 have CH3:=AB ch3
 have HI3:=AB hi3
 have G3:=AB g3
 clear ch3 hi3 g3 HST CH2
 go_wp2_with fail
 refine(AE HSP _ HI3.out).mono ?_
 rintro e w4 ⟨rfl,hr4,hb4⟩
 have ch4:CM q.fx w w4:=CH3.out.below hb4
 have r4:AY w4 q.d.cb 44 q.d.cells:=(ch4.block _ H.out.js.ji.blk.lt (fun hq=>(H.out.fb _ (.inl hq)).2 (.inl rfl))).trans H.out.js.ji.blk
 have c1:w4.cell? ⟨q.d.cb,1,none⟩=some (.pointer (some ⟨q.d.gy,0,none⟩)):=(r4.cell 1).trans rfl
 have hyl:∀ b,q.fy b→b<w.heap.size:=P.lt H.out.y
 have hz3:w.heap.size≤w3.heap.size:=CH3.out.size
 have HA:=AB (HAD.out w4 q.d.gy w3.heap.size q.fy (H.out.yAt ch4) (EE xs w4 _ hr4) (fun hq=>by have:=hyl _ hq;omega))
 have HB4:=AB hb4
 clear hr4 hb4 ch4 r4
 go_wp2_with fail
 refine(AE HA).mono ?_
 rintro e w5 ⟨rfl,fy',y5,k5,l5,_⟩
 have T:=AB (db H.out HB1.out rfl hq1 X2.out K2.out L2.out G3.out HB4.out y5 k5 l5)
 have hi5:=Dk HI.out T.out.chg (fun g e hq=>HND.out g e (.inr hq))
 have HI5:=AB hi5
 have N5:=AB (T.out.solN H.out hB HOK1.out HV1.out xs)
 have r5:=N5.out.i.js.ji.blk
 have d0:w5.cell? ⟨q.d.cb,0,none⟩=some (.pointer (some ⟨q.d.gx,0,none⟩)):=(r5.cell 0).trans rfl
 have d7:w5.cell? ⟨q.d.cb,7,none⟩=some (.int .i64 q.d.lits):=(r5.cell 7).trans rfl
 have HRD:=AB (DL P q.d q.d.gx (P.add q.s xs) fx' w5 r5 N5.out.i.x N5.out.i.ok N5.out.i.e (by omega))
 clear y5 k5 l5 hi5 r5 HA c1 K2 X2 L2 G3 HB4 CH3 HI3 HB1 HR1 HAD
 generalize OQ (Aw xs q.d.lits)=E at *
 go_wp2_with (first
  | (go_at_call 32;refine(AE HTK _ HI5.out).mono ?_;rintro e w' ⟨rfl,hw⟩;obtain rfl:=hw.symm)
  | (go_at_call 33;refine(AE HNM _ _).mono ?_;rintro e w' ⟨rfl,hw⟩;obtain rfl:=hw.symm))
 refine(AE HRD).mono ?_
 rintro e w6 ⟨rfl,hb6⟩
 have HN:=AB (N5.out.below hb6)
 clear hb6
 go_wp2
 go_ret
 exact⟨rfl,_,HN.out⟩
theorem JO{w:World}{B n c k:Nat}{a:Option Addr}{ts:List ByteArray}(ht:w.ownsRow B 9 1 (.slice a n c) n (Ia ts))(hk:k<ts.length) :
  ∃ g,a=some ⟨g,0,none⟩∧w.cell? ⟨g,k,none⟩=some (.string (ts.getD k ByteArray.empty)):=by
 have hl:(Ia ts).length=ts.length:=by simp[Ia]
 rcases ht.2 with⟨_,h0⟩ | ⟨g,cap,cur,hv,_⟩
 ·have:=ht.1;omega
 ·simp only[Value.slice.injEq] at hv
  obtain⟨rfl,_,rfl⟩:=hv
  have h4:=ht.cells (g:=g) rfl k (.string (ts.getD k ByteArray.empty)) (by simp[Ia,List.getElem?_eq_getElem hk,List.getD])
  rw[Ch,Nat.zero_add] at h4
  exact⟨g,rfl,h4⟩
set_option maxHeartbeats 1000000 in
theorem LN(Wb B n:Nat)(V:WV)(s:St)(w:World)(o:Cq)(hk:o.k=6∨o.k=7)(h:WI w Wb B V s)(hbd:Bd n s)(h0:s.texts.length=0) :
  Calls Tryz.prog 25 #[.pointer (some ⟨Wb,0,none⟩),.agg o.cells] w fun e w'=>e=.returned (.bool true)∧II (n+1) w w' Wb B V:=by
 obtain⟨k,a,b,c,t⟩:=o
 have HN:Hid (∀ x,II (n+1) w (w.alloc x) Wb B V):=fun x=>II.stay h hbd ((Below.refl _ _).alloc (Nat.le_refl _) _)
 have hlt:Wb<w.heap.size:=h.blk.lt
 have f2w:w.cell? ⟨Wb,2,none⟩=some (.slice V.at_ 0 V.ct):=(h.blk.cell 2).trans (by simp only[WV.cells,WV.vt,h0];rfl)
 simp only[Cq.cells] at *
 clear h hbd h0
 rcases hk with rfl|rfl
 ·go_enter Tryz.func25,Tryz.ntmps25
  go_wp2
  go_ret
  exact⟨rfl,HN.out _⟩
 ·go_enter Tryz.func25,Tryz.ntmps25
  go_wp2
  go_ret
  exact⟨rfl,HN.out _⟩
set_option maxHeartbeats 4000000 in
theorem SQ(Wb B n:Nat)(V:WV)(s:St)(w:World)(o:Cq)(ho:o.Ok)(hk:o.k=7)(h:WI w Wb B V s)(hbd:Bd n s)(hn:n≤20000)(h0:0<s.texts.length) :
  Calls Tryz.prog 25 #[.pointer (some ⟨Wb,0,none⟩),.agg o.cells] w fun e w'=>e=.returned (.bool true)∧II (n+1) w w' Wb B V:=by
 obtain⟨k,a,b,c,t⟩:=o
 subst hk
 obtain⟨i0,hi,hz0,hz1,hz2⟩:=info_parts Tryz.infoString
 have hx:=hbd.txs
 have hBs:B≤w.heap.size:=Nat.le_trans h.base (Nat.le_of_lt h.blk.lt)
 have d1:Hid (s.texts.length+1≤maxLen):=by show _≤_;unfold maxLen;omega
 have d2:Hid ((s.texts.length+1)*16≤140737488355328):=by show _≤_;omega
 have p1:=fun w=>DV a s.texts.length w h0 (by omega) ho.a.1 ho.a.2
 have p2:=fun w=>DV b s.texts.length w h0 (by omega) ho.b.1 ho.b.2
 have l1:=DU a s.texts.length h0
 have l2:=DU b s.texts.length h0
 generalize Er a s.texts.length=j1 at p1 l1
 generalize Er b s.texts.length=j2 at p2 l2
 obtain⟨g,eg,c1⟩:=JO h.tx l1
 obtain⟨g',eg',c2⟩:=JO h.tx l2
 have:g'=g:=by rw[eg] at eg';simpa using eg'.symm
 subst this
 have s1:=hbd.tx1 (s.texts.getD j1 ByteArray.empty) (by rw[List.getD_eq_getElem?_getD,List.getElem?_eq_getElem l1];exact List.getElem_mem l1)
 have s2:=hbd.tx1 (s.texts.getD j2 ByteArray.empty) (by rw[List.getD_eq_getElem?_getD,List.getElem?_eq_getElem l2];exact List.getElem_mem l2)
 generalize s.texts.getD j1 ByteArray.empty=t1 at c1 s1
 generalize s.texts.getD j2 ByteArray.empty=t2 at c2 s2
 have H:=AB h
 have HBD:=AB hbd
 have P1:=AB p1
 have P2:=AB p2
 have hlt:Wb<w.heap.size:=h.blk.lt
 have hgt:g'<w.heap.size:=World.block_lt_of_cell? w _ c1
 have f2w:w.cell? ⟨Wb,2,none⟩=some (.slice (some ⟨g',0,none⟩) s.texts.length V.ct):=(h.blk.cell 2).trans (by simp only[WV.cells,WV.vt,eg];rfl)
 have HEG:=AB eg
 simp only[Cq.cells] at *
 clear h hbd ho p1 p2 eg eg'
 have q1:(0:Int)≤(j1:Int):=by omega
 have q2:(0:Int)≤(j2:Int):=by omega
 have q3:(j1:Int)<(s.texts.length:Int):=by omega
 have q4:(j2:Int)<(s.texts.length:Int):=by omega
 go_enter Tryz.func25,Tryz.ntmps25
 go_wp2
 go_quiet ((go_at_call 16;exact Calls.quiet_of_same (AE P1 _)))
 go_wp2_with fail
 have e1:=AH w [.int .i64 7,.int .i64 a,.int .i64 b,.int .i64 c,.string t] 27 2 (.int .i64 b) rfl
 have hbw:Below w.heap.size w ((w.alloc (.cells #[.int .i64 7,.int .i64 a,.int .i64 b,.int .i64 c,.string t] 27)).drewN nq):=below_drewN ((Below.refl _ _).alloc (Nat.le_refl _) _) _
 have e2:((w.alloc (.cells #[.int .i64 7,.int .i64 a,.int .i64 b,.int .i64 c,.string t] 27)).drewN nq).cell? ⟨w.heap.size,2,none⟩=some (.int .i64 b):=e1
 have e3:((w.alloc (.cells #[.int .i64 7,.int .i64 a,.int .i64 b,.int .i64 c,.string t] 27)).drewN nq).heap.size=w.heap.size+1:=by simp
 generalize (w.alloc (.cells #[.int .i64 7,.int .i64 a,.int .i64 b,.int .i64 c,.string t] 27)).drewN nq=w1 at *
 have H1:=AB (H.out.below hbw)
 have f2:w1.cell? ⟨Wb,2,none⟩=some (.slice (some ⟨g',0,none⟩) s.texts.length V.ct):=(H1.out.blk.cell 2).trans (by simp only[WV.cells,WV.vt,HEG.out];rfl)
 have c2':w1.cell? ⟨g',j2,none⟩=some (.string t2):=(hbw.cell (p:=⟨g',j2,none⟩) hgt).trans c2
 have HBW:=AB hbw
 clear e1 f2w c1 c2 hbw
 go_wp2
 go_quiet ((go_at_call 16;exact Calls.quiet_of_same (AE P2 _)))
 have hb2:Below w.heap.size w (w1.drewN nq):=below_drewN HBW.out _
 have e4:(w1.drewN nq).heap.size=w.heap.size+1:=e3
 generalize w1.drewN nq=w2 at *
 have H2:=AB (H.out.below hb2)
 have HX:Hid (w2.ownsRow B 9 1 (.slice (some ⟨g',0,none⟩) s.texts.length V.ct) s.texts.length (Ia s.texts)):=by
  have:=H2.out.tx
  rw[WV.vt,HEG.out] at this
  exact this
 have f3:w2.cell? ⟨Wb,2,none⟩=some (.slice (some ⟨g',0,none⟩) s.texts.length V.ct):=(H2.out.blk.cell 2).trans (by simp only[WV.cells,WV.vt,HEG.out];rfl)
 have HB2:=AB hb2
 have hz2s:w.heap.size≤w2.heap.size:=hb2.size
 clear hb2 f2 c2' e2 H1 e3 e4
 by_cases hbig:65536<t1.size+t2.size
 ·go_wp2
  go_ret
  exact⟨rfl,II.stay H.out HBD.out HB2.out⟩
 ·have htz:(t1++t2).size≤4194304:=by rw[ByteArray.size_append];omega
  have HTZ:=AB htz
  clear htz
  go_wp2_with (first
   | (at_builtin;refine Ap _ rfl (.tmp 102) (.tmp 104) 31 rfl B 9 i0 (.string ByteArray.empty) 16 Tryz.undStrings hi hz0 hz1 hz2 rfl (.slice (some ⟨g',0,none⟩) s.texts.length V.ct) s.texts.length (Ia s.texts) rfl (HX.out.alloc _) ⟨w2.heap.size,0,none⟩ 1 1 [.string (t1++t2)] rfl rfl (AH w2 [.string (t1++t2)] 9) (by intro u hu;simp at hu;subst hu;rfl) (by decide) d1.out d2.out (by simp;omega) (w2.heap.size+1) (by simp) ?_;intro a3 c3 w3 hown3 hg3 hl3;have HL3:=AB hl3;clear hl3;
         have HR3:Hid (AY w3 Wb 34 (V.cells s)):=B8 (AF H2.out.blk ((Below.refl _ _).alloc (Nat.le_refl _) _)) (HX.out.alloc _) Hc hg3;
         have g2:w3.cell? ⟨Wb,2,none⟩=some (.slice V.at_ s.texts.length V.ct):=(HR3.out.cell 2).trans rfl;
         have g2':=HR3.out.frozen 2))
  go_ret
  exact⟨rfl,IE H2.out HBD.out HB2.out hBs HTZ.out (by rw[WV.vt,HEG.out];exact hg3) (by rw[WV.vt,HEG.out];exact HL3.out) (by omega) hown3⟩
end Go.Proofs.YthboeppmlhbofaaGreatDoor
