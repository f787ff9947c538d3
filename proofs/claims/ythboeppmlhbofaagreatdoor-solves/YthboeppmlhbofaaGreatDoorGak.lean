import Derived.Test.YthboeppmlhbofaaGreatDoorGsb
import Derived.Test.YthboeppmlhbofaaGreatDoorPrd
namespace Go.Proofs.YthboeppmlhbofaaGreatDoor
open Go.RowKit Txt
set_option maxRecDepth 100000
def du(P:DH)(s:P.S)(xs:List Int)(b A:Int)(s':P.S)(x:Fe):Prop :=
 ∀ (w':World) (g k:Nat) (F:Nat→Prop),P.At w' g s F→Fx w'→0<w'.heap.size→¬ F 0→AS w' (some ⟨k,0,none⟩) xs→¬ F k∧k<w'.heap.size→Calls Tryz.prog 39 #[.pointer (some ⟨g,0,none⟩),.slice (some ⟨k,0,none⟩) xs.length (xs.length+2),.int .i64 b] w' fun e w''=>∃ p:A3,e=.returned (.tuple #[.agg #[.int .i64 x.st,.int .i64 x.re,.slice p.a1 x.vs.length p.c1,.slice p.a2 x.co.length p.c2,.slice p.a3 x.cl.length p.c3],.int .i64 A]) ∧
   Bf w'' w'.heap.size x p∧(A≠0→p=Jz)∧Z9 P.At F w' w'' g s' fun F'=>∀ k,p.At k→¬ F' k
theorem slvC(P:DH)(s:P.S)(xs:List Int)(b:Int)(hok:P.Ok s)(hx:xs.length≤100000)(hn:(P.vw s).hv.length≤1000000):du P s xs b (A9 xs b) (P.slv s xs b) (P.ans s xs b) :=
 fun w' g k F h1 t1 t2 t3 h2 h3=>P.slvC (some ⟨k,0,none⟩) (xs.length+2) xs b h1 hok t1 t2 t3 h2 (fun ad e=>by simp only[Option.some.injEq] at e;subst e;exact h3) hx hn
theorem Im.keep{P:DH}{w w6 w8:World}{B:Nat}{q:SX P}{s:P.S}{x:Fe}{p1 p2:A3}{fx fy:Nat→Prop}(h:Ii w B q)(t:Im w w6 q s x p1 p2 fx fy)(c:CM q.d.Own w6 w8):P.At w8 q.d.gx s fx∧Bf w8 w.heap.size x p1∧∀ k,w.heap.size≤k→k<w6.heap.size→w8.heap[k]?=w6.heap[k]?:=by
 have oJ:∀ b,q.d.Own b→q.J b:=fun b hb=>hb.elim .inl (fun e=>.inr (.inr (.inr (.inl e))))
 have lo:∀ b,q.d.Own b→b<w.heap.size:=fun b hb=>(h.ltJ (oJ b hb)).2
 have z:∀ k,w.heap.size≤k→k<w6.heap.size→w8.heap[k]?=w6.heap[k]?:=fun k h1 h2=>c.block k h2 (fun ho=>by have:=lo k ho;omega)
 refine⟨P.frame t.t.x (fun b hb=>c.block b (P.lt t.t.x b hb) (fun ho=>?_)),t.o1.frame (fun k hk=>z k (t.o1.lt hk).1 (t.o1.lt hk).2),z⟩
 rcases t.t.nx b hb with e | e
 ·exact(h.fb b (.inl e)).2 (oJ b ho)
 ·have:=lo b ho;omega
theorem dH{P:DH}{w w7 w8:World}{B:Nat}{q:SX P}{s:P.S}{x:Fe}{p1 p2:A3}{fx fy:Nat→Prop}{xs:List Int}{b:Int}{ls:List FO}{st:Nat}(h:Ii w B q)(hB:B≤w.heap.size)(t:Im w w7 q s x p1 p2 fx fy)(c:CM q.d.Own w7 w8)(hok:P.Ok s)(so:KT (P.vw q.s) xs b (P.vw s) x ls st)
  (js:JS w8 B { q.d with seen:=(P.vw s).seen }) :
  Calls Tryz.prog 44 #[.pointer (some ⟨q.d.cb,0,none⟩),.int .i64 b] w8 fun e w'=>∃ al cl a' c',e=.returned (.tuple #[.slice a' (Dp ls).length c',.bool (Cb ls),.bool true])∧JS w' B (q.solved s fx fy (P.vw s).seen q.d.unsat ⟨(P.vw s).lr,Ad (P.vw s).lr,(P.vw s).log,st⟩ al cl (bA (P.vw s).pf)).d∧AS w' a' (Dp ls)∧CM q.d.Own w8 w' ∧
   ∀ b,(q.solved s fx fy (P.vw s).seen q.d.unsat ⟨(P.vw s).lr,Ad (P.vw s).lr,(P.vw s).log,st⟩ al cl (bA (P.vw s).pf)).d.Own b→q.d.Own b∨w8.heap.size≤b:=by
 have hE:=h.e
 have v:=P.bd h.ok
 have v':=P.bd hok
 have z7:=t.t.chg.size
 have z8:=c.size
 have hto:Ag ⟨q.d.lr,q.d.held,q.d.log,0⟩ ls=⟨(P.vw s).lr,Ad (P.vw s).lr,(P.vw s).log,st⟩:=by rw[hE.lr,hE.held,hE.log];exact so.to
 have hx8:=(t.keep h c).1
 have:=XV B { q.d with seen:=(P.vw s).seen } (bA (P.vw s).pf) ls b w8 js (by omega) (by
   show bs (bA (P.vw s).pf)=bs q.d.pf++BY ls
   rw[cB,hE.pf,cB];exact so.pf) (by rw[Up];exact v'.pfl) ⟨by show q.d.log≤_;rw[hE.log];have:=v.log;omega,by show q.d.held≤_;rw[hE.held];have:=v.held;omega,by show q.d.lr.length≤_;rw[hE.lr];have:=v.lrl;omega⟩ (by
   show EO q.d.r q.d.h q.d.l q.d.hv ⟨q.d.lr,q.d.held,q.d.log,0⟩ ls
   rw[hE.r,hE.h,hE.l,hE.hv,hE.lr,hE.held,hE.log];exact so.ok) (fun w' hb=>P.proofC (P.below hx8 hb) hok)
 refine this.mono ?_
 rintro e w' ⟨al,cl,a',c',rfl,j,i,_,ch,ob⟩
 have hto':Ag ⟨({ q.d with seen:=(P.vw s).seen }:SE).lr,({ q.d with seen:=(P.vw s).seen }:SE).held,({ q.d with seen:=(P.vw s).seen }:SE).log,0⟩ ls=⟨(P.vw s).lr,Ad (P.vw s).lr,(P.vw s).log,st⟩:=hto
 rw[hto'] at j ob
 refine⟨al,cl,a',c',?_,j,i,ch,ob⟩
 rw[hto']
 show Ending.returned (Value.tuple #[_,_,.bool (b == 0 || decide ((st:Int)≤b))])=_
 rw[so.bud]
theorem FP.conv{d:SE}{v:Vw}{st:Nat}{x:Fe}{b:Int}(e:aA d v)(hs:d.st=st)(h:FP (v.se st) x b):FP d x b :=
 ⟨h.vs,h.co,by rw[e.r,e.h,e.l,e.seen,e.unsat];exact h.room,by rw[e.hv,e.lr,e.held,e.log,e.h,e.l,hs];exact h.why⟩
theorem IX{P:DH}{w:World}{B:Nat}{q:SX P}{s:P.S}{x:Fe}{fx fy:Nat→Prop}{xs:List Int}{b:Int}{ls:List FO}{st:Nat}(h:Ii w B q)(so:KT (P.vw q.s) xs b (P.vw s) x ls st)(unsat:Nat)(hu:unsat=(P.vw s).unsat)(al:Option Addr)(cl:Nat) :
  aA (q.solved s fx fy (P.vw s).seen unsat ⟨(P.vw s).lr,Ad (P.vw s).lr,(P.vw s).log,st⟩ al cl (bA (P.vw s).pf)).d (P.vw s) :=
 ⟨h.e.r.trans so.r.symm,h.e.h.trans so.h.symm,h.e.l.trans so.l.symm,h.e.hv.trans so.hv.symm,h.e.lits.trans (congrArg Ad so.hv.symm),rfl,rfl,rfl,rfl,hu,rfl⟩
theorem Bf.below{w w':World}{B:Nat}{x:Fe}{p:A3}(h:Bf w B x p)(hb:Below w.heap.size w w'):Bf w' B x p:=h.frame (fun k hk=>hb.block k (h.lt hk).2)
def Um{P:DH}(w:World)(B:Nat)(q:SX P)(e:Ending)(w':World):Prop :=
 ∃ (a:Option Addr) (c:Nat) (cl:List (List Int)) (vs:List Value) (q':SX P),e=.returned (.tuple #[.slice a cl.length c,.bool true])∧Sm w w' B q q' []∧q'.d.hv=q.d.hv∧q'.given=q.given∧cl.length≤6∧(∀ x∈cl,x.length≤1000) ∧
  w'.ownsRow w.heap.size 24 1 (.slice a cl.length c) cl.length vs∧Aq w' w.heap.size 3 vs cl∧vs.Pairwise Af∧∀ u∈vs,∀ b,u.ownBlock=some b→¬ q'.At b
theorem Ps{P:DH}{w w1:World}{B:Nat}{q q':SX P}{x:Fe}{p1 p2:A3}(hN:Sm w w1 B q q' [])(h1:q'.d.hv=q.d.hv)(h2:q'.given=q.given)(o1:Bf w1 w.heap.size x p1)(o2:Bf w1 w.heap.size x p2)(d12:∀ k,p1.At k→¬ p2.At k)(hn:∀ k,(p1.At k∨p2.At k)→¬ q'.At k)(hl:x.vs.length≤1000∧x.co.length≤1000∧x.cl.length≤1000) :
  Um w B q (.returned (.tuple #[.slice (some ⟨w1.heap.size,0,none⟩) 6 6,.bool true])) (w1.alloc (.cells #[.slice p1.a1 x.vs.length p1.c1,.slice p1.a2 x.co.length p1.c2,.slice p1.a3 x.cl.length p1.c3,.slice p2.a1 x.vs.length p2.c1,.slice p2.a2 x.co.length p2.c2,.slice p2.a3 x.cl.length p2.c3] 24)):=by
 have hz:=hN.chg.size
 refine⟨some ⟨w1.heap.size,0,none⟩,6,[x.vs,x.co,x.cl,x.vs,x.co,x.cl],[.slice p1.a1 x.vs.length p1.c1,.slice p1.a2 x.co.length p1.c2,.slice p1.a3 x.cl.length p1.c3,.slice p2.a1 x.vs.length p2.c1,.slice p2.a2 x.co.length p2.c2,.slice p2.a3 x.cl.length p2.c3],q',rfl,hN.below ((Below.refl _ _).alloc (Nat.le_refl _) _),h1,h2,by simp,?_,?_,?_,?_,?_⟩
 ·intro y hy
  simp only[List.mem_cons,List.not_mem_nil,or_false] at hy
  rcases hy with rfl|rfl|rfl|rfl|rfl|rfl <;> omega
 ·exact⟨rfl,.inr ⟨w1.heap.size,6,#[.slice p1.a1 x.vs.length p1.c1,.slice p1.a2 x.co.length p1.c2,.slice p1.a3 x.cl.length p1.c3,.slice p2.a1 x.vs.length p2.c1,.slice p2.a2 x.co.length p2.c2,.slice p2.a3 x.cl.length p2.c3],rfl,hz,heap_alloc_new w1 _,Nat.le_refl _,by unfold maxLen;decide,rfl,rfl⟩⟩
 ·exact⟨o1.vs.alloc _,o1.co.alloc _,o1.cl.alloc _,o2.vs.alloc _,o2.co.alloc _,o2.cl.alloc _,trivial⟩
 ·have k11:Af (.slice p1.a1 x.vs.length p1.c1) (.slice p2.a1 x.vs.length p2.c1):=fun b e e'=>d12 b (A3.at1 e) (A3.at1 e')
  have k12:Af (.slice p1.a1 x.vs.length p1.c1) (.slice p2.a2 x.co.length p2.c2):=fun b e e'=>d12 b (A3.at1 e) (A3.at2 e')
  have k13:Af (.slice p1.a1 x.vs.length p1.c1) (.slice p2.a3 x.cl.length p2.c3):=fun b e e'=>d12 b (A3.at1 e) (A3.at3 e')
  have k21:Af (.slice p1.a2 x.co.length p1.c2) (.slice p2.a1 x.vs.length p2.c1):=fun b e e'=>d12 b (A3.at2 e) (A3.at1 e')
  have k22:Af (.slice p1.a2 x.co.length p1.c2) (.slice p2.a2 x.co.length p2.c2):=fun b e e'=>d12 b (A3.at2 e) (A3.at2 e')
  have k23:Af (.slice p1.a2 x.co.length p1.c2) (.slice p2.a3 x.cl.length p2.c3):=fun b e e'=>d12 b (A3.at2 e) (A3.at3 e')
  have k31:Af (.slice p1.a3 x.cl.length p1.c3) (.slice p2.a1 x.vs.length p2.c1):=fun b e e'=>d12 b (A3.at3 e) (A3.at1 e')
  have k32:Af (.slice p1.a3 x.cl.length p1.c3) (.slice p2.a2 x.co.length p2.c2):=fun b e e'=>d12 b (A3.at3 e) (A3.at2 e')
  have k33:Af (.slice p1.a3 x.cl.length p1.c3) (.slice p2.a3 x.cl.length p2.c3):=fun b e e'=>d12 b (A3.at3 e) (A3.at3 e')
  have c1:=o1.p12
  have c2:=o1.p13
  have c3:=o1.p23
  have c4:=o2.p12
  have c5:=o2.p13
  have c6:=o2.p23
  simp only[List.pairwise_cons,List.mem_cons,List.not_mem_nil,or_false,forall_eq_or_imp,forall_eq,List.Pairwise.nil,and_true,false_imp_iff,implies_true]
  exact⟨⟨c1,c2,k11,k12,k13⟩,⟨c3,k21,k22,k23⟩,⟨k31,k32,k33⟩,⟨c4,c5⟩,c6⟩
 ·intro u hu b e
  simp only[List.mem_cons,List.not_mem_nil,or_false] at hu
  rcases hu with rfl|rfl|rfl|rfl|rfl|rfl
  ·exact hn b (.inl (A3.at1 e))
  ·exact hn b (.inl (A3.at2 e))
  ·exact hn b (.inl (A3.at3 e))
  ·exact hn b (.inr (A3.at1 e))
  ·exact hn b (.inr (A3.at2 e))
  ·exact hn b (.inr (A3.at3 e))
set_option maxHeartbeats 8000000 in
theorem L8(P:DH)(B:Nat)(q:SX P)(a:Option Addr)(c:Nat)(xs:List Int)(b:Int)(w:World)(h:Ii w B q)(hi:AS w a xs)(hd:∀ g,a=some g→¬ q.At g.block)(hx:xs.length≤100000)(hB:B≤w.heap.size)(hn:q.d.hv.length≤100000)(h0:0<B)(htab:Hid (Fx w)) :
  Calls Tryz.prog 21 #[.pointer (some ⟨q.d.cb,0,none⟩),.slice a xs.length c,.int .i64 b] w (Um w B q):=by
 have hsl:=slvC P q.s xs b h.ok hx (by rw[← h.e.hv];omega)
 have hno:=P.slvN q.s xs b
 have hyes:=P.slvV q.s xs b h.ok
 generalize P.slv q.s xs b=s' at *
 generalize P.ans q.s xs b=x at *
 have HSV:=AB hsl
 have HNO:=AB hno
 have HYES:=AB hyes
 have hlen:x.vs.length≤1000000∧x.co.length≤1000000∧x.cl.length≤1000000:=by
  by_cases e:A9 xs b=0
  ·obtain⟨_,ls,st,so⟩:=hyes e
   have:=so.len
   omega
  ·obtain⟨_,e2⟩:=hno e
   rw[e2]
   exact⟨by simp[Fg],by simp[Fg],by simp[Fg]⟩
 have HSP:Hid (∀ w',AS w' a xs→Calls Tryz.prog 24 #[.slice a xs.length c] w' fun e w''=>e=.returned (.slice (some ⟨w'.heap.size,0,none⟩) xs.length (xs.length+2))∧AY w'' w'.heap.size 3 (AO xs++Bx)∧Below w'.heap.size w' w''):=fun w' hi=>IB a c xs w' (by omega) hi
 have HAS:Hid (∀ w',AS w' a xs→Calls Tryz.prog 41 #[.slice a xs.length c,.int .i64 b] w' fun e w''=>e=.returned (.int .i64 (A9 xs b))∧w''=w'):=fun w' hi=>Vf a c xs b w' hi (by omega)
 have HND:=AB hd
 have HI:=AB hi
 have H:=AB h
 have HNM:Hid (∀ n w,Calls Tryz.prog 33 #[.int .i64 n] w fun e w'=>e=.returned (.int .i64 n)∧w'=w):=fun n w=>G8 n w
 generalize A9 xs b=A at *
 have hxl:∀ b,q.fx b→b<w.heap.size:=P.lt h.x
 have hyl:∀ b,q.fy b→b<w.heap.size:=P.lt h.y
 have HXL:=AB hxl
 have HYL:=AB hyl
 have HLEN:=AB hlen
 clear hd hi h hsl hno hyes hxl hyl hlen
 go_enter Tryz.func21,Tryz.ntmps21
 go_wp2_with fail
 refine(AE HSP _ HI.out).mono ?_
 rintro e w1 ⟨rfl,hr1,hb1⟩
 have HR1:=AB hr1
 have HB1:=AB hb1
 have c0:w1.cell? ⟨q.d.cb,0,none⟩=some (.pointer (some ⟨q.d.gx,0,none⟩)):=((AF H.out.js.ji.blk hb1).cell 0).trans rfl
 have HA:=AB (HSV.out w1 q.d.gx w.heap.size q.fx (P.below H.out.x hb1) (Fx.below htab.out hb1 (by omega)) (Nat.lt_of_lt_of_le h0 (Nat.le_trans hB hb1.size)) (fun hq=>by have:=(H.out.fb 0 (.inl hq)).1;omega) (EE xs w1 _ hr1) ⟨fun hq=>by have:=HXL.out _ hq;omega,hr1.lt⟩)
 clear hr1 hb1
 go_wp2_with fail
 refine(AE HA).mono ?_
 rintro e w2 ⟨p1,rfl,ha2,hp2,fx',x2,k2,l2,f2⟩
 have hq1:w.heap.size<w1.heap.size:=HR1.out.lt
 have hz2:w1.heap.size≤w2.heap.size:=k2.size
 have ch2:CM q.fx w w2:=(CM.of HB1.out).trans ⟨k2.os,k2.tape,k2.output,k2.size,k2.block⟩
 have HST:Hid (∀ w',Below w2.heap.size w2 w'→Calls Tryz.prog 31 #[.slice (some ⟨w.heap.size,0,none⟩) xs.length (xs.length+2),.slice a xs.length c] w' fun e w''=>e=.returned (.bool true)∧w'.grownBy w'' (some w.heap.size)):=fun w' hb=>by
  have hr2:AY w2 w.heap.size 3 (AO xs++Bx):=(k2.block _ hq1 (fun hq=>by have:=HXL.out _ hq;omega)).trans HR1.out
  have hi2:=Dk HI.out ch2 (fun g e hq=>HND.out g e (.inr (.inl hq)))
  exact IC w.heap.size a c xs w' (by omega) (AF hr2 hb) (hi2.below hb)
 have CH2:=AB ch2
 have K2:=AB k2
 have X2:=AB x2
 have L2:=AB l2
 have A2:=AB ha2
 have F2:=AB f2
 have HP2:=AB hp2
 have RA:Hid (AY (w2.alloc (.cells #[.int .i64 x.st,.int .i64 x.re,.slice p1.a1 x.vs.length p1.c1,.slice p1.a2 x.co.length p1.c2,.slice p1.a3 x.cl.length p1.c3] 70)) w2.heap.size 70 (x.cells p1)):=heap_alloc_new w2 _
 have hba:Hid (Below w2.heap.size w2 (w2.alloc (.cells #[.int .i64 x.st,.int .i64 x.re,.slice p1.a1 x.vs.length p1.c1,.slice p1.a2 x.co.length p1.c2,.slice p1.a3 x.cl.length p1.c3] 70))):=(Below.refl _ _).alloc (Nat.le_refl _) _
 have hza:(w2.alloc (.cells #[.int .i64 x.st,.int .i64 x.re,.slice p1.a1 x.vs.length p1.c1,.slice p1.a2 x.co.length p1.c2,.slice p1.a3 x.cl.length p1.c3] 70)).heap.size=w2.heap.size+1:=by simp
 clear k2 x2 l2 ha2 hp2 f2 HA c0 ch2
 go_wp2_with fail
 generalize w2.alloc (.cells #[.int .i64 x.st,.int .i64 x.re,.slice p1.a1 x.vs.length p1.c1,.slice p1.a2 x.co.length p1.c2,.slice p1.a3 x.cl.length p1.c3] 70)=wa at *
 refine(AE HST wa hba.out).mono ?_
 rintro e w3 ⟨rfl,g3⟩
 have hz3:wa.heap.size≤w3.heap.size:=g3.size
 have ch3:CM q.fx w w3:=(CH2.out.below hba.out).grown g3 (fun b e=>.inr (by simp only[Option.some.injEq] at e;omega))
 have hi3:=Dk HI.out ch3 (fun g e hq=>HND.out g e (.inr (.inl hq)))
 have C23:Hid (CM (fun b=>b=w.heap.size) w2 w3):=(CM.of hba.out).grown g3 (fun b e=>.inl (by simp only[Option.some.injEq] at e;exact e.symm))
 have RA3:Hid (AY w3 w2.heap.size 70 (x.cells p1)):=(g3.block _ RA.out.lt (fun e=>by simp only[Option.some.injEq] at e;omega)).trans RA.out
 have CH3:=AB ch3
 have HI3:=AB hi3
 clear ch3 hi3 g3 HST CH2 RA hba
 go_wp2_with fail
 refine(AE HSP _ HI3.out).mono ?_
 rintro e w4 ⟨rfl,hr4,hb4⟩
 have ch4:CM q.fx w w4:=CH3.out.below hb4
 have r4:AY w4 q.d.cb 44 q.d.cells:=(ch4.block _ H.out.js.ji.blk.lt (fun hq=>(H.out.fb _ (.inl hq)).2 (.inl rfl))).trans H.out.js.ji.blk
 have c1:w4.cell? ⟨q.d.cb,1,none⟩=some (.pointer (some ⟨q.d.gy,0,none⟩)):=(r4.cell 1).trans rfl
 have hz34:w3.heap.size<w4.heap.size:=hr4.lt
 have HA:=AB (HSV.out w4 q.d.gy w3.heap.size q.fy (H.out.yAt ch4) (Fx.below htab.out (ch4.toBelow hB (fun b hq=>(H.out.fb b (.inl hq)).1)) h0) (Nat.lt_of_lt_of_le h0 (Nat.le_trans hB ch4.size)) (fun hq=>by have:=(H.out.fb 0 (.inr hq)).1;omega) (EE xs w4 _ hr4) ⟨fun hq=>by have:=HYL.out _ hq;omega,hr4.lt⟩)
 have C24:Hid (CM (fun b=>b=w.heap.size) w2 w4):=C23.out.below hb4
 have RA4:=AB (AF RA3.out hb4)
 have HR4:=AB hr4
 have CH4:=AB ch4
 clear hr4 hb4 ch4 r4 C23 RA3 HI3 CH3
 go_wp2_with fail
 refine(AE HA).mono ?_
 rintro e w5 ⟨p2,rfl,ha5,hp5,fy',y5,k5,l5,f5⟩
 have hz5:w4.heap.size≤w5.heap.size:=k5.size
 have ch5:CM q.XY w w5:=⟨k5.os.trans CH4.out.os,k5.tape.trans CH4.out.tape,k5.output.trans CH4.out.output,Nat.le_trans CH4.out.size k5.size,fun j hj hn=>(k5.block j (Nat.lt_of_lt_of_le hj CH4.out.size) (fun hq=>hn (.inr hq))).trans (CH4.out.block j hj (fun hq=>hn (.inl hq)))⟩
 have HST:Hid (∀ w',Below w5.heap.size w5 w'→Calls Tryz.prog 31 #[.slice (some ⟨w3.heap.size,0,none⟩) xs.length (xs.length+2),.slice a xs.length c] w' fun e w''=>e=.returned (.bool true)∧w'.grownBy w'' (some w3.heap.size)):=fun w' hb=>by
  have hr5:AY w5 w3.heap.size 3 (AO xs++Bx):=(k5.block _ hz34 (fun hq=>by have:=HYL.out _ hq;omega)).trans HR4.out
  have hi5:=Dk HI.out ch5 (fun g e hq=>HND.out g e (.inr hq))
  exact IC w3.heap.size a c xs w' (by omega) (AF hr5 hb) (hi5.below hb)
 have CH5:=AB ch5
 have K5:=AB k5
 have Y5:=AB y5
 have L5:=AB l5
 have A5:=AB ha5
 have F5:=AB f5
 have HP5:=AB hp5
 have RA5:Hid (AY w5 w2.heap.size 70 (x.cells p1)):=(k5.block _ RA4.out.lt (fun hq=>by have:=HYL.out _ hq;omega)).trans RA4.out
 have RB:Hid (AY (w5.alloc (.cells #[.int .i64 x.st,.int .i64 x.re,.slice p2.a1 x.vs.length p2.c1,.slice p2.a2 x.co.length p2.c2,.slice p2.a3 x.cl.length p2.c3] 70)) w5.heap.size 70 (x.cells p2)):=heap_alloc_new w5 _
 have hbb:Hid (Below w5.heap.size w5 (w5.alloc (.cells #[.int .i64 x.st,.int .i64 x.re,.slice p2.a1 x.vs.length p2.c1,.slice p2.a2 x.co.length p2.c2,.slice p2.a3 x.cl.length p2.c3] 70))):=(Below.refl _ _).alloc (Nat.le_refl _) _
 have hzb:(w5.alloc (.cells #[.int .i64 x.st,.int .i64 x.re,.slice p2.a1 x.vs.length p2.c1,.slice p2.a2 x.co.length p2.c2,.slice p2.a3 x.cl.length p2.c3] 70)).heap.size=w5.heap.size+1:=by simp
 clear k5 y5 l5 ha5 hp5 f5 HA c1 ch5 RA4 CH4 HR4 HSV
 go_wp2_with fail
 generalize w5.alloc (.cells #[.int .i64 x.st,.int .i64 x.re,.slice p2.a1 x.vs.length p2.c1,.slice p2.a2 x.co.length p2.c2,.slice p2.a3 x.cl.length p2.c3] 70)=wb at *
 refine(AE HST wb hbb.out).mono ?_
 rintro e w6 ⟨rfl,g6⟩
 have hz6:wb.heap.size≤w6.heap.size:=g6.size
 have C56:Hid (CM (fun b=>b=w3.heap.size) w5 w6):=(CM.of hbb.out).grown g6 (fun b e=>.inl (by simp only[Option.some.injEq] at e;exact e.symm))
 have RA6:Hid (AY w6 w2.heap.size 70 (x.cells p1)):=(g6.block _ (AF RA5.out hbb.out).lt (fun e=>by simp only[Option.some.injEq] at e;omega)).trans (AF RA5.out hbb.out)
 have RB6:Hid (AY w6 w5.heap.size 70 (x.cells p2)):=(g6.block _ RB.out.lt (fun e=>by simp only[Option.some.injEq] at e;omega)).trans RB.out
 have SW:=AB (cr H.out HB1.out hq1 X2.out K2.out L2.out A2.out F2.out C24.out Y5.out K5.out L5.out A5.out F5.out (k2:=w3.heap.size) ⟨by omega,hz34⟩ C56.out)
 have a0:w6.cell? ⟨w2.heap.size,0,none⟩=some (.int .i64 x.st):=(RA6.out.cell 0).trans rfl
 have a1:w6.cell? ⟨w2.heap.size,1,none⟩=some (.int .i64 x.re):=(RA6.out.cell 1).trans rfl
 have a2:w6.cell? ⟨w2.heap.size,2,none⟩=some (.slice p1.a1 x.vs.length p1.c1):=(RA6.out.cell 2).trans rfl
 have a3:w6.cell? ⟨w2.heap.size,3,none⟩=some (.slice p1.a2 x.co.length p1.c2):=(RA6.out.cell 3).trans rfl
 have a4:w6.cell? ⟨w2.heap.size,4,none⟩=some (.slice p1.a3 x.cl.length p1.c3):=(RA6.out.cell 4).trans rfl
 have b0:w6.cell? ⟨w5.heap.size,0,none⟩=some (.int .i64 x.st):=(RB6.out.cell 0).trans rfl
 have b1:w6.cell? ⟨w5.heap.size,1,none⟩=some (.int .i64 x.re):=(RB6.out.cell 1).trans rfl
 have b2:w6.cell? ⟨w5.heap.size,2,none⟩=some (.slice p2.a1 x.vs.length p2.c1):=(RB6.out.cell 2).trans rfl
 have b3:w6.cell? ⟨w5.heap.size,3,none⟩=some (.slice p2.a2 x.co.length p2.c2):=(RB6.out.cell 3).trans rfl
 have b4:w6.cell? ⟨w5.heap.size,4,none⟩=some (.slice p2.a3 x.cl.length p2.c3):=(RB6.out.cell 4).trans rfl
 have HAL:=AB (Va x p1 p2 w6 SW.out.o1.at_ SW.out.o2.at_ HLEN.out)
 clear g6 HST X2 K2 L2 A2 F2 C24 Y5 K5 L5 A5 F5 C56 RB RA5 hbb CH5
 go_wp2_with fail
 refine(AE HAL).mono ?_
 rintro e w7 ⟨rfl,hb7⟩
 have SW7:=AB (SW.out.below hb7)
 have RA7:=AB (AF RA6.out hb7)
 have RB7:=AB (AF RB6.out hb7)
 have HI7:=AB (Dk HI.out SW7.out.t.chg (fun g e hq=>HND.out g e (.inr hq)))
 clear hb7 a0 a1 a2 a3 a4 b0 b1 b2 b3 b4 SW RA6 RB6 HAL
 have a0:w7.cell? ⟨w2.heap.size,0,none⟩=some (.int .i64 x.st):=(RA7.out.cell 0).trans rfl
 have a1:w7.cell? ⟨w2.heap.size,1,none⟩=some (.int .i64 x.re):=(RA7.out.cell 1).trans rfl
 have a2:w7.cell? ⟨w2.heap.size,2,none⟩=some (.slice p1.a1 x.vs.length p1.c1):=(RA7.out.cell 2).trans rfl
 have a3:w7.cell? ⟨w2.heap.size,3,none⟩=some (.slice p1.a2 x.co.length p1.c2):=(RA7.out.cell 3).trans rfl
 have a4:w7.cell? ⟨w2.heap.size,4,none⟩=some (.slice p1.a3 x.cl.length p1.c3):=(RA7.out.cell 4).trans rfl
 have kJ:=H.out.jAt SW7.out.t.chg
 have JS7:Hid (JS w7 B q.d):=H.out.js.frame (kJ _ (.inl rfl)) (fun b e=>kJ b (.inr (.inr (.inl e)))) (fun b e=>kJ b (.inr (.inr (.inr (.inl e)))))
 have c0:w7.cell? ⟨q.d.cb,0,none⟩=some (.pointer (some ⟨q.d.gx,0,none⟩)):=(JS7.out.ji.blk.cell 0).trans rfl
 clear kJ
 by_cases hA:A=0
 ·subst hA
  obtain⟨hok',ls,st,so⟩:=HYES.out rfl
  have hbd:=P.bd H.out.ok
  have hbd':=P.bd hok'
  have hE:=H.out.e
  have hse:q.d.seen|||An (AJ xs)=(P.vw s').seen:=by rw[so.seen,hE.seen]
  have hsl:=DX xs
  have hvl:=Ec (AJ xs)
  have hsn:q.d.seen<1048576:=by rw[hE.seen];exact hbd.seen
  have ho:=IU q.d.seen (An (AJ xs)) (by omega) (by omega)
  have HSE:Hid (Calls Tryz.prog 43 #[.slice a xs.length c] w7 fun e w'=>e=.returned (.tuple #[.int .i64 (AJ xs:Nat),.bool (xs.all AT)])∧w'=w7):=FH a c xs w7 (by omega) HI7.out
  have HV:Hid (∀ w,Calls Tryz.prog 35 #[.int .i64 (AJ xs:Nat)] w fun e w'=>e=.returned (.int .i64 (An (AJ xs):Nat))∧w'=w):=fun w=>LQ (AJ xs) hsl w
  have HAS7:=AB (HAS.out w7 HI7.out)
  have c8:w7.cell? ⟨q.d.cb,8,none⟩=some (.int .i64 q.d.seen):=(JS7.out.ji.blk.cell 8).trans rfl
  have z8:=JS7.out.ji.blk.frozen 8
  have HSO:=AB so
  have HOK:=AB hok'
  have HBD:=AB hbd
  have HBD':=AB hbd'
  have HSEE:=AB hse
  generalize An (AJ xs)=vs at *
  clear HAS HNO HYES HP2 HP5 HSP HLEN so hok' hbd hbd' hse hE
  go_wp2_with (first
   | (go_at_call 41;refine(AE HAS7).mono ?_;rintro e w' ⟨rfl,hw⟩;obtain rfl:=hw.symm)
   | (go_at_call 33;refine(AE HNM _ _).mono ?_;rintro e w' ⟨rfl,hw⟩;obtain rfl:=hw.symm)
   | (go_at_call 43;refine(AE HSE).mono ?_;rintro e w' ⟨rfl,hw⟩;obtain rfl:=hw.symm))
  go_region_with (go_at_call 35;refine(AE HV _).mono ?_;rintro e w' ⟨rfl,rfl⟩)
  all_goals
   have J8:Hid (JS (w7.setCell ⟨q.d.cb,8,none⟩ (.int .i64 (q.d.seen|||vs:Nat))).drew B { q.d with seen:=q.d.seen|||vs }):=JS.below (w:=w7.setCell ⟨q.d.cb,8,none⟩ (.int .i64 (q.d.seen|||vs:Nat))) ⟨JS7.out.ji.set 8 _ rfl rfl ⟨rfl,rfl,rfl⟩ ⟨rfl,rfl,rfl⟩,JS7.out.ap,JS7.out.base⟩ (below_drewN (Below.refl _ _) 1)
   have C8:Hid (CM q.d.Own w7 (w7.setCell ⟨q.d.cb,8,none⟩ (.int .i64 (q.d.seen|||vs:Nat))).drew):=((CM.of (Below.refl _ _)).set q.d.cb 8 _ (.inl (.inl rfl))).below (below_drewN (Below.refl _ _) 1)
   generalize (w7.setCell ⟨q.d.cb,8,none⟩ (.int .i64 (q.d.seen|||vs:Nat))).drew=w8 at *
   rw[HSEE.out] at J8
   have HWR:=AB (dH H.out hB SW7.out C8.out HOK.out HSO.out J8.out)
   clear c8 z8 a0 a1 a2 a3 a4 c0
   go_wp2_with fail
   refine(AE HWR).mono ?_
   rintro e w9 ⟨al,cl,a',c',rfl,j9,i9,ch9,ob9⟩
   have C9:Hid (CM q.d.Own w7 w9):=C8.out.trans ch9
   have J9:=AB j9
   have I9:=AB i9
   have OB9:Hid (∀ b,(q.solved s' fx' fy' (P.vw s').seen q.d.unsat ⟨(P.vw s').lr,Ad (P.vw s').lr,(P.vw s').log,st⟩ al cl (bA (P.vw s').pf)).d.Own b→q.d.Own b∨w7.heap.size≤b):=fun b hb=>(ob9 b hb).imp id (fun e=>Nat.le_trans C8.out.size e)
   clear j9 i9 ch9 ob9 HWR C8 J8
   obtain⟨kx,ko,kk⟩:=SW7.out.keep H.out C9.out
   have r9:AY w9 w2.heap.size 70 (x.cells p1):=(kk _ (by omega) RA7.out.lt).trans RA7.out
   have HX9:=AB kx
   have HO9:=AB ko
   have R9:=AB r9
   clear kx ko kk r9
   have a0:w9.cell? ⟨w2.heap.size,0,none⟩=some (.int .i64 x.st):=(R9.out.cell 0).trans rfl
   have a1:w9.cell? ⟨w2.heap.size,1,none⟩=some (.int .i64 x.re):=(R9.out.cell 1).trans rfl
   have a2:w9.cell? ⟨w2.heap.size,2,none⟩=some (.slice p1.a1 x.vs.length p1.c1):=(R9.out.cell 2).trans rfl
   have a3:w9.cell? ⟨w2.heap.size,3,none⟩=some (.slice p1.a2 x.co.length p1.c2):=(R9.out.cell 3).trans rfl
   have a4:w9.cell? ⟨w2.heap.size,4,none⟩=some (.slice p1.a3 x.cl.length p1.c3):=(R9.out.cell 4).trans rfl
   have hiw9:AS w9 a xs:=Dk HI7.out C9.out (fun g e ho=>HND.out g e (.inl (ho.elim .inl (fun e=>.inr (.inr (.inr (.inl e)))))))
   have HI9:=AB hiw9
   clear hiw9
   rcases HSO.out.how with⟨h1,h2,h3,u,h4⟩ | ⟨h1,h2,h3,h4⟩ | ⟨h1,h2,h3,h4⟩
   ·have HSA:=AB (bQ B _ x p1 (AJ xs) u w9 J9.out.ji HO9.out.at_ ⟨HBD'.out.seen,hsl⟩ (by
     show QG q.d.hv (P.vw s').seen (AJ xs) x u
     rw[H.out.e.hv];exact h4))
    have HUN:Hid (q.d.unsat=(P.vw s').unsat):=by show _=_;rw[H.out.e.unsat,h3]
    rw[h1] at a0 HSA
    rw[h2]
    clear h1 h2 h3 h4
    go_wp2_with fail
    refine(AE HSA).mono ?_
    rintro e w10 ⟨rfl,hb10⟩
    have J10:=AB (J9.out.below hb10)
    have C10:=AB (C9.out.below hb10)
    have OB10:=OB9
    clear hb10 HSA
    have he:=IX (fx:=fx') (fy:=fy') H.out HSO.out q.d.unsat HUN.out al cl
    have c0:w10.cell? ⟨q.d.cb,0,none⟩=some (.pointer (some ⟨q.d.gx,0,none⟩)):=(J10.out.ji.blk.cell 0).trans rfl
    have hx10:=(SW7.out.keep H.out C10.out).1
    have HRD:=AB (DL P _ q.d.gx s' fx' w10 J10.out.ji.blk hx10 HOK.out he (by show q.d.hv.length≤_;omega))
    obtain⟨n1,n2,n3,n4⟩:=JM H.out hB SW7.out J10.out C10.out OB10.out HOK.out he []
    have N10:=AB n1
    have O1:=AB n2
    have O2:=AB n3
    have NA:=AB n4
    clear n1 n2 n3 n4 he hx10 a0 a1 a2 a3 a4
    go_wp2_with fail
    refine(AE HRD).mono ?_
    rintro e w11 ⟨rfl,hb11⟩
    have N11:=AB (N10.out.below hb11)
    have kk:=(SW7.out.keep H.out C10.out).2.2
    have ra:=AF ((kk _ (by omega) RA7.out.lt).trans RA7.out:AY w10 w2.heap.size 70 (x.cells p1)) hb11
    have rb:=AF ((kk _ (by omega) RB7.out.lt).trans RB7.out:AY w10 w5.heap.size 70 (x.cells p2)) hb11
    have a2:w11.cell? ⟨w2.heap.size,2,none⟩=some (.slice p1.a1 x.vs.length p1.c1):=(ra.cell 2).trans rfl
    have a3:w11.cell? ⟨w2.heap.size,3,none⟩=some (.slice p1.a2 x.co.length p1.c2):=(ra.cell 3).trans rfl
    have a4:w11.cell? ⟨w2.heap.size,4,none⟩=some (.slice p1.a3 x.cl.length p1.c3):=(ra.cell 4).trans rfl
    have b2:w11.cell? ⟨w5.heap.size,2,none⟩=some (.slice p2.a1 x.vs.length p2.c1):=(rb.cell 2).trans rfl
    have b3:w11.cell? ⟨w5.heap.size,3,none⟩=some (.slice p2.a2 x.co.length p2.c2):=(rb.cell 3).trans rfl
    have b4:w11.cell? ⟨w5.heap.size,4,none⟩=some (.slice p2.a3 x.cl.length p2.c3):=(rb.cell 4).trans rfl
    have HF:=AB (Ps N11.out rfl rfl (O1.out.below hb11) (O2.out.below hb11) SW7.out.d12 NA.out ⟨HSO.out.len.1,HSO.out.len.2.1,HSO.out.len.2.2.1⟩)
    clear hb11 kk ra rb HRD c0 N10 O1 O2 NA
    go_wp2
    go_ret2
    exact HF.out
   ·have HSA:=AB (XN B _ x p1 a a' c c' xs (Dp ls) w9 J9.out.ji HO9.out.at_ HI9.out I9.out ⟨by have:=HSO.out.len;omega,by omega,by have:=HSO.out.len;omega⟩ (by
     show MH q.d.hv x xs (Dp ls)
     rw[H.out.e.hv];exact h4))
    have HUN:Hid (q.d.unsat+1=(P.vw s').unsat):=by show _=_;rw[H.out.e.unsat,h3]
    rw[h1] at a0 HSA
    rw[h2]
    clear h1 h2 h3 h4
    go_wp2_with fail
    refine(AE HSA).mono ?_
    rintro e wu ⟨rfl,hbu⟩
    have JU:=AB (J9.out.below hbu)
    have CU:=AB (C9.out.below hbu)
    have u12:wu.cell? ⟨q.d.cb,12,none⟩=some (.int .i64 q.d.unsat):=(JU.out.ji.blk.cell 12).trans rfl
    have u0:wu.cell? ⟨q.d.cb,0,none⟩=some (.pointer (some ⟨q.d.gx,0,none⟩)):=(JU.out.ji.blk.cell 0).trans rfl
    have z12:wu.frozen? ⟨q.d.cb,12,none⟩=false:=JU.out.ji.blk.frozen 12
    have eu:((q.d.unsat+1:Nat):Int)=(q.d.unsat:Int)+1:=by omega
    have hub:q.d.unsat≤1048576:=by rw[H.out.e.unsat];exact HBD.out.unsat
    have J10:Hid (JS (wu.setCell ⟨q.d.cb,12,none⟩ (.int .i64 ((q.d.unsat:Int)+1))) B (q.solved s' fx' fy' (P.vw s').seen (q.d.unsat+1) ⟨(P.vw s').lr,Ad (P.vw s').lr,(P.vw s').log,st⟩ al cl (bA (P.vw s').pf)).d):=⟨by rw[← eu];exact JU.out.ji.set 12 _ rfl rfl ⟨rfl,rfl,rfl⟩ ⟨rfl,rfl,rfl⟩,JU.out.ap,JU.out.base⟩
    have C10:Hid (CM q.d.Own w7 (wu.setCell ⟨q.d.cb,12,none⟩ (.int .i64 ((q.d.unsat:Int)+1)))):=CU.out.set q.d.cb 12 _ (.inl (.inl rfl))
    have OB10:Hid (∀ b,(q.solved s' fx' fy' (P.vw s').seen (q.d.unsat+1) ⟨(P.vw s').lr,Ad (P.vw s').lr,(P.vw s').log,st⟩ al cl (bA (P.vw s').pf)).d.Own b→q.d.Own b∨w7.heap.size≤b):=OB9.out
    clear hbu HSA JU CU
    go_wp2_with fail
    generalize wu.setCell ⟨q.d.cb,12,none⟩ (.int .i64 ((q.d.unsat:Int)+1))=w10 at *
    clear u12 z12 u0
    have he:=IX (fx:=fx') (fy:=fy') H.out HSO.out (q.d.unsat+1) HUN.out al cl
    have c0:w10.cell? ⟨q.d.cb,0,none⟩=some (.pointer (some ⟨q.d.gx,0,none⟩)):=(J10.out.ji.blk.cell 0).trans rfl
    have hx10:=(SW7.out.keep H.out C10.out).1
    have HRD:=AB (DL P _ q.d.gx s' fx' w10 J10.out.ji.blk hx10 HOK.out he (by show q.d.hv.length≤_;omega))
    obtain⟨n1,n2,n3,n4⟩:=JM H.out hB SW7.out J10.out C10.out OB10.out HOK.out he []
    have N10:=AB n1
    have O1:=AB n2
    have O2:=AB n3
    have NA:=AB n4
    clear n1 n2 n3 n4 he hx10 a0 a1 a2 a3 a4
    refine(AE HRD).mono ?_
    rintro e w11 ⟨rfl,hb11⟩
    have N11:=AB (N10.out.below hb11)
    have kk:=(SW7.out.keep H.out C10.out).2.2
    have ra:=AF ((kk _ (by omega) RA7.out.lt).trans RA7.out:AY w10 w2.heap.size 70 (x.cells p1)) hb11
    have rb:=AF ((kk _ (by omega) RB7.out.lt).trans RB7.out:AY w10 w5.heap.size 70 (x.cells p2)) hb11
    have a2:w11.cell? ⟨w2.heap.size,2,none⟩=some (.slice p1.a1 x.vs.length p1.c1):=(ra.cell 2).trans rfl
    have a3:w11.cell? ⟨w2.heap.size,3,none⟩=some (.slice p1.a2 x.co.length p1.c2):=(ra.cell 3).trans rfl
    have a4:w11.cell? ⟨w2.heap.size,4,none⟩=some (.slice p1.a3 x.cl.length p1.c3):=(ra.cell 4).trans rfl
    have b2:w11.cell? ⟨w5.heap.size,2,none⟩=some (.slice p2.a1 x.vs.length p2.c1):=(rb.cell 2).trans rfl
    have b3:w11.cell? ⟨w5.heap.size,3,none⟩=some (.slice p2.a2 x.co.length p2.c2):=(rb.cell 3).trans rfl
    have b4:w11.cell? ⟨w5.heap.size,4,none⟩=some (.slice p2.a3 x.cl.length p2.c3):=(rb.cell 4).trans rfl
    have HF:=AB (Ps N11.out rfl rfl (O1.out.below hb11) (O2.out.below hb11) SW7.out.d12 NA.out ⟨HSO.out.len.1,HSO.out.len.2.1,HSO.out.len.2.2.1⟩)
    clear hb11 kk ra rb HRD c0 N10 O1 O2 NA
    go_wp2
    go_ret2
    exact HF.out
   ·have HUN:Hid (q.d.unsat=(P.vw s').unsat):=by show _=_;rw[H.out.e.unsat,h3]
    have HSA:=AB (Sc B _ x p1 b w9 J9.out.ji HO9.out.at_ (by have:=HSO.out.len;omega) ⟨HBD'.out.seen,by show q.d.unsat≤_;rw[H.out.e.unsat];have:=HBD.out.unsat;omega,by show Ad (P.vw s').lr≤_;have:=HBD'.out.held;omega,by show(P.vw s').log≤_;have:=HBD'.out.log;omega⟩ (FP.conv (IX (fx:=fx') (fy:=fy') H.out HSO.out q.d.unsat HUN.out al cl) rfl h4))
    rw[h1] at a0 HSA
    rw[h2]
    clear h1 h2 h3 h4
    go_wp2_with fail
    refine(AE HSA).mono ?_
    rintro e w10 ⟨rfl,hb10⟩
    have J10:=AB (J9.out.below hb10)
    have C10:=AB (C9.out.below hb10)
    have OB10:=OB9
    clear hb10 HSA
    have he:=IX (fx:=fx') (fy:=fy') H.out HSO.out q.d.unsat HUN.out al cl
    have c0:w10.cell? ⟨q.d.cb,0,none⟩=some (.pointer (some ⟨q.d.gx,0,none⟩)):=(J10.out.ji.blk.cell 0).trans rfl
    have hx10:=(SW7.out.keep H.out C10.out).1
    have HRD:=AB (DL P _ q.d.gx s' fx' w10 J10.out.ji.blk hx10 HOK.out he (by show q.d.hv.length≤_;omega))
    obtain⟨n1,n2,n3,n4⟩:=JM H.out hB SW7.out J10.out C10.out OB10.out HOK.out he []
    have N10:=AB n1
    have O1:=AB n2
    have O2:=AB n3
    have NA:=AB n4
    clear n1 n2 n3 n4 he hx10 a0 a1 a2 a3 a4
    go_wp2_with fail
    refine(AE HRD).mono ?_
    rintro e w11 ⟨rfl,hb11⟩
    have N11:=AB (N10.out.below hb11)
    have kk:=(SW7.out.keep H.out C10.out).2.2
    have ra:=AF ((kk _ (by omega) RA7.out.lt).trans RA7.out:AY w10 w2.heap.size 70 (x.cells p1)) hb11
    have rb:=AF ((kk _ (by omega) RB7.out.lt).trans RB7.out:AY w10 w5.heap.size 70 (x.cells p2)) hb11
    have a2:w11.cell? ⟨w2.heap.size,2,none⟩=some (.slice p1.a1 x.vs.length p1.c1):=(ra.cell 2).trans rfl
    have a3:w11.cell? ⟨w2.heap.size,3,none⟩=some (.slice p1.a2 x.co.length p1.c2):=(ra.cell 3).trans rfl
    have a4:w11.cell? ⟨w2.heap.size,4,none⟩=some (.slice p1.a3 x.cl.length p1.c3):=(ra.cell 4).trans rfl
    have b2:w11.cell? ⟨w5.heap.size,2,none⟩=some (.slice p2.a1 x.vs.length p2.c1):=(rb.cell 2).trans rfl
    have b3:w11.cell? ⟨w5.heap.size,3,none⟩=some (.slice p2.a2 x.co.length p2.c2):=(rb.cell 3).trans rfl
    have b4:w11.cell? ⟨w5.heap.size,4,none⟩=some (.slice p2.a3 x.cl.length p2.c3):=(rb.cell 4).trans rfl
    have HF:=AB (Ps N11.out rfl rfl (O1.out.below hb11) (O2.out.below hb11) SW7.out.d12 NA.out ⟨HSO.out.len.1,HSO.out.len.2.1,HSO.out.len.2.2.1⟩)
    clear hb11 kk ra rb HRD c0 N10 O1 O2 NA
    go_wp2
    go_ret2
    exact HF.out
 ·have hA0:(A != 0)=true:=by simpa using hA
  obtain⟨es,ex⟩:=HNO.out hA
  subst es
  subst ex
  obtain rfl:=HP2.out hA
  have HNONE:Hid (∀ w,Calls Tryz.prog 42 #[.agg #[.int .i64 0,.int .i64 0,.slice none 0 0,.slice none 0 0,.slice none 0 0]] w fun e w'=>e=.returned (.bool true)∧Below w.heap.size w w'):=fun w=>Yw w
  simp only[Fg,Jz,List.length_nil] at a0 a1 a2 a3 a4
  have HAS7:=AB (HAS.out w7 HI7.out)
  clear HAS HI7 HNO HYES HP2 HP5 HSP HLEN
  simp only[Fg,Jz,List.length_nil]
  go_wp2_with (first
   | (go_at_call 41;refine(AE HAS7).mono ?_;rintro e w' ⟨rfl,hw⟩;obtain rfl:=hw.symm)
   | (go_at_call 33;refine(AE HNM _ _).mono ?_;rintro e w' ⟨rfl,hw⟩;obtain rfl:=hw.symm))
  refine(AE HNONE _).mono ?_
  rintro e w8 ⟨rfl,hb8⟩
  have N8:=AB ((SW7.out.t.solN H.out hB H.out.ok rfl []).below hb8)
  have c0':w8.cell? ⟨q.d.cb,0,none⟩=some (.pointer (some ⟨q.d.gx,0,none⟩)):=(N8.out.i.js.ji.blk.cell 0).trans rfl
  have HRD:=AB (DL P q.d q.d.gx q.s fx' w8 N8.out.i.js.ji.blk N8.out.i.x N8.out.i.ok N8.out.i.e (by omega))
  clear hb8 HNONE c0 a0 a1 a2 a3 a4
  go_wp2_with fail
  refine(AE HRD).mono ?_
  rintro e w9 ⟨rfl,hb9⟩
  have N9:=AB (N8.out.below hb9)
  clear hb9 HRD c0'
  go_wp2
  go_ret2
  exact⟨none,0,[],[],_,rfl,N9.out,rfl,rfl,by simp,fun x hx=>by simp at hx,⟨rfl,.inl ⟨rfl,rfl⟩⟩,trivial,List.Pairwise.nil,fun u hu=>by simp at hu⟩
theorem cF{w3 w4:World}{Wb B:Nat}{V:WV}{s:St}{a:Option Addr}{c:Nat}{vs:List Value}{cl:List (List Int)}(H3:WI w3 Wb B V s)(hB:B≤w3.heap.size)(ho:w4.ownsRow w3.heap.size 24 1 (.slice a cl.length c) cl.length vs)(he:Aq w4 w3.heap.size 3 vs cl)(hp:vs.Pairwise Af) :
  Ev w4 B V s (.slice a cl.length c) cl.length vs vs cl:=by
 refine⟨Kx ho hB,QN he hB,hp,Ax H3.ot ho (Nat.le_refl _),Ax H3.wt ho (Nat.le_refl _),?_,?_,?_,?_⟩
 ·intro u hu
  obtain⟨xs,hx⟩:=he.mem hu
  exact Ax H3.list hx (Nat.le_refl _)
 ·intro u hu v hv
  obtain⟨xs,hx⟩:=he.mem hu
  obtain⟨ys,hy⟩:=H3.cle.mem hv
  exact(Ax hy hx (Nat.le_refl _)).symm
 ·intro u hu v hv
  obtain⟨xs,hx⟩:=he.mem hu
  obtain⟨ys,hy⟩:=H3.oe.mem hv
  exact(Ax hy hx (Nat.le_refl _)).symm
 ·intro u hu v hv
  obtain⟨xs,hx⟩:=he.mem hu
  obtain⟨ys,hy⟩:=H3.we.mem hv
  exact(Ax hy hx (Nat.le_refl _)).symm
end Go.Proofs.YthboeppmlhbofaaGreatDoor
