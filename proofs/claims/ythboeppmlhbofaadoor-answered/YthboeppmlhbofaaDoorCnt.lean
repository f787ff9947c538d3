import Derived.Test.YthboeppmlhbofaaDoorDca
import Derived.Deep.RegionHeld3
import Derived.Test.YthboeppmlhbofaaDoorLba
import Derived.Test.YthboeppmlhbofaaDoorLbf
import Derived.Test.YthboeppmlhbofaaDoorLbc
import Derived.Test.YthboeppmlhbofaaDoorHal
namespace Go.Proofs.YthboeppmlhbofaaDoor
open Go.RowKit Txt
set_option maxRecDepth 100000
theorem O9:∃ fs,Tryd.prog.underlying 46=some (.struct fs):=by
 have h:(Tryd.prog.underlying 46).map CL=some true:=by kernel_rfl
 cases hu:Tryd.prog.underlying 46 with
 | none=>rw[hu] at h;simp at h
 | some d =>
  rw[hu] at h
  cases d with
  | struct fs=>exact⟨fs,rfl⟩
  | _=>simp[CL] at h
theorem O8:(Tryd.prog.info? 46).map (·.size)=some 7:=by kernel_rfl
def JX:List Value:=[.int .i64 0,.int .i64 0,.int .i64 0,.int .i64 0,.int .i64 0,.int .i64 0,.int .i64 0]
theorem PA{w':World}{tmps:Array Value}{g:Nat}{a b c d e f h:Value}(hr:Ab w' g 46 [a,b,c,d,e,f,h])(h2:tmps.getD 2 undef=.pointer (some ⟨g,0,none⟩)) :
  (results Tryd.f17 tmps).run Tryd.prog w'=.ok (.agg #[a,b,c,d,e,f,h]) w':=by
 obtain⟨fs,hu⟩:=O9
 exact results_cell_row rfl tmps w' g 46 #[a,b,c,d,e,f,h] (0,0) (.struct fs) h2 hr hu rfl O8
set_option maxHeartbeats 8000000 in
theorem NO(g:Nat)(r h l:Int)(ta la:Option Addr)(ss ls:List Pr)(tc em se lc lo un:Nat)(v7:Value)(w:World)(hr:Ab w g 67 (BI r h l (.slice ta ss.length tc) em se (.slice la ls.length lc) v7 lo un))(hsa:Cr w ta ss)(hsl:ss.length≤1000000)(hsb:Hid (∀ p∈ss,p.1<2^11∧p.2<2^11))(hla:Cr w la ls)(hll:ls.length≤1000000)(hlb:Hid (∀ p∈ls,p.1<2^11∧p.2<2^11))(hse:se<2^11)(hem:em≤1000000) :
  Calls Tryd.prog 17 #[.pointer (some ⟨g,0,none⟩)] w fun e w'=>e=.returned (.agg #[.int .i64 (CU se:Nat),.int .i64 ((ss.length:Int)+em),.int .i64 (Af ss:Nat),.int .i64 ((ls.length:Nat):Int),.int .i64 (Af ls:Nat),.int .i64 (lo:Nat),.int .i64 (un:Nat)])∧Below w.heap.size w w':=by
 have HC:Hid (∀ w,Calls Tryd.prog 36 #[.int .i64 se] w fun e w'=>e=.returned (.int .i64 (CU se:Nat))∧w'=w):=fun w=>Hw se hse w
 have HTT:Hid (∀ w' v k,Below w.heap.size w w'→(v=.slice ta ss.length tc∧k=Af ss∨v=.slice la ls.length lc∧k=Af ls)→Calls Tryd.prog 37 #[v] w' fun e w''=>e=.returned (.int .i64 (k:Nat))∧Below w'.heap.size w' w''):=by
  rintro w' v k hb (⟨rfl,rfl⟩ | ⟨rfl,rfl⟩)
  ·exact EE ta tc ss w' (hsa.below hb) hsl hsb
  ·exact EE la lc ls w' (hla.below hb) hll hlb
 generalize CU se=cv at *
 generalize Af ss=tot at *
 generalize Af ls=tol at *
 have HR:=AA hr
 have hgl:g<w.heap.size:=hr.lt
 have rA:Ab (w.alloc (.cells JX.toArray 46)) w.heap.size 46 JX:=heap_alloc_new w _
 have hbA:Below w.heap.size w (w.alloc (.cells JX.toArray 46)):=(Below.refl _ _).alloc (Nat.le_refl _) _
 have hwrap:IntKind.i64.wrap ((ss.length:Int)+em)=(ss.length:Int)+em:=by rw[IntKind.wrap_i64];omega
 clear hr hsa hla
 go_enter Tryd.func17,Tryd.ntmps17
 go_wp2_with fail
 simp only[JX] at rA hbA
 generalize w.alloc (.cells #[.int .i64 0,.int .i64 0,.int .i64 0,.int .i64 0,.int .i64 0,.int .i64 0,.int .i64 0] 46)=wA at *
 have F:Hid (∀ w',Below wA.heap.size wA w'→(w'.cell? ⟨g,3,none⟩=some (.slice ta ss.length tc)∧w'.cell? ⟨g,4,none⟩=some (.int .i64 em)∧w'.cell? ⟨g,5,none⟩=some (.int .i64 se)∧w'.cell? ⟨g,6,none⟩=some (.slice la ls.length lc)∧w'.cell? ⟨g,8,none⟩=some (.int .i64 lo)∧w'.cell? ⟨g,9,none⟩=some (.int .i64 un))∧Below w.heap.size w w'∧Ab w' w.heap.size 46 JX):=by
  intro w' hb
  have hw':Below w.heap.size w w':=hbA.trans (hb.mono hbA.size)
  have R:=AB HR.out hw'
  exact⟨⟨(R.cell 3).trans rfl,(R.cell 4).trans rfl,(R.cell 5).trans rfl,(R.cell 6).trans rfl,(R.cell 8).trans rfl,(R.cell 9).trans rfl⟩,hw',AB rA hb⟩
 have Bc:Hid (Below wA.heap.size wA wA.drew):=below_drewN (Below.refl _ _) 1
 obtain⟨⟨c3,c4,c5,c6,c8,c9⟩,_,_⟩:=F.out wA (Below.refl _ _)
 have hne:w.heap.size≠g:=by omega
 clear rA hbA HR
 go_region_held3 (fun w'=>w'.cell? ⟨g,3,none⟩=some (.slice ta ss.length tc)∧w'.cell? ⟨g,4,none⟩=some (.int .i64 em)∧w'.cell? ⟨g,5,none⟩=some (.int .i64 se)∧w'.cell? ⟨g,6,none⟩=some (.slice la ls.length lc)∧w'.cell? ⟨g,8,none⟩=some (.int .i64 lo)∧w'.cell? ⟨g,9,none⟩=some (.int .i64 un)) (go_keep)
  (first
   | (go_at_call 36;refine(AE HC _).mono ?_;rintro e w' ⟨rfl,rfl⟩)
   | (go_at_call 37;refine(AE HTT _ _ _ (F.out _ Bc.out).2.1 (by first | exact .inl ⟨rfl,rfl⟩ | exact .inr ⟨rfl,rfl⟩)).mono ?_;rintro e wa ⟨rfl,hba⟩;have Bc:Hid (Below wA.heap.size wA wa):=Bc.out.trans (hba.mono Bc.out.size);clear hba;obtain⟨⟨c3,c4,c5,c6,c8,c9⟩,_,RZ⟩:=F.out wa Bc.out;
         have z0:=RZ.cell 0;have z1:=RZ.cell 1;have z2:=RZ.cell 2;have z3:=RZ.cell 3;have z4:=RZ.cell 4;have z5:=RZ.cell 5;have z6:=RZ.cell 6;simp only[JX,List.getElem?_cons_zero,List.getElem?_cons_succ] at z0 z1 z2 z3 z4 z5 z6;
         have y0:=RZ.frozen 0;have y1:=RZ.frozen 1;have y2:=RZ.frozen 2;have y3:=RZ.frozen 3;have y4:=RZ.frozen 4;have y5:=RZ.frozen 5;have y6:=RZ.frozen 6;have RZ:=AA RZ))
 have R9:=AA (((((((RZ.out.set 0 (.int .i64 (cv:Nat))).set 1 (.int .i64 ((ss.length:Int)+em))).set 2 (.int .i64 (tot:Nat))).set 3 (.int .i64 ((ls.length:Nat):Int))).set 4 (.int .i64 (tol:Nat))).set 5 (.int .i64 (lo:Nat))).set 6 (.int .i64 (un:Nat)))
 have HB:Hid (Below w.heap.size w wa):=(F.out _ Bc.out).2.1
 clear F HTT HC
 go_wp2
 refine bodyPost_ret (v:=.agg #[.int .i64 (cv:Nat),.int .i64 ((ss.length:Int)+em),.int .i64 (tot:Nat),.int .i64 ((ls.length:Nat):Int),.int .i64 (tol:Nat),.int .i64 (lo:Nat),.int .i64 (un:Nat)]) (PA (a:=.int .i64 (cv:Nat)) (b:=.int .i64 ((ss.length:Int)+em)) (c:=.int .i64 (tot:Nat)) (d:=.int .i64 ((ls.length:Nat):Int)) (e:=.int .i64 (tol:Nat)) (f:=.int .i64 (lo:Nat)) (h:=.int .i64 (un:Nat)) R9.out rfl) rfl ⟨rfl,?_⟩
 exact((((((HB.out.setCell (p:=⟨w.heap.size,0,none⟩) (Nat.le_refl _) _).setCell (p:=⟨w.heap.size,1,none⟩) (Nat.le_refl _) _).setCell (p:=⟨w.heap.size,2,none⟩) (Nat.le_refl _) _).setCell (p:=⟨w.heap.size,3,none⟩) (Nat.le_refl _) _).setCell (p:=⟨w.heap.size,4,none⟩) (Nat.le_refl _) _).setCell (p:=⟨w.heap.size,5,none⟩) (Nat.le_refl _) _).setCell (p:=⟨w.heap.size,6,none⟩) (Nat.le_refl _) _
theorem DF{w w':World}{B e s n:Nat}{v:Value}{xs:List Value}(h:w.ownsRow B e s v n xs)(hk:∀ b,v.ownBlock=some b→w'.heap[b]?=w.heap[b]?):w'.ownsRow B e s v n xs:=by
 refine⟨h.1,?_⟩
 rcases h.2 with hn | ⟨g,cap,cur,hv,h1,hg,r⟩
 ·exact .inl hn
 ·exact .inr ⟨g,cap,cur,hv,h1,(hk g (by subst hv;rfl)).trans hg,r⟩
theorem FI{w:World}{B e s n:Nat}{v:Value}{xs:List Value}(h:w.ownsRow B e s v n xs)(b:Nat)(hb:v.ownBlock=some b):b<w.heap.size:=(h.lt b hb).2
theorem QX{t:Nat}(h:CU t=0)(ht:t<2^11)(h0:t.testBit 0=false):t=0:=by
 refine GR ht h0 (fun v hv=>?_)
 simp only[CU,Gp,Nat.add_eq_zero_iff,Bool.toNat_eq_zero] at h
 have hq:v=0∨v=1∨v=2∨v=3∨v=4∨v=5∨v=6∨v=7∨v=8∨v=9:=by omega
 rcases hq with rfl|rfl|rfl|rfl|rfl|rfl|rfl|rfl|rfl|rfl <;> simp_all
theorem SV{xs:List Int}(h:xs.all AK=true)(hz:Am (Aa xs,AZ xs)=0):Ak xs=0:=by
 have hT:=Bf.set xs h
 have hz':CU (Aa xs)+CU (AZ xs)=0:=hz
 have e1:=QX (t:=Aa xs) (by omega) hT.lt hT.zt
 have e2:=QX (t:=AZ xs) (by omega) hT.lf hT.zf
 rw[e1,e2] at hT
 exact GZ hT.top (fun v hv=>by rw[hT.pos v hv];simp) (fun v hv=>by rw[hT.neg v hv];simp)
def Ao(hv:List Nat):List Nat:=hv.filter fun c=>c != 0
def EA(hv:List Nat):Nat:=(hv.filter fun c=>c == 0).length
theorem Wd(hv:List Nat):Ao (hv++[0])=Ao hv∧EA (hv++[0])=EA hv+1:=by
 simp[Ao,EA,List.filter_append]
theorem Wa(hv:List Nat){c:Nat}(h:c≠0):Ao (hv++[c])=Ao hv++[c]∧EA (hv++[c])=EA hv:=by
 simp[Ao,EA,List.filter_append,h]
theorem Px(hv:List Nat):(Ao hv).length+EA hv=hv.length:=by
 induction hv with
 | nil=>rfl
 | cons c hv ih =>
  by_cases h:c=0
  ·subst h;simp[Ao,EA] at ih ⊢;omega
  ·simp[Ao,EA,h] at ih ⊢;omega
theorem Wc(hv:List Nat):(List.replicate (EA hv) 0++Ao hv).Perm hv:=by
 induction hv with
 | nil=>exact List.Perm.refl _
 | cons c hv ih =>
  by_cases h:c=0
  ·subst h
   have e1:EA (0 :: hv)=EA hv+1:=by simp[EA]
   have e2:Ao (0 :: hv)=Ao hv:=by simp[Ao]
   rw[e1,e2,List.replicate_succ,List.cons_append]
   exact ih.cons 0
  ·have e1:EA (c :: hv)=EA hv:=by simp[EA,h]
   have e2:Ao (c :: hv)=c :: Ao hv:=by simp[Ao,h]
   rw[e1,e2]
   exact List.perm_middle.trans (ih.cons c)
theorem Qy(hv:List Nat):AT (Ao hv)=AT hv:=by
 induction hv with
 | nil=>rfl
 | cons c hv ih =>
  have z:AG 0=0:=by decide
  by_cases h:c=0
  ·subst h
   simp[Ao,AT,z] at ih ⊢
   exact ih
  ·simp[Ao,AT,h] at ih ⊢
   exact ih
theorem Py{hv:List Nat}{c:Nat}(h:c∈Ao hv):c∈hv∧c≠0:=by
 unfold Ao at h
 obtain⟨a,b⟩:=List.mem_filter.1 h
 exact⟨a,by simpa using b⟩
theorem Aj.Ok.tks{s:Aj}(h:s.Ok):(Ao s.hv).length≤150∧Af (Ce (Ao s.hv))=AT s.hv:=by
 have hb:∀ c∈Ao s.hv,c<2^20∧c≠0:=fun c hc=>⟨h.hvt c (Py hc).1,(Py hc).2⟩
 have a:=Kd _ hb
 have b:=h.lits
 rw[Qy] at a
 exact⟨by omega,(Lq _ fun c hc=>(hb c hc).1).trans (Qy _)⟩
theorem Aj.Ok.lrs{s:Aj}(h:s.Ok):s.lr.length≤1000000∧Af (Ce s.lr)=AT s.lr:=by
 have a:=(KR (V:=s.sn) h.nod fun c hc=>⟨(h.lt c hc).1,(h.lt c hc).2.2.1,(h.lt c hc).2.2.2.1⟩).1
 have b:∀ n,n≤10→GC n≤59049:=by decide
 have c:=b _ (Fl s.sn)
 exact⟨by omega,Lq _ fun c hc=>(h.lt c hc).1⟩
structure LK(w:World)(g:Nat)(s:Aj)(ta la pa:Option Addr)(tc lc pc:Nat):Prop where
 row:Ab w g 67 (BI s.r s.h s.l (.slice ta (Ao s.hv).length tc) (EA s.hv) s.sn (.slice la s.lr.length lc) (.slice pa s.pf.length pc) s.log s.un)
 ot:w.ownsRow 0 86 2 (.slice ta (Ao s.hv).length tc) (Ao s.hv).length (AQ (Ce (Ao s.hv)))
 ol:w.ownsRow 0 86 2 (.slice la s.lr.length lc) s.lr.length (AQ (Ce s.lr))
 op:w.ownsRow 0 5 1 (.slice pa s.pf.length pc) s.pf.length (c8 s.pf)
 ap:Bp (.slice ta (Ao s.hv).length tc) (.slice la s.lr.length lc)
def QQ(g:Nat)(vt vl vp:Value)(b:Nat):Prop:=b=g∨vt.ownBlock=some b∨vl.ownBlock=some b∨vp.ownBlock=some b
def GL(w:World)(g:Nat)(s:Aj)(F:Nat→Prop):Prop:=∃ (ta la pa:Option Addr) (tc lc pc:Nat),LK w g s ta la pa tc lc pc∧∀ b,F b↔QQ g (.slice ta (Ao s.hv).length tc) (.slice la s.lr.length lc) (.slice pa s.pf.length pc) b
theorem LK.frame{w w':World}{g:Nat}{s:Aj}{ta la pa:Option Addr}{tc lc pc:Nat}(m:LK w g s ta la pa tc lc pc)(hk:∀ b,QQ g (.slice ta (Ao s.hv).length tc) (.slice la s.lr.length lc) (.slice pa s.pf.length pc) b→w'.heap[b]?=w.heap[b]?):LK w' g s ta la pa tc lc pc :=
 ⟨(hk g (.inl rfl)).trans m.row,DF m.ot fun b hb=>hk b (.inr (.inl hb)),DF m.ol fun b hb=>hk b (.inr (.inr (.inl hb))),DF m.op fun b hb=>hk b (.inr (.inr (.inr hb))),m.ap⟩
theorem LK.lt{w:World}{g:Nat}{s:Aj}{ta la pa:Option Addr}{tc lc pc:Nat}(m:LK w g s ta la pa tc lc pc)(b:Nat)(hb:QQ g (.slice ta (Ao s.hv).length tc) (.slice la s.lr.length lc) (.slice pa s.pf.length pc) b):b<w.heap.size:=by
 rcases hb with rfl | hb | hb | hb
 ·exact m.row.lt
 ·exact FI m.ot b hb
 ·exact FI m.ol b hb
 ·exact FI m.op b hb
theorem LK.below{w w':World}{g:Nat}{s:Aj}{ta la pa:Option Addr}{tc lc pc:Nat}(m:LK w g s ta la pa tc lc pc)(hb:Below w.heap.size w w'):LK w' g s ta la pa tc lc pc:=m.frame fun b hq=>hb.block b (m.lt b hq)
theorem GL.frame{w w':World}{g:Nat}{s:Aj}{F:Nat→Prop}(h:GL w g s F)(hk:∀ b,F b→w'.heap[b]?=w.heap[b]?):GL w' g s F:=by
 obtain⟨ta,la,pa,tc,lc,pc,m,hF⟩:=h
 exact⟨ta,la,pa,tc,lc,pc,m.frame fun b hb=>hk b ((hF b).2 hb),hF⟩
theorem GL.lt{w:World}{g:Nat}{s:Aj}{F:Nat→Prop}(h:GL w g s F)(b:Nat)(hb:F b):b<w.heap.size:=by
 obtain⟨ta,la,pa,tc,lc,pc,m,hF⟩:=h
 exact m.lt b ((hF b).1 hb)
theorem GL.below{w w':World}{g:Nat}{s:Aj}{F:Nat→Prop}(h:GL w g s F)(hb:Below w.heap.size w w'):GL w' g s F:=h.frame fun b hq=>hb.block b (h.lt b hq)
theorem Kl{w w':World}{g:Nat}{s:Aj}{F:Nat→Prop}(h:GL w g s F)(hb:Below w.heap.size w w'):Wm GL F w w' g s fun _=>True:=⟨F,h.below hb,EX.of hb,fun _ q=>.inl q,trivial⟩
theorem UN(r h l:Int)(w:World):Calls Tryd.prog 24 #[.agg #[.int .i64 r,.int .i64 h,.int .i64 l]] w fun e w'=>Below w.heap.size w w'∧if BY r h l then ∃ g F,e=.returned (.tuple #[.pointer (some ⟨g,0,none⟩),.int .i64 0])∧GL w' g (Aj.new r h l) F∧∀ b,F b→w.heap.size≤b else e=.returned (.tuple #[.pointer none,.int .i64 1]):=by
 refine(Vv r h l w).mono ?_
 rintro e w' ⟨hb,hq⟩
 refine⟨hb,?_⟩
 split
 ·rename_i hs
  rw[if_pos hs] at hq
  obtain⟨g,hg,rfl,hr⟩:=hq
  refine⟨g,QQ g (.slice none 0 0) (.slice none 0 0) (.slice none 0 0),rfl,⟨none,none,none,0,0,0,⟨hr,CE _ _ _ _,CE _ _ _ _,CE _ _ _ _,Bk _⟩,fun b=>Iff.rfl⟩,fun b hq=>?_⟩
  rcases hq with rfl | q | q | q
  ·exact hg
  ·simp[Value.ownBlock] at q
  ·simp[Value.ownBlock] at q
  ·simp[Value.ownBlock] at q
 ·rename_i hs
  rw[if_neg hs] at hq
  exact hq
theorem FK{w:World}{B:Nat}{a:Option Addr}{c:Nat}{cs:List Nat}(h:w.ownsRow B 86 2 (.slice a cs.length c) cs.length (AQ (Ce cs))):Cr w a (Ce cs):=by
 refine EV (B:=B) (tc:=c) ?_
 rw[Az];exact h
theorem NQ{w:World}{g:Nat}{s:Aj}{F:Nat→Prop}(h:GL w g s F)(ok:s.Ok)(hn:s.hv.length≤1000000):Calls Tryd.prog 17 #[.pointer (some ⟨g,0,none⟩)] w fun e w'=>e=.returned (.agg #[.int .i64 (AG s.vw.seen:Nat),.int .i64 (s.hv.length:Nat),.int .i64 (AT s.hv:Nat),.int .i64 (s.lr.length:Nat),.int .i64 (AT s.lr:Nat),.int .i64 (s.log:Nat),.int .i64 (s.un:Nat)])∧Below w.heap.size w w':=by
 obtain⟨ta,la,pa,tc,lc,pc,m,hF⟩:=h
 have ht:=ok.tks
 have hl:=ok.lrs
 have hk:=Px s.hv
 have hr:=m.row
 rw[← Az (Ao s.hv),← Az s.lr] at hr
 refine(NO g _ _ _ ta la (Ce (Ao s.hv)) (Ce s.lr) tc (EA s.hv) s.sn lc s.log s.un _ w hr (FK m.ot) (by rw[Az];omega) (Ko _) (FK m.ol) (by rw[Az];omega) (Ko _) ok.sn (by omega)).mono ?_
 rintro e w' ⟨rfl,hb⟩
 refine⟨?_,hb⟩
 have e1:AG s.vw.seen=CU s.sn:=by
  have:=(GB ok.sn ok.sz).size
  rw[NR,Nat.add_zero] at this
  exact this
 have e2:((Ce (Ao s.hv)).length:Int)+(EA s.hv:Int)=(s.hv.length:Int):=by rw[Az];omega
 rw[e1,e2,ht.2,hl.2,Az]
theorem Q6{w:World}{g:Nat}{s:Aj}{F:Nat→Prop}(a:Option Addr)(c:Nat)(xs:List Int)(h:GL w g s F)(ok:s.Ok)(hi:Ad w a xs)(hx:xs.length≤100000)(hn:s.hv.length≤1000000) :
  Calls Tryd.prog 25 #[.pointer (some ⟨g,0,none⟩),.slice a xs.length c] w fun e w'=>e=.returned (.int .i64 (Hx (An xs (AT s.hv))))∧Wm GL F w w' g (s.add xs) fun _=>True:=by
 have hI:=h
 have ht:=ok.tks
 have hk0:=Px s.hv
 obtain⟨ta,la,pa,tc,lc,pc,m,hF⟩:=h
 have hr:=m.row
 have hot:=m.ot
 rw[← Az (Ao s.hv)] at hr hot
 have hsa:=FK m.ot
 have hpl:(Ce (Ao s.hv)).length≤1000000:=by rw[Az];omega
 cases hall:xs.all AK with
 | false =>
  refine(QS g a c xs w (by omega) hi hall).mono ?_
  rintro e w' ⟨rfl,hb⟩
  have hk:An xs (AT s.hv)=.lit:=by simp[An,hall]
  refine⟨by rw[hk];rfl,?_⟩
  unfold Aj.add
  rw[hk,if_neg (by simp[Tk.takes?])]
  exact Kl hI hb
 | true =>
  have hT:=Bf.set xs hall
  cases htw:(Aa xs&&&AZ xs != 0) with
  | true =>
   refine(NG g a c xs w (by omega) hi hall htw).mono ?_
   rintro e w' ⟨rfl,hb⟩
   have hk:An xs (AT s.hv)=.taut:=by simp[An,hall,hT.twin,htw]
   refine⟨by rw[hk];rfl,?_⟩
   unfold Aj.add
   rw[hk,if_neg (by simp[Tk.takes?])]
   exact Kl hI hb
  | false =>
   have hsz:AG (Ak xs)=Am (Aa xs,AZ xs):=hT.size
   have hlit:=ok.lits
   by_cases hz:Am (Aa xs,AZ xs)=0
   ·refine(On g a c xs _ _ _ ta (Ce (Ao s.hv)) tc _ _ _ _ _ _ w (by omega) hi hall htw hr hz (by omega)).mono ?_
    rintro e w' ⟨rfl,hr',hkp⟩
    have hk:An xs (AT s.hv)=.takes:=by simp[An,hall,hT.twin,htw,hsz,hz];omega
    refine⟨by rw[hk];rfl,?_⟩
    have e0:=SV hall hz
    have v0:vN 0=0:=by decide
    unfold Aj.add
    rw[hk,if_pos (show Tk.takes.takes?=true from rfl),e0,v0,Nat.or_zero]
    obtain⟨k1,k2⟩:=Wd s.hv
    have blk:∀ b,b<w.heap.size→b≠g→w'.heap[b]?=w.heap[b]?:=fun b h1 h2=>hkp.block b h1 h2 (by simp[Value.ownBlock])
    refine⟨F,⟨ta,la,pa,tc,lc,pc,⟨?_,?_,?_,?_,?_⟩,?_⟩,⟨hkp.os,hkp.tape,hkp.output,hkp.size,fun b h1 h2=>blk b h1 fun e=>h2 ((hF b).2 (.inl e))⟩,fun _ q=>.inl q,trivial⟩
    ·show Ab w' g 67 (BI s.r s.h s.l (.slice ta (Ao (s.hv++[0])).length tc) (EA (s.hv++[0])) s.sn (.slice la s.lr.length lc) (.slice pa s.pf.length pc) s.log s.un)
     rw[k1,k2]
     rw[Az] at hr'
     exact hr'
    ·show w'.ownsRow 0 86 2 (.slice ta (Ao (s.hv++[0])).length tc) (Ao (s.hv++[0])).length (AQ (Ce (Ao (s.hv++[0]))))
     rw[k1]
     exact DF m.ot fun b hb=>blk b (FI m.ot b hb) fun e=>DZ m.ot m.row Fx (e ▸ hb)
    ·exact DF m.ol fun b hb=>blk b (FI m.ol b hb) fun e=>DZ m.ol m.row Fx (e ▸ hb)
    ·exact DF m.op fun b hb=>blk b (FI m.op b hb) fun e=>DZ m.op m.row (by decide) (e ▸ hb)
    ·show Bp (.slice ta (Ao (s.hv++[0])).length tc) (.slice la s.lr.length lc)
     rw[k1];exact m.ap
    ·intro b
     show F b↔QQ g (.slice ta (Ao (s.hv++[0])).length tc) (.slice la s.lr.length lc) (.slice pa s.pf.length pc) b
     rw[k1];exact hF b
   ·have hne:Ak xs≠0:=fun e=>hz (by rw[← hsz,e];decide)
    by_cases hf:150<Am (Aa xs,AZ xs)+Af (Ce (Ao s.hv))
    ·refine(Q8 g a c xs _ _ _ ta (Ce (Ao s.hv)) tc _ _ _ _ _ _ w (by omega) hi hall htw hr hsa hpl (Ko _) hz hf).mono ?_
     rintro e w' ⟨rfl,hb⟩
     have hk:An xs (AT s.hv)=.full:=by simp[An,hall,hT.twin,htw,hsz];omega
     refine⟨by rw[hk];rfl,?_⟩
     unfold Aj.add
     rw[hk,if_neg (by simp[Tk.takes?])]
     exact Kl hI hb
    ·refine(TK 0 g a c xs _ _ _ ta (Ce (Ao s.hv)) tc _ _ _ _ _ _ w (by omega) hi hall htw hr hot (Nat.zero_le _) hsa hpl (Ko _) hz (by omega) ok.sn).mono ?_
     rintro e w' ⟨rfl,a3,c3,hr',ho,hkp,hl⟩
     have hk:An xs (AT s.hv)=.takes:=by simp[An,hall,hT.twin,htw,hsz];omega
     refine⟨by rw[hk];rfl,?_⟩
     obtain⟨p1,p2⟩:=hT.eq
     have ev:Aa xs|||AZ xs=vN (Ak xs):=by rw[p1,p2];rfl
     have ep:Ce (Ao s.hv)++[(Aa xs,AZ xs)]=Ce (Ao s.hv++[Ak xs]):=by rw[Iz,p1,p2]
     have el:(Ce (Ao s.hv)).length+1=(Ao s.hv++[Ak xs]).length:=by rw[Az,GI]
     rw[ev,el] at hr'
     rw[ep,el] at ho
     rw[el] at hl
     rw[Az] at hkp hl
     unfold Aj.add
     rw[hk,if_pos (show Tk.takes.takes?=true from rfl)]
     obtain⟨k1,k2⟩:=Wa s.hv hne
     have bl:∀ {e s' n:Nat} {v:Value} {zs:List Value},w.ownsRow 0 e s' v n zs→e≠67→(∀ b,v.ownBlock=some b→(Value.slice ta (Ao s.hv).length tc).ownBlock≠some b)→w'.ownsRow 0 e s' v n zs:=fun ho he hd=>DF ho fun b hb=>hkp.block b (FI ho b hb) (fun q=>DZ ho m.row he (q ▸ hb)) (hd b hb)
     have hmv:∀ b,(Value.slice a3 (Ao s.hv++[Ak xs]).length c3).ownBlock=some b→(Value.slice ta (Ao s.hv).length tc).ownBlock=some b∨w.heap.size≤b:=fun b hb=>by
      rcases hl with q | ⟨k,q1,q2⟩
      ·exact .inl (q ▸ hb)
      ·rw[q2] at hb
       simp only[Option.some.injEq] at hb
       subst hb
       exact .inr q1
     refine⟨QQ g (.slice a3 (Ao s.hv++[Ak xs]).length c3) (.slice la s.lr.length lc) (.slice pa s.pf.length pc),⟨a3,la,pa,c3,lc,pc,⟨?_,?_,?_,?_,?_⟩,?_⟩,⟨hkp.os,hkp.tape,hkp.output,hkp.size,fun b h1 h2=>hkp.block b h1 (fun e=>h2 ((hF b).2 (.inl e))) fun e=>h2 ((hF b).2 (.inr (.inl e)))⟩,?_,trivial⟩
     ·show Ab w' g 67 (BI s.r s.h s.l (.slice a3 (Ao (s.hv++[Ak xs])).length c3) (EA (s.hv++[Ak xs])) (s.sn|||vN (Ak xs)) (.slice la s.lr.length lc) (.slice pa s.pf.length pc) s.log s.un)
      rw[k1,k2];exact hr'
     ·show w'.ownsRow 0 86 2 (.slice a3 (Ao (s.hv++[Ak xs])).length c3) (Ao (s.hv++[Ak xs])).length (AQ (Ce (Ao (s.hv++[Ak xs]))))
      rw[k1];exact ho
     ·exact bl m.ol Fx fun b hb q=>m.ap b q hb
     ·exact bl m.op (by decide) fun b hb q=>(FH m.op m.ot (by decide)).elim (fun z=>by rw[z] at hb;simp at hb) fun z=>z (hb.trans q.symm)
     ·show Bp (.slice a3 (Ao (s.hv++[Ak xs])).length c3) (.slice la s.lr.length lc)
      rw[k1]
      intro b hb q
      rcases hmv b hb with z | z
      ·exact m.ap b z q
      ·have:=FI m.ol b q;omega
     ·intro b
      show _↔QQ g (.slice a3 (Ao (s.hv++[Ak xs])).length c3) (.slice la s.lr.length lc) (.slice pa s.pf.length pc) b
      rw[k1]
     ·intro b hb
      rcases hb with q | q | q | q
      ·exact .inl ((hF b).2 (.inl q))
      ·exact(hmv b q).imp (fun z=>(hF b).2 (.inr (.inl z))) id
      ·exact .inl ((hF b).2 (.inr (.inr (.inl q))))
      ·exact .inl ((hF b).2 (.inr (.inr (.inr q))))
theorem IC:∀ (ls:List EY) (s:Aj),s.log+ls.length≤(ls.foldl Aj.keep s).log∧s.pf.length≤(ls.foldl Aj.keep s).pf.length∧(ls.foldl Aj.keep s).lr.length≤s.lr.length+ls.length∧(ls.foldl Aj.keep s).un≤s.un+ls.length:=by
 intro ls
 induction ls with
 | nil=>intro s;simp
 | cons p ls ih =>
  intro s
  simp only[List.foldl_cons,List.length_cons]
  obtain⟨a,b,c,d⟩:=ih (s.keep p)
  have e1:(s.keep p).log=s.log+(p.2.length+1):=rfl
  have e2:(s.keep p).pf.length=s.pf.length+(BZ p.1 p.2).length:=by simp[Aj.keep]
  have e3:(s.keep p).lr.length≤s.lr.length+1:=by
   simp only[Aj.keep]
   split
   ·simp
   ·split
    ·have:=List.length_erase_le (a:=AO p.2) (l:=s.lr);omega
    ·omega
  have e4:(s.keep p).un≤s.un+1:=by
   simp only[Aj.keep]
   split <;> omega
  omega
theorem Vl{s:Aj}(h:∀ c∈s.lr,c<2^20)(p:EY):∀ c∈(s.keep p).lr,c<2^20:=by
 intro c hc
 simp only[Aj.keep] at hc
 split at hc
 ·rcases List.mem_append.1 hc with q | q
  ·exact h c q
  ·rw[List.mem_singleton.1 q];exact Dw _
 ·split at hc
  ·exact h c (List.mem_of_mem_erase hc)
  ·exact h c hc
theorem To:∀ (ls:List EY) (s:Aj),(∀ c∈s.lr,c<2^20)→∀ c∈(ls.foldl Aj.keep s).lr,c<2^20:=by
 intro ls
 induction ls with
 | nil=>intro s h;exact h
 | cons p ls ih=>intro s h;exact ih _ (Vl h p)
theorem Ma{r h l:Int}{hv:List Nat}:∀ (ls:List EY) (j:JV),Eg r h l hv j ls→∀ p∈ls,p.1=97∨p.1=100∨p.1=101:=by
 intro ls
 induction ls with
 | nil=>intro j _ p hp;simp at hp
 | cons q ls ih =>
  intro j h p hp
  obtain⟨_,a2,_,a4⟩:=h
  rcases List.mem_cons.1 hp with rfl | hp
  ·rcases a2.2 with⟨b,_⟩ | ⟨b,_⟩ | ⟨b,_⟩
   ·exact .inl b
   ·exact .inr (.inr b)
   ·exact .inr (.inl b)
  ·exact ih _ a4 p hp
theorem LK.out{w:World}{g:Nat}{s:Aj}{ta la pa:Option Addr}{tc lc pc:Nat}(m:LK w g s ta la pa tc lc pc){B e k n:Nat}{v:Value}{zs:List Value}(ho:w.ownsRow B e k v n zs)(h1:e≠67)(h2:e≠86)(h3:e≠5)(b:Nat)(hb:v.ownBlock=some b):¬ QQ g (.slice ta (Ao s.hv).length tc) (.slice la s.lr.length lc) (.slice pa s.pf.length pc) b:=by
 have d:∀ {e' k' n':Nat} {v':Value} {zs':List Value},w.ownsRow 0 e' k' v' n' zs'→e≠e'→v'.ownBlock≠some b:=fun ho' he q=>(FH ho ho' he).elim (fun z=>by rw[z] at hb;simp at hb) fun z=>z (hb.trans q.symm)
 rintro(q | q | q | q)
 ·exact DZ ho m.row h1 (q ▸ hb)
 ·exact d m.ot h2 q
 ·exact d m.ol h2 q
 ·exact d m.op h3 q
theorem LK.outRow{w:World}{g:Nat}{s:Aj}{ta la pa:Option Addr}{tc lc pc:Nat}(m:LK w g s ta la pa tc lc pc){b e:Nat}{zs:List Value}(hr:Ab w b e zs)(h1:e≠67)(h2:86≠e)(h3:5≠e):¬ QQ g (.slice ta (Ao s.hv).length tc) (.slice la s.lr.length lc) (.slice pa s.pf.length pc) b:=by
 rintro(q | q | q | q)
 ·have a1:w.heap[b]?=some (.cells zs.toArray e (0,0)):=hr
  have a2:w.heap[g]?=some (.cells _ 67 (0,0)):=m.row
  rw[q,a2] at a1
  simp only[Option.some.injEq,Obj.cells.injEq] at a1
  exact h1 a1.2.1.symm
 ·exact DZ m.ot hr h2 q
 ·exact DZ m.ol hr h2 q
 ·exact DZ m.op hr h3 q
theorem Qn{F:Nat→Prop}{w w':World}{B e s n:Nat}{v:Value}{zs:List Value}(ho:w.ownsRow B e s v n zs)(hc:EX F w w')(hd:∀ b,v.ownBlock=some b→¬ F b):w'.ownsRow B e s v n zs:=DF ho fun b hb=>hc.block b (FI ho b hb) (hd b hb)
theorem Rl{w:World}{g:Nat}{s:Aj}{ta la pa:Option Addr}{tc lc pc:Nat}(m:LK w g s ta la pa tc lc pc)(h0:0<w.heap.size)(hn0:(Value.slice pa s.pf.length pc).ownBlock≠some 0)(htab:FM w)(hlr:∀ c∈s.lr,c<2^20)(hll:s.lr.length≤10000000)(hpl:s.pf.length≤100000000)(hlo:s.log≤100000000)(hun:s.un≤100000000)
  (lt:UInt8) (hlt:lt=97∨lt=100∨lt=101) (v:Value) (b0:Nat) (xs:List Int) (hoi:w.ownsRow b0 3 1 v xs.length (AW xs)) (hlit:xs.all AK=true) (hxl:xs.length≤1000) :
  Calls Tryd.prog 33 #[.pointer (some ⟨g,0,none⟩),.agg #[.int .u8 (lt.toNat:Int),v]] w fun e w'=>e=.returned (.tuple #[])∧∃ la' lc' pa' pc',LK w' g (s.keep (lt,xs)) ta la' pa' tc lc' pc'∧EX (QQ g (.slice ta (Ao s.hv).length tc) (.slice la s.lr.length lc) (.slice pa s.pf.length pc)) w w' ∧
   DM (.slice la s.lr.length lc) (.slice la' (s.keep (lt,xs)).lr.length lc') w∧DM (.slice pa s.pf.length pc) (.slice pa' (s.keep (lt,xs)).pf.length pc') w:=by
 obtain⟨a,c,rfl⟩:∃ a c,v=.slice a xs.length c:=by
  rcases hoi.2 with⟨rfl,e⟩ | ⟨g,cap,_,rfl,_⟩
  ·exact⟨none,0,by rw[e]⟩
  ·exact⟨_,cap,rfl⟩
 refine(Rm g s.r s.h s.l (.slice ta (Ao s.hv).length tc) (EA s.hv) s.sn s.log s.un la pa lc pc s.lr s.pf w h0 hn0 htab m.row m.ol m.op hlr hll hpl hlo hun lt hlt a c b0 xs hoi hlit hxl).mono ?_
 rintro e w' ⟨rfl,la',lc',pa',pc',k1,k2,k3,k4,k5,k6⟩
 refine⟨rfl,la',lc',pa',pc',⟨k1,?_,k2,k3,?_⟩,k4.mono fun b _ q=>?_,k5,k6⟩
 ·have key:∀ b,(Value.slice ta (Ao s.hv).length tc).ownBlock=some b→¬ VJ g (.slice la s.lr.length lc) (.slice pa s.pf.length pc) b:=fun b hb q=>by
   rcases q with q | q | q
   ·exact DZ m.ot m.row Fx (q ▸ hb)
   ·exact m.ap b hb q
   ·exact(FH m.ot m.op (by decide)).elim (fun z=>by rw[z] at hb;simp at hb) fun z=>z (hb.trans q.symm)
  exact Qn m.ot k4 key
 ·intro b hb q
  rcases k5 b q with z | z
  ·exact m.ap b hb z
  ·have:=FI m.ot b hb;omega
 ·rcases q with q | q | q
  ·exact .inl q
  ·exact .inr (.inr (.inl q))
  ·exact .inr (.inr (.inr q))
end Go.Proofs.YthboeppmlhbofaaDoor
