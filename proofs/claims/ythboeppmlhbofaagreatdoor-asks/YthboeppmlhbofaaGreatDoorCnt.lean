import Derived.Test.YthboeppmlhbofaaGreatDoorDca
import Derived.Deep.RegionHeld3
import Derived.Test.YthboeppmlhbofaaGreatDoorLba
import Derived.Test.YthboeppmlhbofaaGreatDoorLbf
import Derived.Test.YthboeppmlhbofaaGreatDoorLbc
import Derived.Test.YthboeppmlhbofaaGreatDoorHal
namespace Go.Proofs.YthboeppmlhbofaaGreatDoor
open Go.RowKit Txt
set_option maxRecDepth 100000
theorem TM:∃ fs,Tryz.prog.underlying 66=some (.struct fs):=by
 have h:(Tryz.prog.underlying 66).map EY=some true:=by kernel_rfl
 cases hu:Tryz.prog.underlying 66 with
 | none=>rw[hu] at h;simp at h
 | some d =>
  rw[hu] at h
  cases d with
  | struct fs=>exact⟨fs,rfl⟩
  | _=>simp[EY] at h
theorem TL:(Tryz.prog.info? 66).map (·.size)=some 7:=by kernel_rfl
def Lo:List Value:=[.int .i64 0,.int .i64 0,.int .i64 0,.int .i64 0,.int .i64 0,.int .i64 0,.int .i64 0]
theorem TN{w':World}{tmps:Array Value}{g:Nat}{a b c d e f h:Value}(hr:AY w' g 66 [a,b,c,d,e,f,h])(h2:tmps.getD 2 undef=.pointer (some ⟨g,0,none⟩)) :
  (results Tryz.f37 tmps).run Tryz.prog w'=.ok (.agg #[a,b,c,d,e,f,h]) w':=by
 obtain⟨fs,hu⟩:=TM
 exact results_cell_row rfl tmps w' g 66 #[a,b,c,d,e,f,h] (0,0) (.struct fs) h2 hr hu rfl TL
set_option maxHeartbeats 8000000 in
theorem QX(g:Nat)(r h l:Int)(ta la:Option Addr)(ss ls:List Pr)(tc em se lc lo un:Nat)(v7:Value)(w:World)(hr:AY w g 107 (BR r h l (.slice ta ss.length tc) em se (.slice la ls.length lc) v7 lo un))(hsa:Dy w ta ss)(hsl:ss.length≤1000000)(hsb:Hid (∀ p∈ss,p.1<2^11∧p.2<2^11))(hla:Dy w la ls)(hll:ls.length≤1000000)(hlb:Hid (∀ p∈ls,p.1<2^11∧p.2<2^11))(hse:se<2^11)(hem:em≤1000000) :
  Calls Tryz.prog 37 #[.pointer (some ⟨g,0,none⟩)] w fun e w'=>e=.returned (.agg #[.int .i64 (Da se:Nat),.int .i64 ((ss.length:Int)+em),.int .i64 (As ss:Nat),.int .i64 ((ls.length:Nat):Int),.int .i64 (As ls:Nat),.int .i64 (lo:Nat),.int .i64 (un:Nat)])∧Below w.heap.size w w':=by
 have HC:Hid (∀ w,Calls Tryz.prog 66 #[.int .i64 se] w fun e w'=>e=.returned (.int .i64 (Da se:Nat))∧w'=w):=fun w=>Ju se hse w
 have HTT:Hid (∀ w' v k,Below w.heap.size w w'→(v=.slice ta ss.length tc∧k=As ss∨v=.slice la ls.length lc∧k=As ls)→Calls Tryz.prog 62 #[v] w' fun e w''=>e=.returned (.int .i64 (k:Nat))∧Below w'.heap.size w' w''):=by
  rintro w' v k hb (⟨rfl,rfl⟩ | ⟨rfl,rfl⟩)
  ·exact Fc ta tc ss w' (hsa.below hb) hsl hsb
  ·exact Fc la lc ls w' (hla.below hb) hll hlb
 generalize Da se=cv at *
 generalize As ss=tot at *
 generalize As ls=tol at *
 have HR:=AB hr
 have hgl:g<w.heap.size:=hr.lt
 have rA:AY (w.alloc (.cells Lo.toArray 66)) w.heap.size 66 Lo:=heap_alloc_new w _
 have hbA:Below w.heap.size w (w.alloc (.cells Lo.toArray 66)):=(Below.refl _ _).alloc (Nat.le_refl _) _
 have hwrap:IntKind.i64.wrap ((ss.length:Int)+em)=(ss.length:Int)+em:=by rw[IntKind.wrap_i64];omega
 clear hr hsa hla
 go_enter Tryz.func37,Tryz.ntmps37
 go_wp2_with fail
 simp only[Lo] at rA hbA
 generalize w.alloc (.cells #[.int .i64 0,.int .i64 0,.int .i64 0,.int .i64 0,.int .i64 0,.int .i64 0,.int .i64 0] 66)=wA at *
 have F:Hid (∀ w',Below wA.heap.size wA w'→(w'.cell? ⟨g,3,none⟩=some (.slice ta ss.length tc)∧w'.cell? ⟨g,4,none⟩=some (.int .i64 em)∧w'.cell? ⟨g,5,none⟩=some (.int .i64 se)∧w'.cell? ⟨g,6,none⟩=some (.slice la ls.length lc)∧w'.cell? ⟨g,8,none⟩=some (.int .i64 lo)∧w'.cell? ⟨g,9,none⟩=some (.int .i64 un))∧Below w.heap.size w w'∧AY w' w.heap.size 66 Lo):=by
  intro w' hb
  have hw':Below w.heap.size w w':=hbA.trans (hb.mono hbA.size)
  have R:=AF HR.out hw'
  exact⟨⟨(R.cell 3).trans rfl,(R.cell 4).trans rfl,(R.cell 5).trans rfl,(R.cell 6).trans rfl,(R.cell 8).trans rfl,(R.cell 9).trans rfl⟩,hw',AF rA hb⟩
 have Bc:Hid (Below wA.heap.size wA wA.drew):=below_drewN (Below.refl _ _) 1
 obtain⟨⟨c3,c4,c5,c6,c8,c9⟩,_,_⟩:=F.out wA (Below.refl _ _)
 have hne:w.heap.size≠g:=by omega
 clear rA hbA HR
 go_region_held3 (fun w'=>w'.cell? ⟨g,3,none⟩=some (.slice ta ss.length tc)∧w'.cell? ⟨g,4,none⟩=some (.int .i64 em)∧w'.cell? ⟨g,5,none⟩=some (.int .i64 se)∧w'.cell? ⟨g,6,none⟩=some (.slice la ls.length lc)∧w'.cell? ⟨g,8,none⟩=some (.int .i64 lo)∧w'.cell? ⟨g,9,none⟩=some (.int .i64 un)) (go_keep)
  (first
   | (go_at_call 66;refine(AE HC _).mono ?_;rintro e w' ⟨rfl,rfl⟩)
   | (go_at_call 62;refine(AE HTT _ _ _ (F.out _ Bc.out).2.1 (by first | exact .inl ⟨rfl,rfl⟩ | exact .inr ⟨rfl,rfl⟩)).mono ?_;rintro e wa ⟨rfl,hba⟩;have Bc:Hid (Below wA.heap.size wA wa):=Bc.out.trans (hba.mono Bc.out.size);clear hba;obtain⟨⟨c3,c4,c5,c6,c8,c9⟩,_,RZ⟩:=F.out wa Bc.out;
         have z0:=RZ.cell 0;have z1:=RZ.cell 1;have z2:=RZ.cell 2;have z3:=RZ.cell 3;have z4:=RZ.cell 4;have z5:=RZ.cell 5;have z6:=RZ.cell 6;simp only[Lo,List.getElem?_cons_zero,List.getElem?_cons_succ] at z0 z1 z2 z3 z4 z5 z6;
         have y0:=RZ.frozen 0;have y1:=RZ.frozen 1;have y2:=RZ.frozen 2;have y3:=RZ.frozen 3;have y4:=RZ.frozen 4;have y5:=RZ.frozen 5;have y6:=RZ.frozen 6;have RZ:=AB RZ))
 have R9:=AB (((((((RZ.out.set 0 (.int .i64 (cv:Nat))).set 1 (.int .i64 ((ss.length:Int)+em))).set 2 (.int .i64 (tot:Nat))).set 3 (.int .i64 ((ls.length:Nat):Int))).set 4 (.int .i64 (tol:Nat))).set 5 (.int .i64 (lo:Nat))).set 6 (.int .i64 (un:Nat)))
 have HB:Hid (Below w.heap.size w wa):=(F.out _ Bc.out).2.1
 clear F HTT HC
 go_wp2
 refine bodyPost_ret (v:=.agg #[.int .i64 (cv:Nat),.int .i64 ((ss.length:Int)+em),.int .i64 (tot:Nat),.int .i64 ((ls.length:Nat):Int),.int .i64 (tol:Nat),.int .i64 (lo:Nat),.int .i64 (un:Nat)]) (TN (a:=.int .i64 (cv:Nat)) (b:=.int .i64 ((ss.length:Int)+em)) (c:=.int .i64 (tot:Nat)) (d:=.int .i64 ((ls.length:Nat):Int)) (e:=.int .i64 (tol:Nat)) (f:=.int .i64 (lo:Nat)) (h:=.int .i64 (un:Nat)) R9.out rfl) rfl ⟨rfl,?_⟩
 exact((((((HB.out.setCell (p:=⟨w.heap.size,0,none⟩) (Nat.le_refl _) _).setCell (p:=⟨w.heap.size,1,none⟩) (Nat.le_refl _) _).setCell (p:=⟨w.heap.size,2,none⟩) (Nat.le_refl _) _).setCell (p:=⟨w.heap.size,3,none⟩) (Nat.le_refl _) _).setCell (p:=⟨w.heap.size,4,none⟩) (Nat.le_refl _) _).setCell (p:=⟨w.heap.size,5,none⟩) (Nat.le_refl _) _).setCell (p:=⟨w.heap.size,6,none⟩) (Nat.le_refl _) _
theorem EP{w w':World}{B e s n:Nat}{v:Value}{xs:List Value}(h:w.ownsRow B e s v n xs)(hk:∀ b,v.ownBlock=some b→w'.heap[b]?=w.heap[b]?):w'.ownsRow B e s v n xs:=by
 refine⟨h.1,?_⟩
 rcases h.2 with hn | ⟨g,cap,cur,hv,h1,hg,r⟩
 ·exact .inl hn
 ·exact .inr ⟨g,cap,cur,hv,h1,(hk g (by subst hv;rfl)).trans hg,r⟩
theorem Gq{w:World}{B e s n:Nat}{v:Value}{xs:List Value}(h:w.ownsRow B e s v n xs)(b:Nat)(hb:v.ownBlock=some b):b<w.heap.size:=(h.lt b hb).2
theorem Ut{t:Nat}(h:Da t=0)(ht:t<2^11)(h0:t.testBit 0=false):t=0:=by
 refine IQ ht h0 (fun v hv=>?_)
 simp only[Da,Iu,Nat.add_eq_zero_iff,Bool.toNat_eq_zero] at h
 have hq:v=0∨v=1∨v=2∨v=3∨v=4∨v=5∨v=6∨v=7∨v=8∨v=9:=by omega
 rcases hq with rfl|rfl|rfl|rfl|rfl|rfl|rfl|rfl|rfl|rfl <;> simp_all
theorem W5{xs:List Int}(h:xs.all AT=true)(hz:A7 (Al xs,Ak xs)=0):Ah xs=0:=by
 have hT:=CT.set xs h
 have hz':Da (Al xs)+Da (Ak xs)=0:=hz
 have e1:=Ut (t:=Al xs) (by omega) hT.lt hT.zt
 have e2:=Ut (t:=Ak xs) (by omega) hT.lf hT.zf
 rw[e1,e2] at hT
 exact Ic hT.top (fun v hv=>by rw[hT.pos v hv];simp) (fun v hv=>by rw[hT.neg v hv];simp)
def BH(hv:List Nat):List Nat:=hv.filter fun c=>c != 0
def FQ(hv:List Nat):Nat:=(hv.filter fun c=>c == 0).length
theorem bh(hv:List Nat):BH (hv++[0])=BH hv∧FQ (hv++[0])=FQ hv+1:=by
 simp[BH,FQ,List.filter_append]
theorem bf(hv:List Nat){c:Nat}(h:c≠0):BH (hv++[c])=BH hv++[c]∧FQ (hv++[c])=FQ hv:=by
 simp[BH,FQ,List.filter_append,h]
theorem UR(hv:List Nat):(BH hv).length+FQ hv=hv.length:=by
 induction hv with
 | nil=>rfl
 | cons c hv ih =>
  by_cases h:c=0
  ·subst h;simp[BH,FQ] at ih ⊢;omega
  ·simp[BH,FQ,h] at ih ⊢;omega
theorem bg(hv:List Nat):(List.replicate (FQ hv) 0++BH hv).Perm hv:=by
 induction hv with
 | nil=>exact List.Perm.refl _
 | cons c hv ih =>
  by_cases h:c=0
  ·subst h
   have e1:FQ (0 :: hv)=FQ hv+1:=by simp[FQ]
   have e2:BH (0 :: hv)=BH hv:=by simp[BH]
   rw[e1,e2,List.replicate_succ,List.cons_append]
   exact ih.cons 0
  ·have e1:FQ (c :: hv)=FQ hv:=by simp[FQ,h]
   have e2:BH (c :: hv)=c :: BH hv:=by simp[BH,h]
   rw[e1,e2]
   exact List.perm_middle.trans (ih.cons c)
theorem VU(hv:List Nat):Ad (BH hv)=Ad hv:=by
 induction hv with
 | nil=>rfl
 | cons c hv ih =>
  have z:AG 0=0:=by decide
  by_cases h:c=0
  ·subst h
   simp[BH,Ad,z] at ih ⊢
   exact ih
  ·simp[BH,Ad,h] at ih ⊢
   exact ih
theorem US{hv:List Nat}{c:Nat}(h:c∈BH hv):c∈hv∧c≠0:=by
 unfold BH at h
 obtain⟨a,b⟩:=List.mem_filter.1 h
 exact⟨a,by simpa using b⟩
theorem Ay.Ok.tks{s:Ay}(h:s.Ok):(BH s.hv).length≤150∧As (Dj (BH s.hv))=Ad s.hv:=by
 have hb:∀ c∈BH s.hv,c<2^20∧c≠0:=fun c hc=>⟨h.hvt c (US hc).1,(US hc).2⟩
 have a:=Mv _ hb
 have b:=h.lits
 rw[VU] at a
 exact⟨by omega,(Oi _ fun c hc=>(hb c hc).1).trans (VU _)⟩
theorem Ay.Ok.lrs{s:Ay}(h:s.Ok):s.lr.length≤1000000∧As (Dj s.lr)=Ad s.lr:=by
 have a:=(Mk (V:=s.sn) h.nod fun c hc=>⟨(h.lt c hc).1,(h.lt c hc).2.2.1,(h.lt c hc).2.2.2.1⟩).1
 have b:∀ n,n≤10→Fw n≤59049:=by decide
 have c:=b _ (Hj s.sn)
 exact⟨by omega,Oi _ fun c hc=>(h.lt c hc).1⟩
structure Nt(w:World)(g:Nat)(s:Ay)(ta la pa:Option Addr)(tc lc pc:Nat):Prop where
 row:AY w g 107 (BR s.r s.h s.l (.slice ta (BH s.hv).length tc) (FQ s.hv) s.sn (.slice la s.lr.length lc) (.slice pa s.pf.length pc) s.log s.un)
 ot:w.ownsRow 0 101 2 (.slice ta (BH s.hv).length tc) (BH s.hv).length (Ac (Dj (BH s.hv)))
 ol:w.ownsRow 0 101 2 (.slice la s.lr.length lc) s.lr.length (Ac (Dj s.lr))
 op:w.ownsRow 0 5 1 (.slice pa s.pf.length pc) s.pf.length (c8 s.pf)
 ap:Af (.slice ta (BH s.hv).length tc) (.slice la s.lr.length lc)
def Sn(g:Nat)(vt vl vp:Value)(b:Nat):Prop:=b=g∨vt.ownBlock=some b∨vl.ownBlock=some b∨vp.ownBlock=some b
def Gv(w:World)(g:Nat)(s:Ay)(F:Nat→Prop):Prop:=∃ (ta la pa:Option Addr) (tc lc pc:Nat),Nt w g s ta la pa tc lc pc∧∀ b,F b↔Sn g (.slice ta (BH s.hv).length tc) (.slice la s.lr.length lc) (.slice pa s.pf.length pc) b
theorem Nt.frame{w w':World}{g:Nat}{s:Ay}{ta la pa:Option Addr}{tc lc pc:Nat}(m:Nt w g s ta la pa tc lc pc)(hk:∀ b,Sn g (.slice ta (BH s.hv).length tc) (.slice la s.lr.length lc) (.slice pa s.pf.length pc) b→w'.heap[b]?=w.heap[b]?):Nt w' g s ta la pa tc lc pc :=
 ⟨(hk g (.inl rfl)).trans m.row,EP m.ot fun b hb=>hk b (.inr (.inl hb)),EP m.ol fun b hb=>hk b (.inr (.inr (.inl hb))),EP m.op fun b hb=>hk b (.inr (.inr (.inr hb))),m.ap⟩
theorem Nt.lt{w:World}{g:Nat}{s:Ay}{ta la pa:Option Addr}{tc lc pc:Nat}(m:Nt w g s ta la pa tc lc pc)(b:Nat)(hb:Sn g (.slice ta (BH s.hv).length tc) (.slice la s.lr.length lc) (.slice pa s.pf.length pc) b):b<w.heap.size:=by
 rcases hb with rfl | hb | hb | hb
 ·exact m.row.lt
 ·exact Gq m.ot b hb
 ·exact Gq m.ol b hb
 ·exact Gq m.op b hb
theorem Nt.below{w w':World}{g:Nat}{s:Ay}{ta la pa:Option Addr}{tc lc pc:Nat}(m:Nt w g s ta la pa tc lc pc)(hb:Below w.heap.size w w'):Nt w' g s ta la pa tc lc pc:=m.frame fun b hq=>hb.block b (m.lt b hq)
theorem Gv.frame{w w':World}{g:Nat}{s:Ay}{F:Nat→Prop}(h:Gv w g s F)(hk:∀ b,F b→w'.heap[b]?=w.heap[b]?):Gv w' g s F:=by
 obtain⟨ta,la,pa,tc,lc,pc,m,hF⟩:=h
 exact⟨ta,la,pa,tc,lc,pc,m.frame fun b hb=>hk b ((hF b).2 hb),hF⟩
theorem Gv.lt{w:World}{g:Nat}{s:Ay}{F:Nat→Prop}(h:Gv w g s F)(b:Nat)(hb:F b):b<w.heap.size:=by
 obtain⟨ta,la,pa,tc,lc,pc,m,hF⟩:=h
 exact m.lt b ((hF b).1 hb)
theorem Gv.below{w w':World}{g:Nat}{s:Ay}{F:Nat→Prop}(h:Gv w g s F)(hb:Below w.heap.size w w'):Gv w' g s F:=h.frame fun b hq=>hb.block b (h.lt b hq)
theorem NG{w w':World}{g:Nat}{s:Ay}{F:Nat→Prop}(h:Gv w g s F)(hb:Below w.heap.size w w'):Z9 Gv F w w' g s fun _=>True:=⟨F,h.below hb,CM.of hb,fun _ q=>.inl q,trivial⟩
theorem Yu(r h l:Int)(w:World):Calls Tryz.prog 49 #[.agg #[.int .i64 r,.int .i64 h,.int .i64 l]] w fun e w'=>Below w.heap.size w w'∧if BT r h l then ∃ g F,e=.returned (.tuple #[.pointer (some ⟨g,0,none⟩),.int .i64 0])∧Gv w' g (Ay.new r h l) F∧∀ b,F b→w.heap.size≤b else e=.returned (.tuple #[.pointer none,.int .i64 1]):=by
 refine(az r h l w).mono ?_
 rintro e w' ⟨hb,hq⟩
 refine⟨hb,?_⟩
 split
 ·rename_i hs
  rw[if_pos hs] at hq
  obtain⟨g,hg,rfl,hr⟩:=hq
  refine⟨g,Sn g (.slice none 0 0) (.slice none 0 0) (.slice none 0 0),rfl,⟨none,none,none,0,0,0,⟨hr,CX _ _ _ _,CX _ _ _ _,CX _ _ _ _,CG _⟩,fun b=>Iff.rfl⟩,fun b hq=>?_⟩
  rcases hq with rfl | q | q | q
  ·exact hg
  ·simp[Value.ownBlock] at q
  ·simp[Value.ownBlock] at q
  ·simp[Value.ownBlock] at q
 ·rename_i hs
  rw[if_neg hs] at hq
  exact hq
theorem Tv{w:World}{g:Nat}{s:Ay}{F:Nat→Prop}(h:Gv w g s F):Calls Tryz.prog 38 #[.pointer (some ⟨g,0,none⟩)] w fun e w'=>e=.returned (.string (bA s.pf))∧Below w.heap.size w w':=by
 obtain⟨ta,la,pa,tc,lc,pc,m,hF⟩:=h
 refine(Tu g _ _ _ _ _ _ _ _ _ pa pc s.pf w m.row m.op).mono ?_
 rintro e w' ⟨rfl,rfl⟩
 exact⟨rfl,Below.refl _ _⟩
theorem Rq{w:World}{g:Nat}{s:Ay}{F:Nat→Prop}(h:Gv w g s F):Calls Tryz.prog 36 #[.pointer (some ⟨g,0,none⟩)] w fun e w'=>e=.returned (.tuple #[])∧Z9 Gv F w w' g s.rst fun _=>True:=by
 obtain⟨ta,la,pa,tc,lc,pc,m,hF⟩:=h
 refine(T0 g _ _ _ _ _ _ _ _ _ _ w m.row).mono ?_
 rintro e w' ⟨rfl,hr,hg⟩
 refine⟨rfl,Sn g (.slice none 0 0) (.slice none 0 0) (.slice none 0 0),⟨none,none,none,0,0,0,⟨hr,CX _ _ _ _,CX _ _ _ _,CX _ _ _ _,CG _⟩,fun b=>Iff.rfl⟩,?_,fun b hq=>?_,trivial⟩
 ·exact(CM.of (Below.refl _ w)).grown hg fun b e=>.inl ((hF b).2 (.inl (by simpa using e.symm)))
 ·rcases hq with rfl | q | q | q
  ·exact .inl ((hF b).2 (.inl rfl))
  ·simp[Value.ownBlock] at q
  ·simp[Value.ownBlock] at q
  ·simp[Value.ownBlock] at q
theorem Gs{w:World}{B:Nat}{a:Option Addr}{c:Nat}{cs:List Nat}(h:w.ownsRow B 101 2 (.slice a cs.length c) cs.length (Ac (Dj cs))):Dy w a (Dj cs):=by
 refine Ft (B:=B) (tc:=c) ?_
 rw[BX];exact h
theorem QY{w:World}{g:Nat}{s:Ay}{F:Nat→Prop}(h:Gv w g s F)(ok:s.Ok)(hn:s.hv.length≤1000000):Calls Tryz.prog 37 #[.pointer (some ⟨g,0,none⟩)] w fun e w'=>e=.returned (.agg #[.int .i64 (AG s.vw.seen:Nat),.int .i64 (s.hv.length:Nat),.int .i64 (Ad s.hv:Nat),.int .i64 (s.lr.length:Nat),.int .i64 (Ad s.lr:Nat),.int .i64 (s.log:Nat),.int .i64 (s.un:Nat)])∧Below w.heap.size w w':=by
 obtain⟨ta,la,pa,tc,lc,pc,m,hF⟩:=h
 have ht:=ok.tks
 have hl:=ok.lrs
 have hk:=UR s.hv
 have hr:=m.row
 rw[← BX (BH s.hv),← BX s.lr] at hr
 refine(QX g _ _ _ ta la (Dj (BH s.hv)) (Dj s.lr) tc (FQ s.hv) s.sn lc s.log s.un _ w hr (Gs m.ot) (by rw[BX];omega) (NK _) (Gs m.ol) (by rw[BX];omega) (NK _) ok.sn (by omega)).mono ?_
 rintro e w' ⟨rfl,hb⟩
 refine⟨?_,hb⟩
 have e1:AG s.vw.seen=Da s.sn:=by
  have:=(H7 ok.sn ok.sz).size
  rw[QZ,Nat.add_zero] at this
  exact this
 have e2:((Dj (BH s.hv)).length:Int)+(FQ s.hv:Int)=(s.hv.length:Int):=by rw[BX];omega
 rw[e1,e2,ht.2,hl.2,BX]
theorem VX{w:World}{g:Nat}{s:Ay}{F:Nat→Prop}(a:Option Addr)(c:Nat)(xs:List Int)(h:Gv w g s F)(ok:s.Ok)(hi:AS w a xs)(hx:xs.length≤100000)(hn:s.hv.length≤1000000) :
  Calls Tryz.prog 30 #[.pointer (some ⟨g,0,none⟩),.slice a xs.length c] w fun e w'=>e=.returned (.int .i64 (OQ (Aw xs (Ad s.hv))))∧Z9 Gv F w w' g (s.add xs) fun _=>True:=by
 have hI:=h
 have ht:=ok.tks
 have hk0:=UR s.hv
 obtain⟨ta,la,pa,tc,lc,pc,m,hF⟩:=h
 have hr:=m.row
 have hot:=m.ot
 rw[← BX (BH s.hv)] at hr hot
 have hsa:=Gs m.ot
 have hpl:(Dj (BH s.hv)).length≤1000000:=by rw[BX];omega
 cases hall:xs.all AT with
 | false =>
  refine(Uo g a c xs w (by omega) hi hall).mono ?_
  rintro e w' ⟨rfl,hb⟩
  have hk:Aw xs (Ad s.hv)=.lit:=by simp[Aw,hall]
  refine⟨by rw[hk];rfl,?_⟩
  unfold Ay.add
  rw[hk,if_neg (by simp[Tk.takes?])]
  exact NG hI hb
 | true =>
  have hT:=CT.set xs hall
  cases htw:(Al xs&&&Ak xs != 0) with
  | true =>
   refine(QM g a c xs w (by omega) hi hall htw).mono ?_
   rintro e w' ⟨rfl,hb⟩
   have hk:Aw xs (Ad s.hv)=.taut:=by simp[Aw,hall,hT.twin,htw]
   refine⟨by rw[hk];rfl,?_⟩
   unfold Ay.add
   rw[hk,if_neg (by simp[Tk.takes?])]
   exact NG hI hb
  | false =>
   have hsz:AG (Ah xs)=A7 (Al xs,Ak xs):=hT.size
   have hlit:=ok.lits
   by_cases hz:A7 (Al xs,Ak xs)=0
   ·refine(Ss g a c xs _ _ _ ta (Dj (BH s.hv)) tc _ _ _ _ _ _ w (by omega) hi hall htw hr hz (by omega)).mono ?_
    rintro e w' ⟨rfl,hr',hkp⟩
    have hk:Aw xs (Ad s.hv)=.takes:=by simp[Aw,hall,hT.twin,htw,hsz,hz];omega
    refine⟨by rw[hk];rfl,?_⟩
    have e0:=W5 hall hz
    have v0:vN 0=0:=by decide
    unfold Ay.add
    rw[hk,if_pos (show Tk.takes.takes?=true from rfl),e0,v0,Nat.or_zero]
    obtain⟨k1,k2⟩:=bh s.hv
    have blk:∀ b,b<w.heap.size→b≠g→w'.heap[b]?=w.heap[b]?:=fun b h1 h2=>hkp.block b h1 h2 (by simp[Value.ownBlock])
    refine⟨F,⟨ta,la,pa,tc,lc,pc,⟨?_,?_,?_,?_,?_⟩,?_⟩,⟨hkp.os,hkp.tape,hkp.output,hkp.size,fun b h1 h2=>blk b h1 fun e=>h2 ((hF b).2 (.inl e))⟩,fun _ q=>.inl q,trivial⟩
    ·show AY w' g 107 (BR s.r s.h s.l (.slice ta (BH (s.hv++[0])).length tc) (FQ (s.hv++[0])) s.sn (.slice la s.lr.length lc) (.slice pa s.pf.length pc) s.log s.un)
     rw[k1,k2]
     rw[BX] at hr'
     exact hr'
    ·show w'.ownsRow 0 101 2 (.slice ta (BH (s.hv++[0])).length tc) (BH (s.hv++[0])).length (Ac (Dj (BH (s.hv++[0]))))
     rw[k1]
     exact EP m.ot fun b hb=>blk b (Gq m.ot b hb) fun e=>Ej m.ot m.row Hw (e ▸ hb)
    ·exact EP m.ol fun b hb=>blk b (Gq m.ol b hb) fun e=>Ej m.ol m.row Hw (e ▸ hb)
    ·exact EP m.op fun b hb=>blk b (Gq m.op b hb) fun e=>Ej m.op m.row (by decide) (e ▸ hb)
    ·show Af (.slice ta (BH (s.hv++[0])).length tc) (.slice la s.lr.length lc)
     rw[k1];exact m.ap
    ·intro b
     show F b↔Sn g (.slice ta (BH (s.hv++[0])).length tc) (.slice la s.lr.length lc) (.slice pa s.pf.length pc) b
     rw[k1];exact hF b
   ·have hne:Ah xs≠0:=fun e=>hz (by rw[← hsz,e];decide)
    by_cases hf:150<A7 (Al xs,Ak xs)+As (Dj (BH s.hv))
    ·refine(VZ g a c xs _ _ _ ta (Dj (BH s.hv)) tc _ _ _ _ _ _ w (by omega) hi hall htw hr hsa hpl (NK _) hz hf).mono ?_
     rintro e w' ⟨rfl,hb⟩
     have hk:Aw xs (Ad s.hv)=.full:=by simp[Aw,hall,hT.twin,htw,hsz];omega
     refine⟨by rw[hk];rfl,?_⟩
     unfold Ay.add
     rw[hk,if_neg (by simp[Tk.takes?])]
     exact NG hI hb
    ·refine(Xj 0 g a c xs _ _ _ ta (Dj (BH s.hv)) tc _ _ _ _ _ _ w (by omega) hi hall htw hr hot (Nat.zero_le _) hsa hpl (NK _) hz (by omega) ok.sn).mono ?_
     rintro e w' ⟨rfl,a3,c3,hr',ho,hkp,hl⟩
     have hk:Aw xs (Ad s.hv)=.takes:=by simp[Aw,hall,hT.twin,htw,hsz];omega
     refine⟨by rw[hk];rfl,?_⟩
     obtain⟨p1,p2⟩:=hT.eq
     have ev:Al xs|||Ak xs=vN (Ah xs):=by rw[p1,p2];rfl
     have ep:Dj (BH s.hv)++[(Al xs,Ak xs)]=Dj (BH s.hv++[Ah xs]):=by rw[K9,p1,p2]
     have el:(Dj (BH s.hv)).length+1=(BH s.hv++[Ah xs]).length:=by rw[BX,Ar]
     rw[ev,el] at hr'
     rw[ep,el] at ho
     rw[el] at hl
     rw[BX] at hkp hl
     unfold Ay.add
     rw[hk,if_pos (show Tk.takes.takes?=true from rfl)]
     obtain⟨k1,k2⟩:=bf s.hv hne
     have bl:∀ {e s' n:Nat} {v:Value} {zs:List Value},w.ownsRow 0 e s' v n zs→e≠107→(∀ b,v.ownBlock=some b→(Value.slice ta (BH s.hv).length tc).ownBlock≠some b)→w'.ownsRow 0 e s' v n zs:=fun ho he hd=>EP ho fun b hb=>hkp.block b (Gq ho b hb) (fun q=>Ej ho m.row he (q ▸ hb)) (hd b hb)
     have hmv:∀ b,(Value.slice a3 (BH s.hv++[Ah xs]).length c3).ownBlock=some b→(Value.slice ta (BH s.hv).length tc).ownBlock=some b∨w.heap.size≤b:=fun b hb=>by
      rcases hl with q | ⟨k,q1,q2⟩
      ·exact .inl (q ▸ hb)
      ·rw[q2] at hb
       simp only[Option.some.injEq] at hb
       subst hb
       exact .inr q1
     refine⟨Sn g (.slice a3 (BH s.hv++[Ah xs]).length c3) (.slice la s.lr.length lc) (.slice pa s.pf.length pc),⟨a3,la,pa,c3,lc,pc,⟨?_,?_,?_,?_,?_⟩,?_⟩,⟨hkp.os,hkp.tape,hkp.output,hkp.size,fun b h1 h2=>hkp.block b h1 (fun e=>h2 ((hF b).2 (.inl e))) fun e=>h2 ((hF b).2 (.inr (.inl e)))⟩,?_,trivial⟩
     ·show AY w' g 107 (BR s.r s.h s.l (.slice a3 (BH (s.hv++[Ah xs])).length c3) (FQ (s.hv++[Ah xs])) (s.sn|||vN (Ah xs)) (.slice la s.lr.length lc) (.slice pa s.pf.length pc) s.log s.un)
      rw[k1,k2];exact hr'
     ·show w'.ownsRow 0 101 2 (.slice a3 (BH (s.hv++[Ah xs])).length c3) (BH (s.hv++[Ah xs])).length (Ac (Dj (BH (s.hv++[Ah xs]))))
      rw[k1];exact ho
     ·exact bl m.ol Hw fun b hb q=>m.ap b q hb
     ·exact bl m.op (by decide) fun b hb q=>(Gp m.op m.ot (by decide)).elim (fun z=>by rw[z] at hb;simp at hb) fun z=>z (hb.trans q.symm)
     ·show Af (.slice a3 (BH (s.hv++[Ah xs])).length c3) (.slice la s.lr.length lc)
      rw[k1]
      intro b hb q
      rcases hmv b hb with z | z
      ·exact m.ap b z q
      ·have:=Gq m.ol b q;omega
     ·intro b
      show _↔Sn g (.slice a3 (BH (s.hv++[Ah xs])).length c3) (.slice la s.lr.length lc) (.slice pa s.pf.length pc) b
      rw[k1]
     ·intro b hb
      rcases hb with q | q | q | q
      ·exact .inl ((hF b).2 (.inl q))
      ·exact(hmv b q).imp (fun z=>(hF b).2 (.inr (.inl z))) id
      ·exact .inl ((hF b).2 (.inr (.inr (.inl q))))
      ·exact .inl ((hF b).2 (.inr (.inr (.inr q))))
theorem KB:∀ (ls:List FO) (s:Ay),s.log+ls.length≤(ls.foldl Ay.keep s).log∧s.pf.length≤(ls.foldl Ay.keep s).pf.length∧(ls.foldl Ay.keep s).lr.length≤s.lr.length+ls.length∧(ls.foldl Ay.keep s).un≤s.un+ls.length:=by
 intro ls
 induction ls with
 | nil=>intro s;simp
 | cons p ls ih =>
  intro s
  simp only[List.foldl_cons,List.length_cons]
  obtain⟨a,b,c,d⟩:=ih (s.keep p)
  have e1:(s.keep p).log=s.log+(p.2.length+1):=rfl
  have e2:(s.keep p).pf.length=s.pf.length+(Bo p.1 p.2).length:=by simp[Ay.keep]
  have e3:(s.keep p).lr.length≤s.lr.length+1:=by
   simp only[Ay.keep]
   split
   ·simp
   ·split
    ·have:=List.length_erase_le (a:=AJ p.2) (l:=s.lr);omega
    ·omega
  have e4:(s.keep p).un≤s.un+1:=by
   simp only[Ay.keep]
   split <;> omega
  omega
theorem aY{s:Ay}(h:∀ c∈s.lr,c<2^20)(p:FO):∀ c∈(s.keep p).lr,c<2^20:=by
 intro c hc
 simp only[Ay.keep] at hc
 split at hc
 ·rcases List.mem_append.1 hc with q | q
  ·exact h c q
  ·rw[List.mem_singleton.1 q];exact DX _
 ·split at hc
  ·exact h c (List.mem_of_mem_erase hc)
  ·exact h c hc
theorem YQ:∀ (ls:List FO) (s:Ay),(∀ c∈s.lr,c<2^20)→∀ c∈(ls.foldl Ay.keep s).lr,c<2^20:=by
 intro ls
 induction ls with
 | nil=>intro s h;exact h
 | cons p ls ih=>intro s h;exact ih _ (aY h p)
theorem Pa{r h l:Int}{hv:List Nat}:∀ (ls:List FO) (j:JV),EO r h l hv j ls→∀ p∈ls,p.1=97∨p.1=100∨p.1=101:=by
 intro ls
 induction ls with
 | nil=>intro j _ p hp;simp at hp
 | cons q ls ih =>
  intro j h p hp
  obtain⟨_,a2,_,a4⟩:=h
  rcases List.mem_cons.1 hp with rfl | hp
  ·rcases a2.2 with⟨b,_⟩ | ⟨b,_⟩ | ⟨b,_⟩
   ·exact .inl b
   ·exact .inr (.inr b)
   ·exact .inr (.inl b)
  ·exact ih _ a4 p hp
theorem Nt.out{w:World}{g:Nat}{s:Ay}{ta la pa:Option Addr}{tc lc pc:Nat}(m:Nt w g s ta la pa tc lc pc){B e k n:Nat}{v:Value}{zs:List Value}(ho:w.ownsRow B e k v n zs)(h1:e≠107)(h2:e≠101)(h3:e≠5)(b:Nat)(hb:v.ownBlock=some b):¬ Sn g (.slice ta (BH s.hv).length tc) (.slice la s.lr.length lc) (.slice pa s.pf.length pc) b:=by
 have d:∀ {e' k' n':Nat} {v':Value} {zs':List Value},w.ownsRow 0 e' k' v' n' zs'→e≠e'→v'.ownBlock≠some b:=fun ho' he q=>(Gp ho ho' he).elim (fun z=>by rw[z] at hb;simp at hb) fun z=>z (hb.trans q.symm)
 rintro(q | q | q | q)
 ·exact Ej ho m.row h1 (q ▸ hb)
 ·exact d m.ot h2 q
 ·exact d m.ol h2 q
 ·exact d m.op h3 q
theorem Nt.outRow{w:World}{g:Nat}{s:Ay}{ta la pa:Option Addr}{tc lc pc:Nat}(m:Nt w g s ta la pa tc lc pc){b e:Nat}{zs:List Value}(hr:AY w b e zs)(h1:e≠107)(h2:101≠e)(h3:5≠e):¬ Sn g (.slice ta (BH s.hv).length tc) (.slice la s.lr.length lc) (.slice pa s.pf.length pc) b:=by
 rintro(q | q | q | q)
 ·have a1:w.heap[b]?=some (.cells zs.toArray e (0,0)):=hr
  have a2:w.heap[g]?=some (.cells _ 107 (0,0)):=m.row
  rw[q,a2] at a1
  simp only[Option.some.injEq,Obj.cells.injEq] at a1
  exact h1 a1.2.1.symm
 ·exact Ej m.ot hr h2 q
 ·exact Ej m.ol hr h2 q
 ·exact Ej m.op hr h3 q
theorem VG{F:Nat→Prop}{w w':World}{B e s n:Nat}{v:Value}{zs:List Value}(ho:w.ownsRow B e s v n zs)(hc:CM F w w')(hd:∀ b,v.ownBlock=some b→¬ F b):w'.ownsRow B e s v n zs:=EP ho fun b hb=>hc.block b (Gq ho b hb) (hd b hb)
theorem V9{w:World}{g:Nat}{s:Ay}{ta la pa:Option Addr}{tc lc pc:Nat}(m:Nt w g s ta la pa tc lc pc)(h0:0<w.heap.size)(hn0:(Value.slice pa s.pf.length pc).ownBlock≠some 0)(htab:Fx w)(hlr:∀ c∈s.lr,c<2^20)(hll:s.lr.length≤10000000)(hpl:s.pf.length≤100000000)(hlo:s.log≤100000000)(hun:s.un≤100000000)
  (lt:UInt8) (hlt:lt=97∨lt=100∨lt=101) (v:Value) (b0:Nat) (xs:List Int) (hoi:w.ownsRow b0 3 1 v xs.length (AO xs)) (hlit:xs.all AT=true) (hxl:xs.length≤1000) :
  Calls Tryz.prog 73 #[.pointer (some ⟨g,0,none⟩),.agg #[.int .u8 (lt.toNat:Int),v]] w fun e w'=>e=.returned (.tuple #[])∧∃ la' lc' pa' pc',Nt w' g (s.keep (lt,xs)) ta la' pa' tc lc' pc'∧CM (Sn g (.slice ta (BH s.hv).length tc) (.slice la s.lr.length lc) (.slice pa s.pf.length pc)) w w' ∧
   EW (.slice la s.lr.length lc) (.slice la' (s.keep (lt,xs)).lr.length lc') w∧EW (.slice pa s.pf.length pc) (.slice pa' (s.keep (lt,xs)).pf.length pc') w:=by
 obtain⟨a,c,rfl⟩:∃ a c,v=.slice a xs.length c:=by
  rcases hoi.2 with⟨rfl,e⟩ | ⟨g,cap,_,rfl,_⟩
  ·exact⟨none,0,by rw[e]⟩
  ·exact⟨_,cap,rfl⟩
 refine(WA g s.r s.h s.l (.slice ta (BH s.hv).length tc) (FQ s.hv) s.sn s.log s.un la pa lc pc s.lr s.pf w h0 hn0 htab m.row m.ol m.op hlr hll hpl hlo hun lt hlt a c b0 xs hoi hlit hxl).mono ?_
 rintro e w' ⟨rfl,la',lc',pa',pc',k1,k2,k3,k4,k5,k6⟩
 refine⟨rfl,la',lc',pa',pc',⟨k1,?_,k2,k3,?_⟩,k4.mono fun b _ q=>?_,k5,k6⟩
 ·have key:∀ b,(Value.slice ta (BH s.hv).length tc).ownBlock=some b→¬ Z8 g (.slice la s.lr.length lc) (.slice pa s.pf.length pc) b:=fun b hb q=>by
   rcases q with q | q | q
   ·exact Ej m.ot m.row Hw (q ▸ hb)
   ·exact m.ap b hb q
   ·exact(Gp m.ot m.op (by decide)).elim (fun z=>by rw[z] at hb;simp at hb) fun z=>z (hb.trans q.symm)
  exact VG m.ot k4 key
 ·intro b hb q
  rcases k5 b q with z | z
  ·exact m.ap b hb z
  ·have:=Gq m.ot b hb;omega
 ·rcases q with q | q | q
  ·exact .inl q
  ·exact .inr (.inr (.inl q))
  ·exact .inr (.inr (.inr q))
end Go.Proofs.YthboeppmlhbofaaGreatDoor
