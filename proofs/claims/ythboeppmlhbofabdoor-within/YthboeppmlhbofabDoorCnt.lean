import Derived.Test.YthboeppmlhbofabDoorDca
import Derived.Deep.RegionHeld3
import Derived.Test.YthboeppmlhbofabDoorLba
import Derived.Test.YthboeppmlhbofabDoorLbf
import Derived.Test.YthboeppmlhbofabDoorLbc
import Derived.Test.YthboeppmlhbofabDoorHal
namespace Go.Proofs.YthboeppmlhbofabDoor
open Go.RowKit Txt
set_option maxRecDepth 100000
theorem countsType:∃ fs,Tryd.prog.underlying 46=some (.struct fs):=by
 have h:(Tryd.prog.underlying 46).map isStruct=some true:=by kernel_rfl
 cases hu:Tryd.prog.underlying 46 with
 | none=>rw[hu] at h;simp at h
 | some d =>
  rw[hu] at h
  cases d with
  | struct fs=>exact⟨fs,rfl⟩
  | _=>simp[isStruct] at h
theorem countsSize:(Tryd.prog.info? 46).map (·.size)=some 7:=by kernel_rfl
def zeros7:List Value:=[.int .i64 0,.int .i64 0,.int .i64 0,.int .i64 0,.int .i64 0,.int .i64 0,.int .i64 0]
theorem counts_ret{w':World}{tmps:Array Value}{g:Nat}{a b c d e f h:Value}(hr:Row w' g 46 [a,b,c,d,e,f,h])(h2:tmps.getD 2 undef=.pointer (some ⟨g,0,none⟩)) :
  (results Tryd.f21 tmps).run Tryd.prog w'=.ok (.agg #[a,b,c,d,e,f,h]) w':=by
 obtain⟨fs,hu⟩:=countsType
 exact results_cell_row rfl tmps w' g 46 #[a,b,c,d,e,f,h] (0,0) (.struct fs) h2 hr hu rfl countsSize
set_option maxHeartbeats 8000000 in
theorem countsG_any(g:Nat)(r h l:Int)(ta la:Option Addr)(ss ls:List Pr)(tc em se lc lo un:Nat)(v7:Value)(w:World)(hr:Row w g 68 (svCells r h l (.slice ta ss.length tc) em se (.slice la ls.length lc) v7 lo un))(hsa:SetsAt w ta ss)(hsl:ss.length≤1000000)(hsb:Hid (∀ p∈ss,p.1<2^11∧p.2<2^11))(hla:SetsAt w la ls)(hll:ls.length≤1000000)(hlb:Hid (∀ p∈ls,p.1<2^11∧p.2<2^11))(hse:se<2^11)(hem:em≤1000000) :
  Calls Tryd.prog 21 #[.pointer (some ⟨g,0,none⟩)] w fun e w'=>e=.returned (.agg #[.int .i64 (cvN se:Nat),.int .i64 ((ss.length:Int)+em),.int .i64 (totalN ss:Nat),.int .i64 ((ls.length:Nat):Int),.int .i64 (totalN ls:Nat),.int .i64 (lo:Nat),.int .i64 (un:Nat)])∧Below w.heap.size w w':=by
 have HC:Hid (∀ w,Calls Tryd.prog 41 #[.int .i64 se] w fun e w'=>e=.returned (.int .i64 (cvN se:Nat))∧w'=w):=fun w=>countVars_any se hse w
 have HTT:Hid (∀ w' v k,Below w.heap.size w w'→(v=.slice ta ss.length tc∧k=totalN ss∨v=.slice la ls.length lc∧k=totalN ls)→Calls Tryd.prog 42 #[v] w' fun e w''=>e=.returned (.int .i64 (k:Nat))∧Below w'.heap.size w' w''):=by
  rintro w' v k hb (⟨rfl,rfl⟩ | ⟨rfl,rfl⟩)
  ·exact total_any ta tc ss w' (hsa.below hb) hsl hsb
  ·exact total_any la lc ls w' (hla.below hb) hll hlb
 generalize cvN se=cv at *
 generalize totalN ss=tot at *
 generalize totalN ls=tol at *
 have HR:=hide hr
 have hgl:g<w.heap.size:=hr.lt
 have rA:Row (w.alloc (.cells zeros7.toArray 46)) w.heap.size 46 zeros7:=heap_alloc_new w _
 have hbA:Below w.heap.size w (w.alloc (.cells zeros7.toArray 46)):=(Below.refl _ _).alloc (Nat.le_refl _) _
 have hwrap:IntKind.i64.wrap ((ss.length:Int)+em)=(ss.length:Int)+em:=by rw[IntKind.wrap_i64];omega
 clear hr hsa hla
 go_enter Tryd.func21,Tryd.ntmps21
 go_wp2_with fail
 simp only[zeros7] at rA hbA
 generalize w.alloc (.cells #[.int .i64 0,.int .i64 0,.int .i64 0,.int .i64 0,.int .i64 0,.int .i64 0,.int .i64 0] 46)=wA at *
 have F:Hid (∀ w',Below wA.heap.size wA w'→(w'.cell? ⟨g,3,none⟩=some (.slice ta ss.length tc)∧w'.cell? ⟨g,4,none⟩=some (.int .i64 em)∧w'.cell? ⟨g,5,none⟩=some (.int .i64 se)∧w'.cell? ⟨g,6,none⟩=some (.slice la ls.length lc)∧w'.cell? ⟨g,8,none⟩=some (.int .i64 lo)∧w'.cell? ⟨g,9,none⟩=some (.int .i64 un))∧Below w.heap.size w w'∧Row w' w.heap.size 46 zeros7):=by
  intro w' hb
  have hw':Below w.heap.size w w':=hbA.trans (hb.mono hbA.size)
  have R:=row_below HR.out hw'
  exact⟨⟨(R.cell 3).trans rfl,(R.cell 4).trans rfl,(R.cell 5).trans rfl,(R.cell 6).trans rfl,(R.cell 8).trans rfl,(R.cell 9).trans rfl⟩,hw',row_below rA hb⟩
 have Bc:Hid (Below wA.heap.size wA wA.drew):=below_drewN (Below.refl _ _) 1
 obtain⟨⟨c3,c4,c5,c6,c8,c9⟩,_,_⟩:=F.out wA (Below.refl _ _)
 have hne:w.heap.size≠g:=by omega
 clear rA hbA HR
 go_region_held3 (fun w'=>w'.cell? ⟨g,3,none⟩=some (.slice ta ss.length tc)∧w'.cell? ⟨g,4,none⟩=some (.int .i64 em)∧w'.cell? ⟨g,5,none⟩=some (.int .i64 se)∧w'.cell? ⟨g,6,none⟩=some (.slice la ls.length lc)∧w'.cell? ⟨g,8,none⟩=some (.int .i64 lo)∧w'.cell? ⟨g,9,none⟩=some (.int .i64 un)) (go_keep)
  (first
   | (go_at_call 41;refine(unhide HC _).mono ?_;rintro e w' ⟨rfl,rfl⟩)
   | (go_at_call 42;refine(unhide HTT _ _ _ (F.out _ Bc.out).2.1 (by first | exact .inl ⟨rfl,rfl⟩ | exact .inr ⟨rfl,rfl⟩)).mono ?_;rintro e wa ⟨rfl,hba⟩;have Bc:Hid (Below wA.heap.size wA wa):=Bc.out.trans (hba.mono Bc.out.size);clear hba;obtain⟨⟨c3,c4,c5,c6,c8,c9⟩,_,RZ⟩:=F.out wa Bc.out;
         have z0:=RZ.cell 0;have z1:=RZ.cell 1;have z2:=RZ.cell 2;have z3:=RZ.cell 3;have z4:=RZ.cell 4;have z5:=RZ.cell 5;have z6:=RZ.cell 6;simp only[zeros7,List.getElem?_cons_zero,List.getElem?_cons_succ] at z0 z1 z2 z3 z4 z5 z6;
         have y0:=RZ.frozen 0;have y1:=RZ.frozen 1;have y2:=RZ.frozen 2;have y3:=RZ.frozen 3;have y4:=RZ.frozen 4;have y5:=RZ.frozen 5;have y6:=RZ.frozen 6;have RZ:=hide RZ))
 have R9:=hide (((((((RZ.out.set 0 (.int .i64 (cv:Nat))).set 1 (.int .i64 ((ss.length:Int)+em))).set 2 (.int .i64 (tot:Nat))).set 3 (.int .i64 ((ls.length:Nat):Int))).set 4 (.int .i64 (tol:Nat))).set 5 (.int .i64 (lo:Nat))).set 6 (.int .i64 (un:Nat)))
 have HB:Hid (Below w.heap.size w wa):=(F.out _ Bc.out).2.1
 clear F HTT HC
 go_wp2
 refine bodyPost_ret (v:=.agg #[.int .i64 (cv:Nat),.int .i64 ((ss.length:Int)+em),.int .i64 (tot:Nat),.int .i64 ((ls.length:Nat):Int),.int .i64 (tol:Nat),.int .i64 (lo:Nat),.int .i64 (un:Nat)]) (counts_ret (a:=.int .i64 (cv:Nat)) (b:=.int .i64 ((ss.length:Int)+em)) (c:=.int .i64 (tot:Nat)) (d:=.int .i64 ((ls.length:Nat):Int)) (e:=.int .i64 (tol:Nat)) (f:=.int .i64 (lo:Nat)) (h:=.int .i64 (un:Nat)) R9.out rfl) rfl ⟨rfl,?_⟩
 exact((((((HB.out.setCell (p:=⟨w.heap.size,0,none⟩) (Nat.le_refl _) _).setCell (p:=⟨w.heap.size,1,none⟩) (Nat.le_refl _) _).setCell (p:=⟨w.heap.size,2,none⟩) (Nat.le_refl _) _).setCell (p:=⟨w.heap.size,3,none⟩) (Nat.le_refl _) _).setCell (p:=⟨w.heap.size,4,none⟩) (Nat.le_refl _) _).setCell (p:=⟨w.heap.size,5,none⟩) (Nat.le_refl _) _).setCell (p:=⟨w.heap.size,6,none⟩) (Nat.le_refl _) _
theorem own_frame{w w':World}{B e s n:Nat}{v:Value}{xs:List Value}(h:w.ownsRow B e s v n xs)(hk:∀ b,v.ownBlock=some b→w'.heap[b]?=w.heap[b]?):w'.ownsRow B e s v n xs:=by
 refine⟨h.1,?_⟩
 rcases h.2 with hn | ⟨g,cap,cur,hv,h1,hg,r⟩
 ·exact .inl hn
 ·exact .inr ⟨g,cap,cur,hv,h1,(hk g (by subst hv;rfl)).trans hg,r⟩
theorem own_lt{w:World}{B e s n:Nat}{v:Value}{xs:List Value}(h:w.ownsRow B e s v n xs)(b:Nat)(hb:v.ownBlock=some b):b<w.heap.size:=(h.lt b hb).2
def TrI(w:World)(B g:Nat)(tv:Value)(cnt lits seen:Nat):Prop :=
 ∃ (r h l:Int) (ta:Option Addr) (ss:List Pr) (tc em se:Nat),tv=.slice ta ss.length tc∧Row w g 68 (solCells r h l ta ss.length tc em se)∧w.ownsRow B 84 2 (.slice ta ss.length tc) ss.length (prCells ss)∧ss.length+em=cnt∧totalN ss=lits∧lits≤150 ∧
  (∀ p∈ss,p.1<2^11∧p.2<2^11)∧Two seen se 0
theorem TrI.frame{w w':World}{B g cnt lits seen:Nat}{tv:Value}(h:TrI w B g tv cnt lits seen)(hg:w'.heap[g]?=w.heap[g]?)(hk:∀ b,tv.ownBlock=some b→w'.heap[b]?=w.heap[b]?):TrI w' B g tv cnt lits seen:=by
 obtain⟨r,h0,l,ta,ss,tc,em,se,e,h1,h2,h3⟩:=h
 subst e
 exact⟨r,h0,l,ta,ss,tc,em,se,rfl,hg.trans h1,own_frame h2 hk,h3⟩
theorem TrI.lt{w:World}{B g cnt lits seen:Nat}{tv:Value}(h:TrI w B g tv cnt lits seen):g<w.heap.size∧∀ b,tv.ownBlock=some b→b<w.heap.size:=by
 obtain⟨r,h0,l,ta,ss,tc,em,se,e,h1,h2,h3⟩:=h
 subst e
 exact⟨h1.lt,own_lt h2⟩
theorem TrI.le{w:World}{B g cnt lits seen:Nat}{tv:Value}(h:TrI w B g tv cnt lits seen):∀ b,tv.ownBlock=some b→B≤b:=by
 obtain⟨r,h0,l,ta,ss,tc,em,se,e,h1,h2,h3⟩:=h
 subst e
 exact fun b hb=>(h2.lt b hb).1
theorem TrI.below{w w':World}{B g cnt lits seen:Nat}{tv:Value}(h:TrI w B g tv cnt lits seen)(hb:Below w.heap.size w w'):TrI w' B g tv cnt lits seen:=h.frame (hb.block g h.lt.1) (fun b e=>hb.block b (h.lt.2 b e))
theorem TrI.ne{w:World}{B g cnt lits seen:Nat}{tv:Value}(h:TrI w B g tv cnt lits seen)(b:Nat)(e:tv.ownBlock=some b):b≠g:=by
 obtain⟨r,h0,l,ta,ss,tc,em,se,e',h1,h2,h3⟩:=h
 subst e'
 intro eq
 subst eq
 rcases h2.2 with⟨hv,_⟩ | ⟨g',cap,cur,hv,_,hg,_⟩
 ·rw[hv] at e;simp[Value.ownBlock] at e
 ·rw[hv] at e
  simp only[Value.ownBlock,Option.some.injEq] at e
  subst e
  have hr':w.heap[g']?=some (.cells (solCells r h0 l ta ss.length tc em se).toArray 68 (0,0)):=h1
  rw[hr'] at hg
  simp only[Option.some.injEq,Obj.cells.injEq] at hg
  exact n_set hg.2.1.symm
theorem TrI.types{w:World}{B g cnt lits seen:Nat}{tv:Value}(h:TrI w B g tv cnt lits seen):(∃ cs fr,w.heap[g]?=some (.cells cs 68 fr))∧∀ b,tv.ownBlock=some b→∃ cs fr,w.heap[b]?=some (.cells cs 84 fr):=by
 obtain⟨r,h0,l,ta,ss,tc,em,se,e,h1,h2,h3⟩:=h
 subst e
 refine⟨⟨_,_,h1⟩,fun b hb=>?_⟩
 rcases h2.2 with⟨hv,_⟩ | ⟨g',cap,cur,hv,_,hg,_⟩
 ·rw[hv] at hb;simp[Value.ownBlock] at hb
 ·rw[hv] at hb
  simp only[Value.ownBlock,Option.some.injEq] at hb
  subst hb
  exact⟨_,_,hg⟩
theorem cv_zero{t:Nat}(h:cvN t=0)(ht:t<2^11)(h0:t.testBit 0=false):t=0:=by
 refine lt_of_bits ht h0 (fun v hv=>?_)
 simp only[cvN,cvTo,Nat.add_eq_zero_iff,Bool.toNat_eq_zero] at h
 have hq:v=0∨v=1∨v=2∨v=3∨v=4∨v=5∨v=6∨v=7∨v=8∨v=9:=by omega
 rcases hq with rfl|rfl|rfl|rfl|rfl|rfl|rfl|rfl|rfl|rfl <;> simp_all
theorem setN_zero{xs:List Int}(h:xs.all litB=true)(hz:prSize (posN xs,negN xs)=0):setN xs=0:=by
 have hT:=Two.set xs h
 have hz':cvN (posN xs)+cvN (negN xs)=0:=hz
 have e1:=cv_zero (t:=posN xs) (by omega) hT.lt hT.zt
 have e2:=cv_zero (t:=negN xs) (by omega) hT.lf hT.zf
 rw[e1,e2] at hT
 exact zero_of_bits hT.top (fun v hv=>by rw[hT.pos v hv];simp) (fun v hv=>by rw[hT.neg v hv];simp)
def tkOf(hv:List Nat):List Nat:=hv.filter fun c=>c != 0
def emOf(hv:List Nat):Nat:=(hv.filter fun c=>c == 0).length
theorem tk_zero(hv:List Nat):tkOf (hv++[0])=tkOf hv∧emOf (hv++[0])=emOf hv+1:=by
 simp[tkOf,emOf,List.filter_append]
theorem tk_more(hv:List Nat){c:Nat}(h:c≠0):tkOf (hv++[c])=tkOf hv++[c]∧emOf (hv++[c])=emOf hv:=by
 simp[tkOf,emOf,List.filter_append,h]
theorem tk_len(hv:List Nat):(tkOf hv).length+emOf hv=hv.length:=by
 induction hv with
 | nil=>rfl
 | cons c hv ih =>
  by_cases h:c=0
  ·subst h;simp[tkOf,emOf] at ih ⊢;omega
  ·simp[tkOf,emOf,h] at ih ⊢;omega
theorem tk_perm(hv:List Nat):(List.replicate (emOf hv) 0++tkOf hv).Perm hv:=by
 induction hv with
 | nil=>exact List.Perm.refl _
 | cons c hv ih =>
  by_cases h:c=0
  ·subst h
   have e1:emOf (0 :: hv)=emOf hv+1:=by simp[emOf]
   have e2:tkOf (0 :: hv)=tkOf hv:=by simp[tkOf]
   rw[e1,e2,List.replicate_succ,List.cons_append]
   exact ih.cons 0
  ·have e1:emOf (c :: hv)=emOf hv:=by simp[emOf,h]
   have e2:tkOf (c :: hv)=c :: tkOf hv:=by simp[tkOf,h]
   rw[e1,e2]
   exact List.perm_middle.trans (ih.cons c)
theorem tk_lits(hv:List Nat):litsN (tkOf hv)=litsN hv:=by
 induction hv with
 | nil=>rfl
 | cons c hv ih =>
  have z:sizeN 0=0:=by decide
  by_cases h:c=0
  ·subst h
   simp[tkOf,litsN,z] at ih ⊢
   exact ih
  ·simp[tkOf,litsN,h] at ih ⊢
   exact ih
theorem tk_mem{hv:List Nat}{c:Nat}(h:c∈tkOf hv):c∈hv∧c≠0:=by
 unfold tkOf at h
 obtain⟨a,b⟩:=List.mem_filter.1 h
 exact⟨a,by simpa using b⟩
theorem Sst.Ok.tks{s:Sst}(h:s.Ok):(tkOf s.hv).length≤150∧totalN (prL (tkOf s.hv))=litsN s.hv:=by
 have hb:∀ c∈tkOf s.hv,c<2^20∧c≠0:=fun c hc=>⟨h.hvt c (tk_mem hc).1,(tk_mem hc).2⟩
 have a:=len_lits _ hb
 have b:=h.lits
 rw[tk_lits] at a
 exact⟨by omega,(prL_total _ fun c hc=>(hb c hc).1).trans (tk_lits _)⟩
theorem Sst.Ok.lrs{s:Sst}(h:s.Ok):s.lr.length≤1000000∧totalN (prL s.lr)=litsN s.lr:=by
 have a:=(count_le (V:=s.sn) h.nod fun c hc=>⟨(h.lt c hc).1,(h.lt c hc).2.2.1,(h.lt c hc).2.2.2.1⟩).1
 have b:∀ n,n≤10→pow3 n≤59049:=by decide
 have c:=b _ (cvN_le s.sn)
 exact⟨by omega,prL_total _ fun c hc=>(h.lt c hc).1⟩
structure SlM(w:World)(g:Nat)(s:Sst)(ta la pa:Option Addr)(tc lc pc:Nat):Prop where
 row:Row w g 68 (svCells s.r s.h s.l (.slice ta (tkOf s.hv).length tc) (emOf s.hv) s.sn (.slice la s.lr.length lc) (.slice pa s.pf.length pc) s.log s.un)
 ot:w.ownsRow 0 84 2 (.slice ta (tkOf s.hv).length tc) (tkOf s.hv).length (prCells (prL (tkOf s.hv)))
 ol:w.ownsRow 0 84 2 (.slice la s.lr.length lc) s.lr.length (prCells (prL s.lr))
 op:w.ownsRow 0 5 1 (.slice pa s.pf.length pc) s.pf.length (c8 s.pf)
 ap:Apart (.slice ta (tkOf s.hv).length tc) (.slice la s.lr.length lc)
def SlF(g:Nat)(vt vl vp:Value)(b:Nat):Prop:=b=g∨vt.ownBlock=some b∨vl.ownBlock=some b∨vp.ownBlock=some b
def SlAt(w:World)(g:Nat)(s:Sst)(F:Nat→Prop):Prop:=∃ (ta la pa:Option Addr) (tc lc pc:Nat),SlM w g s ta la pa tc lc pc∧∀ b,F b↔SlF g (.slice ta (tkOf s.hv).length tc) (.slice la s.lr.length lc) (.slice pa s.pf.length pc) b
theorem SlM.frame{w w':World}{g:Nat}{s:Sst}{ta la pa:Option Addr}{tc lc pc:Nat}(m:SlM w g s ta la pa tc lc pc)(hk:∀ b,SlF g (.slice ta (tkOf s.hv).length tc) (.slice la s.lr.length lc) (.slice pa s.pf.length pc) b→w'.heap[b]?=w.heap[b]?):SlM w' g s ta la pa tc lc pc :=
 ⟨(hk g (.inl rfl)).trans m.row,own_frame m.ot fun b hb=>hk b (.inr (.inl hb)),own_frame m.ol fun b hb=>hk b (.inr (.inr (.inl hb))),own_frame m.op fun b hb=>hk b (.inr (.inr (.inr hb))),m.ap⟩
theorem SlM.lt{w:World}{g:Nat}{s:Sst}{ta la pa:Option Addr}{tc lc pc:Nat}(m:SlM w g s ta la pa tc lc pc)(b:Nat)(hb:SlF g (.slice ta (tkOf s.hv).length tc) (.slice la s.lr.length lc) (.slice pa s.pf.length pc) b):b<w.heap.size:=by
 rcases hb with rfl | hb | hb | hb
 ·exact m.row.lt
 ·exact own_lt m.ot b hb
 ·exact own_lt m.ol b hb
 ·exact own_lt m.op b hb
theorem SlM.below{w w':World}{g:Nat}{s:Sst}{ta la pa:Option Addr}{tc lc pc:Nat}(m:SlM w g s ta la pa tc lc pc)(hb:Below w.heap.size w w'):SlM w' g s ta la pa tc lc pc:=m.frame fun b hq=>hb.block b (m.lt b hq)
theorem SlAt.frame{w w':World}{g:Nat}{s:Sst}{F:Nat→Prop}(h:SlAt w g s F)(hk:∀ b,F b→w'.heap[b]?=w.heap[b]?):SlAt w' g s F:=by
 obtain⟨ta,la,pa,tc,lc,pc,m,hF⟩:=h
 exact⟨ta,la,pa,tc,lc,pc,m.frame fun b hb=>hk b ((hF b).2 hb),hF⟩
theorem SlAt.lt{w:World}{g:Nat}{s:Sst}{F:Nat→Prop}(h:SlAt w g s F)(b:Nat)(hb:F b):b<w.heap.size:=by
 obtain⟨ta,la,pa,tc,lc,pc,m,hF⟩:=h
 exact m.lt b ((hF b).1 hb)
theorem SlAt.below{w w':World}{g:Nat}{s:Sst}{F:Nat→Prop}(h:SlAt w g s F)(hb:Below w.heap.size w w'):SlAt w' g s F:=h.frame fun b hq=>hb.block b (h.lt b hq)
theorem nxs_same{w w':World}{g:Nat}{s:Sst}{F:Nat→Prop}(h:SlAt w g s F)(hb:Below w.heap.size w w'):Nxs SlAt F w w' g s fun _=>True:=⟨F,h.below hb,Chn.of hb,fun _ q=>.inl q,trivial⟩
theorem newS_any(r h l:Int)(w:World):Calls Tryd.prog 28 #[.agg #[.int .i64 r,.int .i64 h,.int .i64 l]] w fun e w'=>Below w.heap.size w w'∧if settingsB r h l then ∃ g F,e=.returned (.tuple #[.pointer (some ⟨g,0,none⟩),.int .i64 0])∧SlAt w' g (Sst.new r h l) F∧∀ b,F b→w.heap.size≤b else e=.returned (.tuple #[.pointer none,.int .i64 1]):=by
 refine(new_any r h l w).mono ?_
 rintro e w' ⟨hb,hq⟩
 refine⟨hb,?_⟩
 split
 ·rename_i hs
  rw[if_pos hs] at hq
  obtain⟨g,hg,rfl,hr⟩:=hq
  refine⟨g,SlF g (.slice none 0 0) (.slice none 0 0) (.slice none 0 0),rfl,⟨none,none,none,0,0,0,⟨hr,own_nil _ _ _ _,own_nil _ _ _ _,own_nil _ _ _ _,apart_none _⟩,fun b=>Iff.rfl⟩,fun b hq=>?_⟩
  rcases hq with rfl | q | q | q
  ·exact hg
  ·simp[Value.ownBlock] at q
  ·simp[Value.ownBlock] at q
  ·simp[Value.ownBlock] at q
 ·rename_i hs
  rw[if_neg hs] at hq
  exact hq
theorem proofS_any{w:World}{g:Nat}{s:Sst}{F:Nat→Prop}(h:SlAt w g s F):Calls Tryd.prog 14 #[.pointer (some ⟨g,0,none⟩)] w fun e w'=>e=.returned (.string (bA s.pf))∧Below w.heap.size w w':=by
 obtain⟨ta,la,pa,tc,lc,pc,m,hF⟩:=h
 refine(proofG_any g _ _ _ _ _ _ _ _ _ pa pc s.pf w m.row m.op).mono ?_
 rintro e w' ⟨rfl,rfl⟩
 exact⟨rfl,Below.refl _ _⟩
theorem resetS2_any{w:World}{g:Nat}{s:Sst}{F:Nat→Prop}(h:SlAt w g s F):Calls Tryd.prog 24 #[.pointer (some ⟨g,0,none⟩)] w fun e w'=>e=.returned (.tuple #[])∧Nxs SlAt F w w' g s.rst fun _=>True:=by
 obtain⟨ta,la,pa,tc,lc,pc,m,hF⟩:=h
 refine(resetG_any g _ _ _ _ _ _ _ _ _ _ w m.row).mono ?_
 rintro e w' ⟨rfl,hr,hg⟩
 refine⟨rfl,SlF g (.slice none 0 0) (.slice none 0 0) (.slice none 0 0),⟨none,none,none,0,0,0,⟨hr,own_nil _ _ _ _,own_nil _ _ _ _,own_nil _ _ _ _,apart_none _⟩,fun b=>Iff.rfl⟩,?_,fun b hq=>?_,trivial⟩
 ·exact(Chn.of (Below.refl _ w)).grown hg fun b e=>.inl ((hF b).2 (.inl (by simpa using e.symm)))
 ·rcases hq with rfl | q | q | q
  ·exact .inl ((hF b).2 (.inl rfl))
  ·simp[Value.ownBlock] at q
  ·simp[Value.ownBlock] at q
  ·simp[Value.ownBlock] at q
theorem setsAt_prL{w:World}{B:Nat}{a:Option Addr}{c:Nat}{cs:List Nat}(h:w.ownsRow B 84 2 (.slice a cs.length c) cs.length (prCells (prL cs))):SetsAt w a (prL cs):=by
 refine sets_own (B:=B) (tc:=c) ?_
 rw[prL_len];exact h
theorem countsS_any{w:World}{g:Nat}{s:Sst}{F:Nat→Prop}(h:SlAt w g s F)(ok:s.Ok)(hn:s.hv.length≤1000000):Calls Tryd.prog 21 #[.pointer (some ⟨g,0,none⟩)] w fun e w'=>e=.returned (.agg #[.int .i64 (sizeN s.vw.seen:Nat),.int .i64 (s.hv.length:Nat),.int .i64 (litsN s.hv:Nat),.int .i64 (s.lr.length:Nat),.int .i64 (litsN s.lr:Nat),.int .i64 (s.log:Nat),.int .i64 (s.un:Nat)])∧Below w.heap.size w w':=by
 obtain⟨ta,la,pa,tc,lc,pc,m,hF⟩:=h
 have ht:=ok.tks
 have hl:=ok.lrs
 have hk:=tk_len s.hv
 have hr:=m.row
 rw[← prL_len (tkOf s.hv),← prL_len s.lr] at hr
 refine(countsG_any g _ _ _ ta la (prL (tkOf s.hv)) (prL s.lr) tc (emOf s.hv) s.sn lc s.log s.un _ w hr (setsAt_prL m.ot) (by rw[prL_len];omega) (prL_bd _) (setsAt_prL m.ol) (by rw[prL_len];omega) (prL_bd _) ok.sn (by omega)).mono ?_
 rintro e w' ⟨rfl,hb⟩
 refine⟨?_,hb⟩
 have e1:sizeN s.vw.seen=cvN s.sn:=by
  have:=(posV_two ok.sn ok.sz).size
  rw[cvN_zero,Nat.add_zero] at this
  exact this
 have e2:((prL (tkOf s.hv)).length:Int)+(emOf s.hv:Int)=(s.hv.length:Int):=by rw[prL_len];omega
 rw[e1,e2,ht.2,hl.2,prL_len]
theorem addS2_any{w:World}{g:Nat}{s:Sst}{F:Nat→Prop}(a:Option Addr)(c:Nat)(xs:List Int)(h:SlAt w g s F)(ok:s.Ok)(hi:IntsAt w a xs)(hx:xs.length≤100000)(hn:s.hv.length≤1000000) :
  Calls Tryd.prog 23 #[.pointer (some ⟨g,0,none⟩),.slice a xs.length c] w fun e w'=>e=.returned (.int .i64 (errOf (takenK xs (litsN s.hv))))∧Nxs SlAt F w w' g (s.add xs) fun _=>True:=by
 have hI:=h
 have ht:=ok.tks
 have hk0:=tk_len s.hv
 obtain⟨ta,la,pa,tc,lc,pc,m,hF⟩:=h
 have hr:=m.row
 have hot:=m.ot
 rw[← prL_len (tkOf s.hv)] at hr hot
 have hsa:=setsAt_prL m.ot
 have hpl:(prL (tkOf s.hv)).length≤1000000:=by rw[prL_len];omega
 cases hall:xs.all litB with
 | false =>
  refine(add_lit g a c xs w (by omega) hi hall).mono ?_
  rintro e w' ⟨rfl,hb⟩
  have hk:takenK xs (litsN s.hv)=.lit:=by simp[takenK,hall]
  refine⟨by rw[hk];rfl,?_⟩
  unfold Sst.add
  rw[hk,if_neg (by simp[Tk.takes?])]
  exact nxs_same hI hb
 | true =>
  have hT:=Two.set xs hall
  cases htw:(posN xs&&&negN xs != 0) with
  | true =>
   refine(add_taut g a c xs w (by omega) hi hall htw).mono ?_
   rintro e w' ⟨rfl,hb⟩
   have hk:takenK xs (litsN s.hv)=.taut:=by simp[takenK,hall,hT.twin,htw]
   refine⟨by rw[hk];rfl,?_⟩
   unfold Sst.add
   rw[hk,if_neg (by simp[Tk.takes?])]
   exact nxs_same hI hb
  | false =>
   have hsz:sizeN (setN xs)=prSize (posN xs,negN xs):=hT.size
   have hlit:=ok.lits
   by_cases hz:prSize (posN xs,negN xs)=0
   ·refine(add_emptyG g a c xs _ _ _ ta (prL (tkOf s.hv)) tc _ _ _ _ _ _ w (by omega) hi hall htw hr hz (by omega)).mono ?_
    rintro e w' ⟨rfl,hr',hkp⟩
    have hk:takenK xs (litsN s.hv)=.takes:=by simp[takenK,hall,hT.twin,htw,hsz,hz];omega
    refine⟨by rw[hk];rfl,?_⟩
    have e0:=setN_zero hall hz
    have v0:vN 0=0:=by decide
    unfold Sst.add
    rw[hk,if_pos (show Tk.takes.takes?=true from rfl),e0,v0,Nat.or_zero]
    obtain⟨k1,k2⟩:=tk_zero s.hv
    have blk:∀ b,b<w.heap.size→b≠g→w'.heap[b]?=w.heap[b]?:=fun b h1 h2=>hkp.block b h1 h2 (by simp[Value.ownBlock])
    refine⟨F,⟨ta,la,pa,tc,lc,pc,⟨?_,?_,?_,?_,?_⟩,?_⟩,⟨hkp.os,hkp.tape,hkp.output,hkp.size,fun b h1 h2=>blk b h1 fun e=>h2 ((hF b).2 (.inl e))⟩,fun _ q=>.inl q,trivial⟩
    ·show Row w' g 68 (svCells s.r s.h s.l (.slice ta (tkOf (s.hv++[0])).length tc) (emOf (s.hv++[0])) s.sn (.slice la s.lr.length lc) (.slice pa s.pf.length pc) s.log s.un)
     rw[k1,k2]
     rw[prL_len] at hr'
     exact hr'
    ·show w'.ownsRow 0 84 2 (.slice ta (tkOf (s.hv++[0])).length tc) (tkOf (s.hv++[0])).length (prCells (prL (tkOf (s.hv++[0]))))
     rw[k1]
     exact own_frame m.ot fun b hb=>blk b (own_lt m.ot b hb) fun e=>own_ty m.ot m.row n_set (e ▸ hb)
    ·exact own_frame m.ol fun b hb=>blk b (own_lt m.ol b hb) fun e=>own_ty m.ol m.row n_set (e ▸ hb)
    ·exact own_frame m.op fun b hb=>blk b (own_lt m.op b hb) fun e=>own_ty m.op m.row (by decide) (e ▸ hb)
    ·show Apart (.slice ta (tkOf (s.hv++[0])).length tc) (.slice la s.lr.length lc)
     rw[k1];exact m.ap
    ·intro b
     show F b↔SlF g (.slice ta (tkOf (s.hv++[0])).length tc) (.slice la s.lr.length lc) (.slice pa s.pf.length pc) b
     rw[k1];exact hF b
   ·have hne:setN xs≠0:=fun e=>hz (by rw[← hsz,e];decide)
    by_cases hf:150<prSize (posN xs,negN xs)+totalN (prL (tkOf s.hv))
    ·refine(add_fullG g a c xs _ _ _ ta (prL (tkOf s.hv)) tc _ _ _ _ _ _ w (by omega) hi hall htw hr hsa hpl (prL_bd _) hz hf).mono ?_
     rintro e w' ⟨rfl,hb⟩
     have hk:takenK xs (litsN s.hv)=.full:=by simp[takenK,hall,hT.twin,htw,hsz];omega
     refine⟨by rw[hk];rfl,?_⟩
     unfold Sst.add
     rw[hk,if_neg (by simp[Tk.takes?])]
     exact nxs_same hI hb
    ·refine(add_setG 0 g a c xs _ _ _ ta (prL (tkOf s.hv)) tc _ _ _ _ _ _ w (by omega) hi hall htw hr hot (Nat.zero_le _) hsa hpl (prL_bd _) hz (by omega) ok.sn).mono ?_
     rintro e w' ⟨rfl,a3,c3,hr',ho,hkp,hl⟩
     have hk:takenK xs (litsN s.hv)=.takes:=by simp[takenK,hall,hT.twin,htw,hsz];omega
     refine⟨by rw[hk];rfl,?_⟩
     obtain⟨p1,p2⟩:=hT.eq
     have ev:posN xs|||negN xs=vN (setN xs):=by rw[p1,p2];rfl
     have ep:prL (tkOf s.hv)++[(posN xs,negN xs)]=prL (tkOf s.hv++[setN xs]):=by rw[prL_snoc,p1,p2]
     have el:(prL (tkOf s.hv)).length+1=(tkOf s.hv++[setN xs]).length:=by rw[prL_len,snoc_len]
     rw[ev,el] at hr'
     rw[ep,el] at ho
     rw[el] at hl
     rw[prL_len] at hkp hl
     unfold Sst.add
     rw[hk,if_pos (show Tk.takes.takes?=true from rfl)]
     obtain⟨k1,k2⟩:=tk_more s.hv hne
     have bl:∀ {e s' n:Nat} {v:Value} {zs:List Value},w.ownsRow 0 e s' v n zs→e≠68→(∀ b,v.ownBlock=some b→(Value.slice ta (tkOf s.hv).length tc).ownBlock≠some b)→w'.ownsRow 0 e s' v n zs:=fun ho he hd=>own_frame ho fun b hb=>hkp.block b (own_lt ho b hb) (fun q=>own_ty ho m.row he (q ▸ hb)) (hd b hb)
     have hmv:∀ b,(Value.slice a3 (tkOf s.hv++[setN xs]).length c3).ownBlock=some b→(Value.slice ta (tkOf s.hv).length tc).ownBlock=some b∨w.heap.size≤b:=fun b hb=>by
      rcases hl with q | ⟨k,q1,q2⟩
      ·exact .inl (q ▸ hb)
      ·rw[q2] at hb
       simp only[Option.some.injEq] at hb
       subst hb
       exact .inr q1
     refine⟨SlF g (.slice a3 (tkOf s.hv++[setN xs]).length c3) (.slice la s.lr.length lc) (.slice pa s.pf.length pc),⟨a3,la,pa,c3,lc,pc,⟨?_,?_,?_,?_,?_⟩,?_⟩,⟨hkp.os,hkp.tape,hkp.output,hkp.size,fun b h1 h2=>hkp.block b h1 (fun e=>h2 ((hF b).2 (.inl e))) fun e=>h2 ((hF b).2 (.inr (.inl e)))⟩,?_,trivial⟩
     ·show Row w' g 68 (svCells s.r s.h s.l (.slice a3 (tkOf (s.hv++[setN xs])).length c3) (emOf (s.hv++[setN xs])) (s.sn|||vN (setN xs)) (.slice la s.lr.length lc) (.slice pa s.pf.length pc) s.log s.un)
      rw[k1,k2];exact hr'
     ·show w'.ownsRow 0 84 2 (.slice a3 (tkOf (s.hv++[setN xs])).length c3) (tkOf (s.hv++[setN xs])).length (prCells (prL (tkOf (s.hv++[setN xs]))))
      rw[k1];exact ho
     ·exact bl m.ol n_set fun b hb q=>m.ap b q hb
     ·exact bl m.op (by decide) fun b hb q=>(own_diff m.op m.ot (by decide)).elim (fun z=>by rw[z] at hb;simp at hb) fun z=>z (hb.trans q.symm)
     ·show Apart (.slice a3 (tkOf (s.hv++[setN xs])).length c3) (.slice la s.lr.length lc)
      rw[k1]
      intro b hb q
      rcases hmv b hb with z | z
      ·exact m.ap b z q
      ·have:=own_lt m.ol b q;omega
     ·intro b
      show _↔SlF g (.slice a3 (tkOf (s.hv++[setN xs])).length c3) (.slice la s.lr.length lc) (.slice pa s.pf.length pc) b
      rw[k1]
     ·intro b hb
      rcases hb with q | q | q | q
      ·exact .inl ((hF b).2 (.inl q))
      ·exact(hmv b q).imp (fun z=>(hF b).2 (.inr (.inl z))) id
      ·exact .inl ((hF b).2 (.inr (.inr (.inl q))))
      ·exact .inl ((hF b).2 (.inr (.inr (.inr q))))
theorem keeps_grow:∀ (ls:List Lin) (s:Sst),s.log+ls.length≤(ls.foldl Sst.keep s).log∧s.pf.length≤(ls.foldl Sst.keep s).pf.length∧(ls.foldl Sst.keep s).lr.length≤s.lr.length+ls.length∧(ls.foldl Sst.keep s).un≤s.un+ls.length:=by
 intro ls
 induction ls with
 | nil=>intro s;simp
 | cons p ls ih =>
  intro s
  simp only[List.foldl_cons,List.length_cons]
  obtain⟨a,b,c,d⟩:=ih (s.keep p)
  have e1:(s.keep p).log=s.log+(p.2.length+1):=rfl
  have e2:(s.keep p).pf.length=s.pf.length+(lineT p.1 p.2).length:=by simp[Sst.keep]
  have e3:(s.keep p).lr.length≤s.lr.length+1:=by
   simp only[Sst.keep]
   split
   ·simp
   ·split
    ·have:=List.length_erase_le (a:=setOk p.2) (l:=s.lr);omega
    ·omega
  have e4:(s.keep p).un≤s.un+1:=by
   simp only[Sst.keep]
   split <;> omega
  omega
theorem keep_lt{s:Sst}(h:∀ c∈s.lr,c<2^20)(p:Lin):∀ c∈(s.keep p).lr,c<2^20:=by
 intro c hc
 simp only[Sst.keep] at hc
 split at hc
 ·rcases List.mem_append.1 hc with q | q
  ·exact h c q
  ·rw[List.mem_singleton.1 q];exact setOk_lt _
 ·split at hc
  ·exact h c (List.mem_of_mem_erase hc)
  ·exact h c hc
theorem keeps_lt:∀ (ls:List Lin) (s:Sst),(∀ c∈s.lr,c<2^20)→∀ c∈(ls.foldl Sst.keep s).lr,c<2^20:=by
 intro ls
 induction ls with
 | nil=>intro s h;exact h
 | cons p ls ih=>intro s h;exact ih _ (keep_lt h p)
theorem lines_letter{r h l:Int}{hv:List Nat}:∀ (ls:List Lin) (j:JV),linesOk r h l hv j ls→∀ p∈ls,p.1=97∨p.1=100∨p.1=101:=by
 intro ls
 induction ls with
 | nil=>intro j _ p hp;simp at hp
 | cons q ls ih =>
  intro j h p hp
  obtain⟨_,a2,_,a4⟩:=h
  rcases List.mem_cons.1 hp with rfl | hp
  ·rcases a2.2 with⟨b,_⟩ | ⟨b,_⟩ | ⟨b,_⟩
   ·exact .inl b
   ·exact .inr (.inr b)
   ·exact .inr (.inl b)
  ·exact ih _ a4 p hp
theorem SlM.out{w:World}{g:Nat}{s:Sst}{ta la pa:Option Addr}{tc lc pc:Nat}(m:SlM w g s ta la pa tc lc pc){B e k n:Nat}{v:Value}{zs:List Value}(ho:w.ownsRow B e k v n zs)(h1:e≠68)(h2:e≠84)(h3:e≠5)(b:Nat)(hb:v.ownBlock=some b):¬ SlF g (.slice ta (tkOf s.hv).length tc) (.slice la s.lr.length lc) (.slice pa s.pf.length pc) b:=by
 have d:∀ {e' k' n':Nat} {v':Value} {zs':List Value},w.ownsRow 0 e' k' v' n' zs'→e≠e'→v'.ownBlock≠some b:=fun ho' he q=>(own_diff ho ho' he).elim (fun z=>by rw[z] at hb;simp at hb) fun z=>z (hb.trans q.symm)
 rintro(q | q | q | q)
 ·exact own_ty ho m.row h1 (q ▸ hb)
 ·exact d m.ot h2 q
 ·exact d m.ol h2 q
 ·exact d m.op h3 q
theorem SlM.outRow{w:World}{g:Nat}{s:Sst}{ta la pa:Option Addr}{tc lc pc:Nat}(m:SlM w g s ta la pa tc lc pc){b e:Nat}{zs:List Value}(hr:Row w b e zs)(h1:e≠68)(h2:84≠e)(h3:5≠e):¬ SlF g (.slice ta (tkOf s.hv).length tc) (.slice la s.lr.length lc) (.slice pa s.pf.length pc) b:=by
 rintro(q | q | q | q)
 ·have a1:w.heap[b]?=some (.cells zs.toArray e (0,0)):=hr
  have a2:w.heap[g]?=some (.cells _ 68 (0,0)):=m.row
  rw[q,a2] at a1
  simp only[Option.some.injEq,Obj.cells.injEq] at a1
  exact h1 a1.2.1.symm
 ·exact own_ty m.ot hr h2 q
 ·exact own_ty m.ol hr h2 q
 ·exact own_ty m.op hr h3 q
theorem own_chn{F:Nat→Prop}{w w':World}{B e s n:Nat}{v:Value}{zs:List Value}(ho:w.ownsRow B e s v n zs)(hc:Chn F w w')(hd:∀ b,v.ownBlock=some b→¬ F b):w'.ownsRow B e s v n zs:=own_frame ho fun b hb=>hc.block b (own_lt ho b hb) (hd b hb)
theorem keepM_any{w:World}{g:Nat}{s:Sst}{ta la pa:Option Addr}{tc lc pc:Nat}(m:SlM w g s ta la pa tc lc pc)(h0:0<w.heap.size)(hn0:(Value.slice pa s.pf.length pc).ownBlock≠some 0)(htab:Tab w)(hlr:∀ c∈s.lr,c<2^20)(hll:s.lr.length≤10000000)(hpl:s.pf.length≤100000000)(hlo:s.log≤100000000)(hun:s.un≤100000000)
  (lt:UInt8) (hlt:lt=97∨lt=100∨lt=101) (v:Value) (b0:Nat) (xs:List Int) (hoi:w.ownsRow b0 3 1 v xs.length (i64s xs)) (hlit:xs.all litB=true) (hxl:xs.length≤1000) :
  Calls Tryd.prog 36 #[.pointer (some ⟨g,0,none⟩),.agg #[.int .u8 (lt.toNat:Int),v]] w fun e w'=>e=.returned (.tuple #[])∧∃ la' lc' pa' pc',SlM w' g (s.keep (lt,xs)) ta la' pa' tc lc' pc'∧Chn (SlF g (.slice ta (tkOf s.hv).length tc) (.slice la s.lr.length lc) (.slice pa s.pf.length pc)) w w' ∧
   Mov (.slice la s.lr.length lc) (.slice la' (s.keep (lt,xs)).lr.length lc') w∧Mov (.slice pa s.pf.length pc) (.slice pa' (s.keep (lt,xs)).pf.length pc') w:=by
 obtain⟨a,c,rfl⟩:∃ a c,v=.slice a xs.length c:=by
  rcases hoi.2 with⟨rfl,e⟩ | ⟨g,cap,_,rfl,_⟩
  ·exact⟨none,0,by rw[e]⟩
  ·exact⟨_,cap,rfl⟩
 refine(keepS_any g s.r s.h s.l (.slice ta (tkOf s.hv).length tc) (emOf s.hv) s.sn s.log s.un la pa lc pc s.lr s.pf w h0 hn0 htab m.row m.ol m.op hlr hll hpl hlo hun lt hlt a c b0 xs hoi hlit hxl).mono ?_
 rintro e w' ⟨rfl,la',lc',pa',pc',k1,k2,k3,k4,k5,k6⟩
 refine⟨rfl,la',lc',pa',pc',⟨k1,?_,k2,k3,?_⟩,k4.mono fun b _ q=>?_,k5,k6⟩
 ·have key:∀ b,(Value.slice ta (tkOf s.hv).length tc).ownBlock=some b→¬ KpP g (.slice la s.lr.length lc) (.slice pa s.pf.length pc) b:=fun b hb q=>by
   rcases q with q | q | q
   ·exact own_ty m.ot m.row n_set (q ▸ hb)
   ·exact m.ap b hb q
   ·exact(own_diff m.ot m.op (by decide)).elim (fun z=>by rw[z] at hb;simp at hb) fun z=>z (hb.trans q.symm)
  exact own_chn m.ot k4 key
 ·intro b hb q
  rcases k5 b q with z | z
  ·exact m.ap b hb z
  ·have:=own_lt m.ot b hb;omega
 ·rcases q with q | q | q
  ·exact .inl q
  ·exact .inr (.inr (.inl q))
  ·exact .inr (.inr (.inr q))
end Go.Proofs.YthboeppmlhbofabDoor
