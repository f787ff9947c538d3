import Derived.Test.YthboeppmlhbofabDoorLad
import Derived.Deep.CutRange
namespace Go.Proofs.YthboeppmlhbofabDoor
open Go.RowKit Txt
set_option maxRecDepth 100000
theorem stCells_at(l:List Stp):∀ (j:Nat),j<l.length→∀ i v,(l.getD j ⟨0,0,0⟩).cells[i]?=some v→(stCells l)[j*5+i]?=some v:=by
 induction l with
 | nil=>intro j hj;simp at hj
 | cons p l ih =>
  intro j hj i v hv
  have e:stCells (p :: l)=p.cells++stCells l:=by simp[stCells]
  rw[e]
  have hl:p.cells.length=5:=rfl
  cases j with
  | zero =>
   have hi:i<p.cells.length:=by
    apply Classical.byContradiction
    intro hn
    rw[List.getElem?_eq_none (by simpa using hn)] at hv
    simp at hv
   rw[Nat.zero_mul,Nat.zero_add,List.getElem?_append_left hi]
   exact hv
  | succ j =>
   rw[show(j+1)*5+i=p.cells.length+(j*5+i) by rw[hl];omega,List.getElem?_append_right (Nat.le_add_right _ _),Nat.add_sub_cancel_left]
   exact ih j (by simpa using hj) i v hv
def StepsAt(w:World)(a:Option Addr)(ps:List Stp):Prop:=ps=[]∨∃ b,a=some ⟨b,0,none⟩∧b<w.heap.size∧∀ j,j<ps.length→∀ i v,(ps.getD j ⟨0,0,0⟩).cells[i]?=some v→w.cell? ⟨b,j*5+i,none⟩=some v
theorem StepsAt.below{w w':World}{a:Option Addr}{ps:List Stp}(h:StepsAt w a ps)(hb:Below w.heap.size w w'):StepsAt w' a ps:=by
 rcases h with e | ⟨b,e,hl,hc⟩
 ·exact .inl e
 ·exact .inr ⟨b,e,Nat.lt_of_lt_of_le hl hb.size,fun j hj i v hv=>(hb.cell (p:=⟨b,j*5+i,none⟩) hl).trans (hc j hj i v hv)⟩
theorem steps_own{w:World}{B c n:Nat}{a:Option Addr}{ps:List Stp}(h:w.ownsRow B 112 5 (.slice a n c) ps.length (stCells ps)):StepsAt w a ps:=by
 rcases h.2 with⟨_,h0⟩ | ⟨g,cap,cur,hv,_,hg,_⟩
 ·exact .inl (List.eq_nil_of_length_eq_zero h0)
 ·simp only[Value.slice.injEq] at hv
  obtain⟨rfl,_,rfl⟩:=hv
  refine .inr ⟨g,rfl,(Array.getElem?_eq_some_iff.1 hg).1,fun j hj i v hv=>?_⟩
  have:=h.cells (g:=g) rfl _ _ (stCells_at ps j hj i v hv)
  rw[addr0,Nat.zero_add] at this
  exact this
theorem StepsAt.get{w:World}{a:Option Addr}{ps:List Stp}(h:StepsAt w a ps)(hp:0<ps.length):∃ b,a=some ⟨b,0,none⟩∧b<w.heap.size∧∀ j,j<ps.length→∀ i v,(ps.getD j ⟨0,0,0⟩).cells[i]?=some v→w.cell? ⟨b,j*5+i,none⟩=some v:=by
 rcases h with e | h
 ·rw[e] at hp;simp at hp
 ·exact h
theorem knD_lt{cs:List Nat}(hc:∀ c∈cs,c<2^20){d:Nat}(hd:d<2^20):knD cs d<2^20:=by
 unfold knD
 cases h:pushD cs d with
 | none=>decide
 | some K=>exact(push_some hc hd h).top
theorem pushV_kn(cs:List Nat)(d:Nat):pushV (pushD cs d)=.tuple #[setV (knD cs d),.bool (pushD cs d).isNone]:=by
 unfold knD
 cases pushD cs d <;> rfl
set_option maxHeartbeats 8000000 in
theorem repeats_any(w:World)(B g:Nat)(E:Sg)(s:Sr)(A:SrA)(an:List Value)(cs:List Nat)(M:Nat)(hrow:Row w g 93 (srCells E s A an))(htr:Tr w B A.cb cs M)(a:Option Addr)(cp:Nat)(ps:List Stp)(hps:StepsAt w a ps)(hpl:ps.length≤1000000)(hpt:∀ p∈ps,p.dec<2^20∧p.kn<2^20∧p.vs<2^11) :
  Calls Tryd.prog 98 #[.pointer (some ⟨g,0,none⟩),.slice a ps.length cp] w fun e w'=>e=.returned (.bool (repsD cs ps))∧Below w.heap.size w w':=by
 have hg:g<w.heap.size:=hrow.lt
 have hct:=htr.top
 have F:Hid (∀ w',Below w.heap.size w w'→w'.cell? ⟨g,0,none⟩=some (.pointer (some ⟨A.cb,0,none⟩))∧Tr w' B A.cb cs M∧StepsAt w' a ps):=fun w' hb=>⟨((row_below hrow hb).cell 0).trans rfl,htr.below hb,hps.below hb⟩
 have HF:Hid (repsD cs (ps.drop 0)=repsD cs ps):=rfl
 have HPT:=hide hpt
 generalize repsD cs ps=RES at *
 clear hrow htr hps hpt
 go_enter Tryd.func98,Tryd.ntmps98
 go_wp2_with fail
 go_loopw [11] (fun x11 wr=>∃ k:Nat,k≤ps.length∧x11=.int .i64 k∧Hid (repsD cs (ps.drop k)=RES)∧Hid (Below w.heap.size w wr)) (fun x11 _=>ps.length - (intOf x11).toNat)
 case atStart=>exact⟨0,Nat.zero_le _,rfl,HF,Below.refl _ _⟩
 case round =>
  clear HF
  obtain⟨k,hk,rfl,R,B⟩:=hrel
  by_cases hlt:k<ps.length
  ·obtain⟨f0,ft,fs⟩:=F.out wr B.out
   obtain⟨b,rfl,hbl,hc⟩:=fs.get (by omega)
   have hmem:ps.getD k ⟨0,0,0⟩∈ps:=by rw[List.getD_eq_getElem?_getD,List.getElem?_eq_getElem hlt];exact List.getElem_mem hlt
   obtain⟨t1,t2,t3⟩:=HPT.out _ hmem
   have e0:=hc k hlt 0 _ rfl
   have e1:=hc k hlt 1 _ rfl
   have e2:=hc k hlt 2 _ rfl
   have e3:=hc k hlt 3 _ rfl
   have e4:=hc k hlt 4 _ rfl
   have r2:=R.out
   have ed:ps.drop k=ps.getD k ⟨0,0,0⟩ :: ps.drop (k+1):=by
    rw[List.drop_eq_getElem_cons hlt,List.getD_eq_getElem?_getD,List.getElem?_eq_getElem hlt];rfl
   rw[ed] at r2
   have R2:Hid ((knD cs (ps.getD k ⟨0,0,0⟩).dec&&&litsV (ps.getD k ⟨0,0,0⟩).vs == (ps.getD k ⟨0,0,0⟩).kn && repsD cs (ps.drop (k+1)))=RES):=r2
   generalize ps.getD k ⟨0,0,0⟩=p at *
   obtain⟨pd,pv,pk⟩:=p
   simp only at t1 t2 t3 R2 e0 e1 e2 e3 e4
   have hkl:=knD_lt hct t1
   have HPU:Hid (∀ w',Below wr.heap.size wr w'→Calls Tryd.prog 65 #[.pointer (some ⟨A.cb,0,none⟩),.agg #[.int .i64 (tN pd:Nat),.int .i64 (fN pd:Nat)]] w' fun e w''=>e=.returned (.tuple #[.agg #[.int .i64 (tN (knD cs pd):Nat),.int .i64 (fN (knD cs pd):Nat)],.bool (pushD cs pd).isNone])∧Below w'.heap.size w' w''):=fun w' hb=>by
    have:=push_tr (F.out w' (B.out.trans (hb.mono B.out.size))).2.1 pd t1
    rw[pushV_kn] at this
    exact this
   have HWI:Hid (∀ w,Calls Tryd.prog 68 #[.agg #[.int .i64 (tN (knD cs pd):Nat),.int .i64 (fN (knD cs pd):Nat)],.int .i64 (pv:Nat)] w fun e w'=>e=.returned (.agg #[.int .i64 (tN (knD cs pd&&&litsV pv):Nat),.int .i64 (fN (knD cs pd&&&litsV pv):Nat)])∧Below w.heap.size w w'):=fun w=>within_any (knD cs pd) pv hkl t3 w
   have HEQ:Hid ((knD cs pd&&&litsV pv == pk)=((((tN (knD cs pd&&&litsV pv):Nat):Int) == ((tN pk:Nat):Int)) && (((fN (knD cs pd&&&litsV pv):Nat):Int) == ((fN pk:Nat):Int)))):=by
    show _=_
    rw[Bool.eq_iff_iff]
    simp only[Bool.and_eq_true,beq_iff_eq]
    constructor
    ·intro e;rw[e];exact⟨rfl,rfl⟩
    ·rintro⟨q1,q2⟩
     exact tf_inj (and_top hkl) t2 (by omega) (by omega)
   have i1:(0:Int)≤(k:Int):=by omega
   have i2:(k:Int)<(ps.length:Int):=by omega
   clear hc ed r2 R t1 t2 t3 hkl fs ft hmem
   generalize (knD cs pd&&&litsV pv == pk)=EQ at *
   generalize tN (knD cs pd&&&litsV pv)=kt at *
   generalize fN (knD cs pd&&&litsV pv)=kf at *
   generalize tN (knD cs pd)=qt at *
   generalize fN (knD cs pd)=qf at *
   generalize (pushD cs pd).isNone=NB at *
   generalize tN pd=dt at *
   generalize fN pd=df at *
   generalize tN pk=pt at *
   generalize fN pk=pf at *
   have a0:k*5+0=k*5:=by omega
   rw[a0] at e0
   go_wp2_with fail
   have BP:Hid (Below wr.heap.size wr (wr.alloc (.cells #[.int .i64 (dt:Nat),.int .i64 (df:Nat),.int .i64 (pv:Nat),.int .i64 (pt:Nat),.int .i64 (pf:Nat)] 112))):=(Below.refl _ _).alloc (Nat.le_refl _) _
   have RP:Hid (Row (wr.alloc (.cells #[.int .i64 (dt:Nat),.int .i64 (df:Nat),.int .i64 (pv:Nat),.int .i64 (pt:Nat),.int .i64 (pf:Nat)] 112)) wr.heap.size 112 [.int .i64 (dt:Nat),.int .i64 (df:Nat),.int .i64 (pv:Nat),.int .i64 (pt:Nat),.int .i64 (pf:Nat)]):=heap_alloc_new wr _
   generalize wr.alloc (.cells #[.int .i64 (dt:Nat),.int .i64 (df:Nat),.int .i64 (pv:Nat),.int .i64 (pt:Nat),.int .i64 (pf:Nat)] 112)=w3 at *
   have B3:Hid (Below w.heap.size w w3):=B.out.trans (BP.out.mono B.out.size)
   have c0:w3.cell? ⟨g,0,none⟩=some (.pointer (some ⟨A.cb,0,none⟩)):=(F.out w3 B3.out).1
   have hg3:g<w3.heap.size:=Nat.lt_of_lt_of_le hg B3.out.size
   have hgP:wr.heap.size<w3.heap.size:=RP.out.lt
   have p0:w3.cell? ⟨wr.heap.size,0,none⟩=some (.int .i64 (dt:Nat)):=(RP.out.cell 0).trans rfl
   have p1:w3.cell? ⟨wr.heap.size,1,none⟩=some (.int .i64 (df:Nat)):=(RP.out.cell 1).trans rfl
   have c0a:∀ o,(w3.alloc o).cell? ⟨g,0,none⟩=some (.pointer (some ⟨A.cb,0,none⟩)):=fun o=>((alloc_below w3 o).cell (p:=⟨g,0,none⟩) hg3).trans c0
   have p0a:∀ o,(w3.alloc o).cell? ⟨wr.heap.size,0,none⟩=some (.int .i64 (dt:Nat)):=fun o=>((alloc_below w3 o).cell (p:=⟨wr.heap.size,0,none⟩) hgP).trans p0
   have p1a:∀ o,(w3.alloc o).cell? ⟨wr.heap.size,1,none⟩=some (.int .i64 (df:Nat)):=fun o=>((alloc_below w3 o).cell (p:=⟨wr.heap.size,1,none⟩) hgP).trans p1
   have BA:Hid (Below w3.heap.size w3 (w3.alloc (.cells #[.int .i64 0,.int .i64 0] 84)).drew):=below_drewN (alloc_below w3 _) 1
   have RA:Hid (Row (w3.alloc (.cells #[.int .i64 0,.int .i64 0] 84)).drew w3.heap.size 84 [.int .i64 0,.int .i64 0]):=heap_alloc_new w3 _
   have BD:Hid (Below w3.heap.size w3 w3.drew):=below_drewN (Below.refl _ _) 1
   have HP2:Hid (∀ w',Below w3.heap.size w3 w'→Calls Tryd.prog 65 #[.pointer (some ⟨A.cb,0,none⟩),.agg #[.int .i64 (dt:Nat),.int .i64 (df:Nat)]] w' fun e w''=>e=.returned (.tuple #[.agg #[.int .i64 (qt:Nat),.int .i64 (qf:Nat)],.bool NB])∧Below w'.heap.size w' w''):=fun w' hb=>HPU.out w' (BP.out.trans (hb.mono BP.out.size))
   clear HPU e0 e1 e2 e3 e4 f0
   go_cut [7] from 12 to 32 (fun s7 wc=>∃ gk:Nat,s7=.pointer (some ⟨gk,0,none⟩)∧w3.heap.size≤gk∧Hid (Row wc gk 84 [.int .i64 (qt:Nat),.int .i64 (qf:Nat)])∧Hid (Below w3.heap.size w3 wc))
   case first =>
    go_region_with (first
     | (go_at_call 65;refine(unhide HP2 (w3.alloc (.cells #[.int .i64 0,.int .i64 0] 84)).drew BA.out).mono ?_;rintro e w4 ⟨rfl,hb4⟩;have B4:Hid (Below w3.heap.size w3 w4):=BA.out.trans (hb4.mono BA.out.size);have X4:=hide (row_below RA.out hb4);have x0:w4.cell? ⟨w3.heap.size,0,none⟩=some (.int .i64 0):=(X4.out.cell 0).trans rfl;have x1:w4.cell? ⟨w3.heap.size,1,none⟩=some (.int .i64 0):=(X4.out.cell 1).trans rfl;have xz0:=X4.out.frozen 0;have xz1:=X4.out.frozen 1;clear hb4)
     | (go_at_call 65;refine(unhide HP2 w3.drew BD.out).mono ?_;rintro e w4 ⟨rfl,hb4⟩;have B4:Hid (Below w3.heap.size w3 w4):=BD.out.trans (hb4.mono BD.out.size);clear hb4))
    all_goals
     go_wp2
     go_meet
     case rel =>
      first
       | exact⟨w3.heap.size,rfl,Nat.le_refl _,(X4.out.set 0 _).set 1 _,(B4.out.setCell (p:=⟨w3.heap.size,0,none⟩) (Nat.le_refl _) _).setCell (p:=⟨w3.heap.size,1,none⟩) (Nat.le_refl _) _⟩
       | exact⟨w4.heap.size,rfl,B4.out.size,heap_alloc_new w4 _,B4.out.alloc B4.out.size _⟩
   case rest =>
    obtain⟨gk,rfl,hgk,X,BC⟩:=hcut
    have P5:=hide (row_below RP.out BC.out)
    have B5:Hid (Below w.heap.size w wc):=B3.out.trans (BC.out.mono B3.out.size)
    have G:Hid (∀ w',Below wc.heap.size wc w'→w'.cell? ⟨wr.heap.size,2,none⟩=some (.int .i64 (pv:Nat))∧w'.cell? ⟨wr.heap.size,3,none⟩=some (.int .i64 (pt:Nat))∧w'.cell? ⟨wr.heap.size,4,none⟩=some (.int .i64 (pf:Nat))∧w'.cell? ⟨gk,0,none⟩=some (.int .i64 (qt:Nat))∧w'.cell? ⟨gk,1,none⟩=some (.int .i64 (qf:Nat))):=fun w' hb=>⟨((row_below P5.out hb).cell 2).trans rfl,((row_below P5.out hb).cell 3).trans rfl,((row_below P5.out hb).cell 4).trans rfl,((row_below X.out hb).cell 0).trans rfl,((row_below X.out hb).cell 1).trans rfl⟩
    obtain⟨g2,g3,g4,k0,k1⟩:=G.out wc (Below.refl _ _)
    have BW:Hid (Below wc.heap.size wc wc.drew):=below_drewN (Below.refl _ _) 1
    clear HP2 BA RA BD c0 c0a p0 p1 p0a p1a B3 BP RP
    go_wp2_with fail
    generalize hq1:(((kt:Nat):Int) == ((pt:Nat):Int))=b1 at *
    generalize hq2:(((kf:Nat):Int) == ((pf:Nat):Int))=b2 at *
    go_cut [31] from 12 to 32 (fun s31 wd=>s31=.bool (!EQ)∧Hid (Below wc.heap.size wc wd))
    case first =>
     cases b1 <;> cases b2
     all_goals
      go_region_with (go_at_call 68;refine(unhide HWI _).mono ?_;rintro e wa ⟨rfl,hba⟩;have BW:Hid (Below wc.heap.size wc wa):=BW.out.trans (hba.mono BW.out.size);clear hba;obtain⟨g2,g3,g4,k0,k1⟩:=G.out wa BW.out)
      all_goals
       go_wp2
       go_meet
       case rel=>exact⟨by rw[HEQ.out];rfl,BW⟩
    case rest =>
     obtain⟨rfl,BE⟩:=hcut
     have B6:=hide (B5.out.trans (BE.out.mono B5.out.size))
     clear G g2 g3 g4 k0 k1 BW HWI HEQ hq1 hq2
     cases EQ with
     | false =>
      have HRS:Hid (RES=false):=by show _=_;rw[← R2.out];rfl
      clear R2
      go_wp2
      go_ret
      exact⟨ret_bool HRS.out.symm,B6.out⟩
     | true =>
      have R3:Hid (repsD cs (ps.drop (k+1))=RES):=by show _=_;rw[← R2.out];simp
      clear R2
      go_wp2
      go_roundw
      case rel=>exact⟨k+1,by omega,by go_num,R3,B6⟩
      case measure=>simp[intOf];omega
  ·obtain rfl:k=ps.length:=by omega
   have HRS:Hid (RES=true):=by
    show _=_
    have:=R.out
    rw[List.drop_eq_nil_of_le (Nat.le_refl _)] at this
    rw[← this];rfl
   clear R
   go_wp2
   go_ret
   exact⟨ret_bool HRS.out.symm,B.out⟩
end Go.Proofs.YthboeppmlhbofabDoor
