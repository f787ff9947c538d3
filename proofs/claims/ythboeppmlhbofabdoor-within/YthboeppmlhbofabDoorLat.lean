import Derived.Test.YthboeppmlhbofabDoorLah
namespace Go.Proofs.YthboeppmlhbofabDoor
open Go.RowKit Txt
set_option maxRecDepth 100000
theorem seekS_none{E:Sg}{w m dec:Nat}{s:Sr}(hp:pushD (E.hv++s.lr) dec=none):seekS E w (m+1) dec s=if dec=E.as then some (endS E s) else match rft E s dec with | .fin s x=>some (.fin s x) | .go s=>seekS E w m E.as { s with path:=[] }:=by
 simp only[seekS,hp]
 rfl
theorem seekS_some{E:Sg}{w m dec K:Nat}{s:Sr}(hp:pushD (E.hv++s.lr) dec=some K):seekS E w (m+1) dec s=if nxtD w K=0 then some (.go { s with vals:=s.vals|||(K&&&litsV w),done:=s.done++(s.path++[⟨dec,w,K&&&litsV w⟩]),path:=[] }) else seekS E w m (dec|||bitN ((nxtD w K:Nat):Int)) { s with path:=s.path++[⟨dec,w,K&&&litsV w⟩] }:=by
 simp only[seekS,hp]
theorem Hd.next{X:Cx}(hX:CxOk X){T:List (Nat × Nat)}{w i dec K:Nat}{s:Sr}(hW:Wks X T w)(h:Hd X T w i dec s)(hp:pushD (X.E.hv++s.lr) dec=some K)(hn:nxtD w K≠0):Hd X T w (i+1) (dec|||bitN ((nxtD w K:Nat):Int)) { s with path:=s.path++[⟨dec,w,K&&&litsV w⟩] }:=by
 have hok:=h.si.csok hX hW.me
 obtain⟨d20,dsub,_⟩:=decF_ok hok h.dec
 have q:=push_some hok.top d20 hp
 have hl:=push_in hok.top (lits_msk w) hok.sep d20 hp
 have hno:clashD (X.E.hv++s.lr) X.E.as=false:=by
  refine clash_anti hok.top d20 (fun c hc=>hc) dsub ?_
  cases hb:clashD (X.E.hv++s.lr) dec with
  | false=>rfl
  | true=>rw[push_none.2 hb] at hp;simp at hp
 have hpath:s.path++[⟨dec,w,K&&&litsV w⟩]=pathF (X.E.hv++s.lr) X.E.as w (i+1):=by
  simp only[pathF,h.dec,hl]
  rw[h.path]
 have hn':nxtD w (K&&&litsV w)≠0:=by rw[nxt_in q.top];exact hn
 refine⟨h.si.path _ s.done s.vals,h.trk,h.done,?_,hpath,fun _=>hno⟩
 show decF (X.E.hv++s.lr) X.E.as w (i+1)=_
 simp only[decF,h.dec,hl]
 rw[if_neg hn',nxt_in q.top]
theorem SetK.setAbove{v:Value}{w w':World}(h:SetK v w w'){g i:Nat}{x:Value}(hg:w.heap.size≤g):SetK v w (w'.setCell ⟨g,i,none⟩ x):=fun b hb hty hv=>(Below.heap_setCell w' ⟨g,i,none⟩ x b (by show b≠g;omega)).trans (h b hb hty hv)
theorem step_op{P:Program}{w:World}{ops:Array Oper}{o:Oper}{a:Act}{K:Act→World→Prop}{Q:Exit→Act→World→Prop}{E:Prop}(hgd:o.guard=none)(h:Oper.wp P o a w K Q):if Region.wanted o (yielded ops a.tmps)=true then Oper.wp P o a w K Q else E:=by
 have hw:Region.wanted o (yielded ops a.tmps)=true:=by simp[Region.wanted,hgd]
 rw[if_pos hw]
 exact h
theorem SrI.addVals{w:World}{B g N:Nat}{E:Sg}{s:Sr}{A:SrA}(h:SrI w B g N E s A anZero)(v:Nat):SrI ((w.setCell ⟨g,13,none⟩ (.int .i64 (tN v:Nat))).setCell ⟨g,14,none⟩ (.int .i64 (fN v:Nat))) B g N E { s with vals:=v } A anZero∧Fr stT B w ((w.setCell ⟨g,13,none⟩ (.int .i64 (tN v:Nat))).setCell ⟨g,14,none⟩ (.int .i64 (fN v:Nat))):=by
 have hB:=h.size
 have r1:=h.m.row.set 13 (.int .i64 (tN v:Nat))
 have hf:Fr (fun t=>t=93) B w ((w.setCell ⟨g,13,none⟩ (.int .i64 (tN v:Nat))).setCell ⟨g,14,none⟩ (.int .i64 (fN v:Nat))):=((Fr.refl (fun t=>t=93) B w).set h.m.row rfl h.m.base 13 _).set r1 rfl h.m.base 14 _
 obtain⟨us,l1,l2,l3⟩:=h.m.lines
 exact⟨⟨⟨r1.set 14 _,h.m.base,h.m.asm.fr hf hB h.m.asb,h.m.asb,hf.own h.m.lr (by decide),hf.own h.m.path (by decide),hf.own h.m.done (by decide),h.m.apart,us,l1,hf.own l2 (by decide),hf.allOwn l3 (by decide)⟩,h.t.fr hf fun t e=>by rw[e];exact me_tree⟩,hf.mono fun t e=>.inr e⟩
theorem st_one(ps:List Stp):∀ u∈stCells ps,u.oneCell'=true:=by
 intro u hu
 simp only[stCells,List.mem_flatMap] at hu
 obtain⟨p,_,hu⟩:=hu
 simp[Stp.cells] at hu
 rcases hu with rfl|rfl|rfl|rfl|rfl <;> rfl
theorem firstV_le(V:Nat):firstV V≤10:=by
 by_cases h:firstV V=0
 ·omega
 ·have:=(firstV_some h).2.1;omega
set_option maxHeartbeats 32000000 in
theorem seek_any(X:Cx)(hX:CxOk X)(T:List (Nat × Nat))(hBX:CxB X T)(cw:Nat)(hW:Wks X T cw)(w:World)(B g N:Nat)(s:Sr)(A:SrA)(h:SrI w B g N X.E s A anZero)(hH:Hd X T cw 0 X.E.as s)(hv:s.vals<2^20)(hxl:X.E.xs.length≤1000)(hN:N≤60000000)(m:Nat)(RES:Rs)(hR:seekS X.E cw m X.E.as s=some RES) :
  Calls Tryd.prog 53 #[.pointer (some ⟨g,0,none⟩),.int .i64 (cw:Nat)] w (SrPost w B g N X.E A RES):=by
 obtain⟨i1,gi,gz0,gz1,gz2⟩:=info_parts Tryd.infoStep
 have hB:=h.size
 have hcw:=ws_lt hX hW.me
 have OWN:Hid (∀ b,A.vl.ownBlock=some b→b<w.heap.size):=fun b q=>(h.m.lr.lt b q).2
 have HX:=hide (And.intro hX (And.intro hBX hW))
 have B0:=hide (alloc_below w (.cells #[.int .i64 (tN X.E.as:Nat),.int .i64 (fN X.E.as:Nat)] 84))
 have I0:=hide (h.below hB B0.out)
 have R0:Hid (Row (w.alloc (.cells #[.int .i64 (tN X.E.as:Nat),.int .i64 (fN X.E.as:Nat)] 84)) w.heap.size 84 [.int .i64 (tN X.E.as:Nat),.int .i64 (fN X.E.as:Nat)]):=heap_alloc_new w _
 have hsz0:(w.alloc (.cells #[.int .i64 (tN X.E.as:Nat),.int .i64 (fN X.E.as:Nat)] 84)).heap.size=w.heap.size+1:=by simp
 have HH:=hide hH
 have HR:=hide hR
 have HV:=hide hv
 have c2:w.cell? ⟨g,2,none⟩=some (.int .i64 (tN X.E.as:Nat)):=(h.m.row.cell 2).trans rfl
 have c3:w.cell? ⟨g,3,none⟩=some (.int .i64 (fN X.E.as:Nat)):=(h.m.row.cell 3).trans rfl
 clear h hH hR hX hBX hW hv
 go_enter Tryd.func53,Tryd.ntmps53
 go_wp2_with fail
 clear c2 c3
 generalize w.alloc (.cells #[.int .i64 (tN X.E.as:Nat),.int .i64 (fN X.E.as:Nat)] 84)=w0 at *
 go_loopg [] m (fun k wr=>∃ (i dec:Nat) (st:Sr) (A1:SrA),Hid (A1.cb=A.cb∧A1.aa=A.aa∧A1.ca=A.ca)∧Hid (Hd X T cw i dec st)∧Hid (seekS X.E cw k dec st=some RES)∧Hid (st.vals<2^20)∧Hid (SrI wr B g N X.E st A1 anZero)∧Hid (Fr srT B w wr)∧Hid (SetK A.vl w wr)∧Hid (Mov A.vl A1.vl w0)∧Hid (w0.heap.size≤wr.heap.size)∧Hid (Row wr w.heap.size 84 [.int .i64 (tN dec:Nat),.int .i64 (fN dec:Nat)]))
 case atStart=>exact⟨0,X.E.as,s,A,⟨rfl,rfl,rfl⟩,HH,HR,HV,I0,Fr.of srT B B0.out,SetK.fr A.vl (Fr.of (fun _=>False) B B0.out) id,Mov.refl _ _,Nat.le_refl _,R0⟩
 case round =>
  clear HH HR HV I0 R0
  obtain⟨i,dec,st,A1,HA,HH,HR,HV,I,FF,KK,MM,SZ,RB⟩:=hrel
  have MW:Hid (Mov A.vl A1.vl w):=fun b hb=>(MM.out b hb).imp id fun q=>Nat.le_trans B0.out.size q
  have hX:=HX.out.1
  have hW:=HX.out.2.2
  have hok:=HH.out.si.csok hX hW.me
  obtain⟨d20,_,_⟩:=decF_ok hok HH.out.dec
  obtain⟨hsb,hsp⟩:=HH.out.bounds hX HX.out.2.1 hW HV.out
  have SB:=hide hsb
  obtain⟨gk,rfl⟩:∃ k,gk=k+1:=by
   cases gk with
   | zero=>have:=HR.out;simp[seekS] at this
   | succ k=>exact⟨k,rfl⟩
  have hbx:A1.vl.ownBlock≠some w.heap.size:=fun q=>(MM.out _ q).elim (fun z=>by have:=OWN.out _ z;omega) (fun z=>by omega)
  have HBX:=hide hbx
  have hcs:∀ c∈X.E.hv++st.lr,c<2^20:=hok.top
  have hkl:=knD_lt hcs d20
  have hNN:N+10*st.sp≤80000000:=by omega
  have HPU:Hid (∀ w',Below wr.heap.size wr w'→Calls Tryd.prog 65 #[.pointer (some ⟨A1.cb,0,none⟩),.agg #[.int .i64 (tN dec:Nat),.int .i64 (fN dec:Nat)]] w' fun e w''=>e=.returned (.tuple #[.agg #[.int .i64 (tN (knD (X.E.hv++st.lr) dec):Nat),.int .i64 (fN (knD (X.E.hv++st.lr) dec):Nat)],.bool (pushD (X.E.hv++st.lr) dec).isNone])∧Below w'.heap.size w' w''):=fun w' hb=>by
   have:=push_tr (I.out.t.below hb) dec d20
   rw[pushV_kn] at this
   exact this
  have c0:wr.cell? ⟨g,0,none⟩=some (.pointer (some ⟨A1.cb,0,none⟩)):=(I.out.m.row.cell 0).trans rfl
  have r0:wr.cell? ⟨w.heap.size,0,none⟩=some (.int .i64 (tN dec:Nat)):=(RB.out.cell 0).trans rfl
  have r1:wr.cell? ⟨w.heap.size,1,none⟩=some (.int .i64 (fN dec:Nat)):=(RB.out.cell 1).trans rfl
  have hgr:g<wr.heap.size:=I.out.m.row.lt
  have hbr:w.heap.size<wr.heap.size:=RB.out.lt
  have c0a:∀ o,(wr.alloc o).cell? ⟨g,0,none⟩=some (.pointer (some ⟨A1.cb,0,none⟩)):=fun o=>((alloc_below wr o).cell (p:=⟨g,0,none⟩) hgr).trans c0
  have r0a:∀ o,(wr.alloc o).cell? ⟨w.heap.size,0,none⟩=some (.int .i64 (tN dec:Nat)):=fun o=>((alloc_below wr o).cell (p:=⟨w.heap.size,0,none⟩) hbr).trans r0
  have r1a:∀ o,(wr.alloc o).cell? ⟨w.heap.size,1,none⟩=some (.int .i64 (fN dec:Nat)):=fun o=>((alloc_below wr o).cell (p:=⟨w.heap.size,1,none⟩) hbr).trans r1
  have BA:Hid (Below wr.heap.size wr (wr.alloc (.cells #[.int .i64 0,.int .i64 0] 84)).drew):=below_drewN (alloc_below wr _) 1
  have RA:Hid (Row (wr.alloc (.cells #[.int .i64 0,.int .i64 0] 84)).drew wr.heap.size 84 [.int .i64 0,.int .i64 0]):=heap_alloc_new wr _
  have BD:Hid (Below wr.heap.size wr wr.drew):=below_drewN (Below.refl _ _) 1
  have KL:=hide hkl
  have HOK:=hide hok
  clear hok hX hW hsb hbx hcs hkl
  generalize hkn:knD (X.E.hv++st.lr) dec=KN at *
  generalize hpr:pushD (X.E.hv++st.lr) dec=PR at *
  have HKN:=hide hkn
  have HPR:=hide hpr
  clear hkn hpr
  go_wp2_with fail
  go_cut [6,7] from 13 to 95 (fun s6 s7 wc=>∃ gq:Nat,s6=.pointer (some ⟨gq,0,none⟩)∧s7=.bool PR.isNone∧wr.heap.size≤gq∧Hid (Row wc gq 84 [.int .i64 (tN KN:Nat),.int .i64 (fN KN:Nat)])∧Hid (Below wr.heap.size wr wc))
  case first =>
   go_region_with (first
    | (go_at_call 65;refine(unhide HPU (wr.alloc (.cells #[.int .i64 0,.int .i64 0] 84)).drew BA.out).mono ?_;rintro e w4 ⟨rfl,hb4⟩;have B4:Hid (Below wr.heap.size wr w4):=BA.out.trans (hb4.mono BA.out.size);have X4:=hide (row_below RA.out hb4);have x0:w4.cell? ⟨wr.heap.size,0,none⟩=some (.int .i64 0):=(X4.out.cell 0).trans rfl;have x1:w4.cell? ⟨wr.heap.size,1,none⟩=some (.int .i64 0):=(X4.out.cell 1).trans rfl;have xz0:=X4.out.frozen 0;have xz1:=X4.out.frozen 1;clear hb4)
    | (go_at_call 65;refine(unhide HPU wr.drew BD.out).mono ?_;rintro e w4 ⟨rfl,hb4⟩;have B4:Hid (Below wr.heap.size wr w4):=BD.out.trans (hb4.mono BD.out.size);clear hb4))
   all_goals
    go_wp2
    go_meet
    case rel =>
     first
      | exact⟨wr.heap.size,rfl,rfl,Nat.le_refl _,(X4.out.set 0 _).set 1 _,(B4.out.setCell (p:=⟨wr.heap.size,0,none⟩) (Nat.le_refl _) _).setCell (p:=⟨wr.heap.size,1,none⟩) (Nat.le_refl _) _⟩
      | exact⟨w4.heap.size,rfl,rfl,B4.out.size,heap_alloc_new w4 _,B4.out.alloc B4.out.size _⟩
  case rest =>
   obtain⟨gq,rfl,rfl,hgq,XK,BC⟩:=hcut
   clear HPU c0 r0 r1 c0a r0a r1a BA RA BD
   have I2:=hide (I.out.below I.out.size BC.out)
   have F2:=hide (FF.out.below BC.out)
   have K2:Hid (SetK A.vl w wc):=KK.out.trans MW.out FF.out.size (SetK.fr A1.vl (Fr.of (fun _=>False) B BC.out) id)
   have RB2:=hide (row_below RB.out BC.out)
   have SZ2:Hid (w0.heap.size≤wc.heap.size):=Nat.le_trans SZ.out BC.out.size
   have hq0:w.heap.size≠gq:=by omega
   clear I FF KK RB SZ BC
   generalize hwc:wc=w2 at *
   clear hwc
   have a2:w2.cell? ⟨g,2,none⟩=some (.int .i64 (tN X.E.as:Nat)):=(I2.out.m.row.cell 2).trans rfl
   have a3:w2.cell? ⟨g,3,none⟩=some (.int .i64 (fN X.E.as:Nat)):=(I2.out.m.row.cell 3).trans rfl
   have r0:w2.cell? ⟨w.heap.size,0,none⟩=some (.int .i64 (tN dec:Nat)):=(RB2.out.cell 0).trans rfl
   have r1:w2.cell? ⟨w.heap.size,1,none⟩=some (.int .i64 (fN dec:Nat)):=(RB2.out.cell 1).trans rfl
   have BD:Hid (Below w2.heap.size w2 w2.drew):=below_drewN (Below.refl _ _) 1
   have HEQ:Hid (dec=X.E.as↔((((tN dec:Nat):Int) == ((tN X.E.as:Nat):Int))=true∧(((fN dec:Nat):Int) == ((fN X.E.as:Nat):Int))=true)):=by
    show _↔_
    simp only[beq_iff_eq]
    constructor
    ·intro e;rw[e];exact⟨rfl,rfl⟩
    ·rintro⟨q1,q2⟩
     exact tf_inj d20 (as_lt X) (by omega) (by omega)
   generalize hb1:(((tN dec:Nat):Int) == ((tN X.E.as:Nat):Int))=b1 at *
   generalize hb2:(((fN dec:Nat):Int) == ((fN X.E.as:Nat):Int))=b2 at *
   go_wp2_with fail
   go_cut [30] from 13 to 95 (fun s30 wd=>s30=.bool (PR.isNone && (b1 && b2))∧Hid (Below w2.heap.size w2 wd))
   case first =>
    cases PR with
    | none =>
     simp only[Option.isNone_none]
     cases b1 <;> cases b2
     all_goals
      go_region
      all_goals
       go_wp2
       go_meet
       case rel=>exact⟨rfl,BD⟩
    | some K =>
     simp only[Option.isNone_some]
     go_region
     all_goals
      go_wp2
      go_meet
      case rel=>exact⟨rfl,BD⟩
   case rest =>
    obtain⟨rfl,BC⟩:=hcut
    have I3:=hide (I2.out.below I2.out.size BC.out)
    have F3:=hide (F2.out.below BC.out)
    have K3:Hid (SetK A.vl w wc):=K2.out.trans MW.out F2.out.size (SetK.fr A1.vl (Fr.of (fun _=>False) B BC.out) id)
    have RB3:=hide (row_below RB2.out BC.out)
    have XK3:=hide (row_below XK.out BC.out)
    have SZ3:Hid (w0.heap.size≤wc.heap.size):=Nat.le_trans SZ2.out BC.out.size
    clear I2 F2 K2 RB2 SZ2 XK BC BD a2 a3 r0 r1 hb1 hb2
    generalize hwc:wc=w3 at *
    clear hwc
    cases PR with
    | none =>
     simp only[Option.isNone_none,Bool.true_and]
     have hs:=seekS_none (E:=X.E) (w:=cw) (m:=gk) (dec:=dec) (s:=st) HPR.out
     have HS:=hide hs
     clear hs
     by_cases hda:dec=X.E.as
     ·obtain⟨e1,e2⟩:=HEQ.out.1 hda
      rw[e1,e2]
      have HRS:Hid (RES=endS X.E st):=by
       show _=_
       have:=HR.out
       rw[HS.out,if_pos hda] at this
       exact(Option.some.inj this).symm
      have HEN:=hide (send_any w3 B g N X.E st A1 I3.out SB.out HX.out.1.xs hxl)
      clear HEQ e1 e2 HS HR hda
      go_wp2_with fail
      refine(unhide HEN).mono ?_
      intro e w4 hp
      generalize endS X.E st=EN at *
      cases EN with
      | go s1=>obtain⟨_,_,_,hf⟩:=hp;exact hf.elim
      | fin s1 x =>
       obtain⟨p1,p2,rfl,A2,an2,q1,q2,q3,q4,q5,q6⟩:=hp
       have HQ:=hide (And.intro q1 (And.intro q2 q3))
       have P:=hide (And.intro p1 (And.intro p2 (And.intro q4 (And.intro q5 q6))))
       clear p1 p2 q1 q2 q3 q4 q5 q6 HEN
       go_wp2
       go_ret
       rw[HRS.out]
       have z1:=K3.out.trans MW.out F3.out.size P.out.2.1
       have z2:=MW.out.trans P.out.2.2.1 F3.out.size
       exact⟨F3.out.trans P.out.1,z1,rfl,A2,an2,HQ.out.1.trans HA.out.1,HQ.out.2.1.trans HA.out.2.1,HQ.out.2.2.trans HA.out.2.2,z2,P.out.2.2.2.1,P.out.2.2.2.2⟩
     ·have hbf:(b1 && b2)=false:=by
       cases hq:(b1 && b2) with
       | false=>rfl
       | true=>rw[Bool.and_eq_true] at hq;exact absurd (HEQ.out.2 hq) hda
      rw[hbf]
      have HR2:=HR.out
      rw[HS.out,if_neg hda] at HR2
      have HRR:=hide HR2
      have hcl:=push_none.1 HPR.out
      obtain⟨k,rfl⟩:∃ k,i=k+1:=by
       cases i with
       | zero =>
        exfalso
        apply hda
        have:=HH.out.dec
        simp only[decF,Option.some.injEq] at this
        exact this.symm
       | succ k=>exact⟨k,rfl⟩
      have HRF:=hide (refute_any w3 B g N X.E st A1 dec I3.out SB.out HX.out.1.xs hxl d20 hNN (fun hr=>long_mem HX.out.1 HX.out.2.2 HH.out hcl hr) (fun s1 e1=>by
       rcases mkr_ok HX.out.1 HX.out.2.2 HH.out hcl with⟨x,e,_⟩ | ⟨s',e,hd',_,_,hsp',hv',_⟩
       ·rw[e] at e1;simp at e1
       ·rw[e] at e1
        simp only[Rs.go.injEq] at e1
        subst e1
        exact⟨(hd'.bounds HX.out.1 HX.out.2.1 HX.out.2.2 (by rw[hv'];exact HV.out)).1,hsp'⟩))
      unfold setV at HRF
      have HRO:=hide (rft_ok HX.out.1 HX.out.2.2 HH.out hcl)
      have r0:w3.cell? ⟨w.heap.size,0,none⟩=some (.int .i64 (tN dec:Nat)):=(RB3.out.cell 0).trans rfl
      have r1:w3.cell? ⟨w.heap.size,1,none⟩=some (.int .i64 (fN dec:Nat)):=(RB3.out.cell 1).trans rfl
      clear HEQ HS HR HR2 hda hbf hcl
      go_wp2_with fail
      refine(unhide HRF).mono ?_
      intro e w4 hp
      have s4:=SZ3.out
      generalize rft X.E st dec=RF at *
      cases RF with
      | fin s1 x =>
       obtain⟨p1,p2,rfl,A2,an2,q1,q2,q3,q4,q5,q6⟩:=hp
       have HRS:Hid (RES=.fin s1 x):=(Option.some.inj HRR.out).symm
       have HQ:=hide (And.intro q1 (And.intro q2 q3))
       have P:=hide (And.intro p1 (And.intro p2 (And.intro q4 (And.intro q5 q6))))
       clear p1 p2 q1 q2 q3 q4 q5 q6 HRF HRO r0 r1 HRR
       go_wp2
       go_ret
       rw[HRS.out]
       have z1:=K3.out.trans MW.out F3.out.size P.out.2.1
       have z2:=MW.out.trans P.out.2.2.1 F3.out.size
       exact⟨F3.out.trans P.out.1,z1,rfl,A2,an2,HQ.out.1.trans HA.out.1,HQ.out.2.1.trans HA.out.2.1,HQ.out.2.2.trans HA.out.2.2,z2,P.out.2.2.2.1,P.out.2.2.2.2⟩
      | go s1 =>
       obtain⟨p1,p2,rfl,A2,q1,q2,q3,q4,q5⟩:=hp
       have HD1:Hid (Hd X T cw 0 X.E.as { s1 with path:=[] }∧s1.vals=st.vals):=by
        rcases HRO.out with⟨s',x,e,_⟩ | ⟨s',e,hd',hv',_⟩
        ·simp at e
        ·simp only[Rs.go.injEq] at e
         subst e
         exact⟨hd',hv'⟩
       have HQ:Hid (A2.cb=A.cb∧A2.aa=A.aa∧A2.ca=A.ca):=⟨q1.trans HA.out.1,q2.trans HA.out.2.1,q3.trans HA.out.2.2⟩
       have RB4:=hide (p2.row RB3.out HBX.out)
       have I4:=hide q5
       have F4:=hide (F3.out.trans p1)
       have K4:=hide (K3.out.trans MW.out F3.out.size p2)
       have M4:=hide (MM.out.trans q4 SZ3.out)
       have SZ4:Hid (w0.heap.size≤w4.heap.size):=Nat.le_trans SZ3.out p1.size
       have hbx4:A2.vl.ownBlock≠some w.heap.size:=fun q=>(M4.out _ q).elim (fun z=>by have:=OWN.out _ z;omega) (fun z=>by omega)
       clear p1 p2 q1 q2 q3 q4 q5 HRF HRO r0 r1
       have a2:w4.cell? ⟨g,2,none⟩=some (.int .i64 (tN X.E.as:Nat)):=(I4.out.m.row.cell 2).trans rfl
       have a3:w4.cell? ⟨g,3,none⟩=some (.int .i64 (fN X.E.as:Nat)):=(I4.out.m.row.cell 3).trans rfl
       have r0:w4.cell? ⟨w.heap.size,0,none⟩=some (.int .i64 (tN dec:Nat)):=(RB4.out.cell 0).trans rfl
       have r1:w4.cell? ⟨w.heap.size,1,none⟩=some (.int .i64 (fN dec:Nat)):=(RB4.out.cell 1).trans rfl
       have z0:=RB4.out.frozen 0
       have z1:=RB4.out.frozen 1
       have I5:=hide ((I4.out.box RB4.out hbx4 hB 0 (.int .i64 (tN X.E.as:Nat))).box (RB4.out.set 0 _) hbx4 hB 1 (.int .i64 (fN X.E.as:Nat)))
       have RB5:=hide ((RB4.out.set 0 (.int .i64 (tN X.E.as:Nat))).set 1 (.int .i64 (fN X.E.as:Nat)))
       have F5:Hid (Fr srT B w ((w4.setCell ⟨w.heap.size,0,none⟩ (.int .i64 (tN X.E.as:Nat))).setCell ⟨w.heap.size,1,none⟩ (.int .i64 (fN X.E.as:Nat)))):=(F4.out.setAbove (Nat.le_refl _)).setAbove (Nat.le_refl _)
       have K5:Hid (SetK A.vl w ((w4.setCell ⟨w.heap.size,0,none⟩ (.int .i64 (tN X.E.as:Nat))).setCell ⟨w.heap.size,1,none⟩ (.int .i64 (fN X.E.as:Nat)))):=(K4.out.setAbove (Nat.le_refl _)).setAbove (Nat.le_refl _)
       have SZ5:Hid (w0.heap.size≤((w4.setCell ⟨w.heap.size,0,none⟩ (.int .i64 (tN X.E.as:Nat))).setCell ⟨w.heap.size,1,none⟩ (.int .i64 (fN X.E.as:Nat))).heap.size):=by
        show _≤_
        have:=SZ4.out
        simpa [World.setCell] using this
       have g10:((w4.setCell ⟨w.heap.size,0,none⟩ (.int .i64 (tN X.E.as:Nat))).setCell ⟨w.heap.size,1,none⟩ (.int .i64 (fN X.E.as:Nat))).cell? ⟨g,10,none⟩=some A2.vp:=(I5.out.m.row.cell 10).trans rfl
       have g10':=I5.out.m.row.frozen 10
       have MW4:Hid (Mov A.vl A2.vl w):=fun b hb=>(M4.out b hb).imp id fun q=>Nat.le_trans B0.out.size q
       have NP:=hide I5.out.noPath
       have RB6:=hide (row_other I5.out.m.row RB5.out (by decide) 10 (.slice none 0 0))
       have F6:Hid (Fr srT B w _):=F5.out.trans (NP.out.2.mono st_sr)
       have K6:Hid (SetK A.vl w _):=K5.out.trans MW4.out F5.out.size (SetK.fr A2.vl NP.out.2 set_st)
       have SZ6:Hid (w0.heap.size≤_):=Nat.le_trans SZ5.out NP.out.2.size
       have HR3:Hid (seekS X.E cw gk X.E.as { s1 with path:=[] }=some RES):=HRR.out
       clear I4 F4 K4 RB4 hbx4 HRR
       go_wp2
       go_roundg gk
       case measure=>omega
       case rel=>exact⟨0,X.E.as,{ s1 with path:=[] },{ A2 with vp:=.slice none 0 0 },HQ,HD1.out.1,HR3,by show s1.vals<2^20;rw[HD1.out.2];exact HV.out,NP.out.1,F6,K6,M4,SZ6,RB6⟩
    | some K =>
     simp only[Option.isNone_some,Bool.false_and]
     have hkk:KN=K:=by
      rw[← HKN.out]
      simp only[knD,HPR.out]
     subst hkk
     have HS:=hide (seekS_some (E:=X.E) (w:=cw) (m:=gk) (dec:=dec) (s:=st) HPR.out)
     have HRS:Hid ((if nxtD cw KN=0 then some (Rs.go { st with vals:=st.vals|||(KN&&&litsV cw),done:=st.done++(st.path++[⟨dec,cw,KN&&&litsV cw⟩]),path:=[] }) else seekS X.E cw gk (dec|||bitN ((nxtD cw KN:Nat):Int)) { st with path:=st.path++[⟨dec,cw,KN&&&litsV cw⟩] })=some RES):=by
      show _=_
      rw[← HS.out];exact HR.out
     have HNX:Hid (nxtD cw KN≠0→Hd X T cw (i+1) (dec|||bitN ((nxtD cw KN:Nat):Int)) { st with path:=st.path++[⟨dec,cw,KN&&&litsV cw⟩] }):=fun hn=>HH.out.next HX.out.1 HX.out.2.2 HPR.out hn
     clear HS HR HEQ HH
     have hkl:=KL.out
     have hpl:=SB.out.path
     have hdl:=SB.out.done
     have HSH:Hid (∃ ap cp ad cd,A1.vp=.slice ap st.path.length cp∧A1.vd=.slice ad st.done.length cd):=by
      obtain⟨ap,cp,e1⟩:=own_shape I3.out.m.path
      obtain⟨ad,cd,e2⟩:=own_shape I3.out.m.done
      exact⟨ap,cp,ad,cd,e1,e2⟩
     obtain⟨ap,cp,ad,cd,evp,evd⟩:=HSH.out
     have EVP:=hide evp
     have EVD:=hide evd
     clear HSH evp evd
     have HWI:Hid (∀ w,Calls Tryd.prog 68 #[.agg #[.int .i64 (tN KN:Nat),.int .i64 (fN KN:Nat)],.int .i64 (cw:Nat)] w fun e w'=>e=.returned (.agg #[.int .i64 (tN (KN&&&litsV cw):Nat),.int .i64 (fN (KN&&&litsV cw):Nat)])∧Below w.heap.size w w'):=fun w=>within_any KN cw hkl hcw w
     have C:Hid (∀ w',Below w3.heap.size w3 w'→w'.cell? ⟨g,10,none⟩=some (.slice ap st.path.length cp)∧w'.cell? ⟨w.heap.size,0,none⟩=some (.int .i64 (tN dec:Nat))∧w'.cell? ⟨w.heap.size,1,none⟩=some (.int .i64 (fN dec:Nat))∧w'.cell? ⟨gq,0,none⟩=some (.int .i64 (tN KN:Nat))∧w'.cell? ⟨gq,1,none⟩=some (.int .i64 (fN KN:Nat))):=fun w' hb=>⟨((row_below I3.out.m.row hb).cell 10).trans (by rw[← EVP.out];rfl),((row_below RB3.out hb).cell 0).trans rfl,((row_below RB3.out hb).cell 1).trans rfl,((row_below XK3.out hb).cell 0).trans rfl,((row_below XK3.out hb).cell 1).trans rfl⟩
     obtain⟨f1,f2,f3,f4,f5⟩:=C.out w3 (Below.refl _ _)
     have BD:Hid (Below w3.heap.size w3 w3.drew):=below_drewN (Below.refl _ _) 1
     have OP0:Hid (w3.ownsRow B 112 5 (.slice ap st.path.length cp) st.path.length (stCells st.path)):=by
      have:=I3.out.m.path
      rw[EVP.out] at this
      exact this
     have d1:Hid (st.path.length+1≤maxLen):=by show _≤_;unfold maxLen;omega
     have d2:Hid ((st.path.length+1)*40≤140737488355328):=by show _≤_;omega
     have hB3:B≤w3.heap.size:=I3.out.size
     go_wp2_with fail
     go_cut [] from 13 to 95 (fun wx=>∃ v',Hid (SrI wx B g N X.E { st with path:=st.path++[⟨dec,cw,KN&&&litsV cw⟩] } { A1 with vp:=v' } anZero)∧Hid (Fr stT B w3 wx))
     case first =>
      go_region_law (first
       | (refine step_append_many _ rfl (.tmp 49) (.tmp 56) 91 rfl B 112 i1 (.agg #[.int .i64 0,.int .i64 0,.int .i64 0,.int .i64 0,.int .i64 0]) 5 40 Tryd.undSteps gi gz0 gz1 gz2 rfl (by decide) (.slice ap st.path.length cp) st.path.length (stCells st.path) rfl (by exact OPa.out.alloc _) ⟨wa.heap.size,0,none⟩ 1 1 [.int .i64 (tN dec:Nat),.int .i64 (fN dec:Nat),.int .i64 (cw:Nat),.int .i64 (tN (KN&&&litsV cw):Nat),.int .i64 (fN (KN&&&litsV cw):Nat)] rfl rfl (by exact new_cells1 wa [.int .i64 (tN dec:Nat),.int .i64 (fN dec:Nat),.int .i64 (cw:Nat),.int .i64 (tN (KN&&&litsV cw):Nat),.int .i64 (fN (KN&&&litsV cw):Nat)] 112) (by intro u hu;simp at hu;rcases hu with rfl|rfl|rfl|rfl|rfl <;> rfl) (by decide) d1.out d2.out (by have:=BDa.out.size;simp;omega) (wa.heap.size+1) (by simp) ?_;intro a6 c6 w6 hown6 hg6 hl6;have HG6:=hide hg6;have R6:Hid (Row w6 g 93 (srCells X.E st A1 anZero)):=row_grownN (row_below (row_below I3.out.m.row BDa.out) (alloc_below wa _)) (OPa.out.alloc _) (by decide) HG6.out;have g10:w6.cell? ⟨g,10,none⟩=some (.slice ap st.path.length cp):=(R6.out.cell 10).trans (by rw[← EVP.out];rfl);have g10':=R6.out.frozen 10)
       | (refine step_op rfl ?_;go_simp;go_at_call 68;refine(unhide HWI _).mono ?_;rintro e wa ⟨rfl,hba⟩;have BDa:Hid (Below w3.heap.size w3 wa):=BD.out.trans (hba.mono BD.out.size);clear hba;have OPa:=hide (own_below OP0.out BDa.out);obtain⟨f1,f2,f3,f4,f5⟩:=C.out wa BDa.out;have f1a:∀ o,(wa.alloc o).cell? ⟨g,10,none⟩=some (.slice ap st.path.length cp):=(fun o=>(C.out _ (BDa.out.alloc BDa.out.size o)).1);dsimp only))
      all_goals
       have AP:=hide ((I3.out.below I3.out.size BDa.out).addPath (p:=⟨dec,cw,KN&&&litsV cw⟩) (v':=.slice a6 (st.path.length+1) c6) (by rw[EVP.out];exact HG6.out) hown6 (fun b hb=>by
        rcases lies_own (N:=st.path.length+1) hl6 with q | q
        ·rw[EVP.out,← q];exact .inl hb
        ·rw[q,Option.some.injEq] at hb;right;omega))
       clear hown6 hg6 hl6
       go_wp2
       go_meet
       case rel=>exact⟨.slice a6 (st.path.length+1) c6,AP.out.1,(Fr.of stT B BDa.out).trans AP.out.2⟩
     case rest =>
      obtain⟨v',I4,F4⟩:=hcut
      have FF4:Hid (Fr srT B w wc):=F3.out.trans (F4.out.mono st_sr)
      have K4:Hid (SetK A.vl w wc):=K3.out.trans MW.out F3.out.size (SetK.fr A1.vl F4.out set_st)
      have SZ4:Hid (w0.heap.size≤wc.heap.size):=Nat.le_trans SZ3.out F4.out.size
      have RB4:=hide (F4.out.row RB3.out set_st)
      have XK4:=hide (F4.out.row XK3.out set_st)
      clear F4 I3 F3 K3 SZ3 RB3 XK3 C f1 f2 f3 f4 f5 BD OP0 d1 d2 hB3
      generalize hwc:wc=w4 at *
      clear hwc
      have HVA:Hid (∀ w,Calls Tryd.prog 46 #[.agg #[.int .i64 (tN KN:Nat),.int .i64 (fN KN:Nat)]] w fun e w'=>e=.returned (.int .i64 (vN KN:Nat))∧Below w.heap.size w w'):=fun w=>lvars_any (tN KN) (fN KN) (tN_lt KN) (fN_lt KN) w
      have HFV:Hid (∀ w,Calls Tryd.prog 69 #[.int .i64 (cw - (cw&&&vN KN):Nat)] w fun e w'=>e=.returned (.int .i64 (nxtD cw KN:Nat))∧w'=w):=fun w=>firstVar_any _ (by omega) w
      have an:=andnot64 cw (vN KN) (by omega)
      have hnle:nxtD cw KN≤10:=firstV_le _
      have x0:w4.cell? ⟨gq,0,none⟩=some (.int .i64 (tN KN:Nat)):=(XK4.out.cell 0).trans rfl
      have x1:w4.cell? ⟨gq,1,none⟩=some (.int .i64 (fN KN:Nat)):=(XK4.out.cell 1).trans rfl
      have HWT:Hid (nxtD cw KN≠0→∀ w,Calls Tryd.prog 62 #[.agg #[.int .i64 (tN dec:Nat),.int .i64 (fN dec:Nat)],.int .i64 (nxtD cw KN:Nat)] w fun e w'=>e=.returned (.agg #[.int .i64 (tN (dec|||bitN ((nxtD cw KN:Nat):Int)):Nat),.int .i64 (fN (dec|||bitN ((nxtD cw KN:Nat):Int)):Nat)])∧Below w.heap.size w w'):=fun hn w=>by
       have hl:litB ((nxtD cw KN:Nat):Int)=true:=by
        simp only[litB,Bool.and_eq_true,bne_iff_ne,decide_eq_true_eq];omega
       obtain⟨j,ej,hj,_⟩:=nxt_spec hkl hn
       have hb20:bitN ((nxtD cw KN:Nat):Int)<2^20:=by rw[ej];exact pow20 hj
       obtain⟨t1,t2⟩:=tN_or d20 hb20
       obtain⟨t3,t4⟩:=tN_bit hl
       rw[t1,t2,t3,t4]
       exact with_any (tN dec) (fN dec) _ (tN_lt dec) (fN_lt dec) hl w
      generalize hfv:nxtD cw KN=v at *
      clear hfv
      generalize hvk:vN KN=VK at *
      clear hvk
      generalize hva:cw - (cw&&&VK)=VA at *
      clear hva
      go_wp2_with fail
      refine(unhide HVA w4).mono ?_
      rintro e w5 ⟨rfl,hb5⟩
      have I5:=hide (I4.out.below I4.out.size hb5)
      have F5:=hide (FF4.out.below hb5)
      have K5:Hid (SetK A.vl w w5):=K4.out.trans MW.out FF4.out.size (SetK.fr A1.vl (Fr.of (fun _=>False) B hb5) id)
      have SZ5:Hid (w0.heap.size≤w5.heap.size):=Nat.le_trans SZ4.out hb5.size
      have RB5:=hide (row_below RB4.out hb5)
      have XK5:=hide (row_below XK4.out hb5)
      clear hb5 I4 FF4 K4 SZ4 RB4 XK4 x0 x1
      go_wp2_with fail
      refine(unhide HFV w5).mono ?_
      rintro e w5 ⟨rfl,rfl⟩
      clear HVA HFV an
      by_cases hv0:v=0
      ·subst hv0
       have HRG:Hid (RES=Rs.go { st with vals:=st.vals|||(KN&&&litsV cw),done:=st.done++(st.path++[⟨dec,cw,KN&&&litsV cw⟩]),path:=[] }):=by
        have:=HRS.out
        rw[if_pos rfl] at this
        exact(Option.some.inj this).symm
       clear HRS HNX HWT RB5
       have hp0:0<(st.path++[(⟨dec,cw,KN&&&litsV cw⟩:Stp)]).length:=by simp
       have hp1:(st.path++[(⟨dec,cw,KN&&&litsV cw⟩:Stp)]).length≤1001:=by simp;omega
       generalize st.path++[(⟨dec,cw,KN&&&litsV cw⟩:Stp)]=ps at *
       obtain⟨gp,cpp,evv,_,_⟩:=I5.out.m.path.form hp0
       have evv':v'=.slice (some ⟨gp,0,none⟩) ps.length cpp:=evv
       subst evv'
       clear evv
       have hk20:KN&&&litsV cw<2^20:=Nat.lt_of_le_of_lt Nat.and_le_left hkl
       have HJO:Hid (∀ w,Calls Tryd.prog 70 #[.agg #[.int .i64 (tN st.vals:Nat),.int .i64 (fN st.vals:Nat)],.agg #[.int .i64 (tN (KN&&&litsV cw):Nat),.int .i64 (fN (KN&&&litsV cw):Nat)]] w fun e w'=>e=.returned (.agg #[.int .i64 (tN (st.vals|||(KN&&&litsV cw)):Nat),.int .i64 (fN (st.vals|||(KN&&&litsV cw)):Nat)])∧Below w.heap.size w w'):=fun w=>ljoin_any st.vals (KN&&&litsV cw) HV.out hk20 w
       generalize KN&&&litsV cw=KW at *
       generalize st.vals|||KW=VW at *
       have C:Hid (∀ w',Below w5.heap.size w5 w'→w'.cell? ⟨g,13,none⟩=some (.int .i64 (tN st.vals:Nat))∧w'.cell? ⟨g,14,none⟩=some (.int .i64 (fN st.vals:Nat))∧w'.cell? ⟨gq,0,none⟩=some (.int .i64 (tN KN:Nat))∧w'.cell? ⟨gq,1,none⟩=some (.int .i64 (fN KN:Nat))∧w'.frozen? ⟨g,13,none⟩=false∧w'.frozen? ⟨g,14,none⟩=false):=fun w' hb=>⟨((row_below I5.out.m.row hb).cell 13).trans rfl,((row_below I5.out.m.row hb).cell 14).trans rfl,((row_below XK5.out hb).cell 0).trans rfl,((row_below XK5.out hb).cell 1).trans rfl,(row_below I5.out.m.row hb).frozen 13,(row_below I5.out.m.row hb).frozen 14⟩
       obtain⟨f1,f2,f3,f4,f5,f6⟩:=C.out w5 (Below.refl _ _)
       have BD:Hid (Below w5.heap.size w5 w5.drew):=below_drewN (Below.refl _ _) 1
       go_wp2_with fail
       go_cut [] from 13 to 95 (fun wx=>Hid (SrI wx B g N X.E { st with path:=ps,vals:=VW } { A1 with vp:=.slice (some ⟨gp,0,none⟩) ps.length cpp } anZero)∧Hid (Fr stT B w5 wx))
       case first =>
        go_region_with (first
         | (go_at_call 68;refine(unhide HWI _).mono ?_;rintro e wa ⟨rfl,hba⟩;have BD:Hid (Below w5.heap.size w5 wa):=BD.out.trans (hba.mono BD.out.size);clear hba;obtain⟨f1,f2,f3,f4,f5,f6⟩:=C.out wa BD.out)
         | (go_at_call 70;refine(unhide HJO _).mono ?_;rintro e wa ⟨rfl,hba⟩;have BD:Hid (Below w5.heap.size w5 wa):=BD.out.trans (hba.mono BD.out.size);clear hba;obtain⟨f1,f2,f3,f4,f5,f6⟩:=C.out wa BD.out))
        all_goals
         have AV:=hide ((I5.out.below I5.out.size BD.out).addVals VW)
         have FV:=hide ((Fr.of stT B BD.out).trans AV.out.2)
         go_wp2
         go_meet
         case rel=>exact⟨AV.out.1,FV⟩
       case rest =>
        obtain⟨I6,F6⟩:=hcut
        have FF6:Hid (Fr srT B w wc):=F5.out.trans (F6.out.mono st_sr)
        have K6:Hid (SetK A.vl w wc):=K5.out.trans MW.out F5.out.size (SetK.fr A1.vl F6.out set_st)
        clear F6 F5 K5 I5 XK5 C BD f1 f2 f3 f4 f5 f6 SZ5 HJO HWI
        generalize hwc:wc=w6 at *
        clear hwc
        have g11:w6.cell? ⟨g,11,none⟩=some (.slice ad st.done.length cd):=(I6.out.m.row.cell 11).trans (by rw[← EVD.out];rfl)
        have g10:w6.cell? ⟨g,10,none⟩=some (.slice (some ⟨gp,0,none⟩) ps.length cpp):=(I6.out.m.row.cell 10).trans rfl
        have OD:Hid (w6.ownsRow B 112 5 (.slice ad st.done.length cd) st.done.length (stCells st.done)):=by
         have:=I6.out.m.done
         rw[show({ A1 with vp:=.slice (some ⟨gp,0,none⟩) ps.length cpp }:SrA).vd=.slice ad st.done.length cd from EVD.out] at this
         exact this
        have OP:Hid (w6.ownsRow B 112 5 (.slice (some ⟨gp,0,none⟩) ps.length cpp) ps.length (stCells ps)):=I6.out.m.path
        have CP:Hid (∀ j u,(stCells ps)[j]?=some u→w6.cell? ((⟨gp,0,none⟩:Addr).add j)=some u):=OP.out.cells rfl
        have d1:Hid (st.done.length+ps.length≤maxLen):=by show _≤_;unfold maxLen;omega
        have d2:Hid ((st.done.length+ps.length)*40≤140737488355328):=by show _≤_;omega
        have hB6:B≤w6.heap.size:=I6.out.size
        go_wp2_with fail
        go_cut [] from 13 to 95 (fun wx=>∃ v2,Hid (SrI wx B g N X.E { st with path:=ps,vals:=VW,done:=st.done++ps } { A1 with vp:=.slice (some ⟨gp,0,none⟩) ps.length cpp,vd:=v2 } anZero)∧Hid (Fr stT B w6 wx))
        case first =>
         go_region_law (refine step_append_many _ rfl (.tmp 82) (.tmp 86) 91 rfl B 112 i1 (.agg #[.int .i64 0,.int .i64 0,.int .i64 0,.int .i64 0,.int .i64 0]) 5 40 Tryd.undSteps gi gz0 gz1 gz2 rfl (by decide) (.slice ad st.done.length cd) st.done.length (stCells st.done) rfl (by exact OD.out) ⟨gp,0,none⟩ ps.length cpp (stCells ps) rfl OP.out.1 (by exact CP.out) (st_one ps) hp0 d1.out d2.out (by exact hB6) w6.heap.size rfl ?_;intro a7 c7 w7 hown7 hg7 hl7;have HG7:Hid (w6.grownBy w7 (Value.slice ad st.done.length cd).ownBlock):=(by first | exact grown_undrew hg7 | exact hg7);have R7:=hide (row_grownN I6.out.m.row OD.out (by decide) HG7.out);have g11:w7.cell? ⟨g,11,none⟩=some (.slice ad st.done.length cd):=(R7.out.cell 11).trans (by rw[← EVD.out];rfl);have g11':=R7.out.frozen 11)
         all_goals
          have AD:=hide (I6.out.addDone (v':=.slice a7 (st.done.length+ps.length) c7) (by rw[show({ A1 with vp:=.slice (some ⟨gp,0,none⟩) ps.length cpp }:SrA).vd=.slice ad st.done.length cd from EVD.out];exact HG7.out) hown7 (fun b hb=>by
           rw[show({ A1 with vp:=.slice (some ⟨gp,0,none⟩) ps.length cpp }:SrA).vd=.slice ad st.done.length cd from EVD.out]
           rcases lies_own (N:=st.done.length+ps.length) hl7 with q | q
           ·rw[← q];exact .inl hb
           ·rw[q,Option.some.injEq] at hb;right;omega))
          clear hown7 hg7 hl7
          go_wp2
          go_meet
          case rel=>exact⟨.slice a7 (st.done.length+ps.length) c7,AD.out.1,AD.out.2⟩
        case rest =>
         obtain⟨v2,I7,F7⟩:=hcut
         have FF7:Hid (Fr srT B w wc):=FF6.out.trans (F7.out.mono st_sr)
         have K7:Hid (SetK A.vl w wc):=K6.out.trans MW.out FF6.out.size (SetK.fr A1.vl F7.out set_st)
         clear F7 FF6 K6 I6 g10 g11 OD OP CP d1 d2 hB6
         generalize hwc:wc=w7 at *
         clear hwc
         have g10:w7.cell? ⟨g,10,none⟩=some (.slice (some ⟨gp,0,none⟩) ps.length cpp):=(I7.out.m.row.cell 10).trans rfl
         have g10':=I7.out.m.row.frozen 10
         have NP:=hide I7.out.noPath
         have F8:Hid (Fr srT B w _):=FF7.out.trans (NP.out.2.mono st_sr)
         have K8:Hid (SetK A.vl w _):=K7.out.trans MW.out FF7.out.size (SetK.fr A1.vl NP.out.2 set_st)
         clear I7 FF7 K7
         go_wp2
         go_ret
         rw[HRG.out]
         exact⟨F8.out,K8.out,rfl,{ A1 with vp:=.slice none 0 0,vd:=v2 },HA.out.1,HA.out.2.1,HA.out.2.2,MW.out,NP.out.1⟩
      ·have HRN:Hid (seekS X.E cw gk (dec|||bitN ((v:Nat):Int)) { st with path:=st.path++[⟨dec,cw,KN&&&litsV cw⟩] }=some RES):=by
        have:=HRS.out
        rw[if_neg hv0] at this
        exact this
       have HN1:=hide (HNX.out hv0)
       have HW1:=hide (HWT.out hv0)
       have hvi:¬ ((v:Int)=0):=by omega
       have r0:w5.cell? ⟨w.heap.size,0,none⟩=some (.int .i64 (tN dec:Nat)):=(RB5.out.cell 0).trans rfl
       have r1:w5.cell? ⟨w.heap.size,1,none⟩=some (.int .i64 (fN dec:Nat)):=(RB5.out.cell 1).trans rfl
       clear HRS HNX HWT XK5
       generalize dec|||bitN ((v:Nat):Int)=D1 at *
       go_wp2_with fail
       refine(unhide HW1 w5).mono ?_
       rintro e w6 ⟨rfl,hb6⟩
       have RB6:=hide (row_below RB5.out hb6)
       have F6:Hid (Fr srT B w ((w6.setCell ⟨w.heap.size,0,none⟩ (.int .i64 (tN D1:Nat))).setCell ⟨w.heap.size,1,none⟩ (.int .i64 (fN D1:Nat)))):=((F5.out.below hb6).setAbove (Nat.le_refl _)).setAbove (Nat.le_refl _)
       have K6:Hid (SetK A.vl w ((w6.setCell ⟨w.heap.size,0,none⟩ (.int .i64 (tN D1:Nat))).setCell ⟨w.heap.size,1,none⟩ (.int .i64 (fN D1:Nat)))):=((K5.out.trans MW.out F5.out.size (SetK.fr A1.vl (Fr.of (fun _=>False) B hb6) id)).setAbove (Nat.le_refl _)).setAbove (Nat.le_refl _)
       have I6:=hide (((I5.out.below I5.out.size hb6).box RB6.out HBX.out hB 0 (.int .i64 (tN D1:Nat))).box (RB6.out.set 0 _) HBX.out hB 1 (.int .i64 (fN D1:Nat)))
       have RB7:=hide ((RB6.out.set 0 (.int .i64 (tN D1:Nat))).set 1 (.int .i64 (fN D1:Nat)))
       have SZ6:Hid (w0.heap.size≤((w6.setCell ⟨w.heap.size,0,none⟩ (.int .i64 (tN D1:Nat))).setCell ⟨w.heap.size,1,none⟩ (.int .i64 (fN D1:Nat))).heap.size):=by
        show _≤_
        have:=Nat.le_trans SZ5.out hb6.size
        simpa [World.setCell] using this
       have c0:w6.cell? ⟨w.heap.size,0,none⟩=some (.int .i64 (tN dec:Nat)):=(RB6.out.cell 0).trans rfl
       have c1:w6.cell? ⟨w.heap.size,1,none⟩=some (.int .i64 (fN dec:Nat)):=(RB6.out.cell 1).trans rfl
       have z0:=RB6.out.frozen 0
       have z1:=RB6.out.frozen 1
       clear hb6 I5 F5 K5 SZ5 RB5 r0 r1 HW1
       go_wp2
       go_roundg gk
       case measure=>omega
       case rel=>exact⟨i+1,D1,_,{ A1 with vp:=v' },HA,HN1,HRN,HV,I6,F6,K6,MM,SZ6,RB7⟩
end Go.Proofs.YthboeppmlhbofabDoor
