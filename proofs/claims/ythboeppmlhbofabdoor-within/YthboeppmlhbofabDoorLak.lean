import Derived.Test.YthboeppmlhbofabDoorLad
import Derived.Deep.Cut
import Derived.Deep.CutRange
namespace Go.Proofs.YthboeppmlhbofabDoor
open Go.RowKit Txt
set_option maxRecDepth 100000
set_option maxHeartbeats 8000000 in
theorem swrite_any(w:World)(B g N:Nat)(E:Sg)(s:Sr)(A:SrA)(lt:UInt8)(c:Nat)(h:SrI w B g N E s A anZero)(hb:SrB s)(hc:c<2^20) :
  Calls Tryd.prog 81 #[.pointer (some ⟨g,0,none⟩),.int .u8 (lt.toNat:Int),setV c] w (SrPost w B g N E A (wrt lt c s)):=by
 obtain⟨i1,gi,gz0,gz1,gz2⟩:=info_parts Tryd.infoLine
 have hB:=h.size
 have hsq:∃ aq cq,A.vq=.slice aq s.ls.length cq:=by
  obtain⟨us0,_,lu0,_⟩:=h.m.lines
  exact own_shape lu0
 obtain⟨aq,cq,hq⟩:=hsq
 have HQ:=hide hq
 clear hq
 have HL:Hid (∀ w,Calls Tryd.prog 54 #[.agg #[.int .i64 (tN c:Nat),.int .i64 (fN c:Nat)]] w fun e w'=>(∃ a cp,e=.returned (.slice a (listN c).length cp)∧w'.ownsRow w.heap.size 3 1 (.slice a (listN c).length cp) (listN c).length (i64s (listN c)))∧Below w.heap.size w w'):=fun w=>list_any c hc w
 have HU:Hid (∀ w,Calls Tryd.prog 84 #[.int .i64 3,.agg #[.int .i64 (tN c:Nat),.int .i64 (fN c:Nat)]] w fun e w'=>(∃ a cp,e=.returned (.agg #[.int .i64 3,.int .i64 3,.slice none 0 0,.slice none 0 0,.slice a (listN c).length cp])∧w'.ownsRow w.heap.size 3 1 (.slice a (listN c).length cp) (listN c).length (i64s (listN c)))∧Below w.heap.size w w'):=fun w=>sunk_any 3 c hc w
 have hlen:=listN_len c
 have hsz:=sizeN_le c
 have HZ:Hid (∀ (a:Option Addr) (cp:Nat) (w:World),Calls Tryd.prog 56 #[.agg #[.int .u8 (lt.toNat:Int),.slice a (listN c).length cp]] w fun e w'=>e=.returned (.int .i64 ((sizeN c:Int)+1))∧Below w.heap.size w w'):=fun a cp w=>by
  have:=lineSize_any (.int .u8 (lt.toNat:Int)) a (listN c).length cp (by omega) w
  rwa [hlen] at this ⊢
 have HI:=hide h
 have l1:=hb.l1
 have l2:=hb.l2
 have hls:=hb.ls
 have b1:Below w.heap.size w (w.alloc (.cells #[.int .i64 (tN c:Nat),.int .i64 (fN c:Nat)] 84)):=(Below.refl _ _).alloc (Nat.le_refl _) _
 have r1:Row (w.alloc (.cells #[.int .i64 (tN c:Nat),.int .i64 (fN c:Nat)] 84)) w.heap.size 84 [.int .i64 (tN c:Nat),.int .i64 (fN c:Nat)]:=heap_alloc_new w _
 have B1:=hide b1
 have R1:=hide r1
 have HWR:Hid (wrt lt c s=if s.l<(sizeN c:Int)+1 then .fin s (unk 3 c) else .go { s with l:=s.l - ((sizeN c:Int)+1),ls:=s.ls++[(lt,listN c)] }):=rfl
 unfold setV
 generalize wrt lt c s=RES at *
 generalize tN c=t at *
 generalize fN c=f at *
 clear h hb b1 r1 hlen
 go_enter Tryd.func81,Tryd.ntmps81
 go_wp2_with fail
 refine(unhide HL _).mono ?_
 generalize w.alloc (.cells #[.int .i64 t,.int .i64 f] 84)=w1 at *
 rintro e w2 ⟨⟨a,cp,rfl,ho2⟩,hb2⟩
 have B2:Hid (Below w.heap.size w w2):=B1.out.trans (hb2.mono B1.out.size)
 have R2:=hide (row_below R1.out hb2)
 have O2:=hide (own_low ho2 (Nat.le_trans hB B1.out.size))
 clear hb2 ho2 HL R1 B1
 have hz2:w.heap.size<w2.heap.size:=R2.out.lt
 go_wp2_with fail
 have hbL:Below w2.heap.size w2 (w2.alloc (.cells #[.int .u8 (lt.toNat:Int),.slice a (listN c).length cp] 76)):=(Below.refl _ _).alloc (Nat.le_refl _) _
 have rL:Row (w2.alloc (.cells #[.int .u8 (lt.toNat:Int),.slice a (listN c).length cp] 76)) w2.heap.size 76 [.int .u8 (lt.toNat:Int),.slice a (listN c).length cp]:=heap_alloc_new w2 _
 have BL:Hid (Below w.heap.size w (w2.alloc (.cells #[.int .u8 (lt.toNat:Int),.slice a (listN c).length cp] 76))):=B2.out.trans (hbL.mono B2.out.size)
 have OL:=hide (own_below O2.out hbL)
 have RL:=hide rL
 have R2L:=hide (row_below R2.out hbL)
 clear hbL rL R2 O2 B2
 generalize hgL:w2.heap.size=gL at *
 generalize w2.alloc (.cells #[.int .u8 (lt.toNat:Int),.slice a (listN c).length cp] 76)=wL at *
 clear hgL hz2
 have F:Hid (∀ w',Below wL.heap.size wL w'→Below w.heap.size w w'∧SrI w' B g N E s A anZero∧w'.ownsRow B 3 1 (.slice a (listN c).length cp) (listN c).length (i64s (listN c))∧Row w' gL 76 [.int .u8 (lt.toNat:Int),.slice a (listN c).length cp]∧Row w' w.heap.size 84 [.int .i64 (t:Nat),.int .i64 (f:Nat)]):=fun w' hb'=>by
  have hw':=BL.out.trans (hb'.mono BL.out.size)
  exact⟨hw',HI.out.below hB hw',own_below OL.out hb',row_below RL.out hb',row_below R2L.out hb'⟩
 have C:Hid (∀ w',Below wL.heap.size wL w'→w'.cell? ⟨g,7,none⟩=some (.int .i64 s.l)∧w'.cell? ⟨g,12,none⟩=some (.slice aq s.ls.length cq)∧w'.cell? ⟨gL,0,none⟩=some (.int .u8 (lt.toNat:Int))∧w'.cell? ⟨gL,1,none⟩=some (.slice a (listN c).length cp)∧w'.cell? ⟨w.heap.size,0,none⟩=some (.int .i64 (t:Nat))∧w'.cell? ⟨w.heap.size,1,none⟩=some (.int .i64 (f:Nat))):=fun w' hb'=>by
  obtain⟨_,q2,_,q4,q5⟩:=F.out w' hb'
  exact⟨(q2.m.row.cell 7).trans rfl,(q2.m.row.cell 12).trans (by rw[← HQ.out];rfl),(q4.cell 0).trans rfl,(q4.cell 1).trans rfl,(q5.cell 0).trans rfl,(q5.cell 1).trans rfl⟩
 clear RL R2L OL BL HI
 obtain⟨f1,f2,f3,f4,f5,f6⟩:=C.out wL (Below.refl _ _)
 have Bc:Hid (Below wL.heap.size wL wL.drew):=below_drewN (Below.refl _ _) 1
 go_cut [19] from 8 (fun s19 wc=>s19=.bool (decide (((sizeN c:Int)+1) > s.l))∧Hid (Below wL.heap.size wL wc))
 case first =>
  go_region_with (go_at_call 56;refine(unhide HZ _ _ _).mono ?_;rintro e wa ⟨rfl,hba⟩;have Bc:Hid (Below wL.heap.size wL wa):=Bc.out.trans (hba.mono Bc.out.size);clear hba;obtain⟨f1,f2,f3,f4,f5,f6⟩:=C.out wa Bc.out)
  all_goals
   go_wp2
   go_meet
   case rel=>exact⟨rfl,Bc⟩
 case rest =>
  obtain⟨rfl,Bc⟩:=hcut
  clear f1 f2 f3 f4 f5 f6
  obtain⟨f1,f2,f3,f4,f5,f6⟩:=C.out wc Bc.out
  by_cases hlow:s.l<(sizeN c:Int)+1
  ·have HR:Hid (RES=.fin s (unk 3 c)):=by show _=_;rw[HWR.out,if_pos hlow]
   have hgt:((sizeN c:Int)+1 > s.l):=hlow
   clear HWR hlow HZ
   go_wp2_with fail
   refine(unhide HU _).mono ?_
   rintro e w5 ⟨⟨a5,cp5,rfl,ho5⟩,hb5⟩
   have B5:Hid (Below wL.heap.size wL w5):=Bc.out.trans (hb5.mono Bc.out.size)
   obtain⟨p1,p2,p3,p4,p5⟩:=F.out w5 B5.out
   have P1:=hide p1
   have P2:=hide p2
   have O5:=hide (own_low ho5 (Nat.le_trans hB (Nat.le_trans (F.out wL (Below.refl _ _)).1.size Bc.out.size)))
   have z0:=p2.m.row.frozen 15
   have z1:=p2.m.row.frozen 16
   have z2:=p2.m.row.frozen 17
   have z3:=p2.m.row.frozen 18
   have z4:=p2.m.row.frozen 19
   have y0:w5.cell? ⟨g,15,none⟩=some (.int .i64 0):=(p2.m.row.cell 15).trans rfl
   have y1:w5.cell? ⟨g,16,none⟩=some (.int .i64 0):=(p2.m.row.cell 16).trans rfl
   have y2:w5.cell? ⟨g,17,none⟩=some (.slice none 0 0):=(p2.m.row.cell 17).trans rfl
   have y3:w5.cell? ⟨g,18,none⟩=some (.slice none 0 0):=(p2.m.row.cell 18).trans rfl
   have y4:w5.cell? ⟨g,19,none⟩=some (.slice none 0 0):=(p2.m.row.cell 19).trans rfl
   clear p1 p2 p3 p4 p5 ho5 hb5 F C f1 f2 f3 f4 f5 f6 HU
   go_wp2
   go_ret
   rw[HR.out]
   obtain⟨q1,q2⟩:=P2.out.ans5 (.int .i64 3) (.int .i64 3) (.slice none 0 0) (.slice none 0 0) (.slice a5 (listN c).length cp5)
   have hfr:Fr lwT B w _:=(Fr.of lwT B P1.out).trans q2
   exact⟨hfr.mono wr_sr,SetK.fr _ hfr set_wr,rfl,A,_,rfl,rfl,rfl,Mov.refl _ _,q1,ans_unk (q2.own O5.out int_wr)⟩
  ·have HR:Hid (RES=.go { s with l:=s.l - ((sizeN c:Int)+1),ls:=s.ls++[(lt,listN c)] }):=by show _=_;rw[HWR.out,if_neg hlow]
   have hgt:¬ ((sizeN c:Int)+1 > s.l):=hlow
   have hwr:IntKind.i64.wrap (s.l - ((sizeN c:Int)+1))=s.l - ((sizeN c:Int)+1):=by rw[IntKind.wrap_i64];omega
   have d1:Hid (s.ls.length+1≤maxLen):=by show _≤_;unfold maxLen;omega
   have d2:Hid ((s.ls.length+1)*32≤140737488355328):=by show _≤_;omega
   clear HWR hlow HU
   have Bc2:Hid (Below wL.heap.size wL wc.drew):=below_drewN Bc.out 1
   go_wp2_with fail
   go_cut [] from 8 (fun wx=>Hid (SrI wx B g N E { s with l:=s.l - ((sizeN c:Int)+1) } A anZero)∧Hid (Fr lwT B w wx)∧Hid (wx.ownsRow B 3 1 (.slice a (listN c).length cp) (listN c).length (i64s (listN c)))∧Hid (Row wx gL 76 [.int .u8 (lt.toNat:Int),.slice a (listN c).length cp]))
   case first =>
    go_region_with (go_at_call 56;refine(unhide HZ _ _ _).mono ?_;rintro e wb ⟨rfl,hbb⟩;have Bd:Hid (Below wL.heap.size wL wb):=Bc2.out.trans (hbb.mono Bc2.out.size);clear hbb;obtain⟨e1,e2,e3,e4,e5,e6⟩:=C.out wb Bd.out;have z7:=(F.out wb Bd.out).2.1.m.row.frozen 7)
    all_goals
     obtain⟨p1,p2,p3,p4,_⟩:=F.out wb Bd.out
     have m7:=p2.m.put 7 (.int .i64 (s.l - ((sizeN c:Int)+1))) (s':={ s with l:=s.l - ((sizeN c:Int)+1) }) (A':=A) (an':=anZero) rfl rfl rfl rfl rfl rfl rfl rfl rfl rfl
     have I7:Hid (SrI (wb.setCell ⟨g,7,none⟩ (.int .i64 (s.l - ((sizeN c:Int)+1)))) B g N E { s with l:=s.l - ((sizeN c:Int)+1) } A anZero):=⟨m7,p2.t.set p2.m.row 7 _ me_tree⟩
     have F7:Hid (Fr lwT B w (wb.setCell ⟨g,7,none⟩ (.int .i64 (s.l - ((sizeN c:Int)+1))))):=(Fr.of lwT B p1).set p2.m.row (.inr rfl) p2.m.base 7 _
     have O7:=hide (own_setN p2.m.row 7 (.int .i64 (s.l - ((sizeN c:Int)+1))) (by decide) p3)
     have L7:=hide (row_other p2.m.row p4 (by decide) 7 (.int .i64 (s.l - ((sizeN c:Int)+1))))
     clear p1 p2 p3 p4 m7 C F f1 f2 f3 f4 f5 f6 e1 e2 e3 e4 e5 e6 z7 Bd Bc Bc2
     go_wp2
     go_meet
     case rel=>exact⟨I7,F7,O7,L7⟩
   case rest =>
    obtain⟨I7,F7,O7,L7⟩:=hcut
    clear C F f1 f2 f3 f4 f5 f6 Bc Bc2
    generalize hwS:wc=wS at *
    clear hwS
    obtain⟨us,u1,u2,u3⟩:=I7.out.m.lines
    rw[HQ.out] at u2
    have U:=hide (And.intro u1 (And.intro u2 u3))
    have k12:wS.cell? ⟨g,12,none⟩=some (.slice aq s.ls.length cq):=(I7.out.m.row.cell 12).trans (by rw[← HQ.out];rfl)
    have hgS:g<wS.heap.size:=I7.out.m.row.lt
    have k12a:∀ o,(wS.alloc o).cell? ⟨g,12,none⟩=some (.slice aq s.ls.length cq):=fun o=>(((Below.refl wS.heap.size wS).alloc (Nat.le_refl _) o).cell (p:=⟨g,12,none⟩) hgS).trans k12
    have y0:wS.cell? ⟨gL,0,none⟩=some (.int .u8 (lt.toNat:Int)):=(L7.out.cell 0).trans rfl
    have y1:wS.cell? ⟨gL,1,none⟩=some (.slice a (listN c).length cp):=(L7.out.cell 1).trans rfl
    have hBS:B≤wS.heap.size:=I7.out.size
    clear u1 u2 u3
    go_wp2_with fail
    go_region_law (
     (refine step_append_many _ rfl (.tmp 40) (.tmp 42) 72 rfl B 76 i1 (.agg #[.int .u8 0,.slice none 0 0]) 2 32 Tryd.undLines gi gz0 gz1 gz2 rfl (by decide) (.slice aq s.ls.length cq) s.ls.length (liCells us s.ls) rfl (by exact U.out.2.1.alloc _) ⟨wS.heap.size,0,none⟩ 1 1 [.int .u8 (lt.toNat:Int),.slice a (listN c).length cp] rfl rfl (by exact new_cells1 wS [.int .u8 (lt.toNat:Int),.slice a (listN c).length cp] 76) (by intro u hu;simp at hu;rcases hu with rfl|rfl <;> rfl) (by decide) d1.out d2.out (by simp;omega) (wS.heap.size+1) (by simp) ?_;intro a3 c3 w6 hown3 hg3 hl3;
          have HG3:=hide (grown_undrew hg3);
          have R3:Hid (Row w6 g 93 (srCells E { s with l:=s.l - ((sizeN c:Int)+1) } A anZero)):=row_grownN (row_below I7.out.m.row ((Below.refl _ _).alloc (Nat.le_refl _) _)) (U.out.2.1.alloc _) (by decide) HG3.out;
          have g12:w6.cell? ⟨g,12,none⟩=some (.slice aq s.ls.length cq):=(R3.out.cell 12).trans (by rw[← HQ.out];rfl);
          have g12':=R3.out.frozen 12))
    all_goals
     have U2:=U.out.2.1
     rw[← HQ.out] at U2
     have HG4:=HG3.out
     rw[← HQ.out] at HG4
     have FIN:=hide (I7.out.addLine (us:=us) U.out.1 U2 U.out.2.2 HG4 (v':=.slice a3 (s.ls.length+1) c3) (u:=.slice a (listN c).length cp) (p:=(lt,listN c)) hown3 O7.out)
     clear U2 HG4 hown3 hg3 hl3
     go_wp2
     go_ret
     rw[HR.out]
     have hfr:=F7.out.trans FIN.out.2
     exact⟨hfr.mono wr_sr,SetK.fr _ hfr set_wr,rfl,{ A with vq:=.slice a3 (s.ls.length+1) c3 },rfl,rfl,rfl,Mov.refl _ _,FIN.out.1⟩
theorem Tr.more{w:World}{B cb N N':Nat}{cs:List Nat}(h:Tr w B cb cs N)(hn:N≤N'):Tr w B cb cs N':=by
 obtain⟨na,nc,ns,h1,h2,h3,h4⟩:=h
 exact⟨na,nc,ns,h1,h2,by omega,fun j=>Nat.le_trans (h4 j) hn⟩
theorem ssize_any(c:Nat)(hc:c<2^20)(w:World):Calls Tryd.prog 45 #[.agg #[.int .i64 (tN c:Nat),.int .i64 (fN c:Nat)]] w fun e w'=>e=.returned (.int .i64 (sizeN c:Nat))∧Below w.heap.size w w':=by
 rw[(Two.of hc).size]
 exact lsize_any (tN c) (fN c) (tN_lt c) (fN_lt c) w
theorem SetK.refl(v:Value)(w:World):SetK v w w:=fun _ _ _ _=>rfl
theorem SetK.grown{v:Value}{w w6:World}{o:Obj}(hg:(w.alloc o).grownBy w6 v.ownBlock):SetK v w w6:=fun b hb _ hv=>(hg.block b (by simp;omega) fun q=>hv q.symm).trans (heap_alloc_old w o hb)
theorem SetK.set{v:Value}{w w6:World}(h:SetK v w w6){g t:Nat}{zs:List Value}(hr:Row w g t zs)(ht:t≠84)(i:Nat)(x:Value):SetK v w (w6.setCell ⟨g,i,none⟩ x):=fun b hb hty hv=>by
 refine(Below.heap_setCell w6 ⟨g,i,none⟩ x b fun e=>?_).trans (h b hb hty hv)
 have e':b=g:=e
 subst e'
 obtain⟨cs,t',fr,z1,z2⟩:=hty
 have hr':w.heap[b]?=some (.cells zs.toArray t (0,0)):=hr
 rw[hr'] at z1
 simp only[Option.some.injEq,Obj.cells.injEq] at z1
 exact ht (z1.2.1.trans z2)
def lrT(t:Nat):Prop:=t=84∨t=93
theorem lr_sr(t:Nat)(h:lrT t):srT t:=h.elim (fun e=>by rw[e];exact srT_set) (fun e=>by rw[e];exact srT_me)
theorem SrM.addLearnt{w w6:World}{B g:Nat}{E:Sg}{s:Sr}{A:SrA}(h:SrM w B g E s A anZero){o:Obj}(hg:(w.alloc o).grownBy w6 A.vl.ownBlock){v':Value}{c:Nat}(hown:w6.ownsRow B 84 2 v' (s.lr.length+1) (prCells (prL s.lr)++[.int .i64 (tN c:Nat),.int .i64 (fN c:Nat)])) :
  SrM (w6.setCell ⟨g,8,none⟩ v') B g E { s with lr:=s.lr++[c] } { A with vl:=v' } anZero∧Fr lrT B w (w6.setCell ⟨g,8,none⟩ v'):=by
 have hB:B≤w.heap.size:=Nat.le_of_lt (Nat.lt_of_le_of_lt h.base h.row.lt)
 have hf:Fr (fun t=>t=84) B w w6:=(Fr.of _ B (alloc_below w o)).grown (own_below h.lr (alloc_below w o)) rfl hg
 have r6:=hf.row h.row (by decide)
 have st:∀ {b e k n:Nat} {v:Value} {zs:List Value},w6.ownsRow b e k v n zs→e≠93→(w6.setCell ⟨g,8,none⟩ v').ownsRow b e k v n zs:=fun ho he=>own_setN r6 8 v' he ho
 have hfs:Fr lrT B w (w6.setCell ⟨g,8,none⟩ v'):=(hf.mono fun t e=>.inl e).set r6 (.inr rfl) h.base 8 v'
 obtain⟨us,l1,l2,l3⟩:=h.lines
 refine⟨⟨r6.set 8 v',h.base,h.asm.fr hfs hB h.asb,h.asb,?_,st (hf.own h.path (by decide)) (by decide),st (hf.own h.done (by decide)) (by decide),h.apart,us,l1,st (hf.own l2 (by decide)) (by decide),l3.map fun _ _ _ _ ho=>st (hf.own ho (by decide)) (by decide)⟩,hfs⟩
 show(w6.setCell ⟨g,8,none⟩ v').ownsRow B 84 2 v' (s.lr++[c]).length (prCells (prL (s.lr++[c])))
 rw[prL_snoc,← prCells_snoc,List.length_append,List.length_singleton]
 exact st hown (by decide)
theorem tree_lr(t:Nat)(h:lrT t):¬ treeT t:=h.elim (fun e=>by rw[e];exact not_tree (by decide) (by decide)) (fun e=>by rw[e];exact me_tree)
theorem set_tree0:¬ treeT 84:=not_tree (by decide) (by decide)
theorem tree_lw(t:Nat)(h:lwT t):¬ treeT t:=h.elim (fun e=>by rw[e];exact not_tree (by decide) (by decide)) (fun e=>by rw[e];exact me_tree)
set_option maxHeartbeats 16000000 in
theorem slearn_any(w:World)(B g N:Nat)(E:Sg)(s:Sr)(A:SrA)(c:Nat)(h:SrI w B g N E s A anZero)(hb:SrB s)(hc:c<2^20)(hN:N+10*s.sp≤80000000) :
  Calls Tryd.prog 86 #[.pointer (some ⟨g,0,none⟩),setV c] w (SrPost w B g N E A (lrn c s)):=by
 obtain⟨i1,gi,gz0,gz1,gz2⟩:=info_parts Tryd.infoSet
 have hB:=h.size
 have hsz:=sizeN_le c
 have HSZ:Hid (∀ w,Calls Tryd.prog 45 #[.agg #[.int .i64 (tN c:Nat),.int .i64 (fN c:Nat)]] w fun e w'=>e=.returned (.int .i64 (sizeN c:Nat))∧Below w.heap.size w w'):=fun w=>ssize_any c hc w
 have HU:Hid (∀ w,Calls Tryd.prog 84 #[.int .i64 2,.agg #[.int .i64 (tN c:Nat),.int .i64 (fN c:Nat)]] w fun e w'=>(∃ a cp,e=.returned (.agg #[.int .i64 3,.int .i64 2,.slice none 0 0,.slice none 0 0,.slice a (listN c).length cp])∧w'.ownsRow w.heap.size 3 1 (.slice a (listN c).length cp) (listN c).length (i64s (listN c)))∧Below w.heap.size w w'):=fun w=>sunk_any 2 c hc w
 have HWR:Hid (∀ w',SrI w' B g N E s A anZero→Calls Tryd.prog 81 #[.pointer (some ⟨g,0,none⟩),.int .u8 97,.agg #[.int .i64 (tN c:Nat),.int .i64 (fN c:Nat)]] w' (SrPost w' B g N E A (wrt 97 c s))):=fun w' hi=>swrite_any w' B g N E s A 97 c hi hb hc
 have hbox:A.vl.ownBlock≠some w.heap.size:=fun q=>by have:=(h.m.lr.lt _ q).2;omega
 have h1:=hb.h1
 have h2:=hb.h2
 have hsp:=hb.sp
 have hll:=hb.lr
 have B0:=hide (alloc_below w (.cells #[.int .i64 (tN c:Nat),.int .i64 (fN c:Nat)] 84))
 have I0:=hide (h.below hB B0.out)
 have R0:Hid (Row (w.alloc (.cells #[.int .i64 (tN c:Nat),.int .i64 (fN c:Nat)] 84)) w.heap.size 84 [.int .i64 (tN c:Nat),.int .i64 (fN c:Nat)]):=heap_alloc_new w _
 have HBOX:=hide hbox
 have HRES:Hid (lrn c s=if s.h<(sizeN c:Int) then .fin s (unk 2 c) else match wrt 97 c s with | .fin s x=>.fin s x | .go s=>.go { s with h:=s.h - (sizeN c:Int),sp:=s.sp+1,lr:=s.lr++[c] }):=rfl
 generalize lrn c s=RES at *
 unfold setV
 clear h hb hbox
 go_enter Tryd.func86,Tryd.ntmps86
 go_wp2_with fail
 generalize w.alloc (.cells #[.int .i64 (tN c:Nat),.int .i64 (fN c:Nat)] 84)=w0 at *
 have C:Hid (∀ w',Below w0.heap.size w0 w'→w'.cell? ⟨g,6,none⟩=some (.int .i64 s.h)∧w'.cell? ⟨w.heap.size,0,none⟩=some (.int .i64 (tN c:Nat))∧w'.cell? ⟨w.heap.size,1,none⟩=some (.int .i64 (fN c:Nat))):=fun w' hb'=>⟨((row_below I0.out.m.row hb').cell 6).trans rfl,((row_below R0.out hb').cell 0).trans rfl,((row_below R0.out hb').cell 1).trans rfl⟩
 obtain⟨f1,f2,f3⟩:=C.out w0 (Below.refl _ _)
 have BD:Hid (Below w0.heap.size w0 w0.drew):=below_drewN (Below.refl _ _) 1
 go_cut [12] from 5 (fun s12 wc=>s12=.bool (decide ((sizeN c:Int) > s.h))∧Hid (Below w0.heap.size w0 wc))
 case first =>
  go_region_with (go_at_call 45;refine(unhide HSZ _).mono ?_;rintro e wa ⟨rfl,hba⟩;have BD:Hid (Below w0.heap.size w0 wa):=BD.out.trans (hba.mono BD.out.size);clear hba;obtain⟨f1,f2,f3⟩:=C.out wa BD.out)
  all_goals
   go_wp2
   go_meet
   case rel=>exact⟨rfl,BD⟩
 case rest =>
  obtain⟨rfl,BC⟩:=hcut
  clear BD f1 f2 f3
  have I1:=hide (I0.out.below I0.out.size BC.out)
  have R1:=hide (row_below R0.out BC.out)
  have B1:Hid (Below w.heap.size w wc):=B0.out.trans (BC.out.mono B0.out.size)
  obtain⟨f1,f2,f3⟩:=C.out wc BC.out
  clear I0 R0 B0 BC C
  by_cases hlow:s.h<(sizeN c:Int)
  ·have HR:Hid (RES=.fin s (unk 2 c)):=by show _=_;rw[HRES.out,if_pos hlow]
   have hgt:((sizeN c:Int) > s.h):=hlow
   clear HRES hlow HWR HSZ
   go_wp2_with fail
   refine(unhide HU _).mono ?_
   rintro e w5 ⟨⟨a5,cp5,rfl,ho5⟩,hb5⟩
   have P2:=hide (I1.out.below I1.out.size hb5)
   have P1:Hid (Below w.heap.size w w5):=B1.out.trans (hb5.mono B1.out.size)
   have O5:=hide (own_low ho5 I1.out.size)
   have z0:=P2.out.m.row.frozen 15
   have z1:=P2.out.m.row.frozen 16
   have z2:=P2.out.m.row.frozen 17
   have z3:=P2.out.m.row.frozen 18
   have z4:=P2.out.m.row.frozen 19
   have y0:w5.cell? ⟨g,15,none⟩=some (.int .i64 0):=(P2.out.m.row.cell 15).trans rfl
   have y1:w5.cell? ⟨g,16,none⟩=some (.int .i64 0):=(P2.out.m.row.cell 16).trans rfl
   have y2:w5.cell? ⟨g,17,none⟩=some (.slice none 0 0):=(P2.out.m.row.cell 17).trans rfl
   have y3:w5.cell? ⟨g,18,none⟩=some (.slice none 0 0):=(P2.out.m.row.cell 18).trans rfl
   have y4:w5.cell? ⟨g,19,none⟩=some (.slice none 0 0):=(P2.out.m.row.cell 19).trans rfl
   clear ho5 hb5 HU f1 f2 f3
   go_wp2
   go_ret
   rw[HR.out]
   obtain⟨q1,q2⟩:=P2.out.ans5 (.int .i64 3) (.int .i64 2) (.slice none 0 0) (.slice none 0 0) (.slice a5 (listN c).length cp5)
   have hfr:Fr lwT B w _:=(Fr.of lwT B P1.out).trans q2
   exact⟨hfr.mono wr_sr,SetK.fr _ hfr set_wr,rfl,A,_,rfl,rfl,rfl,Mov.refl _ _,q1,ans_unk (q2.own O5.out int_wr)⟩
  ·have hgt:¬ ((sizeN c:Int) > s.h):=hlow
   have HR:Hid (RES=match wrt 97 c s with | .fin s x=>.fin s x | .go s=>.go { s with h:=s.h - (sizeN c:Int),sp:=s.sp+1,lr:=s.lr++[c] }):=by show _=_;rw[HRES.out,if_neg hlow]
   clear HRES HU
   have HWD:Hid ((∃ s1 x,wrt 97 c s=.fin s1 x)∨∃ l1 ls1,wrt 97 c s=.go { s with l:=l1,ls:=ls1 }):=by
    unfold wrt
    split
    ·exact .inl ⟨_,_,rfl⟩
    ·exact .inr ⟨_,_,rfl⟩
   go_wp2_with fail
   refine(unhide HWR _ I1.out).mono ?_
   intro e w2 hp
   rcases HWD.out with⟨s1,x,hw⟩ | ⟨l1,ls1,hw⟩
   ·rw[hw] at hp
    obtain⟨p1,p2,rfl,A1,an1,q1,q2,q3,q4,q5,q6⟩:=hp
    have P:=hide (And.intro p1 (And.intro p2 (And.intro q4 (And.intro q5 q6))))
    have HQ:=hide (And.intro q1 (And.intro q2 q3))
    have HR2:Hid (RES=.fin s1 x):=by show _=_;rw[HR.out,hw]
    clear p1 p2 q1 q2 q3 q4 q5 q6 hw HR HWD HWR
    go_wp2
    go_ret
    rw[HR2.out]
    exact⟨(Fr.of srT B B1.out).trans P.out.1,(SetK.fr A.vl (Fr.of (fun _=>False) B B1.out) id).trans (Mov.refl _ _) B1.out.size P.out.2.1,rfl,A1,an1,HQ.out.1,HQ.out.2.1,HQ.out.2.2,fun b hb=>(P.out.2.2.1 b hb).imp id fun q=>Nat.le_trans B1.out.size q,P.out.2.2.2.1,P.out.2.2.2.2⟩
   ·rw[hw] at hp
    obtain⟨p1,p2,rfl,A1,q1,q2,q3,q4,q5⟩:=hp
    have HR2:Hid (RES=.go { lr:=s.lr++[c],h:=s.h - (sizeN c:Int),l:=l1,sp:=s.sp+1,path:=s.path,done:=s.done,ls:=ls1,vals:=s.vals }):=by show _=_;rw[HR.out,hw]
    have I2:=hide q5
    have HQ:=hide (And.intro q1 (And.intro q2 q3))
    have F2:=hide ((Fr.of srT B B1.out).trans p1)
    have K2:=hide ((SetK.fr A.vl (Fr.of (fun _=>False) B B1.out) id).trans (Mov.refl _ _) B1.out.size p2)
    have M2:Hid (Mov A.vl A1.vl w):=fun b hb=>(q4 b hb).imp id fun q=>Nat.le_trans B1.out.size q
    have R2:=hide (p2.row R1.out HBOX.out)
    have hbx1:A1.vl.ownBlock≠some w.heap.size:=fun q=>(q4 _ q).elim HBOX.out (fun z=>by have:=R1.out.lt;omega)
    have HBX1:=hide hbx1
    clear p1 p2 q1 q2 q3 q4 q5 hw HR HWD HWR I1 R1 f1 f2 f3 hbx1
    have HSH:Hid (∃ al cl,A1.vl=.slice al s.lr.length cl):=own_shape I2.out.m.lr
    obtain⟨al,cl,evl⟩:=HSH.out
    have EVL:=hide evl
    clear evl HSH
    have C:Hid (∀ w',Below w2.heap.size w2 w'→w'.cell? ⟨g,6,none⟩=some (.int .i64 s.h)∧w'.cell? ⟨w.heap.size,0,none⟩=some (.int .i64 (tN c:Nat))∧w'.cell? ⟨w.heap.size,1,none⟩=some (.int .i64 (fN c:Nat))):=fun w' hb'=>⟨((row_below I2.out.m.row hb').cell 6).trans rfl,((row_below R2.out hb').cell 0).trans rfl,((row_below R2.out hb').cell 1).trans rfl⟩
    obtain⟨f1,f2,f3⟩:=C.out w2 (Below.refl _ _)
    have BD:Hid (Below w2.heap.size w2 w2.drew):=below_drewN (Below.refl _ _) 1
    have hwr:IntKind.i64.wrap (s.h - (sizeN c:Int))=s.h - (sizeN c:Int):=by rw[IntKind.wrap_i64];omega
    go_wp2_with fail
    go_cut [] from 5 (fun wx=>Hid (SrI wx B g N E { lr:=s.lr,h:=s.h - (sizeN c:Int),l:=l1,sp:=s.sp,path:=s.path,done:=s.done,ls:=ls1,vals:=s.vals } A1 anZero)∧Hid (Fr lwT B w2 wx))
    case first =>
     go_region_with (go_at_call 45;refine(unhide HSZ _).mono ?_;rintro e wb ⟨rfl,hbb⟩;have Bd:Hid (Below w2.heap.size w2 wb):=BD.out.trans (hbb.mono BD.out.size);clear hbb;obtain⟨f1,f2,f3⟩:=C.out wb Bd.out;have z6:=(row_below I2.out.m.row Bd.out).frozen 6)
     all_goals
      have p2:=I2.out.below I2.out.size Bd.out
      have m6:=p2.m.put 6 (.int .i64 (s.h - (sizeN c:Int))) (s':={ lr:=s.lr,h:=s.h - (sizeN c:Int),l:=l1,sp:=s.sp,path:=s.path,done:=s.done,ls:=ls1,vals:=s.vals }) (A':=A1) (an':=anZero) rfl rfl rfl rfl rfl rfl rfl rfl rfl rfl
      have I7:Hid (SrI (wb.setCell ⟨g,6,none⟩ (.int .i64 (s.h - (sizeN c:Int)))) B g N E { lr:=s.lr,h:=s.h - (sizeN c:Int),l:=l1,sp:=s.sp,path:=s.path,done:=s.done,ls:=ls1,vals:=s.vals } A1 anZero):=⟨m6,p2.t.set p2.m.row 6 _ me_tree⟩
      have F7:Hid (Fr lwT B w2 (wb.setCell ⟨g,6,none⟩ (.int .i64 (s.h - (sizeN c:Int))))):=(Fr.of lwT B Bd.out).set p2.m.row (.inr rfl) p2.m.base 6 _
      clear p2 m6
      go_wp2
      go_meet
      case rel=>exact⟨I7,F7⟩
    case rest =>
     obtain⟨I3,F3⟩:=hcut
     generalize hwx:wc=w3 at *
     clear hwx BD C f1 f2 f3 HSZ
     have R3:=hide (F3.out.row R2.out set_wr)
     have c9:w3.cell? ⟨g,9,none⟩=some (.int .i64 (s.sp:Nat)):=(I3.out.m.row.cell 9).trans rfl
     have z9:=I3.out.m.row.frozen 9
     have m9:=I3.out.m.put 9 (.int .i64 ((s.sp:Int)+1)) (s':={ lr:=s.lr,h:=s.h - (sizeN c:Int),l:=l1,sp:=s.sp+1,path:=s.path,done:=s.done,ls:=ls1,vals:=s.vals }) (A':=A1) (an':=anZero) rfl rfl rfl rfl rfl rfl rfl rfl rfl rfl
     have I4:Hid (SrM (w3.setCell ⟨g,9,none⟩ (.int .i64 ((s.sp:Int)+1))) B g E { lr:=s.lr,h:=s.h - (sizeN c:Int),l:=l1,sp:=s.sp+1,path:=s.path,done:=s.done,ls:=ls1,vals:=s.vals } A1 anZero∧Tr (w3.setCell ⟨g,9,none⟩ (.int .i64 ((s.sp:Int)+1))) B A1.cb (E.hv++s.lr) (N+10*s.sp)):=⟨m9,I3.out.t.set I3.out.m.row 9 _ me_tree⟩
     have F4:Hid (Fr lwT B w2 (w3.setCell ⟨g,9,none⟩ (.int .i64 ((s.sp:Int)+1)))):=F3.out.set I3.out.m.row (.inr rfl) I3.out.m.base 9 _
     have R4:=hide (row_other I3.out.m.row R3.out (by decide) 9 (.int .i64 ((s.sp:Int)+1)))
     clear m9 R3 F3 I3
     go_wp2_with fail
     generalize w3.setCell ⟨g,9,none⟩ (.int .i64 ((s.sp:Int)+1))=w4 at *
     clear c9 z9
     have hB4:B≤w4.heap.size:=Nat.le_of_lt (Nat.lt_of_le_of_lt I4.out.1.base I4.out.1.row.lt)
     have c8:w4.cell? ⟨g,8,none⟩=some (.slice al s.lr.length cl):=(I4.out.1.row.cell 8).trans (by rw[← EVL.out];rfl)
     have hg4:g<w4.heap.size:=I4.out.1.row.lt
     have c8a:∀ o,(w4.alloc o).cell? ⟨g,8,none⟩=some (.slice al s.lr.length cl):=fun o=>((alloc_below w4 o).cell (p:=⟨g,8,none⟩) hg4).trans c8
     have y0:w4.cell? ⟨w.heap.size,0,none⟩=some (.int .i64 (tN c:Nat)):=(R4.out.cell 0).trans rfl
     have y1:w4.cell? ⟨w.heap.size,1,none⟩=some (.int .i64 (fN c:Nat)):=(R4.out.cell 1).trans rfl
     have d1:Hid (s.lr.length+1≤maxLen):=by show _≤_;unfold maxLen;omega
     have d2:Hid ((s.lr.length+1)*16≤140737488355328):=by show _≤_;omega
     have OL:Hid (w4.ownsRow B 84 2 (.slice al s.lr.length cl) s.lr.length (prCells (prL s.lr))):=by
      have:=I4.out.1.lr
      rw[EVL.out] at this
      exact this
     go_cut [] from 5 (fun wx=>∃ v',Hid (SrM wx B g E { lr:=s.lr++[c],h:=s.h - (sizeN c:Int),l:=l1,sp:=s.sp+1,path:=s.path,done:=s.done,ls:=ls1,vals:=s.vals } { A1 with vl:=v' } anZero)∧Hid (Tr wx B A1.cb (E.hv++s.lr) (N+10*s.sp))∧Hid (Fr lrT B w4 wx)∧Hid (SetK A1.vl w4 wx)∧Hid (Mov A1.vl v' w4))
     case first =>
      go_region_law (
       (refine step_append_many _ rfl (.tmp 44) (.tmp 46) 65 rfl B 84 i1 (.agg #[.int .i64 0,.int .i64 0]) 2 16 Tryd.undSets gi gz0 gz1 gz2 rfl (by decide) (.slice al s.lr.length cl) s.lr.length (prCells (prL s.lr)) rfl (by exact OL.out.alloc _) ⟨w4.heap.size,0,none⟩ 1 1 [.int .i64 (tN c:Nat),.int .i64 (fN c:Nat)] rfl rfl (by exact new_cells1 w4 [.int .i64 (tN c:Nat),.int .i64 (fN c:Nat)] 84) (by intro u hu;simp at hu;rcases hu with rfl|rfl <;> rfl) (by decide) d1.out d2.out (by simp;omega) (w4.heap.size+1) (by simp) ?_;intro a3 c3 w6 hown3 hg3 hl3;
            have HG3:=hide (grown_undrew hg3);
            have RR:Hid (Row w6 g 93 (srCells E { lr:=s.lr,h:=s.h - (sizeN c:Int),l:=l1,sp:=s.sp+1,path:=s.path,done:=s.done,ls:=ls1,vals:=s.vals } A1 anZero)):=row_grownN (row_below I4.out.1.row ((Below.refl _ _).alloc (Nat.le_refl _) _)) (OL.out.alloc _) (by decide) HG3.out;
            have g8:w6.cell? ⟨g,8,none⟩=some (.slice al s.lr.length cl):=(RR.out.cell 8).trans (by rw[← EVL.out];rfl);
            have g8':=RR.out.frozen 8))
      all_goals
       have HG4:=HG3.out
       rw[← EVL.out] at HG4
       have FIN:=hide (I4.out.1.addLearnt HG4 (v':=.slice a3 (s.lr.length+1) c3) (c:=c) hown3)
       have KK:Hid (SetK A1.vl w4 (w6.setCell ⟨g,8,none⟩ (.slice a3 (s.lr.length+1) c3))):=(SetK.grown HG4).set I4.out.1.row (by decide) 8 _
       have MM:Hid (Mov A1.vl (.slice a3 (s.lr.length+1) c3) w4):=fun b hb=>by
        rw[EVL.out]
        rcases lies_own (N:=s.lr.length+1) hl3 with q | q
        ·rw[← q];exact .inl hb
        ·rw[q,Option.some.injEq] at hb;right;omega
       have TT:Hid (Tr (w6.setCell ⟨g,8,none⟩ (.slice a3 (s.lr.length+1) c3)) B A1.cb (E.hv++s.lr) (N+10*s.sp)):=I4.out.2.fr FIN.out.2 tree_lr
       clear HG4 hown3 hg3 hl3
       go_wp2
       go_meet
       case rel=>exact⟨_,FIN.out.1,TT,FIN.out.2,KK,MM⟩
     case rest =>
      obtain⟨v',M5,T5,F5,K5,MV5⟩:=hcut
      generalize hwx:wc=w5 at *
      clear hwx
      have R5:=hide (K5.out.row R4.out HBX1.out)
      have hB5:B≤w5.heap.size:=Nat.le_of_lt (Nat.lt_of_le_of_lt M5.out.base M5.out.row.lt)
      have e0:w5.cell? ⟨g,0,none⟩=some (.pointer (some ⟨A1.cb,0,none⟩)):=(M5.out.row.cell 0).trans rfl
      have e1:w5.cell? ⟨w.heap.size,0,none⟩=some (.int .i64 (tN c:Nat)):=(R5.out.cell 0).trans rfl
      have e2:w5.cell? ⟨w.heap.size,1,none⟩=some (.int .i64 (fN c:Nat)):=(R5.out.cell 1).trans rfl
      have BD:Hid (Below w5.heap.size w5 w5.drew):=below_drewN (Below.refl _ _) 1
      have HAD:=hide (add_tr (T5.out.below BD.out) c hc (Nat.le_trans hB5 BD.out.size) hN)
      unfold setV at HAD
      clear c8 c8a y0 y1
      go_wp2_with fail
      go_region_with (go_at_call 50;refine(unhide HAD).mono ?_;rintro e w7 ⟨rfl,ht7,hf7⟩)
      all_goals
       have P7:=hide (And.intro ht7 hf7)
       clear ht7 hf7
       go_wp2
       go_ret
       rw[HR2.out]
       have hf57:Fr treeT B w5 w7:=(Fr.of treeT B BD.out).trans P7.out.2
       have m7:=M5.out.tree hB5 hf57
       have t7:Tr w7 B A1.cb (E.hv++(s.lr++[c])) (N+10*(s.sp+1)):=by
        have:=P7.out.1
        rw[List.append_assoc] at this
        exact this.more (by omega)
       have k24:SetK A1.vl w2 w4:=SetK.fr _ F4.out set_wr
       have kall:SetK A.vl w w7:=((K2.out.trans M2.out F2.out.size k24).trans M2.out (Nat.le_trans F2.out.size F4.out.size) K5.out).trans (M2.out.trans MV5.out (Nat.le_trans F2.out.size F4.out.size)) (Nat.le_trans (Nat.le_trans F2.out.size F4.out.size) F5.out.size) (SetK.fr v' hf57 set_tree0)
       exact⟨((F2.out.trans (F4.out.mono wr_sr)).trans (F5.out.mono lr_sr)).trans (hf57.mono fun t q=>srT_tree q),kall,rfl,{ A1 with vl:=v' },HQ.out.1,HQ.out.2.1,HQ.out.2.2,M2.out.trans MV5.out (Nat.le_trans F2.out.size F4.out.size),⟨m7,t7⟩⟩
end Go.Proofs.YthboeppmlhbofabDoor
