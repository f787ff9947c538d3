import Derived.Test.YthboeppmlhbofabDoorLbj
namespace Go.Proofs.YthboeppmlhbofabDoor
open Go.RowKit Txt
set_option maxRecDepth 100000
structure SlvR(w:World)(g:Nat)(s1:Sst)(F:Nat→Prop)(ta la pa:Option Addr)(tc lc pc:Nat)(x:Ans)(ls:List Lin)(p:A3)(aq:Option Addr)(cq:Nat)(us:List Value)(g12:Nat)(w7:World):Prop where
 m:SlM w7 g s1 ta la pa tc lc pc
 ch:Chn F w w7
 r6:Row w7 w.heap.size 31 [.int .i64 0,.int .i64 0,.slice none 0 0,.slice none 0 0,.slice none 0 0]
 r12:Row w7 g12 31 (x.cells p)
 ne:w.heap.size<g12
 an:AnsOwn w7 w.heap.size x p
 ul:us.length=ls.length
 li:w7.ownsRow 0 76 2 (.slice aq ls.length cq) ls.length (liCells us ls)
 al:AllOwn w7 0 3 us (ls.map fun p=>p.2)
theorem AllOwn.low{w:World}{b B e:Nat}(hb:B≤b):∀ {vs:List Value} {cs:List (List Int)},AllOwn w b e vs cs→AllOwn w B e vs cs:=by
 intro vs
 induction vs with
 | nil=>intro cs h;cases cs <;> exact h
 | cons u vs ih =>
  intro cs h
  cases cs with
  | nil=>exact h
  | cons c cs=>exact⟨own_low h.1 hb,ih h.2⟩
theorem tab_chn{F:Nat→Prop}{w w':World}(h:Tab w)(hc:Chn F w w')(h0:¬ F 0)(hz:0<w.heap.size):Tab w' :=
 Tab.below (B:=1) h ⟨hc.os,hc.tape,hc.output,hc.size,fun k hk=>by
  obtain rfl:k=0:=by omega
  exact hc.block 0 hz h0⟩ (by decide)
def SlvK(w7:World)(g:Nat)(s1:Sst)(F:Nat→Prop)(ta la pa:Option Addr)(tc lc pc:Nat)(ls:List Lin)(k:Nat)(wr:World):Prop:=∃ (la':Option Addr) (lc':Nat) (pa':Option Addr) (pc':Nat),SlM wr g ((ls.take k).foldl Sst.keep s1) ta la' pa' tc lc' pc'∧Chn F w7 wr ∧
 Mov (.slice la s1.lr.length lc) (.slice la' ((ls.take k).foldl Sst.keep s1).lr.length lc') w7∧Mov (.slice pa s1.pf.length pc) (.slice pa' ((ls.take k).foldl Sst.keep s1).pf.length pc') w7
theorem keep_hv:∀ (ls:List Lin) (s:Sst),(ls.foldl Sst.keep s).hv=s.hv:=by
 intro ls
 induction ls with
 | nil=>intro s;rfl
 | cons p ls ih=>intro s;exact ih (s.keep p)
theorem SlvR.keeps{w:World}{g:Nat}{s1:Sst}{F:Nat→Prop}{ta la pa:Option Addr}{tc lc pc:Nat}{x:Ans}{ls:List Lin}{p:A3}{aq:Option Addr}{cq:Nat}{us:List Value}{g12:Nat}{w7:World}(h:SlvR w g s1 F ta la pa tc lc pc x ls p aq cq us g12 w7)(hF:∀ b,F b↔SlF g (.slice ta (tkOf s1.hv).length tc) (.slice la s1.lr.length lc) (.slice pa s1.pf.length pc) b){wr:World}(hc:Chn F w7 wr) :
  Row wr w.heap.size 31 [.int .i64 0,.int .i64 0,.slice none 0 0,.slice none 0 0,.slice none 0 0]∧Row wr g12 31 (x.cells p)∧AnsOwn wr w.heap.size x p∧wr.ownsRow 0 76 2 (.slice aq ls.length cq) ls.length (liCells us ls)∧AllOwn wr 0 3 us (ls.map fun p=>p.2):=by
 have o:∀ {B e k n:Nat} {v:Value} {zs:List Value},w7.ownsRow B e k v n zs→e≠68→e≠84→e≠5→wr.ownsRow B e k v n zs:=fun ho h1 h2 h3=>own_chn ho hc fun b hb q=>h.m.out ho h1 h2 h3 b hb ((hF b).1 q)
 have r:∀ {b:Nat} {zs:List Value},Row w7 b 31 zs→Row wr b 31 zs:=fun hr=>(hc.block _ hr.lt fun q=>h.m.outRow hr (by decide) (by decide) (by decide) ((hF _).1 q)).trans hr
 exact⟨r h.r6,r h.r12,⟨o h.an.vs (by decide) (by decide) (by decide),o h.an.co (by decide) (by decide) (by decide),o h.an.cl (by decide) (by decide) (by decide),h.an.p12,h.an.p13,h.an.p23⟩,o h.li (by decide) (by decide) (by decide),h.al.map fun _ _ _ _ hq=>o hq (by decide) (by decide) (by decide)⟩
theorem lin_mem{ls:List Lin}{k:Nat}(h:k<ls.length):ls.getD k (0,[])∈ls:=by
 rw[List.getD_eq_getElem?_getD,List.getElem?_eq_getElem h]
 exact List.getElem_mem h
theorem slvK_step{w:World}{g:Nat}{s:Sst}{F:Nat→Prop}{xs:List Int}{b:Int}{R:Rs}{ta la pa:Option Addr}{tc lc pc:Nat}{x:Ans}{ls:List Lin}{p:A3}{aq:Option Addr}{cq:Nat}{us:List Value}{g12:Nat}{w7:World}(h:SlvR w g (s.saw xs) F ta la pa tc lc pc x ls p aq cq us g12 w7)(hF:∀ b,F b↔SlF g (.slice ta (tkOf s.hv).length tc) (.slice la s.lr.length lc) (.slice pa s.pf.length pc) b)
  (D:SlvD s xs b R ls x) (ok:s.Ok) (hF0:¬ F 0) (h0:0<w7.heap.size) (htab:Tab w7) {k:Nat} (hk:k<ls.length) {wr wA:World} (hs:SlvK w7 g (s.saw xs) F ta la pa tc lc pc ls k wr) (hb:Below wr.heap.size wr wA) :
  Calls Tryd.prog 36 #[.pointer (some ⟨g,0,none⟩),.agg #[.int .u8 ((ls.getD k (0,[])).1.toNat:Int),us.getD k undef]] wA fun e w'=>e=.returned (.tuple #[])∧SlvK w7 g (s.saw xs) F ta la pa tc lc pc ls (k+1) w':=by
 obtain⟨la',lc',pa',pc',m,hc,ml,mp⟩:=hs
 have ca:=hc.below hb
 have hz:w7.heap.size≤wA.heap.size:=ca.size
 obtain⟨p1,p2,p3,p4,p5⟩:=D.part ok (Nat.le_of_lt hk) rfl
 obtain⟨d1,d2,d3⟩:=D.each _ (lin_mem hk)
 obtain⟨_,_,_,_,hal⟩:=h.keeps hF ca
 have et:(ls.take (k+1)).foldl Sst.keep (s.saw xs)=((ls.take k).foldl Sst.keep (s.saw xs)).keep (ls.getD k (0,[])):=by
  rw[List.take_succ_eq_append_getElem hk,List.foldl_append,List.getD_eq_getElem?_getD,List.getElem?_eq_getElem hk]
  rfl
 have hi:wA.ownsRow 0 3 1 (us.getD k undef) (ls.getD k (0,[])).2.length (i64s (ls.getD k (0,[])).2):=by
  have hkm:k<(ls.map fun p=>p.2).length:=by simpa using hk
  have:=AllOwn.get2 hal hkm
  have e:(ls.map fun p=>p.2).getD k []=(ls.getD k (0,[])).2:=by
   rw[List.getD_eq_getElem?_getD,List.getD_eq_getElem?_getD,List.getElem?_map,List.getElem?_eq_getElem hk]
   rfl
  rw[e] at this
  exact this
 have hh:((ls.take k).foldl Sst.keep (s.saw xs)).hv=s.hv:=keep_hv _ _
 refine(keepM_any (m.below hb) (by omega) (fun q=>?_) (tab_chn htab ca hF0 h0) p1 p2 p3 p4 p5 _ d1 _ 0 _ hi d2 d3).mono ?_
 ·rcases mp 0 q with z | z
  ·exact hF0 ((hF 0).2 (.inr (.inr (.inr z))))
  ·omega
 rintro e w' ⟨rfl,la2,lc2,pa2,pc2,m2,c2,ml2,mp2⟩
 refine⟨rfl,la2,lc2,pa2,pc2,?_,⟨c2.os.trans ca.os,c2.tape.trans ca.tape,c2.output.trans ca.output,Nat.le_trans ca.size c2.size,fun j hj hn=>(c2.block j (by omega) fun q=>hn ?_).trans (ca.block j hj hn)⟩,?_,?_⟩
 ·rw[et];exact m2
 ·rcases q with q | q | q | q
  ·exact(hF j).2 (.inl q)
  ·rw[hh] at q;exact(hF j).2 (.inr (.inl q))
  ·rcases ml j q with z | z
   ·exact(hF j).2 (.inr (.inr (.inl z)))
   ·omega
  ·rcases mp j q with z | z
   ·exact(hF j).2 (.inr (.inr (.inr z)))
   ·omega
 ·rw[et];exact ml.trans ml2 hz
 ·rw[et];exact mp.trans mp2 hz
theorem slvK_end{w:World}{g:Nat}{s:Sst}{F:Nat→Prop}{xs:List Int}{ta la pa:Option Addr}{tc lc pc:Nat}{x:Ans}{ls:List Lin}{p:A3}{aq:Option Addr}{cq:Nat}{us:List Value}{g12:Nat}{w7:World}(h:SlvR w g (s.saw xs) F ta la pa tc lc pc x ls p aq cq us g12 w7)(hF:∀ b,F b↔SlF g (.slice ta (tkOf s.hv).length tc) (.slice la s.lr.length lc) (.slice pa s.pf.length pc) b)
  {wr:World} (hs:SlvK w7 g (s.saw xs) F ta la pa tc lc pc ls ls.length wr) :
  Row (((((wr.setCell ⟨w.heap.size,0,none⟩ (.int .i64 x.st)).setCell ⟨w.heap.size,1,none⟩ (.int .i64 x.re)).setCell ⟨w.heap.size,2,none⟩ (.slice p.a1 x.vs.length p.c1)).setCell ⟨w.heap.size,3,none⟩ (.slice p.a2 x.co.length p.c2)).setCell ⟨w.heap.size,4,none⟩ (.slice p.a3 x.cl.length p.c3)) w.heap.size 31 [.int .i64 x.st,.int .i64 x.re,.slice p.a1 x.vs.length p.c1,.slice p.a2 x.co.length p.c2,.slice p.a3 x.cl.length p.c3] ∧
  SvPost2 w g F 0 (ls.foldl Sst.keep (s.saw xs)) x (.returned (.tuple #[.agg #[.int .i64 x.st,.int .i64 x.re,.slice p.a1 x.vs.length p.c1,.slice p.a2 x.co.length p.c2,.slice p.a3 x.cl.length p.c3],.int .i64 0])) (((((wr.setCell ⟨w.heap.size,0,none⟩ (.int .i64 x.st)).setCell ⟨w.heap.size,1,none⟩ (.int .i64 x.re)).setCell ⟨w.heap.size,2,none⟩ (.slice p.a1 x.vs.length p.c1)).setCell ⟨w.heap.size,3,none⟩ (.slice p.a2 x.co.length p.c2)).setCell ⟨w.heap.size,4,none⟩ (.slice p.a3 x.cl.length p.c3)):=by
 obtain⟨la',lc',pa',pc',m,hc,ml,mp⟩:=hs
 rw[List.take_length] at m ml mp
 obtain⟨r6,_,an,_,_⟩:=h.keeps hF hc
 have hz7:w.heap.size≤w7.heap.size:=h.ch.size
 have hT:Fr (fun t=>t=31) 0 wr (((((wr.setCell ⟨w.heap.size,0,none⟩ (.int .i64 x.st)).setCell ⟨w.heap.size,1,none⟩ (.int .i64 x.re)).setCell ⟨w.heap.size,2,none⟩ (.slice p.a1 x.vs.length p.c1)).setCell ⟨w.heap.size,3,none⟩ (.slice p.a2 x.co.length p.c2)).setCell ⟨w.heap.size,4,none⟩ (.slice p.a3 x.cl.length p.c3)):=(((((Fr.refl (fun t=>t=31) 0 wr).set r6 rfl (Nat.zero_le _) 0 _).set (r6.set 0 _) rfl (Nat.zero_le _) 1 _).set ((r6.set 0 _).set 1 _) rfl (Nat.zero_le _) 2 _).set (((r6.set 0 _).set 1 _).set 2 _) rfl (Nat.zero_le _) 3 _).set ((((r6.set 0 _).set 1 _).set 2 _).set 3 _) rfl (Nat.zero_le _) 4 _
 have c9:Chn F w (((((wr.setCell ⟨w.heap.size,0,none⟩ (.int .i64 x.st)).setCell ⟨w.heap.size,1,none⟩ (.int .i64 x.re)).setCell ⟨w.heap.size,2,none⟩ (.slice p.a1 x.vs.length p.c1)).setCell ⟨w.heap.size,3,none⟩ (.slice p.a2 x.co.length p.c2)).setCell ⟨w.heap.size,4,none⟩ (.slice p.a3 x.cl.length p.c3)):=(((((h.ch.trans hc).set w.heap.size 0 _ (.inr (Nat.le_refl _))).set w.heap.size 1 _ (.inr (Nat.le_refl _))).set w.heap.size 2 _ (.inr (Nat.le_refl _))).set w.heap.size 3 _ (.inr (Nat.le_refl _))).set w.heap.size 4 _ (.inr (Nat.le_refl _))
 refine⟨((((r6.set 0 _).set 1 _).set 2 _).set 3 _).set 4 _,p,rfl,an.fr hT (by decide),fun q=>absurd rfl q,?_⟩
 have m9:SlM _ g (ls.foldl Sst.keep (s.saw xs)) ta la' pa' tc lc' pc':=⟨hT.row m.row (by decide),hT.own m.ot (by decide),hT.own m.ol (by decide),hT.own m.op (by decide),m.ap⟩
 refine⟨SlF g (.slice ta (tkOf (ls.foldl Sst.keep (s.saw xs)).hv).length tc) (.slice la' (ls.foldl Sst.keep (s.saw xs)).lr.length lc') (.slice pa' (ls.foldl Sst.keep (s.saw xs)).pf.length pc'),⟨ta,la',pa',tc,lc',pc',m9,fun b=>Iff.rfl⟩,c9,fun b hb=>?_,fun k hk q=>?_⟩
 ·rcases hb with q | q | q | q
  ·exact .inl ((hF b).2 (.inl q))
  ·rw[keep_hv] at q;exact .inl ((hF b).2 (.inr (.inl q)))
  ·exact(ml b q).imp (fun z=>(hF b).2 (.inr (.inr (.inl z)))) (fun z=>Nat.le_trans hz7 z)
  ·exact(mp b q).imp (fun z=>(hF b).2 (.inr (.inr (.inr z)))) (fun z=>Nat.le_trans hz7 z)
 ·rcases hk with z | z | z
  ·exact m.out an.vs (by decide) (by decide) (by decide) k (blk_same.trans z) q
  ·exact m.out an.co (by decide) (by decide) (by decide) k (blk_same.trans z) q
  ·exact m.out an.cl (by decide) (by decide) (by decide) k (blk_same.trans z) q
set_option maxHeartbeats 16000000 in
theorem solveK_any{w:World}{g:Nat}{s:Sst}{F:Nat→Prop}(a:Option Addr)(c:Nat)(xs:List Int)(b:Int)(h:SlAt w g s F)(ok:s.Ok)(htab:Tab w)(h0:0<w.heap.size)(hF0:¬ F 0)(hi:IntsAt w a xs)(hd:∀ ad,a=some ad→¬ F ad.block∧ad.block<w.heap.size)(hn:s.hv.length≤1000000)(ha:askedD xs b=0) :
  Calls Tryd.prog 13 #[.pointer (some ⟨g,0,none⟩),.slice a xs.length c,.int .i64 b] w (SvPost2 w g F 0 (s.slv xs b) (s.ans xs b)):=by
 obtain⟨R,ls,x,D⟩:=ok.solve ha
 rw[D.slv,D.ans]
 obtain⟨hx,hlit,hb⟩:=asked_parts ha
 obtain⟨ta,la,pa,tc,lc,pc,m,hF⟩:=h
 have hsn1:(s.saw xs).sn<2^11:=Nat.or_lt_two_pow ok.sn (vN_lt _)
 obtain⟨_,sh0,sh1,sl0,sl1⟩:=set_parts ok.set
 have htl:=ok.tks.1
 have hll:=ok.lrs
 have hk0:=tk_len s.hv
 have hlog:=ok.vw.log
 have hem0:emOf (s.saw xs).hv≤1000000:=by show emOf s.hv≤1000000;omega
 have hb0:=alloc_below w (.cells #[.int .i64 0,.int .i64 0,.slice none 0 0,.slice none 0 0,.slice none 0 0] 31)
 have r0:Row (w.alloc (.cells #[.int .i64 0,.int .i64 0,.slice none 0 0,.slice none 0 0,.slice none 0 0] 31)) w.heap.size 31 [.int .i64 0,.int .i64 0,.slice none 0 0,.slice none 0 0,.slice none 0 0]:=heap_alloc_new w _
 have HRF:=hide (refusal_any a c xs b _ (hi.below hb0) (by omega))
 rw[ha] at HRF
 have B0:=hide hb0
 have R0:=hide r0
 have OK:=hide ok
 have M:=hide m
 have HF:=hide hF
 have HI:=hide hi
 have HD:=hide hd
 have TB:=hide htab
 have DD:=hide D
 have HA:=hide ha
 have hgl:g<w.heap.size:=m.row.lt
 have hgF:F g:=(hF g).2 (.inl rfl)
 have hls:ls.length≤1048576:=by
  have:=(keeps_grow ls (s.saw xs)).1
  have:=D.log
  omega
 clear hi hb0 r0 ok m hF hd htab D ha hlit
 go_enter Tryd.func13,Tryd.ntmps13
 go_wp2_with fail
 refine(unhide HRF).mono ?_
 generalize w.alloc (.cells #[.int .i64 0,.int .i64 0,.slice none 0 0,.slice none 0 0,.slice none 0 0] 31)=w0 at *
 rintro e w1 ⟨rfl,hb1⟩
 have B1:Hid (Below w.heap.size w w1):=B0.out.trans (hb1.mono B0.out.size)
 have R1:=hide (row_below R0.out hb1)
 have M1:=hide (M.out.below B1.out)
 have HSE:=hide (see_any g _ _ _ _ _ _ _ _ _ _ a c xs w1 M1.out.row (HI.out.below B1.out) (by omega) OK.out.sn)
 clear hb1 HRF B0 R0
 go_wp2_with fail
 refine(unhide HSE).mono ?_
 rintro e w2 ⟨rfl,hr2,hg2⟩
 have M2:=hide (M1.out.saw xs hr2 hg2)
 have hgz:w.heap.size≠g:=by omega
 have hz1:w.heap.size<w1.heap.size:=R1.out.lt
 have hz2:w1.heap.size≤w2.heap.size:=hg2.size
 have R2:Hid (Row w2 w.heap.size 31 [.int .i64 0,.int .i64 0,.slice none 0 0,.slice none 0 0,.slice none 0 0]):=(hg2.block _ hz1 (fun q=>hgz (by simpa using q))).trans R1.out
 have C2:Hid (Chn F w w2):=(Chn.of B1.out).grown hg2 fun q e=>.inl (by simp only[Option.some.injEq] at e;rw[← e];exact hgF)
 have I2:Hid (IntsAt w2 a xs):=by
  rcases HI.out with e | ⟨q,off,e,hc⟩
  ·exact .inl e
  ·refine .inr ⟨q,off,e,fun j hj=>?_⟩
   obtain⟨d1,d2⟩:=HD.out _ e
   exact(World.cell?_of_block (C2.out.block q d2 d1)).trans (hc j hj)
 have HST:=hide (standingG_any g _ _ _ _ _ _ _ _ ta la tc lc (tkOf s.hv) s.lr w2 0 0 M2.out.row M2.out.ot M2.out.ol (fun c hc=>OK.out.hvt c (tk_mem hc).1) (fun c hc=>(OK.out.lt c hc).1) (by show emOf s.hv≤2000000;omega) (by omega) hll.1)
 clear hr2 hg2 HSE R1 M1 B1
 go_wp2_with fail
 refine(unhide HST).mono ?_
 rintro e w3 ⟨cb,rfl,ht3,hb3⟩
 have T3:=hide ht3
 have B3:=hide hb3
 have M3:=hide (M2.out.below hb3)
 have c3:w3.cell? ⟨g,3,none⟩=some (.slice ta (tkOf s.hv).length tc):=(M3.out.row.cell 3).trans rfl
 have c5:w3.cell? ⟨g,5,none⟩=some (.int .i64 ((s.saw xs).sn:Nat)):=(M3.out.row.cell 5).trans rfl
 have HCO:Hid (∀ w',Below w3.heap.size w3 w'→Calls Tryd.prog 33 #[.slice ta (tkOf s.hv).length tc,.int .i64 ((s.saw xs).sn:Nat)] w' fun e w''=>(∃ a' c',e=.returned (.slice a' (compsN (tkOf s.hv) (s.saw xs).sn).length c')∧w''.ownsRow w'.heap.size 3 1 (.slice a' (compsN (tkOf s.hv) (s.saw xs).sn).length c') (compsN (tkOf s.hv) (s.saw xs).sn).length (i64s (natI (compsN (tkOf s.hv) (s.saw xs).sn))))∧Below w'.heap.size w' w''):=fun w' hb=>compsOf_any ta tc (tkOf s.hv) (s.saw xs).sn w' (setsAt_prL (own_below M3.out.ot hb)) (by omega) hsn1
 have hwl:=comps_len (tkOf s.hv) (s.saw xs).sn
 have HX:Hid ((s.cx xs b).ws=compsN (tkOf s.hv) (s.saw xs).sn):=rfl
 have BD:Hid (Below w3.heap.size w3 w3.drew):=below_drewN (Below.refl _ _) 1
 generalize compsN (tkOf s.hv) (s.saw xs).sn=WS at *
 have hwl1:WS.length≤1000:=by omega
 clear ht3 hb3 HST
 go_wp2_with fail
 go_cut [10] from 16 (fun s10 wx=>∃ (a6:Option Addr) (c6:Nat),s10=.slice a6 WS.length c6∧Hid (wx.ownsRow 0 3 1 (.slice a6 WS.length c6) WS.length (i64s (natI WS)))∧Hid (Below w3.heap.size w3 wx))
 case first =>
  go_region_with (go_at_call 33;refine(unhide HCO _ BD.out).mono ?_;rintro e w4 ⟨⟨a6,c6,rfl,ho4⟩,hb4⟩;have O4:=hide (own_low ho4 (Nat.zero_le _));have B4:Hid (Below w3.heap.size w3 w4):=BD.out.trans (hb4.mono BD.out.size);clear ho4 hb4)
  all_goals
   go_wp2
   go_meet
   case rel=>exact⟨a6,c6,rfl,O4,B4⟩
 case rest =>
  obtain⟨a6,c6,rfl,O4,B4⟩:=hcut
  generalize hwc:wc=w4 at *
  clear hwc c3 c5 HCO BD
  have hz3:w2.heap.size≤w3.heap.size:=B3.out.size
  have hz4:w3.heap.size≤w4.heap.size:=B4.out.size
  have B24:Hid (Below w2.heap.size w2 w4):=B3.out.trans (B4.out.mono hz3)
  have T4:=hide (T3.out.below B4.out)
  have M4:=hide (M2.out.below B24.out)
  have HRM:=hide (room_any g s.r s.h s.l (.slice ta (tkOf s.hv).length tc) (.slice pa s.pf.length pc) (emOf s.hv) (s.saw xs).sn s.log s.un la lc (prL s.lr) b w4 (by rw[prL_len];exact M4.out.row) (setsAt_prL M4.out.ol) (by rw[prL_len];exact hll.1) (prL_bd _) ⟨sh0,sh1⟩ ⟨sl0,sl1⟩ hlog)
  rw[hll.2] at HRM
  clear T3 M3 B3 B4
  go_wp2_with fail
  refine(unhide HRM).mono ?_
  rintro e w5 ⟨rfl,hb5⟩
  have hbA:=alloc_below w5 (.cells #[.int .i64 b,.int .i64 s.r,.int .i64 (s.h - (litsN s.lr:Int)),.int .i64 (s.l - (s.log:Int))] 70)
  have r6:Row (w5.alloc (.cells #[.int .i64 b,.int .i64 s.r,.int .i64 (s.h - (litsN s.lr:Int)),.int .i64 (s.l - (s.log:Int))] 70)) w5.heap.size 70 [.int .i64 b,.int .i64 s.r,.int .i64 (s.h - (litsN s.lr:Int)),.int .i64 (s.l - (s.log:Int))]:=heap_alloc_new w5 _
  have R6:=hide r6
  have hz5:w4.heap.size≤w5.heap.size:=hb5.size
  have hb46:Below w4.heap.size w4 (w5.alloc (.cells #[.int .i64 b,.int .i64 s.r,.int .i64 (s.h - (litsN s.lr:Int)),.int .i64 (s.l - (s.log:Int))] 70)):=hb5.trans (hbA.mono hz5)
  have T6:=hide (T4.out.below hb46)
  have O6:=hide (own_below O4.out hb46)
  have B26:Hid (Below w2.heap.size w2 (w5.alloc (.cells #[.int .i64 b,.int .i64 s.r,.int .i64 (s.h - (litsN s.lr:Int)),.int .i64 (s.l - (s.log:Int))] 70))):=B24.out.trans (hb46.mono B24.out.size)
  clear hb5 hbA r6 hb46 T4 O4 B24 HRM M4
  go_wp2_with fail
  generalize w5.alloc (.cells #[.int .i64 b,.int .i64 s.r,.int .i64 (s.h - (litsN s.lr:Int)),.int .i64 (s.l - (s.log:Int))] 70)=w6 at *
  have q0:w6.cell? ⟨w5.heap.size,0,none⟩=some (.int .i64 b):=(R6.out.cell 0).trans rfl
  have q1:w6.cell? ⟨w5.heap.size,1,none⟩=some (.int .i64 s.r):=(R6.out.cell 1).trans rfl
  have q2:w6.cell? ⟨w5.heap.size,2,none⟩=some (.int .i64 (s.h - (litsN s.lr:Int))):=(R6.out.cell 2).trans rfl
  have q3:w6.cell? ⟨w5.heap.size,3,none⟩=some (.int .i64 (s.l - (s.log:Int))):=(R6.out.cell 3).trans rfl
  have M6:=hide (M2.out.below B26.out)
  have q6:w6.cell? ⟨g,6,none⟩=some (.slice la s.lr.length lc):=(M6.out.row.cell 6).trans rfl
  have hg6:g<w6.heap.size:=M6.out.row.lt
  have hr6:w5.heap.size<w6.heap.size:=R6.out.lt
  have qa0:∀ o,(w6.alloc o).cell? ⟨w5.heap.size,0,none⟩=some (.int .i64 b):=fun o=>((alloc_below w6 o).cell (p:=⟨w5.heap.size,0,none⟩) hr6).trans q0
  have qa1:∀ o,(w6.alloc o).cell? ⟨w5.heap.size,1,none⟩=some (.int .i64 s.r):=fun o=>((alloc_below w6 o).cell (p:=⟨w5.heap.size,1,none⟩) hr6).trans q1
  have qa2:∀ o,(w6.alloc o).cell? ⟨w5.heap.size,2,none⟩=some (.int .i64 (s.h - (litsN s.lr:Int))):=fun o=>((alloc_below w6 o).cell (p:=⟨w5.heap.size,2,none⟩) hr6).trans q2
  have qa3:∀ o,(w6.alloc o).cell? ⟨w5.heap.size,3,none⟩=some (.int .i64 (s.l - (s.log:Int))):=fun o=>((alloc_below w6 o).cell (p:=⟨w5.heap.size,3,none⟩) hr6).trans q3
  have qa6:∀ o,(w6.alloc o).cell? ⟨g,6,none⟩=some (.slice la s.lr.length lc):=fun o=>((alloc_below w6 o).cell (p:=⟨g,6,none⟩) hg6).trans q6
  have HRUN:Hid (∀ w',Below w6.heap.size w6 w'→Calls Tryd.prog 35 #[.pointer (some ⟨cb,0,none⟩),.slice la s.lr.length lc,.slice a6 WS.length c6,.slice a xs.length c,.agg #[.int .i64 b,.int .i64 s.r,.int .i64 (s.h - (litsN s.lr:Int)),.int .i64 (s.l - (s.log:Int))]] w' fun e w''=>Fr srT w2.heap.size w' w''∧∃ (p:A3) (aq:Option Addr) (cq:Nat) (us:List Value),e=.returned (.tuple #[.agg #[.int .i64 x.st,.int .i64 x.re,.slice p.a1 x.vs.length p.c1,.slice p.a2 x.co.length p.c2,.slice p.a3 x.cl.length p.c3],.slice aq ls.length cq])∧AnsOwn w'' w2.heap.size x p∧us.length=ls.length∧w''.ownsRow w2.heap.size 76 2 (.slice aq ls.length cq) ls.length (liCells us ls)∧AllOwn w'' w2.heap.size 3 us (ls.map fun p=>p.2)):=fun w' hb=>by
   have b2:Below w2.heap.size w2 w':=B26.out.trans (hb.mono B26.out.size)
   have hz:w2.heap.size≤w'.heap.size:=b2.size
   have ht:=(T6.out.below hb).perm ((tk_perm s.hv).append_right s.lr)
   have key:=run_any (s.cx xs b) (OK.out.cx HA.out) sh1 sl1 (by show xs.length≤1000;omega) (by rw[HX.out];exact hwl1) w' w2.heap.size cb _ hz (by omega) s.lr (s.h - (litsN s.lr:Int)) (s.l - (s.log:Int)) (by omega) (OK.out.btw HA.out) R DD.out.go a c (I2.out.below b2) (fun ad e=>by have:=(HD.out ad e).2;omega) 0 la lc (own_below M6.out.ol hb) a6 c6 0 (by rw[HX.out];exact own_below O6.out hb) ht
   rw[HX.out] at key
   refine key.mono ?_
   rintro e w'' ⟨hf,p,vq,us,he,k1,k2,k3,k4⟩
   rw[DD.out.an] at he k1
   rw[DD.out.li] at k2 k3 k4
   obtain⟨aq,cq,rfl⟩:=own_shape k3
   exact⟨hf,p,aq,cq,us,he,k1,k2,k3,k4⟩
  have RA:Hid (Row (w6.alloc (.cells #[.int .i64 0,.int .i64 0,.slice none 0 0,.slice none 0 0,.slice none 0 0] 31)).drew w6.heap.size 31 [.int .i64 0,.int .i64 0,.slice none 0 0,.slice none 0 0,.slice none 0 0]):=heap_alloc_new w6 _
  have BD:Hid (Below w6.heap.size w6 (w6.alloc (.cells #[.int .i64 0,.int .i64 0,.slice none 0 0,.slice none 0 0,.slice none 0 0] 31)).drew):=below_drewN (alloc_below w6 _) 1
  have HSL:Hid (∀ (p:A3) (aq:Option Addr) (cq:Nat) (us:List Value) (w7:World),Fr srT w2.heap.size (w6.alloc (.cells #[.int .i64 0,.int .i64 0,.slice none 0 0,.slice none 0 0,.slice none 0 0] 31)).drew w7→AnsOwn w7 w2.heap.size x p→us.length=ls.length→w7.ownsRow w2.heap.size 76 2 (.slice aq ls.length cq) ls.length (liCells us ls)→AllOwn w7 w2.heap.size 3 us (ls.map fun p=>p.2)→Row w7 w6.heap.size 31 [.int .i64 0,.int .i64 0,.slice none 0 0,.slice none 0 0,.slice none 0 0]∧SlvR w g (s.saw xs) F ta la pa tc lc pc x ls p aq cq us w6.heap.size (((((w7.setCell ⟨w6.heap.size,0,none⟩ (.int .i64 x.st)).setCell ⟨w6.heap.size,1,none⟩ (.int .i64 x.re)).setCell ⟨w6.heap.size,2,none⟩ (.slice p.a1 x.vs.length p.c1)).setCell ⟨w6.heap.size,3,none⟩ (.slice p.a2 x.co.length p.c2)).setCell ⟨w6.heap.size,4,none⟩ (.slice p.a3 x.cl.length p.c3))):=fun p aq cq us w7 hf k1 k2 k3 k4=>by
   have r7:=hf.row RA.out ans_sr
   have hz6:w2.heap.size≤w6.heap.size:=B26.out.size
   have bA:Below w2.heap.size w2 (w6.alloc (.cells #[.int .i64 0,.int .i64 0,.slice none 0 0,.slice none 0 0,.slice none 0 0] 31)).drew:=B26.out.trans (BD.out.mono hz6)
   have b7:Below w2.heap.size w2 w7:=bA.trans (hf.belowB bA.size)
   have b8:Below w2.heap.size w2 (((((w7.setCell ⟨w6.heap.size,0,none⟩ (.int .i64 x.st)).setCell ⟨w6.heap.size,1,none⟩ (.int .i64 x.re)).setCell ⟨w6.heap.size,2,none⟩ (.slice p.a1 x.vs.length p.c1)).setCell ⟨w6.heap.size,3,none⟩ (.slice p.a2 x.co.length p.c2)).setCell ⟨w6.heap.size,4,none⟩ (.slice p.a3 x.cl.length p.c3)):=((((b7.setCell (p:=⟨w6.heap.size,0,none⟩) hz6 _).setCell (p:=⟨w6.heap.size,1,none⟩) hz6 _).setCell (p:=⟨w6.heap.size,2,none⟩) hz6 _).setCell (p:=⟨w6.heap.size,3,none⟩) hz6 _).setCell (p:=⟨w6.heap.size,4,none⟩) hz6 _
   have hT:Fr (fun t=>t=31) 0 w7 (((((w7.setCell ⟨w6.heap.size,0,none⟩ (.int .i64 x.st)).setCell ⟨w6.heap.size,1,none⟩ (.int .i64 x.re)).setCell ⟨w6.heap.size,2,none⟩ (.slice p.a1 x.vs.length p.c1)).setCell ⟨w6.heap.size,3,none⟩ (.slice p.a2 x.co.length p.c2)).setCell ⟨w6.heap.size,4,none⟩ (.slice p.a3 x.cl.length p.c3)):=(((((Fr.refl (fun t=>t=31) 0 w7).set r7 rfl (Nat.zero_le _) 0 _).set (r7.set 0 _) rfl (Nat.zero_le _) 1 _).set ((r7.set 0 _).set 1 _) rfl (Nat.zero_le _) 2 _).set (((r7.set 0 _).set 1 _).set 2 _) rfl (Nat.zero_le _) 3 _).set ((((r7.set 0 _).set 1 _).set 2 _).set 3 _) rfl (Nat.zero_le _) 4 _
   have k1':=k1.fr hT (by decide)
   exact⟨r7,M2.out.below b8,C2.out.below b8,row_below R2.out b8,((((r7.set 0 _).set 1 _).set 2 _).set 3 _).set 4 _,by omega,⟨own_low k1'.vs (by omega),own_low k1'.co (by omega),own_low k1'.cl (by omega),k1'.p12,k1'.p13,k1'.p23⟩,k2,own_low (hT.own k3 (by decide)) (Nat.zero_le _),AllOwn.low (Nat.zero_le _) (hT.allOwn k4 (by decide))⟩
  have BD2:Hid (Below w6.heap.size w6 w6.drew):=below_drewN (Below.refl _ _) 1
  have HSB:Hid (∀ (p:A3) (aq:Option Addr) (cq:Nat) (us:List Value) (w7 w8:World),Fr srT w2.heap.size w6.drew w7→AnsOwn w7 w2.heap.size x p→us.length=ls.length→w7.ownsRow w2.heap.size 76 2 (.slice aq ls.length cq) ls.length (liCells us ls)→AllOwn w7 w2.heap.size 3 us (ls.map fun p=>p.2)→Below w7.heap.size w7 w8→Row w8 w7.heap.size 31 (x.cells p)→SlvR w g (s.saw xs) F ta la pa tc lc pc x ls p aq cq us w7.heap.size w8):=fun p aq cq us w7 w8 hf k1 k2 k3 k4 hb hr=>by
   have bA:Below w2.heap.size w2 w6.drew:=B26.out.trans (BD2.out.mono B26.out.size)
   have b7:Below w2.heap.size w2 w7:=bA.trans (hf.belowB bA.size)
   have b8:Below w2.heap.size w2 w8:=b7.trans (hb.mono b7.size)
   have hz7:=b7.size
   exact⟨M2.out.below b8,C2.out.below b8,row_below R2.out b8,hr,by omega,⟨own_low (own_below k1.vs hb) (by omega),own_low (own_below k1.co hb) (by omega),own_low (own_below k1.cl hb) (by omega),k1.p12,k1.p13,k1.p23⟩,k2,own_low (own_below k3 hb) (Nat.zero_le _),AllOwn.low (Nat.zero_le _) (k4.map fun _ _ _ _ hq=>own_below hq hb)⟩
  clear M6 T6 O6 R6 I2 HX
  go_cut [12,13] from 16 (fun s12 s13 wx=>∃ (p:A3) (aq:Option Addr) (cq:Nat) (us:List Value) (g12:Nat),s12=.pointer (some ⟨g12,0,none⟩)∧s13=.slice aq ls.length cq∧Hid (SlvR w g (s.saw xs) F ta la pa tc lc pc x ls p aq cq us g12 wx))
  case first =>
   go_region_with (first
    | (go_at_call 35;refine(unhide HRUN _ BD.out).mono ?_;rintro e w7 ⟨hf7,p,aq,cq,us,rfl,k1,k2,k3,k4⟩;obtain⟨r7,s7⟩:=HSL.out p aq cq us w7 hf7 k1 k2 k3 k4;have K7:=hide s7;have y0:w7.cell? ⟨w6.heap.size,0,none⟩=some (.int .i64 0):=(r7.cell 0).trans rfl;have y1:w7.cell? ⟨w6.heap.size,1,none⟩=some (.int .i64 0):=(r7.cell 1).trans rfl;have y2:w7.cell? ⟨w6.heap.size,2,none⟩=some (.slice none 0 0):=(r7.cell 2).trans rfl;have y3:w7.cell? ⟨w6.heap.size,3,none⟩=some (.slice none 0 0):=(r7.cell 3).trans rfl;have y4:w7.cell? ⟨w6.heap.size,4,none⟩=some (.slice none 0 0):=(r7.cell 4).trans rfl;have z0:=r7.frozen 0;have z1:=r7.frozen 1;have z2:=r7.frozen 2;have z3:=r7.frozen 3;have z4:=r7.frozen 4;clear r7 s7 hf7 k1 k2 k3 k4)
    | (go_at_call 35;refine(unhide HRUN _ BD2.out).mono ?_;rintro e w7 ⟨hf7,p,aq,cq,us,rfl,k1,k2,k3,k4⟩;have K7:Hid (∀ w8,Below w7.heap.size w7 w8→Row w8 w7.heap.size 31 (x.cells p)→SlvR w g (s.saw xs) F ta la pa tc lc pc x ls p aq cq us w7.heap.size w8):=(fun w8 hb hr=>HSB.out p aq cq us w7 w8 hf7 k1 k2 k3 k4 hb hr);have r7:Row (w7.alloc (.cells #[.int .i64 0,.int .i64 0,.slice none 0 0,.slice none 0 0,.slice none 0 0] 31)) w7.heap.size 31 [.int .i64 0,.int .i64 0,.slice none 0 0,.slice none 0 0,.slice none 0 0]:=heap_alloc_new w7 _;have y0:(w7.alloc (.cells #[.int .i64 0,.int .i64 0,.slice none 0 0,.slice none 0 0,.slice none 0 0] 31)).cell? ⟨w7.heap.size,0,none⟩=some (.int .i64 0):=(r7.cell 0).trans rfl;have y1:(w7.alloc (.cells #[.int .i64 0,.int .i64 0,.slice none 0 0,.slice none 0 0,.slice none 0 0] 31)).cell? ⟨w7.heap.size,1,none⟩=some (.int .i64 0):=(r7.cell 1).trans rfl;have y2:(w7.alloc (.cells #[.int .i64 0,.int .i64 0,.slice none 0 0,.slice none 0 0,.slice none 0 0] 31)).cell? ⟨w7.heap.size,2,none⟩=some (.slice none 0 0):=(r7.cell 2).trans rfl;have y3:(w7.alloc (.cells #[.int .i64 0,.int .i64 0,.slice none 0 0,.slice none 0 0,.slice none 0 0] 31)).cell? ⟨w7.heap.size,3,none⟩=some (.slice none 0 0):=(r7.cell 3).trans rfl;have y4:(w7.alloc (.cells #[.int .i64 0,.int .i64 0,.slice none 0 0,.slice none 0 0,.slice none 0 0] 31)).cell? ⟨w7.heap.size,4,none⟩=some (.slice none 0 0):=(r7.cell 4).trans rfl;have z0:=r7.frozen 0;have z1:=r7.frozen 1;have z2:=r7.frozen 2;have z3:=r7.frozen 3;have z4:=r7.frozen 4;have R7:=hide r7;clear r7 hf7 k1 k2 k3 k4))
   all_goals
    go_wp2
    go_meet
    case rel=>first | exact⟨p,aq,cq,us,w6.heap.size,rfl,rfl,K7⟩ | exact⟨p,aq,cq,us,w7.heap.size,rfl,rfl,K7.out _ (alloc_below w7 _) (heap_alloc_new w7 _)⟩ | exact⟨p,aq,cq,us,w7.heap.size,rfl,rfl,K7.out _ (((((alloc_below w7 _).setCell (p:=⟨w7.heap.size,0,none⟩) (Nat.le_refl _) _).setCell (p:=⟨w7.heap.size,1,none⟩) (Nat.le_refl _) _).setCell (p:=⟨w7.heap.size,2,none⟩) (Nat.le_refl _) _).setCell (p:=⟨w7.heap.size,3,none⟩) (Nat.le_refl _) _ |>.setCell (p:=⟨w7.heap.size,4,none⟩) (Nat.le_refl _) _) (((((R7.out.set 0 _).set 1 _).set 2 _).set 3 _).set 4 _)⟩
  case rest =>
   obtain⟨p,aq,cq,us,g12,rfl,rfl,SR⟩:=hcut
   generalize hwc:wc=w7 at *
   clear hwc q0 q1 q2 q3 q6 qa0 qa1 qa2 qa3 qa6 HRUN HSL BD RA BD2 HSB
   have hz7:w.heap.size≤w7.heap.size:=SR.out.ch.size
   have hp7:0<w7.heap.size:=by omega
   have TB7:Hid (Tab w7):=tab_chn TB.out SR.out.ch hF0 h0
   have HKP:Hid (∀ wr wA k,k<ls.length→SlvK w7 g (s.saw xs) F ta la pa tc lc pc ls k wr→Below wr.heap.size wr wA→Calls Tryd.prog 36 #[.pointer (some ⟨g,0,none⟩),.agg #[.int .u8 ((ls.getD k (0,[])).1.toNat:Int),us.getD k undef]] wA fun e w'=>e=.returned (.tuple #[])∧SlvK w7 g (s.saw xs) F ta la pa tc lc pc ls (k+1) w'):=fun wr wA k hk hs hb=>slvK_step SR.out HF.out DD.out OK.out hF0 hp7 TB7.out hk hs hb
   have HLI:Hid (∀ wr k,k<ls.length→SlvK w7 g (s.saw xs) F ta la pa tc lc pc ls k wr→∃ gq off,aq=some ⟨gq,off,none⟩∧wr.cell? ⟨gq,off+k*2,none⟩=some (.int .u8 ((ls.getD k (0,[])).1.toNat:Int))∧wr.cell? ⟨gq,off+k*2+1,none⟩=some (us.getD k undef)):=fun wr k hk hs=>by
    obtain⟨_,_,_,_,_,hc,_,_⟩:=hs
    obtain⟨_,_,_,hl,_⟩:=SR.out.keeps HF.out hc
    exact li_cells hl SR.out.ul rfl hk
   have HU:Hid (∀ k,k<ls.length→∃ au cu,us.getD k undef=.slice au (ls.getD k (0,[])).2.length cu):=fun k hk=>by
    have hkm:k<(ls.map fun p=>p.2).length:=by simpa using hk
    have:=AllOwn.get2 SR.out.al hkm
    have e:(ls.map fun p=>p.2).getD k []=(ls.getD k (0,[])).2:=by
     rw[List.getD_eq_getElem?_getD,List.getD_eq_getElem?_getD,List.getElem?_map,List.getElem?_eq_getElem hk]
     rfl
    rw[e] at this
    exact own_shape this
   have S7:Hid (SlvK w7 g (s.saw xs) F ta la pa tc lc pc ls 0 w7):=⟨la,lc,pa,pc,SR.out.m,Chn.of (Below.refl _ _),Mov.refl _ _,Mov.refl _ _⟩
   go_wp2_with fail
   go_loopw [54] (fun i wr=>∃ (k:Nat),k≤ls.length∧i=.int .i64 k∧Hid (SlvK w7 g (s.saw xs) F ta la pa tc lc pc ls k wr)) (fun i _=>ls.length - (intOf i).toNat)
   case atStart=>exact⟨0,Nat.zero_le _,rfl,S7⟩
   case round =>
    clear S7
    obtain⟨k,hk,rfl,SK⟩:=hrel
    by_cases hlt:k<ls.length
    ·obtain⟨gq,off,rfl,k0,k1⟩:=HLI.out wr k hlt SK.out
     obtain⟨au,cu,eu⟩:=HU.out k hlt
     have HK:=hide (fun wA=>HKP.out wr wA k hlt SK.out)
     have i1:(0:Int)≤(k:Int):=by omega
     have i2:(k:Int)<(ls.length:Int):=by omega
     rw[eu] at k1 HK
     generalize ls.getD k (0,[])=li at *
     generalize li.2.length=ln at *
     generalize hlt':li.1=lt at *
     clear hlt' eu HLI HU
     go_wp2_with fail
     refine(unhide HK _ (alloc_below wr _)).mono ?_
     rintro e w9 ⟨rfl,hs9⟩
     have S9:=hide hs9
     clear hs9 k0 k1 HK
     go_wp2
     go_roundw
     case rel=>exact⟨k+1,by omega,by go_num,S9⟩
     case measure=>simp[intOf];omega
    ·obtain rfl:k=ls.length:=by omega
     have E:=hide (slvK_end SR.out HF.out SK.out)
     obtain⟨_,_,_,_,_,hc,_,_⟩:=SK.out
     obtain⟨r6,r12,_,_,_⟩:=SR.out.keeps HF.out hc
     have f0:wr.cell? ⟨w.heap.size,0,none⟩=some (.int .i64 0):=(r6.cell 0).trans rfl
     have f1:wr.cell? ⟨w.heap.size,1,none⟩=some (.int .i64 0):=(r6.cell 1).trans rfl
     have f2:wr.cell? ⟨w.heap.size,2,none⟩=some (.slice none 0 0):=(r6.cell 2).trans rfl
     have f3:wr.cell? ⟨w.heap.size,3,none⟩=some (.slice none 0 0):=(r6.cell 3).trans rfl
     have f4:wr.cell? ⟨w.heap.size,4,none⟩=some (.slice none 0 0):=(r6.cell 4).trans rfl
     have z0:=r6.frozen 0
     have z1:=r6.frozen 1
     have z2:=r6.frozen 2
     have z3:=r6.frozen 3
     have z4:=r6.frozen 4
     have k0:wr.cell? ⟨g12,0,none⟩=some (.int .i64 x.st):=(r12.cell 0).trans rfl
     have k1:wr.cell? ⟨g12,1,none⟩=some (.int .i64 x.re):=(r12.cell 1).trans rfl
     have k2:wr.cell? ⟨g12,2,none⟩=some (.slice p.a1 x.vs.length p.c1):=(r12.cell 2).trans rfl
     have k3:wr.cell? ⟨g12,3,none⟩=some (.slice p.a2 x.co.length p.c2):=(r12.cell 3).trans rfl
     have k4:wr.cell? ⟨g12,4,none⟩=some (.slice p.a3 x.cl.length p.c3):=(r12.cell 4).trans rfl
     clear r6 r12 hc HKP HLI HU SK
     go_wp2
     exact bodyPost_ret (solve_ret E.out.1 rfl rfl) rfl E.out.2
theorem solveS_any{w:World}{g:Nat}{s:Sst}{F:Nat→Prop}(a:Option Addr)(c:Nat)(xs:List Int)(b:Int)(h:SlAt w g s F)(ok:s.Ok)(htab:Tab w)(h0:0<w.heap.size)(hF0:¬ F 0)(hi:IntsAt w a xs)(hd:∀ ad,a=some ad→¬ F ad.block∧ad.block<w.heap.size)(hx:xs.length≤100000)(hn:s.hv.length≤1000000) :
  Calls Tryd.prog 13 #[.pointer (some ⟨g,0,none⟩),.slice a xs.length c,.int .i64 b] w (SvPost2 w g F (askedD xs b) (s.slv xs b) (s.ans xs b)):=by
 by_cases ha:askedD xs b=0
 ·rw[ha]
  exact solveK_any a c xs b h ok htab h0 hF0 hi hd hn ha
 ·have e1:s.slv xs b=s:=by unfold Sst.slv;rw[if_neg ha]
  have e2:s.ans xs b=ansNone:=by unfold Sst.ans;rw[if_neg ha]
  rw[e1,e2]
  refine(solveN_any a c xs b hi (by omega) ha).mono ?_
  rintro e w' ⟨rfl,hb⟩
  refine⟨a3None,rfl,⟨own_nil _ _ _ _,own_nil _ _ _ _,own_nil _ _ _ _,apart_none _,apart_none _,apart_none _⟩,fun _=>rfl,F,h.below hb,Chn.of hb,fun _ q=>.inl q,fun k hk=>?_⟩
  simp[A3.At,a3None,Value.ownBlock] at hk
def prgS:Prg where
 S:=Sst
 vw:=Sst.vw
 Ok:=Sst.Ok
 At:=SlAt
 frame:=fun h hk=>h.frame hk
 lt:=fun h=>h.lt
 bd:=fun h=>h.vw
 new:=Sst.new
 newV:=fun r h l hs=>⟨Sst.new_ok hs,Sst.new_vw r h l⟩
 newC:=newS_any
 add:=Sst.add
 addV:=fun _ xs h=>Sst.add_ok h xs
 addN:=fun s xs h=>by
  show Sst.add s xs=s
  unfold Sst.add
  have h':(takenK xs (litsN s.hv)).takes?=false:=h
  rw[h']
  rfl
 addC:=fun a c xs h ok hi _ hx hn=>addS2_any a c xs h ok hi hx hn
 addE:=fun a c xs _ hi hx hl=>add_lit _ a c xs _ hx hi hl
 countsC:=fun h ok hn=>countsS_any h ok hn
 proofC:=fun h _=>proofS_any h
 rst:=Sst.rst
 rstV:=fun s h=>⟨Sst.new_ok h.set,Sst.new_vw s.r s.h s.l⟩
 rstC:=fun h _=>resetS2_any h
 rstE:=fun _ _=>rfl
 slv:=Sst.slv
 ans:=Sst.ans
 slvN:=fun s xs b ha=>⟨by unfold Sst.slv;rw[if_neg ha],by unfold Sst.ans;rw[if_neg ha]⟩
 slvV:=fun s xs b h ha=>by
  obtain⟨t,x,e,ok,st,so⟩:=Sst.run_ok h ha
  refine⟨ok,t.ls,st,?_⟩
  have ea:s.ans xs b=x:=by unfold Sst.ans;rw[if_pos ha,e]
  rw[ea]
  exact so
 slvC:=fun a c xs b h ok ht h0 hF hi hd hx hn=>solveS_any a c xs b h ok ht h0 hF hi hd hx hn
 slvE:=fun a c xs b _ hi hx ha=>solveN_any a c xs b hi hx ha
end Go.Proofs.YthboeppmlhbofabDoor
