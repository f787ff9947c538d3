import Derived.Test.YthboeppmlhbofaaDoorLbj
namespace Go.Proofs.YthboeppmlhbofaaDoor
open Go.RowKit Txt
set_option maxRecDepth 100000
structure NC(w:World)(g:Nat)(s1:Aj)(F:Nat→Prop)(ta la pa:Option Addr)(tc lc pc:Nat)(x:Gg)(ls:List EY)(p:A3)(aq:Option Addr)(cq:Nat)(us:List Value)(g12:Nat)(w7:World):Prop where
 m:LK w7 g s1 ta la pa tc lc pc
 ch:EX F w w7
 r6:Ab w7 w.heap.size 38 [.int .i64 0,.int .i64 0,.slice none 0 0,.slice none 0 0,.slice none 0 0]
 r12:Ab w7 g12 38 (x.cells p)
 ne:w.heap.size<g12
 an:DJ w7 w.heap.size x p
 ul:us.length=ls.length
 li:w7.ownsRow 0 75 2 (.slice aq ls.length cq) ls.length (Bs us ls)
 al:Aq w7 0 3 us (ls.map fun p=>p.2)
theorem Aq.low{w:World}{b B e:Nat}(hb:B≤b):∀ {vs:List Value} {cs:List (List Int)},Aq w b e vs cs→Aq w B e vs cs:=by
 intro vs
 induction vs with
 | nil=>intro cs h;cases cs <;> exact h
 | cons u vs ih =>
  intro cs h
  cases cs with
  | nil=>exact h
  | cons c cs=>exact⟨BO h.1 hb,ih h.2⟩
theorem Qx{F:Nat→Prop}{w w':World}(h:FM w)(hc:EX F w w')(h0:¬ F 0)(hz:0<w.heap.size):FM w' :=
 FM.below (B:=1) h ⟨hc.os,hc.tape,hc.output,hc.size,fun k hk=>by
  obtain rfl:k=0:=by omega
  exact hc.block 0 hz h0⟩ (by decide)
def NA(w7:World)(g:Nat)(s1:Aj)(F:Nat→Prop)(ta la pa:Option Addr)(tc lc pc:Nat)(ls:List EY)(k:Nat)(wr:World):Prop:=∃ (la':Option Addr) (lc':Nat) (pa':Option Addr) (pc':Nat),LK wr g ((ls.take k).foldl Aj.keep s1) ta la' pa' tc lc' pc'∧EX F w7 wr ∧
 DM (.slice la s1.lr.length lc) (.slice la' ((ls.take k).foldl Aj.keep s1).lr.length lc') w7∧DM (.slice pa s1.pf.length pc) (.slice pa' ((ls.take k).foldl Aj.keep s1).pf.length pc') w7
theorem Qf:∀ (ls:List EY) (s:Aj),(ls.foldl Aj.keep s).hv=s.hv:=by
 intro ls
 induction ls with
 | nil=>intro s;rfl
 | cons p ls ih=>intro s;exact ih (s.keep p)
theorem NC.keeps{w:World}{g:Nat}{s1:Aj}{F:Nat→Prop}{ta la pa:Option Addr}{tc lc pc:Nat}{x:Gg}{ls:List EY}{p:A3}{aq:Option Addr}{cq:Nat}{us:List Value}{g12:Nat}{w7:World}(h:NC w g s1 F ta la pa tc lc pc x ls p aq cq us g12 w7)(hF:∀ b,F b↔QQ g (.slice ta (Ao s1.hv).length tc) (.slice la s1.lr.length lc) (.slice pa s1.pf.length pc) b){wr:World}(hc:EX F w7 wr) :
  Ab wr w.heap.size 38 [.int .i64 0,.int .i64 0,.slice none 0 0,.slice none 0 0,.slice none 0 0]∧Ab wr g12 38 (x.cells p)∧DJ wr w.heap.size x p∧wr.ownsRow 0 75 2 (.slice aq ls.length cq) ls.length (Bs us ls)∧Aq wr 0 3 us (ls.map fun p=>p.2):=by
 have o:∀ {B e k n:Nat} {v:Value} {zs:List Value},w7.ownsRow B e k v n zs→e≠67→e≠86→e≠5→wr.ownsRow B e k v n zs:=fun ho h1 h2 h3=>Qn ho hc fun b hb q=>h.m.out ho h1 h2 h3 b hb ((hF b).1 q)
 have r:∀ {b:Nat} {zs:List Value},Ab w7 b 38 zs→Ab wr b 38 zs:=fun hr=>(hc.block _ hr.lt fun q=>h.m.outRow hr (by decide) (by decide) (by decide) ((hF _).1 q)).trans hr
 exact⟨r h.r6,r h.r12,⟨o h.an.vs (by decide) (by decide) (by decide),o h.an.co (by decide) (by decide) (by decide),o h.an.cl (by decide) (by decide) (by decide),h.an.p12,h.an.p13,h.an.p23⟩,o h.li (by decide) (by decide) (by decide),h.al.map fun _ _ _ _ hq=>o hq (by decide) (by decide) (by decide)⟩
theorem Vn{ls:List EY}{k:Nat}(h:k<ls.length):ls.getD k (0,[])∈ls:=by
 rw[List.getD_eq_getElem?_getD,List.getElem?_eq_getElem h]
 exact List.getElem_mem h
theorem Sa{w:World}{g:Nat}{s:Aj}{F:Nat→Prop}{xs:List Int}{b:Int}{R:Rs}{ta la pa:Option Addr}{tc lc pc:Nat}{x:Gg}{ls:List EY}{p:A3}{aq:Option Addr}{cq:Nat}{us:List Value}{g12:Nat}{w7:World}(h:NC w g (s.saw xs) F ta la pa tc lc pc x ls p aq cq us g12 w7)(hF:∀ b,F b↔QQ g (.slice ta (Ao s.hv).length tc) (.slice la s.lr.length lc) (.slice pa s.pf.length pc) b)
  (D:VU s xs b R ls x) (ok:s.Ok) (hF0:¬ F 0) (h0:0<w7.heap.size) (htab:FM w7) {k:Nat} (hk:k<ls.length) {wr wA:World} (hs:NA w7 g (s.saw xs) F ta la pa tc lc pc ls k wr) (hb:Below wr.heap.size wr wA) :
  Calls Tryd.prog 33 #[.pointer (some ⟨g,0,none⟩),.agg #[.int .u8 ((ls.getD k (0,[])).1.toNat:Int),us.getD k undef]] wA fun e w'=>e=.returned (.tuple #[])∧NA w7 g (s.saw xs) F ta la pa tc lc pc ls (k+1) w':=by
 obtain⟨la',lc',pa',pc',m,hc,ml,mp⟩:=hs
 have ca:=hc.below hb
 have hz:w7.heap.size≤wA.heap.size:=ca.size
 obtain⟨p1,p2,p3,p4,p5⟩:=D.part ok (Nat.le_of_lt hk) rfl
 obtain⟨d1,d2,d3⟩:=D.each _ (Vn hk)
 obtain⟨_,_,_,_,hal⟩:=h.keeps hF ca
 have et:(ls.take (k+1)).foldl Aj.keep (s.saw xs)=((ls.take k).foldl Aj.keep (s.saw xs)).keep (ls.getD k (0,[])):=by
  rw[List.take_succ_eq_append_getElem hk,List.foldl_append,List.getD_eq_getElem?_getD,List.getElem?_eq_getElem hk]
  rfl
 have hi:wA.ownsRow 0 3 1 (us.getD k undef) (ls.getD k (0,[])).2.length (AW (ls.getD k (0,[])).2):=by
  have hkm:k<(ls.map fun p=>p.2).length:=by simpa using hk
  have:=Aq.get2 hal hkm
  have e:(ls.map fun p=>p.2).getD k []=(ls.getD k (0,[])).2:=by
   rw[List.getD_eq_getElem?_getD,List.getD_eq_getElem?_getD,List.getElem?_map,List.getElem?_eq_getElem hk]
   rfl
  rw[e] at this
  exact this
 have hh:((ls.take k).foldl Aj.keep (s.saw xs)).hv=s.hv:=Qf _ _
 refine(Rl (m.below hb) (by omega) (fun q=>?_) (Qx htab ca hF0 h0) p1 p2 p3 p4 p5 _ d1 _ 0 _ hi d2 d3).mono ?_
 ·rcases mp 0 q with z | z
  ·exact hF0 ((hF 0).2 (.inr (.inr (.inr z))))
  ·omega
 rintro e w' ⟨rfl,la2,lc2,pa2,pc2,m2,c2,ml2,mp2⟩
 refine⟨rfl,la2,lc2,pa2,pc2,?_,⟨c2.os.trans ca.os,c2.tape.trans ca.tape,c2.output.trans ca.output,Nat.le_trans ca.size c2.size,fun j hj hn=>(c2.block j (by omega) fun q=>hn ?_).trans (ca.block j hj hn)⟩,?_,?_⟩
 ·rw[et];exact m2
 ·rcases q with q | q | q | q
  ·exact(hF j).2 (.inl q)
  ·rw[hh] at q;exact(hF j).2 (.inr (.inl q))
  ·rcases ml j q with z | z
   ·exact(hF j).2 (.inr (.inr (.inl z)))
   ·omega
  ·rcases mp j q with z | z
   ·exact(hF j).2 (.inr (.inr (.inr z)))
   ·omega
 ·rw[et];exact ml.trans ml2 hz
 ·rw[et];exact mp.trans mp2 hz
theorem Uw{w:World}{g:Nat}{s:Aj}{F:Nat→Prop}{xs:List Int}{ta la pa:Option Addr}{tc lc pc:Nat}{x:Gg}{ls:List EY}{p:A3}{aq:Option Addr}{cq:Nat}{us:List Value}{g12:Nat}{w7:World}(h:NC w g (s.saw xs) F ta la pa tc lc pc x ls p aq cq us g12 w7)(hF:∀ b,F b↔QQ g (.slice ta (Ao s.hv).length tc) (.slice la s.lr.length lc) (.slice pa s.pf.length pc) b)
  {wr:World} (hs:NA w7 g (s.saw xs) F ta la pa tc lc pc ls ls.length wr) :
  Ab (((((wr.setCell ⟨w.heap.size,0,none⟩ (.int .i64 x.st)).setCell ⟨w.heap.size,1,none⟩ (.int .i64 x.re)).setCell ⟨w.heap.size,2,none⟩ (.slice p.a1 x.vs.length p.c1)).setCell ⟨w.heap.size,3,none⟩ (.slice p.a2 x.co.length p.c2)).setCell ⟨w.heap.size,4,none⟩ (.slice p.a3 x.cl.length p.c3)) w.heap.size 38 [.int .i64 x.st,.int .i64 x.re,.slice p.a1 x.vs.length p.c1,.slice p.a2 x.co.length p.c2,.slice p.a3 x.cl.length p.c3] ∧
  Ju w g F 0 (ls.foldl Aj.keep (s.saw xs)) x (.returned (.tuple #[.agg #[.int .i64 x.st,.int .i64 x.re,.slice p.a1 x.vs.length p.c1,.slice p.a2 x.co.length p.c2,.slice p.a3 x.cl.length p.c3],.int .i64 0])) (((((wr.setCell ⟨w.heap.size,0,none⟩ (.int .i64 x.st)).setCell ⟨w.heap.size,1,none⟩ (.int .i64 x.re)).setCell ⟨w.heap.size,2,none⟩ (.slice p.a1 x.vs.length p.c1)).setCell ⟨w.heap.size,3,none⟩ (.slice p.a2 x.co.length p.c2)).setCell ⟨w.heap.size,4,none⟩ (.slice p.a3 x.cl.length p.c3)):=by
 obtain⟨la',lc',pa',pc',m,hc,ml,mp⟩:=hs
 rw[List.take_length] at m ml mp
 obtain⟨r6,_,an,_,_⟩:=h.keeps hF hc
 have hz7:w.heap.size≤w7.heap.size:=h.ch.size
 have hT:Fr (fun t=>t=38) 0 wr (((((wr.setCell ⟨w.heap.size,0,none⟩ (.int .i64 x.st)).setCell ⟨w.heap.size,1,none⟩ (.int .i64 x.re)).setCell ⟨w.heap.size,2,none⟩ (.slice p.a1 x.vs.length p.c1)).setCell ⟨w.heap.size,3,none⟩ (.slice p.a2 x.co.length p.c2)).setCell ⟨w.heap.size,4,none⟩ (.slice p.a3 x.cl.length p.c3)):=(((((Fr.refl (fun t=>t=38) 0 wr).set r6 rfl (Nat.zero_le _) 0 _).set (r6.set 0 _) rfl (Nat.zero_le _) 1 _).set ((r6.set 0 _).set 1 _) rfl (Nat.zero_le _) 2 _).set (((r6.set 0 _).set 1 _).set 2 _) rfl (Nat.zero_le _) 3 _).set ((((r6.set 0 _).set 1 _).set 2 _).set 3 _) rfl (Nat.zero_le _) 4 _
 have c9:EX F w (((((wr.setCell ⟨w.heap.size,0,none⟩ (.int .i64 x.st)).setCell ⟨w.heap.size,1,none⟩ (.int .i64 x.re)).setCell ⟨w.heap.size,2,none⟩ (.slice p.a1 x.vs.length p.c1)).setCell ⟨w.heap.size,3,none⟩ (.slice p.a2 x.co.length p.c2)).setCell ⟨w.heap.size,4,none⟩ (.slice p.a3 x.cl.length p.c3)):=(((((h.ch.trans hc).set w.heap.size 0 _ (.inr (Nat.le_refl _))).set w.heap.size 1 _ (.inr (Nat.le_refl _))).set w.heap.size 2 _ (.inr (Nat.le_refl _))).set w.heap.size 3 _ (.inr (Nat.le_refl _))).set w.heap.size 4 _ (.inr (Nat.le_refl _))
 refine⟨((((r6.set 0 _).set 1 _).set 2 _).set 3 _).set 4 _,p,rfl,an.fr hT (by decide),fun q=>absurd rfl q,?_⟩
 have m9:LK _ g (ls.foldl Aj.keep (s.saw xs)) ta la' pa' tc lc' pc':=⟨hT.row m.row (by decide),hT.own m.ot (by decide),hT.own m.ol (by decide),hT.own m.op (by decide),m.ap⟩
 refine⟨QQ g (.slice ta (Ao (ls.foldl Aj.keep (s.saw xs)).hv).length tc) (.slice la' (ls.foldl Aj.keep (s.saw xs)).lr.length lc') (.slice pa' (ls.foldl Aj.keep (s.saw xs)).pf.length pc'),⟨ta,la',pa',tc,lc',pc',m9,fun b=>Iff.rfl⟩,c9,fun b hb=>?_,fun k hk q=>?_⟩
 ·rcases hb with q | q | q | q
  ·exact .inl ((hF b).2 (.inl q))
  ·rw[Qf] at q;exact .inl ((hF b).2 (.inr (.inl q)))
  ·exact(ml b q).imp (fun z=>(hF b).2 (.inr (.inr (.inl z)))) (fun z=>Nat.le_trans hz7 z)
  ·exact(mp b q).imp (fun z=>(hF b).2 (.inr (.inr (.inr z)))) (fun z=>Nat.le_trans hz7 z)
 ·rcases hk with z | z | z
  ·exact m.out an.vs (by decide) (by decide) (by decide) k (KJ.trans z) q
  ·exact m.out an.co (by decide) (by decide) (by decide) k (KJ.trans z) q
  ·exact m.out an.cl (by decide) (by decide) (by decide) k (KJ.trans z) q
set_option maxHeartbeats 16000000 in
theorem Pl{w:World}{g:Nat}{s:Aj}{F:Nat→Prop}(a:Option Addr)(c:Nat)(xs:List Int)(b:Int)(h:GL w g s F)(ok:s.Ok)(htab:FM w)(h0:0<w.heap.size)(hF0:¬ F 0)(hi:Ad w a xs)(hd:∀ ad,a=some ad→¬ F ad.block∧ad.block<w.heap.size)(hn:s.hv.length≤1000000)(ha:BJ xs b=0) :
  Calls Tryd.prog 13 #[.pointer (some ⟨g,0,none⟩),.slice a xs.length c,.int .i64 b] w (Ju w g F 0 (s.slv xs b) (s.ans xs b)):=by
 obtain⟨R,ls,x,D⟩:=ok.solve ha
 rw[D.slv,D.ans]
 obtain⟨hx,hlit,hb⟩:=FT ha
 obtain⟨ta,la,pa,tc,lc,pc,m,hF⟩:=h
 have hsn1:(s.saw xs).sn<2^11:=Nat.or_lt_two_pow ok.sn (LB _)
 obtain⟨_,sh0,sh1,sl0,sl1⟩:=Hn ok.set
 have htl:=ok.tks.1
 have hll:=ok.lrs
 have hk0:=Px s.hv
 have hlog:=ok.vw.log
 have hem0:EA (s.saw xs).hv≤1000000:=by show EA s.hv≤1000000;omega
 have hb0:=AF w (.cells #[.int .i64 0,.int .i64 0,.slice none 0 0,.slice none 0 0,.slice none 0 0] 38)
 have r0:Ab (w.alloc (.cells #[.int .i64 0,.int .i64 0,.slice none 0 0,.slice none 0 0,.slice none 0 0] 38)) w.heap.size 38 [.int .i64 0,.int .i64 0,.slice none 0 0,.slice none 0 0,.slice none 0 0]:=heap_alloc_new w _
 have HRF:=AA (Jm a c xs b _ (hi.below hb0) (by omega))
 rw[ha] at HRF
 have B0:=AA hb0
 have R0:=AA r0
 have OK:=AA ok
 have M:=AA m
 have HF:=AA hF
 have HI:=AA hi
 have HD:=AA hd
 have TB:=AA htab
 have DD:=AA D
 have HA:=AA ha
 have hgl:g<w.heap.size:=m.row.lt
 have hgF:F g:=(hF g).2 (.inl rfl)
 have hls:ls.length≤1048576:=by
  have:=(IC ls (s.saw xs)).1
  have:=D.log
  omega
 clear hi hb0 r0 ok m hF hd htab D ha hlit
 go_enter Tryd.func13,Tryd.ntmps13
 go_wp2_with fail
 refine(AE HRF).mono ?_
 generalize w.alloc (.cells #[.int .i64 0,.int .i64 0,.slice none 0 0,.slice none 0 0,.slice none 0 0] 38)=w0 at *
 rintro e w1 ⟨rfl,hb1⟩
 have B1:Hid (Below w.heap.size w w1):=B0.out.trans (hb1.mono B0.out.size)
 have R1:=AA (AB R0.out hb1)
 have M1:=AA (M.out.below B1.out)
 have HSE:=AA (WM g _ _ _ _ _ _ _ _ _ _ a c xs w1 M1.out.row (HI.out.below B1.out) (by omega) OK.out.sn)
 clear hb1 HRF B0 R0
 go_wp2_with fail
 refine(AE HSE).mono ?_
 rintro e w2 ⟨rfl,hr2,hg2⟩
 have M2:=AA (M1.out.saw xs hr2 hg2)
 have hgz:w.heap.size≠g:=by omega
 have hz1:w.heap.size<w1.heap.size:=R1.out.lt
 have hz2:w1.heap.size≤w2.heap.size:=hg2.size
 have R2:Hid (Ab w2 w.heap.size 38 [.int .i64 0,.int .i64 0,.slice none 0 0,.slice none 0 0,.slice none 0 0]):=(hg2.block _ hz1 (fun q=>hgz (by simpa using q))).trans R1.out
 have C2:Hid (EX F w w2):=(EX.of B1.out).grown hg2 fun q e=>.inl (by simp only[Option.some.injEq] at e;rw[← e];exact hgF)
 have I2:Hid (Ad w2 a xs):=by
  rcases HI.out with e | ⟨q,off,e,hc⟩
  ·exact .inl e
  ·refine .inr ⟨q,off,e,fun j hj=>?_⟩
   obtain⟨d1,d2⟩:=HD.out _ e
   exact(World.cell?_of_block (C2.out.block q d2 d1)).trans (hc j hj)
 have HST:=AA (LW g _ _ _ _ _ _ _ _ ta la tc lc (Ao s.hv) s.lr w2 0 0 M2.out.row M2.out.ot M2.out.ol (fun c hc=>OK.out.hvt c (Py hc).1) (fun c hc=>(OK.out.lt c hc).1) (by show EA s.hv≤2000000;omega) (by omega) hll.1)
 clear hr2 hg2 HSE R1 M1 B1
 go_wp2_with fail
 refine(AE HST).mono ?_
 rintro e w3 ⟨cb,rfl,ht3,hb3⟩
 have T3:=AA ht3
 have B3:=AA hb3
 have M3:=AA (M2.out.below hb3)
 have c3:w3.cell? ⟨g,3,none⟩=some (.slice ta (Ao s.hv).length tc):=(M3.out.row.cell 3).trans rfl
 have c5:w3.cell? ⟨g,5,none⟩=some (.int .i64 ((s.saw xs).sn:Nat)):=(M3.out.row.cell 5).trans rfl
 have HCO:Hid (∀ w',Below w3.heap.size w3 w'→Calls Tryd.prog 30 #[.slice ta (Ao s.hv).length tc,.int .i64 ((s.saw xs).sn:Nat)] w' fun e w''=>(∃ a' c',e=.returned (.slice a' (Ct (Ao s.hv) (s.saw xs).sn).length c')∧w''.ownsRow w'.heap.size 3 1 (.slice a' (Ct (Ao s.hv) (s.saw xs).sn).length c') (Ct (Ao s.hv) (s.saw xs).sn).length (AW (DP (Ct (Ao s.hv) (s.saw xs).sn))))∧Below w'.heap.size w' w''):=fun w' hb=>NN ta tc (Ao s.hv) (s.saw xs).sn w' (FK (AL M3.out.ot hb)) (by omega) hsn1
 have hwl:=Rc (Ao s.hv) (s.saw xs).sn
 have HX:Hid ((s.cx xs b).ws=Ct (Ao s.hv) (s.saw xs).sn):=rfl
 have BD:Hid (Below w3.heap.size w3 w3.drew):=below_drewN (Below.refl _ _) 1
 generalize Ct (Ao s.hv) (s.saw xs).sn=WS at *
 have hwl1:WS.length≤1000:=by omega
 clear ht3 hb3 HST
 go_wp2_with fail
 go_cut [10] from 16 (fun s10 wx=>∃ (a6:Option Addr) (c6:Nat),s10=.slice a6 WS.length c6∧Hid (wx.ownsRow 0 3 1 (.slice a6 WS.length c6) WS.length (AW (DP WS)))∧Hid (Below w3.heap.size w3 wx))
 case first =>
  go_region_with (go_at_call 30;refine(AE HCO _ BD.out).mono ?_;rintro e w4 ⟨⟨a6,c6,rfl,ho4⟩,hb4⟩;have O4:=AA (BO ho4 (Nat.zero_le _));have B4:Hid (Below w3.heap.size w3 w4):=BD.out.trans (hb4.mono BD.out.size);clear ho4 hb4)
  all_goals
   go_wp2
   go_meet
   case rel=>exact⟨a6,c6,rfl,O4,B4⟩
 case rest =>
  obtain⟨a6,c6,rfl,O4,B4⟩:=hcut
  generalize hwc:wc=w4 at *
  clear hwc c3 c5 HCO BD
  have hz3:w2.heap.size≤w3.heap.size:=B3.out.size
  have hz4:w3.heap.size≤w4.heap.size:=B4.out.size
  have B24:Hid (Below w2.heap.size w2 w4):=B3.out.trans (B4.out.mono hz3)
  have T4:=AA (T3.out.below B4.out)
  have M4:=AA (M2.out.below B24.out)
  have HRM:=AA (Un g s.r s.h s.l (.slice ta (Ao s.hv).length tc) (.slice pa s.pf.length pc) (EA s.hv) (s.saw xs).sn s.log s.un la lc (Ce s.lr) b w4 (by rw[Az];exact M4.out.row) (FK M4.out.ol) (by rw[Az];exact hll.1) (Ko _) ⟨sh0,sh1⟩ ⟨sl0,sl1⟩ hlog)
  rw[hll.2] at HRM
  clear T3 M3 B3 B4
  go_wp2_with fail
  refine(AE HRM).mono ?_
  rintro e w5 ⟨rfl,hb5⟩
  have hbA:=AF w5 (.cells #[.int .i64 b,.int .i64 s.r,.int .i64 (s.h - (AT s.lr:Int)),.int .i64 (s.l - (s.log:Int))] 69)
  have r6:Ab (w5.alloc (.cells #[.int .i64 b,.int .i64 s.r,.int .i64 (s.h - (AT s.lr:Int)),.int .i64 (s.l - (s.log:Int))] 69)) w5.heap.size 69 [.int .i64 b,.int .i64 s.r,.int .i64 (s.h - (AT s.lr:Int)),.int .i64 (s.l - (s.log:Int))]:=heap_alloc_new w5 _
  have R6:=AA r6
  have hz5:w4.heap.size≤w5.heap.size:=hb5.size
  have hb46:Below w4.heap.size w4 (w5.alloc (.cells #[.int .i64 b,.int .i64 s.r,.int .i64 (s.h - (AT s.lr:Int)),.int .i64 (s.l - (s.log:Int))] 69)):=hb5.trans (hbA.mono hz5)
  have T6:=AA (T4.out.below hb46)
  have O6:=AA (AL O4.out hb46)
  have B26:Hid (Below w2.heap.size w2 (w5.alloc (.cells #[.int .i64 b,.int .i64 s.r,.int .i64 (s.h - (AT s.lr:Int)),.int .i64 (s.l - (s.log:Int))] 69))):=B24.out.trans (hb46.mono B24.out.size)
  clear hb5 hbA r6 hb46 T4 O4 B24 HRM M4
  go_wp2_with fail
  generalize w5.alloc (.cells #[.int .i64 b,.int .i64 s.r,.int .i64 (s.h - (AT s.lr:Int)),.int .i64 (s.l - (s.log:Int))] 69)=w6 at *
  have q0:w6.cell? ⟨w5.heap.size,0,none⟩=some (.int .i64 b):=(R6.out.cell 0).trans rfl
  have q1:w6.cell? ⟨w5.heap.size,1,none⟩=some (.int .i64 s.r):=(R6.out.cell 1).trans rfl
  have q2:w6.cell? ⟨w5.heap.size,2,none⟩=some (.int .i64 (s.h - (AT s.lr:Int))):=(R6.out.cell 2).trans rfl
  have q3:w6.cell? ⟨w5.heap.size,3,none⟩=some (.int .i64 (s.l - (s.log:Int))):=(R6.out.cell 3).trans rfl
  have M6:=AA (M2.out.below B26.out)
  have q6:w6.cell? ⟨g,6,none⟩=some (.slice la s.lr.length lc):=(M6.out.row.cell 6).trans rfl
  have hg6:g<w6.heap.size:=M6.out.row.lt
  have hr6:w5.heap.size<w6.heap.size:=R6.out.lt
  have qa0:∀ o,(w6.alloc o).cell? ⟨w5.heap.size,0,none⟩=some (.int .i64 b):=fun o=>((AF w6 o).cell (p:=⟨w5.heap.size,0,none⟩) hr6).trans q0
  have qa1:∀ o,(w6.alloc o).cell? ⟨w5.heap.size,1,none⟩=some (.int .i64 s.r):=fun o=>((AF w6 o).cell (p:=⟨w5.heap.size,1,none⟩) hr6).trans q1
  have qa2:∀ o,(w6.alloc o).cell? ⟨w5.heap.size,2,none⟩=some (.int .i64 (s.h - (AT s.lr:Int))):=fun o=>((AF w6 o).cell (p:=⟨w5.heap.size,2,none⟩) hr6).trans q2
  have qa3:∀ o,(w6.alloc o).cell? ⟨w5.heap.size,3,none⟩=some (.int .i64 (s.l - (s.log:Int))):=fun o=>((AF w6 o).cell (p:=⟨w5.heap.size,3,none⟩) hr6).trans q3
  have qa6:∀ o,(w6.alloc o).cell? ⟨g,6,none⟩=some (.slice la s.lr.length lc):=fun o=>((AF w6 o).cell (p:=⟨g,6,none⟩) hg6).trans q6
  have HRUN:Hid (∀ w',Below w6.heap.size w6 w'→Calls Tryd.prog 32 #[.pointer (some ⟨cb,0,none⟩),.slice la s.lr.length lc,.slice a6 WS.length c6,.slice a xs.length c,.agg #[.int .i64 b,.int .i64 s.r,.int .i64 (s.h - (AT s.lr:Int)),.int .i64 (s.l - (s.log:Int))]] w' fun e w''=>Fr GX w2.heap.size w' w''∧∃ (p:A3) (aq:Option Addr) (cq:Nat) (us:List Value),e=.returned (.tuple #[.agg #[.int .i64 x.st,.int .i64 x.re,.slice p.a1 x.vs.length p.c1,.slice p.a2 x.co.length p.c2,.slice p.a3 x.cl.length p.c3],.slice aq ls.length cq])∧DJ w'' w2.heap.size x p∧us.length=ls.length∧w''.ownsRow w2.heap.size 75 2 (.slice aq ls.length cq) ls.length (Bs us ls)∧Aq w'' w2.heap.size 3 us (ls.map fun p=>p.2)):=fun w' hb=>by
   have b2:Below w2.heap.size w2 w':=B26.out.trans (hb.mono B26.out.size)
   have hz:w2.heap.size≤w'.heap.size:=b2.size
   have ht:=(T6.out.below hb).perm ((Wc s.hv).append_right s.lr)
   have key:=WK (s.cx xs b) (OK.out.cx HA.out) sh1 sl1 (by show xs.length≤1000;omega) (by rw[HX.out];exact hwl1) w' w2.heap.size cb _ hz (by omega) s.lr (s.h - (AT s.lr:Int)) (s.l - (s.log:Int)) (by omega) (OK.out.btw HA.out) R DD.out.go a c (I2.out.below b2) (fun ad e=>by have:=(HD.out ad e).2;omega) 0 la lc (AL M6.out.ol hb) a6 c6 0 (by rw[HX.out];exact AL O6.out hb) ht
   rw[HX.out] at key
   refine key.mono ?_
   rintro e w'' ⟨hf,p,vq,us,he,k1,k2,k3,k4⟩
   rw[DD.out.an] at he k1
   rw[DD.out.li] at k2 k3 k4
   obtain⟨aq,cq,rfl⟩:=Ax k3
   exact⟨hf,p,aq,cq,us,he,k1,k2,k3,k4⟩
  have RA:Hid (Ab (w6.alloc (.cells #[.int .i64 0,.int .i64 0,.slice none 0 0,.slice none 0 0,.slice none 0 0] 38)).drew w6.heap.size 38 [.int .i64 0,.int .i64 0,.slice none 0 0,.slice none 0 0,.slice none 0 0]):=heap_alloc_new w6 _
  have BD:Hid (Below w6.heap.size w6 (w6.alloc (.cells #[.int .i64 0,.int .i64 0,.slice none 0 0,.slice none 0 0,.slice none 0 0] 38)).drew):=below_drewN (AF w6 _) 1
  have HSL:Hid (∀ (p:A3) (aq:Option Addr) (cq:Nat) (us:List Value) (w7:World),Fr GX w2.heap.size (w6.alloc (.cells #[.int .i64 0,.int .i64 0,.slice none 0 0,.slice none 0 0,.slice none 0 0] 38)).drew w7→DJ w7 w2.heap.size x p→us.length=ls.length→w7.ownsRow w2.heap.size 75 2 (.slice aq ls.length cq) ls.length (Bs us ls)→Aq w7 w2.heap.size 3 us (ls.map fun p=>p.2)→Ab w7 w6.heap.size 38 [.int .i64 0,.int .i64 0,.slice none 0 0,.slice none 0 0,.slice none 0 0]∧NC w g (s.saw xs) F ta la pa tc lc pc x ls p aq cq us w6.heap.size (((((w7.setCell ⟨w6.heap.size,0,none⟩ (.int .i64 x.st)).setCell ⟨w6.heap.size,1,none⟩ (.int .i64 x.re)).setCell ⟨w6.heap.size,2,none⟩ (.slice p.a1 x.vs.length p.c1)).setCell ⟨w6.heap.size,3,none⟩ (.slice p.a2 x.co.length p.c2)).setCell ⟨w6.heap.size,4,none⟩ (.slice p.a3 x.cl.length p.c3))):=fun p aq cq us w7 hf k1 k2 k3 k4=>by
   have r7:=hf.row RA.out Ot
   have hz6:w2.heap.size≤w6.heap.size:=B26.out.size
   have bA:Below w2.heap.size w2 (w6.alloc (.cells #[.int .i64 0,.int .i64 0,.slice none 0 0,.slice none 0 0,.slice none 0 0] 38)).drew:=B26.out.trans (BD.out.mono hz6)
   have b7:Below w2.heap.size w2 w7:=bA.trans (hf.belowB bA.size)
   have b8:Below w2.heap.size w2 (((((w7.setCell ⟨w6.heap.size,0,none⟩ (.int .i64 x.st)).setCell ⟨w6.heap.size,1,none⟩ (.int .i64 x.re)).setCell ⟨w6.heap.size,2,none⟩ (.slice p.a1 x.vs.length p.c1)).setCell ⟨w6.heap.size,3,none⟩ (.slice p.a2 x.co.length p.c2)).setCell ⟨w6.heap.size,4,none⟩ (.slice p.a3 x.cl.length p.c3)):=((((b7.setCell (p:=⟨w6.heap.size,0,none⟩) hz6 _).setCell (p:=⟨w6.heap.size,1,none⟩) hz6 _).setCell (p:=⟨w6.heap.size,2,none⟩) hz6 _).setCell (p:=⟨w6.heap.size,3,none⟩) hz6 _).setCell (p:=⟨w6.heap.size,4,none⟩) hz6 _
   have hT:Fr (fun t=>t=38) 0 w7 (((((w7.setCell ⟨w6.heap.size,0,none⟩ (.int .i64 x.st)).setCell ⟨w6.heap.size,1,none⟩ (.int .i64 x.re)).setCell ⟨w6.heap.size,2,none⟩ (.slice p.a1 x.vs.length p.c1)).setCell ⟨w6.heap.size,3,none⟩ (.slice p.a2 x.co.length p.c2)).setCell ⟨w6.heap.size,4,none⟩ (.slice p.a3 x.cl.length p.c3)):=(((((Fr.refl (fun t=>t=38) 0 w7).set r7 rfl (Nat.zero_le _) 0 _).set (r7.set 0 _) rfl (Nat.zero_le _) 1 _).set ((r7.set 0 _).set 1 _) rfl (Nat.zero_le _) 2 _).set (((r7.set 0 _).set 1 _).set 2 _) rfl (Nat.zero_le _) 3 _).set ((((r7.set 0 _).set 1 _).set 2 _).set 3 _) rfl (Nat.zero_le _) 4 _
   have k1':=k1.fr hT (by decide)
   exact⟨r7,M2.out.below b8,C2.out.below b8,AB R2.out b8,((((r7.set 0 _).set 1 _).set 2 _).set 3 _).set 4 _,by omega,⟨BO k1'.vs (by omega),BO k1'.co (by omega),BO k1'.cl (by omega),k1'.p12,k1'.p13,k1'.p23⟩,k2,BO (hT.own k3 (by decide)) (Nat.zero_le _),Aq.low (Nat.zero_le _) (hT.allOwn k4 (by decide))⟩
  have BD2:Hid (Below w6.heap.size w6 w6.drew):=below_drewN (Below.refl _ _) 1
  have HSB:Hid (∀ (p:A3) (aq:Option Addr) (cq:Nat) (us:List Value) (w7 w8:World),Fr GX w2.heap.size w6.drew w7→DJ w7 w2.heap.size x p→us.length=ls.length→w7.ownsRow w2.heap.size 75 2 (.slice aq ls.length cq) ls.length (Bs us ls)→Aq w7 w2.heap.size 3 us (ls.map fun p=>p.2)→Below w7.heap.size w7 w8→Ab w8 w7.heap.size 38 (x.cells p)→NC w g (s.saw xs) F ta la pa tc lc pc x ls p aq cq us w7.heap.size w8):=fun p aq cq us w7 w8 hf k1 k2 k3 k4 hb hr=>by
   have bA:Below w2.heap.size w2 w6.drew:=B26.out.trans (BD2.out.mono B26.out.size)
   have b7:Below w2.heap.size w2 w7:=bA.trans (hf.belowB bA.size)
   have b8:Below w2.heap.size w2 w8:=b7.trans (hb.mono b7.size)
   have hz7:=b7.size
   exact⟨M2.out.below b8,C2.out.below b8,AB R2.out b8,hr,by omega,⟨BO (AL k1.vs hb) (by omega),BO (AL k1.co hb) (by omega),BO (AL k1.cl hb) (by omega),k1.p12,k1.p13,k1.p23⟩,k2,BO (AL k3 hb) (Nat.zero_le _),Aq.low (Nat.zero_le _) (k4.map fun _ _ _ _ hq=>AL hq hb)⟩
  clear M6 T6 O6 R6 I2 HX
  go_cut [12,13] from 16 (fun s12 s13 wx=>∃ (p:A3) (aq:Option Addr) (cq:Nat) (us:List Value) (g12:Nat),s12=.pointer (some ⟨g12,0,none⟩)∧s13=.slice aq ls.length cq∧Hid (NC w g (s.saw xs) F ta la pa tc lc pc x ls p aq cq us g12 wx))
  case first =>
   go_region_with (first
    | (go_at_call 32;refine(AE HRUN _ BD.out).mono ?_;rintro e w7 ⟨hf7,p,aq,cq,us,rfl,k1,k2,k3,k4⟩;obtain⟨r7,s7⟩:=HSL.out p aq cq us w7 hf7 k1 k2 k3 k4;have K7:=AA s7;have y0:w7.cell? ⟨w6.heap.size,0,none⟩=some (.int .i64 0):=(r7.cell 0).trans rfl;have y1:w7.cell? ⟨w6.heap.size,1,none⟩=some (.int .i64 0):=(r7.cell 1).trans rfl;have y2:w7.cell? ⟨w6.heap.size,2,none⟩=some (.slice none 0 0):=(r7.cell 2).trans rfl;have y3:w7.cell? ⟨w6.heap.size,3,none⟩=some (.slice none 0 0):=(r7.cell 3).trans rfl;have y4:w7.cell? ⟨w6.heap.size,4,none⟩=some (.slice none 0 0):=(r7.cell 4).trans rfl;have z0:=r7.frozen 0;have z1:=r7.frozen 1;have z2:=r7.frozen 2;have z3:=r7.frozen 3;have z4:=r7.frozen 4;clear r7 s7 hf7 k1 k2 k3 k4)
    | (go_at_call 32;refine(AE HRUN _ BD2.out).mono ?_;rintro e w7 ⟨hf7,p,aq,cq,us,rfl,k1,k2,k3,k4⟩;have K7:Hid (∀ w8,Below w7.heap.size w7 w8→Ab w8 w7.heap.size 38 (x.cells p)→NC w g (s.saw xs) F ta la pa tc lc pc x ls p aq cq us w7.heap.size w8):=(fun w8 hb hr=>HSB.out p aq cq us w7 w8 hf7 k1 k2 k3 k4 hb hr);have r7:Ab (w7.alloc (.cells #[.int .i64 0,.int .i64 0,.slice none 0 0,.slice none 0 0,.slice none 0 0] 38)) w7.heap.size 38 [.int .i64 0,.int .i64 0,.slice none 0 0,.slice none 0 0,.slice none 0 0]:=heap_alloc_new w7 _;have y0:(w7.alloc (.cells #[.int .i64 0,.int .i64 0,.slice none 0 0,.slice none 0 0,.slice none 0 0] 38)).cell? ⟨w7.heap.size,0,none⟩=some (.int .i64 0):=(r7.cell 0).trans rfl;have y1:(w7.alloc (.cells #[.int .i64 0,.int .i64 0,.slice none 0 0,.slice none 0 0,.slice none 0 0] 38)).cell? ⟨w7.heap.size,1,none⟩=some (.int .i64 0):=(r7.cell 1).trans rfl;have y2:(w7.alloc (.cells #[.int .i64 0,.int .i64 0,.slice none 0 0,.slice none 0 0,.slice none 0 0] 38)).cell? ⟨w7.heap.size,2,none⟩=some (.slice none 0 0):=(r7.cell 2).trans rfl;have y3:(w7.alloc (.cells #[.int .i64 0,.int .i64 0,.slice none 0 0,.slice none 0 0,.slice none 0 0] 38)).cell? ⟨w7.heap.size,3,none⟩=some (.slice none 0 0):=(r7.cell 3).trans rfl;have y4:(w7.alloc (.cells #[.int .i64 0,.int .i64 0,.slice none 0 0,.slice none 0 0,.slice none 0 0] 38)).cell? ⟨w7.heap.size,4,none⟩=some (.slice none 0 0):=(r7.cell 4).trans rfl;have z0:=r7.frozen 0;have z1:=r7.frozen 1;have z2:=r7.frozen 2;have z3:=r7.frozen 3;have z4:=r7.frozen 4;have R7:=AA r7;clear r7 hf7 k1 k2 k3 k4))
   all_goals
    go_wp2
    go_meet
    case rel=>first | exact⟨p,aq,cq,us,w6.heap.size,rfl,rfl,K7⟩ | exact⟨p,aq,cq,us,w7.heap.size,rfl,rfl,K7.out _ (AF w7 _) (heap_alloc_new w7 _)⟩ | exact⟨p,aq,cq,us,w7.heap.size,rfl,rfl,K7.out _ (((((AF w7 _).setCell (p:=⟨w7.heap.size,0,none⟩) (Nat.le_refl _) _).setCell (p:=⟨w7.heap.size,1,none⟩) (Nat.le_refl _) _).setCell (p:=⟨w7.heap.size,2,none⟩) (Nat.le_refl _) _).setCell (p:=⟨w7.heap.size,3,none⟩) (Nat.le_refl _) _ |>.setCell (p:=⟨w7.heap.size,4,none⟩) (Nat.le_refl _) _) (((((R7.out.set 0 _).set 1 _).set 2 _).set 3 _).set 4 _)⟩
  case rest =>
   obtain⟨p,aq,cq,us,g12,rfl,rfl,SR⟩:=hcut
   generalize hwc:wc=w7 at *
   clear hwc q0 q1 q2 q3 q6 qa0 qa1 qa2 qa3 qa6 HRUN HSL BD RA BD2 HSB
   have hz7:w.heap.size≤w7.heap.size:=SR.out.ch.size
   have hp7:0<w7.heap.size:=by omega
   have TB7:Hid (FM w7):=Qx TB.out SR.out.ch hF0 h0
   have HKP:Hid (∀ wr wA k,k<ls.length→NA w7 g (s.saw xs) F ta la pa tc lc pc ls k wr→Below wr.heap.size wr wA→Calls Tryd.prog 33 #[.pointer (some ⟨g,0,none⟩),.agg #[.int .u8 ((ls.getD k (0,[])).1.toNat:Int),us.getD k undef]] wA fun e w'=>e=.returned (.tuple #[])∧NA w7 g (s.saw xs) F ta la pa tc lc pc ls (k+1) w'):=fun wr wA k hk hs hb=>Sa SR.out HF.out DD.out OK.out hF0 hp7 TB7.out hk hs hb
   have HLI:Hid (∀ wr k,k<ls.length→NA w7 g (s.saw xs) F ta la pa tc lc pc ls k wr→∃ gq off,aq=some ⟨gq,off,none⟩∧wr.cell? ⟨gq,off+k*2,none⟩=some (.int .u8 ((ls.getD k (0,[])).1.toNat:Int))∧wr.cell? ⟨gq,off+k*2+1,none⟩=some (us.getD k undef)):=fun wr k hk hs=>by
    obtain⟨_,_,_,_,_,hc,_,_⟩:=hs
    obtain⟨_,_,_,hl,_⟩:=SR.out.keeps HF.out hc
    exact Ts hl SR.out.ul rfl hk
   have HU:Hid (∀ k,k<ls.length→∃ au cu,us.getD k undef=.slice au (ls.getD k (0,[])).2.length cu):=fun k hk=>by
    have hkm:k<(ls.map fun p=>p.2).length:=by simpa using hk
    have:=Aq.get2 SR.out.al hkm
    have e:(ls.map fun p=>p.2).getD k []=(ls.getD k (0,[])).2:=by
     rw[List.getD_eq_getElem?_getD,List.getD_eq_getElem?_getD,List.getElem?_map,List.getElem?_eq_getElem hk]
     rfl
    rw[e] at this
    exact Ax this
   have S7:Hid (NA w7 g (s.saw xs) F ta la pa tc lc pc ls 0 w7):=⟨la,lc,pa,pc,SR.out.m,EX.of (Below.refl _ _),DM.refl _ _,DM.refl _ _⟩
   go_wp2_with fail
   go_loopw [54] (fun i wr=>∃ (k:Nat),k≤ls.length∧i=.int .i64 k∧Hid (NA w7 g (s.saw xs) F ta la pa tc lc pc ls k wr)) (fun i _=>ls.length - (intOf i).toNat)
   case atStart=>exact⟨0,Nat.zero_le _,rfl,S7⟩
   case round =>
    clear S7
    obtain⟨k,hk,rfl,SK⟩:=hrel
    by_cases hlt:k<ls.length
    ·obtain⟨gq,off,rfl,k0,k1⟩:=HLI.out wr k hlt SK.out
     obtain⟨au,cu,eu⟩:=HU.out k hlt
     have HK:=AA (fun wA=>HKP.out wr wA k hlt SK.out)
     have i1:(0:Int)≤(k:Int):=by omega
     have i2:(k:Int)<(ls.length:Int):=by omega
     rw[eu] at k1 HK
     generalize ls.getD k (0,[])=li at *
     generalize li.2.length=ln at *
     generalize hlt':li.1=lt at *
     clear hlt' eu HLI HU
     go_wp2_with fail
     refine(AE HK _ (AF wr _)).mono ?_
     rintro e w9 ⟨rfl,hs9⟩
     have S9:=AA hs9
     clear hs9 k0 k1 HK
     go_wp2
     go_roundw
     case rel=>exact⟨k+1,by omega,by go_num,S9⟩
     case measure=>simp[intOf];omega
    ·obtain rfl:k=ls.length:=by omega
     have E:=AA (Uw SR.out HF.out SK.out)
     obtain⟨_,_,_,_,_,hc,_,_⟩:=SK.out
     obtain⟨r6,r12,_,_,_⟩:=SR.out.keeps HF.out hc
     have f0:wr.cell? ⟨w.heap.size,0,none⟩=some (.int .i64 0):=(r6.cell 0).trans rfl
     have f1:wr.cell? ⟨w.heap.size,1,none⟩=some (.int .i64 0):=(r6.cell 1).trans rfl
     have f2:wr.cell? ⟨w.heap.size,2,none⟩=some (.slice none 0 0):=(r6.cell 2).trans rfl
     have f3:wr.cell? ⟨w.heap.size,3,none⟩=some (.slice none 0 0):=(r6.cell 3).trans rfl
     have f4:wr.cell? ⟨w.heap.size,4,none⟩=some (.slice none 0 0):=(r6.cell 4).trans rfl
     have z0:=r6.frozen 0
     have z1:=r6.frozen 1
     have z2:=r6.frozen 2
     have z3:=r6.frozen 3
     have z4:=r6.frozen 4
     have k0:wr.cell? ⟨g12,0,none⟩=some (.int .i64 x.st):=(r12.cell 0).trans rfl
     have k1:wr.cell? ⟨g12,1,none⟩=some (.int .i64 x.re):=(r12.cell 1).trans rfl
     have k2:wr.cell? ⟨g12,2,none⟩=some (.slice p.a1 x.vs.length p.c1):=(r12.cell 2).trans rfl
     have k3:wr.cell? ⟨g12,3,none⟩=some (.slice p.a2 x.co.length p.c2):=(r12.cell 3).trans rfl
     have k4:wr.cell? ⟨g12,4,none⟩=some (.slice p.a3 x.cl.length p.c3):=(r12.cell 4).trans rfl
     clear r6 r12 hc HKP HLI HU SK
     go_wp2
     exact bodyPost_ret (Lu E.out.1 rfl rfl) rfl E.out.2
theorem Pn{w:World}{g:Nat}{s:Aj}{F:Nat→Prop}(a:Option Addr)(c:Nat)(xs:List Int)(b:Int)(h:GL w g s F)(ok:s.Ok)(htab:FM w)(h0:0<w.heap.size)(hF0:¬ F 0)(hi:Ad w a xs)(hd:∀ ad,a=some ad→¬ F ad.block∧ad.block<w.heap.size)(hx:xs.length≤100000)(hn:s.hv.length≤1000000) :
  Calls Tryd.prog 13 #[.pointer (some ⟨g,0,none⟩),.slice a xs.length c,.int .i64 b] w (Ju w g F (BJ xs b) (s.slv xs b) (s.ans xs b)):=by
 by_cases ha:BJ xs b=0
 ·rw[ha]
  exact Pl a c xs b h ok htab h0 hF0 hi hd hn ha
 ·have e1:s.slv xs b=s:=by unfold Aj.slv;rw[if_neg ha]
  have e2:s.ans xs b=IY:=by unfold Aj.ans;rw[if_neg ha]
  rw[e1,e2]
  exact Pm a c xs b h hi hx ha
def XH:D0 where
 S:=Aj
 vw:=Aj.vw
 Ok:=Aj.Ok
 At:=GL
 frame:=fun h hk=>h.frame hk
 lt:=fun h=>h.lt
 bd:=fun h=>h.vw
 new:=Aj.new
 newV:=fun r h l hs=>⟨Aj.new_ok hs,Aj.new_vw r h l⟩
 newC:=UN
 add:=Aj.add
 addV:=fun _ xs h=>Aj.add_ok h xs
 addC:=fun a c xs h ok hi _ hx hn=>Q6 a c xs h ok hi hx hn
 countsC:=fun h ok hn=>NQ h ok hn
 rst:=Aj.rst
 rstV:=fun s h=>⟨Aj.new_ok h.set,Aj.new_vw s.r s.h s.l⟩
 slv:=Aj.slv
 ans:=Aj.ans
 slvN:=fun s xs b ha=>⟨by unfold Aj.slv;rw[if_neg ha],by unfold Aj.ans;rw[if_neg ha]⟩
 slvV:=fun s xs b h ha=>by
  obtain⟨t,x,e,ok,st,so⟩:=Aj.run_ok h ha
  refine⟨ok,t.ls,st,?_⟩
  have ea:s.ans xs b=x:=by unfold Aj.ans;rw[if_pos ha,e]
  rw[ea]
  exact so
 slvC:=fun a c xs b h ok ht h0 hF hi hd hx hn=>Pn a c xs b h ok ht h0 hF hi hd hx hn
end Go.Proofs.YthboeppmlhbofaaDoor
