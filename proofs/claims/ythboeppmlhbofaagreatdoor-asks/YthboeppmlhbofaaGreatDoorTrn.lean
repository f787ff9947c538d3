import Derived.Test.YthboeppmlhbofaaGreatDoorLok
import Derived.Deep.RegionLaw
namespace Go.Proofs.YthboeppmlhbofaaGreatDoor
open Go.RowKit Txt
set_option maxRecDepth 100000
def Xa(w:World)(g n:Nat):Prop:=∃ l:List UInt8,l.length=n∧(∀ j (hj:j<l.length),w.cell? ⟨g,j,none⟩=some (.int .u8 (l[j].toNat:Int)))∧∀ j,j<n→w.frozen? ⟨g,j,none⟩=false
theorem Xa.cell{w:World}{g n:Nat}(h:Xa w g n)(j:Nat)(hj:j<n):∃ v,w.cell? ⟨g,j,none⟩=some v:=by
 obtain⟨l,rfl,h1,_⟩:=h
 exact⟨_,h1 j hj⟩
theorem Xa.frozen{w:World}{g n:Nat}(h:Xa w g n)(j:Nat)(hj:j<n):w.frozen? ⟨g,j,none⟩=false:=by
 obtain⟨l,rfl,_,h2⟩:=h
 exact h2 j hj
theorem Xa.set{w:World}{g n:Nat}(h:Xa w g n)(j:Nat)(hj:j<n)(b:UInt8):Xa (w.setCell ⟨g,j,none⟩ (.int .u8 (b.toNat:Int))) g n:=by
 obtain⟨l,rfl,h1,h2⟩:=h
 refine⟨l.set j b,by simp,?_,?_⟩
 ·intro k hk
  have hk':k<l.length:=by simpa using hk
  by_cases e:k=j
  ·subst e
   rw[World.cell?_setCell_same w _ _ (h1 k hk')]
   simp
  ·rw[World.cell?_setCell_other w _ _ _ (by intro e';simp only[Addr.mk.injEq,and_true,true_and] at e';omega),h1 k hk',List.getElem_set_ne (by omega)]
 ·intro k hk
  rw[World.frozen?_setCell]
  exact h2 k hk
theorem QV{w:World}{g n c:Nat}(h:Xa w g n):∃ t:ByteArray,t.size=n∧(convert 83 9 (.slice (some ⟨g,0,none⟩) n c)).run Tryz.prog w=.ok (.string t) w:=by
 have hb:Tryz.prog.underlying 5=some (.int .u8):=by kernel_rfl
 obtain⟨l,rfl,h1,_⟩:=h
 refine⟨⟨l.toArray⟩,rfl,run_convert_bytes_back w _ _ 5 _ c l Tryz.undBytes hb Tryz.undString fun j hj=>?_⟩
 rw[Ch,Nat.zero_add]
 exact h1 j hj
theorem Vh(w:World)(s:ByteArray):Xa (Lib.bytesWorld w 5 s) w.heap.size s.size:=by
 refine⟨s.data.toList,by simp,?_,?_⟩
 ·intro j hj
  have hj':j<s.size:=by simpa using hj
  rw[Lib.bytesWorld_cell w _ s j hj']
  simp[List.getD,List.getElem?_eq_getElem hj]
 ·intro j hj
  have h1:=Lib.bytesWorld_at_new w 5 s
  have h2:s.size≤(Lib.bytesCells w 5 s).size:=by simp[Lib.bytesCells]
  simp[World.frozen?,h1]
  omega
theorem TJ(w:World)(s:ByteArray)(H:Nat)(hH:w.heap.size=H):∃ c w',(convert 9 83 (.string s)).run Tryz.prog w=.ok (.slice (some ⟨H,0,none⟩) s.size c) w'∧Xa w' H s.size∧w'.heap.size=H+1∧Below H w w':=by
 have hb:Tryz.prog.underlying 5=some (.int .u8):=by kernel_rfl
 subst hH
 exact⟨_,_,Lib.run_convert_string_bytes (P:=Tryz.prog) w 9 83 5 s Tryz.undString Tryz.undBytes hb,Vh w s,Lib.bytesWorld_size _ _ _,⟨rfl,rfl,rfl,by rw[Lib.bytesWorld_size];omega,fun k hk=>Lib.bytesWorld_at_old _ _ _ k hk⟩⟩
set_option maxHeartbeats 4000000 in
theorem SV(Wb B n:Nat)(V:WV)(s:St)(w:World)(o:Cq)(ho:o.Ok)(hk:o.k=6)(h:WI w Wb B V s)(hbd:Bd n s)(hn:n≤20000)(h0:0<s.texts.length) :
  Calls Tryz.prog 25 #[.pointer (some ⟨Wb,0,none⟩),.agg o.cells] w fun e w'=>e=.returned (.bool true)∧II (n+1) w w' Wb B V:=by
 obtain⟨k,a,b,c,t⟩:=o
 subst hk
 obtain⟨i0,hi,hz0,hz1,hz2⟩:=info_parts Tryz.infoString
 have hx:=hbd.txs
 have hBs:B≤w.heap.size:=Nat.le_trans h.base (Nat.le_of_lt h.blk.lt)
 have d1:Hid (s.texts.length+1≤maxLen):=by show _≤_;unfold maxLen;omega
 have d2:Hid ((s.texts.length+1)*16≤140737488355328):=by show _≤_;omega
 have p1:=fun w=>DV a s.texts.length w h0 (by omega) ho.a.1 ho.a.2
 have l1:=DU a s.texts.length h0
 generalize Er a s.texts.length=j1 at p1 l1
 obtain⟨g,eg,c1⟩:=JO h.tx l1
 have s1:=hbd.tx1 (s.texts.getD j1 ByteArray.empty) (by rw[List.getD_eq_getElem?_getD,List.getElem?_eq_getElem l1];exact List.getElem_mem l1)
 generalize s.texts.getD j1 ByteArray.empty=t1 at c1 s1
 have H:=AB h
 have HBD:=AB hbd
 have P1:=AB p1
 have hlt:Wb<w.heap.size:=h.blk.lt
 have hgt:g<w.heap.size:=World.block_lt_of_cell? w _ c1
 have f2w:w.cell? ⟨Wb,2,none⟩=some (.slice (some ⟨g,0,none⟩) s.texts.length V.ct):=(h.blk.cell 2).trans (by simp only[WV.cells,WV.vt,eg];rfl)
 have HEG:=AB eg
 have HOB:=AB ho.b
 simp only[Cq.cells] at *
 clear h hbd ho p1 eg
 have q1:(0:Int)≤(j1:Int):=by omega
 have q3:(j1:Int)<(s.texts.length:Int):=by omega
 go_enter Tryz.func25,Tryz.ntmps25
 go_wp2_with fail
 have e1:=fun j u hu=>AH w [.int .i64 6,.int .i64 a,.int .i64 b,.int .i64 c,.string t] 27 j u hu
 have hb1:Below w.heap.size w (w.alloc (.cells #[.int .i64 6,.int .i64 a,.int .i64 b,.int .i64 c,.string t] 27)):=(Below.refl _ _).alloc (Nat.le_refl _) _
 have e3:(w.alloc (.cells #[.int .i64 6,.int .i64 a,.int .i64 b,.int .i64 c,.string t] 27)).heap.size=w.heap.size+1:=by simp
 have m1:=e1 1 _ rfl
 have m2:=e1 2 _ rfl
 have m3:=e1 3 _ rfl
 rw[Ch] at m1 m2 m3
 simp only[Nat.zero_add] at m1 m2 m3
 clear e1
 generalize w.alloc (.cells #[.int .i64 6,.int .i64 a,.int .i64 b,.int .i64 c,.string t] 27)=w1 at *
 have f2:w1.cell? ⟨Wb,2,none⟩=some (.slice (some ⟨g,0,none⟩) s.texts.length V.ct):=(hb1.cell (p:=⟨Wb,2,none⟩) hlt).trans f2w
 have c1':w1.cell? ⟨g,j1,none⟩=some (.string t1):=(hb1.cell (p:=⟨g,j1,none⟩) hgt).trans c1
 have HB1:=AB hb1
 have E3:=AB e3
 clear f2w c1 hb1
 obtain⟨cp,w2,hcv,hby2,hs2,hb2⟩:=TJ w1.drew t1 (w.heap.size+1) (by simp[e3])
 have n1:w2.cell? ⟨Wb,2,none⟩=some (.slice (some ⟨g,0,none⟩) s.texts.length V.ct):=(hb2.cell (p:=⟨Wb,2,none⟩) (by simp;omega)).trans f2
 have n2:w2.cell? ⟨g,j1,none⟩=some (.string t1):=(hb2.cell (p:=⟨g,j1,none⟩) (by simp;omega)).trans c1'
 have n3:w2.cell? ⟨w.heap.size,1,none⟩=some (.int .i64 a):=(hb2.cell (p:=⟨w.heap.size,1,none⟩) (by simp)).trans m1
 have n4:w2.cell? ⟨w.heap.size,2,none⟩=some (.int .i64 b):=(hb2.cell (p:=⟨w.heap.size,2,none⟩) (by simp)).trans m2
 have n5:w2.cell? ⟨w.heap.size,3,none⟩=some (.int .i64 c):=(hb2.cell (p:=⟨w.heap.size,3,none⟩) (by simp)).trans m3
 have hbw:Below w.heap.size w w2:=HB1.out.trans (show Below w.heap.size w1 w2 from(below_drewN (Below.refl _ _) 1).trans (hb2.mono (by omega)))
 have HBW:=AB hbw
 have HBY:=AB hby2
 clear hby2 hb2 hbw
 go_region_with (first
   | (go_at_call 16;refine(AE P1 _).mono ?_;rintro e w' ⟨rfl,rfl⟩))
 all_goals
  clear n2 n3 m1 m2 m3 f2 c1' hcv P1 q1 q3 E3
  by_cases hz:t1.size=0
  ·have hy0:=HBY.out
   rw[hz] at hy0
   obtain⟨t',ht',hcv⟩:=QV (c:=cp) hy0
   have HTZ:Hid (t'.size≤4194304):=by show _≤_;omega
   have HB3:=HBW
   clear ht' hy0 n4 n5 hs2 n1
   generalize w2=w3 at *
   have H3:=AB (H.out.below HB3.out)
   have HX:Hid (w3.ownsRow B 9 1 (.slice (some ⟨g,0,none⟩) s.texts.length V.ct) s.texts.length (Ia s.texts)):=by
    have:=H3.out.tx
    rw[WV.vt,HEG.out] at this
    exact this
   have f3:w3.cell? ⟨Wb,2,none⟩=some (.slice (some ⟨g,0,none⟩) s.texts.length V.ct):=(H3.out.blk.cell 2).trans (by simp only[WV.cells,WV.vt,HEG.out];rfl)
   have hz3s:w.heap.size≤w3.heap.size:=HB3.out.size
   go_wp2_with (first
    | (at_builtin;refine Ap _ rfl (.tmp 102) (.tmp 104) 31 rfl B 9 i0 (.string ByteArray.empty) 16 Tryz.undStrings hi hz0 hz1 hz2 rfl (.slice (some ⟨g,0,none⟩) s.texts.length V.ct) s.texts.length (Ia s.texts) rfl (HX.out.alloc _) ⟨w3.heap.size,0,none⟩ 1 1 [.string t'] rfl rfl (AH w3 [.string t'] 9) (by intro u hu;simp at hu;subst hu;rfl) (by decide) d1.out d2.out (by simp;omega) (w3.heap.size+1) (by simp) ?_;intro a3 c3 w4 hown3 hg3 hl3;have HL3:=AB hl3;clear hl3;
          have HR3:Hid (AY w4 Wb 34 (V.cells s)):=B8 (AF H3.out.blk ((Below.refl _ _).alloc (Nat.le_refl _) _)) (HX.out.alloc _) Hc hg3;
          have g2:w4.cell? ⟨Wb,2,none⟩=some (.slice V.at_ s.texts.length V.ct):=(HR3.out.cell 2).trans rfl;
          have g2':=HR3.out.frozen 2))
   go_ret
   exact⟨rfl,IE H3.out HBD.out HB3.out hBs HTZ.out (by rw[WV.vt,HEG.out];exact hg3) (by rw[WV.vt,HEG.out];exact HL3.out) (by omega) hown3⟩
  ·have hpos:0<t1.size:=by omega
   have p2:=fun w=>DV b t1.size w hpos (by omega) HOB.out.1 HOB.out.2
   have l2:=DU b t1.size hpos
   generalize Er b t1.size=j2 at p2 l2
   have P2:=AB p2
   have q1:(0:Int)≤(j2:Int):=by omega
   have q3:(j2:Int)<(t1.size:Int):=by omega
   obtain⟨v0,hv0⟩:=HBY.out.cell j2 l2
   have hf0:=HBY.out.frozen j2 l2
   obtain⟨b8,hb8⟩:∃ b8:UInt8,IntKind.u8.wrap c=(b8.toNat:Int):=⟨UInt8.ofNat (c % 256).toNat,by rw[IntKind.wrap_u8,UInt8.toNat_ofNat'];omega⟩
   clear p2 n1
   go_wp2_with fail
   go_region_held3 (fun w'=>w'.cell? ⟨w.heap.size,2,none⟩=some (.int .i64 b)∧w'.cell? ⟨w.heap.size,3,none⟩=some (.int .i64 c)) (go_keep)
    (first
     | (go_at_call 16;refine(AE P2 _).mono ?_;rintro e w' ⟨rfl,rfl⟩))
   have hy3:Xa (w2.setCell ⟨w.heap.size+1,j2,none⟩ (.int .u8 (b8.toNat:Int))).drew (w.heap.size+1) t1.size:=HBY.out.set j2 l2 b8
   have hb3:Below w.heap.size w (w2.setCell ⟨w.heap.size+1,j2,none⟩ (.int .u8 (b8.toNat:Int))).drew:=below_drewN (HBW.out.setCell (p:=⟨w.heap.size+1,j2,none⟩) (Nat.le_succ _) _) 1
   generalize (w2.setCell ⟨w.heap.size+1,j2,none⟩ (.int .u8 (b8.toNat:Int))).drew=w3 at *
   obtain⟨t',ht',hcv⟩:=QV (c:=cp) hy3
   have HTZ:Hid (t'.size≤4194304):=by show _≤_;omega
   have HB3:=AB hb3
   clear ht' hy3 n4 n5 hs2 hb3 hv0 hf0 hb8 q1 q3 P2
   have H3:=AB (H.out.below HB3.out)
   have HX:Hid (w3.ownsRow B 9 1 (.slice (some ⟨g,0,none⟩) s.texts.length V.ct) s.texts.length (Ia s.texts)):=by
    have:=H3.out.tx
    rw[WV.vt,HEG.out] at this
    exact this
   have f3:w3.cell? ⟨Wb,2,none⟩=some (.slice (some ⟨g,0,none⟩) s.texts.length V.ct):=(H3.out.blk.cell 2).trans (by simp only[WV.cells,WV.vt,HEG.out];rfl)
   have hz3s:w.heap.size≤w3.heap.size:=HB3.out.size
   go_wp2_with (first
    | (at_builtin;refine Ap _ rfl (.tmp 102) (.tmp 104) 31 rfl B 9 i0 (.string ByteArray.empty) 16 Tryz.undStrings hi hz0 hz1 hz2 rfl (.slice (some ⟨g,0,none⟩) s.texts.length V.ct) s.texts.length (Ia s.texts) rfl (HX.out.alloc _) ⟨w3.heap.size,0,none⟩ 1 1 [.string t'] rfl rfl (AH w3 [.string t'] 9) (by intro u hu;simp at hu;subst hu;rfl) (by decide) d1.out d2.out (by simp;omega) (w3.heap.size+1) (by simp) ?_;intro a3 c3 w4 hown3 hg3 hl3;have HL3:=AB hl3;clear hl3;
          have HR3:Hid (AY w4 Wb 34 (V.cells s)):=B8 (AF H3.out.blk ((Below.refl _ _).alloc (Nat.le_refl _) _)) (HX.out.alloc _) Hc hg3;
          have g2:w4.cell? ⟨Wb,2,none⟩=some (.slice V.at_ s.texts.length V.ct):=(HR3.out.cell 2).trans rfl;
          have g2':=HR3.out.frozen 2))
   go_ret
   exact⟨rfl,IE H3.out HBD.out HB3.out hBs HTZ.out (by rw[WV.vt,HEG.out];exact hg3) (by rw[WV.vt,HEG.out];exact HL3.out) (by omega) hown3⟩
def Df(k:Int):Bool:=k == 5 || k == 6 || k == 7
def Ns(b:Bool)(n:Nat)(w w':World)(Wb B:Nat)(V:WV):Prop:=if b then II (n+1) w w' Wb B V else Below w.heap.size w w'
theorem Ns.yes{b:Bool}{n:Nat}{w w':World}{Wb B:Nat}{V:WV}(h:Ns b n w w' Wb B V)(hb:b=true):II (n+1) w w' Wb B V:=by subst hb;exact h
theorem Ns.no{b:Bool}{n:Nat}{w w':World}{Wb B:Nat}{V:WV}(h:Ns b n w w' Wb B V)(hb:b=false):Below w.heap.size w w':=by subst hb;exact h
theorem UO(Wb B n:Nat)(V:WV)(s:St)(w:World)(o:Cq)(ho:o.Ok)(h:WI w Wb B V s)(hbd:Bd n s)(hn:n≤20000) :
  Calls Tryz.prog 25 #[.pointer (some ⟨Wb,0,none⟩),.agg o.cells] w fun e w'=>e=.returned (.bool (Df o.k))∧Ns (Df o.k) n w w' Wb B V:=by
 by_cases h5:o.k=5
 ·have:Df o.k=true:=by simp[Df,h5]
  rw[this]
  exact SU Wb B n V s w o ho h5 h hbd hn
 ·by_cases h6:o.k=6
  ·have:Df o.k=true:=by simp[Df,h6]
   rw[this]
   by_cases h0:s.texts.length=0
   ·exact LN Wb B n V s w o (.inl h6) h hbd h0
   ·exact SV Wb B n V s w o ho h6 h hbd hn (by omega)
  ·by_cases h7:o.k=7
   ·have:Df o.k=true:=by simp[Df,h7]
    rw[this]
    by_cases h0:s.texts.length=0
    ·exact LN Wb B n V s w o (.inr h7) h hbd h0
    ·exact SQ Wb B n V s w o ho h7 h hbd hn (by omega)
   ·have:Df o.k=false:=by simp[Df,h5,h6,h7]
    rw[this]
    exact SS Wb w o (by simpa using h5) (by simpa using h6) (by simpa using h7)
theorem Yb{n:Nat}{w0 w w3:World}{Wb B:Nat}{V:WV}{s:St}{x:Int}{a3:Option Addr}{c3:Nat}{o:Obj}{p:Prop}(H:WI w Wb B V s)(hbd:Bd n s)(hbs:Below w0.heap.size w0 w)(hB:B≤w0.heap.size)(hg3:(w.alloc o).grownBy w3 (V.vl s).ownBlock)
  (hl3:V.vl s=.slice a3 s.list.length c3∨a3=some ⟨w.heap.size+1,0,none⟩∧p)
  (hown3:w3.ownsRow B 3 1 (.slice a3 (s.list.length+1) c3) (s.list.length+1) (AO s.list++[.int .i64 x])):II (n+1) w0 (w3.setCell ⟨Wb,0,none⟩ (.slice a3 (s.list.length+1) c3)) Wb B V:=by
 have hrow:AY w3 Wb 34 (V.cells s):=B8 (AF H.blk ((Below.refl _ _).alloc (Nat.le_refl _) _)) (H.list.alloc _) Bm hg3
 have hst:AO s.list++[.int .i64 x]=AO (s.list++[x]):=by simp[AO]
 have hsl:(s.list++[x]).length=s.list.length+1:=by simp
 have hb:=hbs.mono hB
 have hsz:=hbs.size
 refine⟨{ V with al:=a3,cl:=c3 },{ s with list:=s.list++[x] },H.setList (GS o (GW (GU hg3) (Eb hrow 0 _))) a3 c3 (s.list++[x]) ?_ ?_ ?_,?_,?_,rfl,rfl,fun b h1 h2 h3=>⟨GO hbs hg3 0 _ h1 h2 h3.l,Hz h3.l hl3 (by omega),h3.c,h3.t,h3.x,h3.o,h3.w,h3.cs,h3.os,h3.ws⟩⟩
 ·rw[hsl];exact hrow.set 0 _
 ·rw[hsl,← hst];exact Cl hrow 0 _ Bm hown3
 ·intro u hu ha
  obtain⟨m,xs,hx⟩:=hu
  exact Ca hx ha (Nat.le_succ _) (DT (N:=(s.list++[x]).length) hl3)
 ·refine⟨?_,hbd.next.cls,hbd.cl1,hbd.next.txs,hbd.tx1,hbd.next.outs,hbd.out1,hbd.next.mark,hbd.same⟩
  show(s.list++[x]).length≤_
  rw[hsl];have:=hbd.list;omega
 ·have hB2:B≤w.heap.size:=Nat.le_trans hB hb.size
  exact((hb.alloc hB2 o).grown hg3 (by simp;omega) (fun j hj=>(H.list.lt j hj).1)).setCell (p:=⟨Wb,0,none⟩) H.base _
theorem Yc{n:Nat}{w0 w:World}{Wb B:Nat}{V:WV}{s:St}(H:WI w Wb B V s)(hbd:Bd n s)(hbs:Below w0.heap.size w0 w)(hB:B≤w0.heap.size):II (n+1) w0 (w.setCell ⟨Wb,0,none⟩ (.slice none 0 0)) Wb B V:=by
 refine⟨{ V with al:=none,cl:=0 },{ s with list:=[] },H.setList (Eb H.blk 0 _) none 0 [] (H.blk.set 0 _) ⟨by simp[AO],.inl ⟨rfl,rfl⟩⟩ (fun u _ _=>Dm u),?_,?_,rfl,rfl,fun b h1 h2 h3=>⟨((Jr.of Wb V hbs).set 0 _ b h1 h2 h3).1,VB b,h3.c,h3.t,h3.x,h3.o,h3.w,h3.cs,h3.os,h3.ws⟩⟩
 ·exact⟨Nat.zero_le _,hbd.next.cls,hbd.cl1,hbd.next.txs,hbd.tx1,hbd.next.outs,hbd.out1,hbd.next.mark,hbd.same⟩
 ·exact(hbs.mono hB).setCell (p:=⟨Wb,0,none⟩) H.base _
theorem QT{n:Nat}{w0 w:World}{Wb B:Nat}{V:WV}{s:St}(H:WI w Wb B V s)(hbd:Bd n s)(hbs:Below w0.heap.size w0 w)(hB:B≤w0.heap.size):II (n+1) w0 (w.setCell ⟨Wb,1,none⟩ (.slice none 0 0)) Wb B V:=by
 refine⟨{ V with ac:=none,cc:=0,vcs:=[] },{ s with clauses:=[] },H.setClauses (Eb H.blk 1 _) none 0 [] [] (H.blk.set 1 _) ⟨by simp,.inl ⟨rfl,rfl⟩⟩ trivial (fun u hu=>by simp at hu) (Dm _).symm (Dm _).symm,?_,?_,rfl,rfl,fun b h1 h2 h3=>⟨((Jr.of Wb V hbs).set 1 _ b h1 h2 h3).1,h3.l,VB b,h3.t,h3.x,h3.o,h3.w,fun u hu=>by simp at hu,h3.os,h3.ws⟩⟩
 ·exact⟨hbd.next.list,by show 0≤_;omega,fun c hc=>by simp at hc,hbd.next.txs,hbd.tx1,hbd.next.outs,hbd.out1,hbd.next.mark,hbd.same⟩
 ·exact(hbs.mono hB).setCell (p:=⟨Wb,1,none⟩) H.base _
theorem Ji{w:World}{g B:Nat}{xs:List Int}(h:AY w g 3 (AO xs++Bx))(hB:B≤g)(hx:xs.length≤4294967296):w.ownsRow B 3 1 (.slice (some ⟨g,0,none⟩) xs.length (xs.length+2)) xs.length (AO xs) :=
 ⟨by rw[Az,Nat.mul_one],.inr ⟨g,xs.length+2,(AO xs++Bx).toArray,rfl,hB,h,by omega,by unfold maxLen;omega,by simp[Az,Bx],by simp[Az]⟩⟩
theorem TI{n g:Nat}{w0 w00 w w3:World}{Wb B:Nat}{V:WV}{s:St}{a3:Option Addr}{c3:Nat}{o:Obj}{p:Prop}(H0:WI w00 Wb B V s)(hbd:Bd n s)(hn:n≤16384)(hbs:Below w0.heap.size w0 w00)(hbw:Below w00.heap.size w00 w)(hB:B≤w0.heap.size)(hg:w00.heap.size≤g)(hrow0:AY w g 3 (AO s.list++Bx))
  (hg3:(w.alloc o).grownBy w3 (V.vc s).ownBlock) (hl3:V.vc s=.slice a3 s.clauses.length c3∨a3=some ⟨w.heap.size+1,0,none⟩∧p)
  (hown3:w3.ownsRow B 24 1 (.slice a3 (s.clauses.length+1) c3) (s.clauses.length+1) (V.vcs++[.slice (some ⟨g,0,none⟩) s.list.length (s.list.length+2)])):II (n+1) w0 (w3.setCell ⟨Wb,1,none⟩ (.slice a3 (s.clauses.length+1) c3)) Wb B V:=by
 have H:WI w Wb B V s:=H0.below hbw
 have hb:=hbs.mono hB
 have hbsw:Below w0.heap.size w0 w:=hbs.trans (hbw.mono hbs.size)
 have hsz:=hbsw.size
 have hB2:B≤w00.heap.size:=Nat.le_trans hB hb.size
 have hrow:AY w3 Wb 34 (V.cells s):=B8 (AF H.blk ((Below.refl _ _).alloc (Nat.le_refl _) _)) (H.clt.alloc _) By hg3
 have hll:=hbd.list
 have hnew:=Ji hrow0 (Nat.le_trans hB2 hg) (by omega)
 have hlo:=DT (N:=(s.clauses++[s.list]).length) hl3
 have hsl:(s.clauses++[s.list]).length=s.clauses.length+1:=by simp
 have hk:∀ u m xs,w.ownsRow B 3 1 u m xs→(w3.setCell ⟨Wb,1,none⟩ (.slice a3 (s.clauses.length+1) c3)).ownsRow B 3 1 u m xs:=fun u m xs hu=>Cl hrow 1 _ Bm (Aj (hu.alloc o) hg3 (AL Fq (hu.alloc o) (H.clt.alloc o)))
 refine⟨{ V with ac:=a3,cc:=c3,vcs:=_ },{ s with clauses:=s.clauses++[s.list] },H.setClauses (GS o (GW (GU hg3) (Eb hrow 1 _))) a3 c3 (s.clauses++[s.list]) (V.vcs++[.slice (some ⟨g,0,none⟩) s.list.length (s.list.length+2)]) ?_ ?_ ?_ ?_ ?_ ?_,?_,?_,rfl,rfl,fun b h1 h2 h3=>⟨GO hbsw hg3 1 _ h1 h2 h3.c,h3.l,Hz h3.c hl3 (by omega),h3.t,h3.x,h3.o,h3.w,fun u hu=>(List.mem_append.1 hu).elim (h3.cs u) (fun hq=>by simp at hq;subst hq;have:=hbs.size;simp only[Value.ownBlock,ne_eq,Option.some.injEq];omega),h3.os,h3.ws⟩⟩
 ·rw[hsl];exact hrow.set 1 _
 ·rw[hsl];exact Cl hrow 1 _ By hown3
 ·exact(H.cle.map (fun u _ m xs hu=>hk u m xs hu)).snoc (hk _ _ _ hnew)
 ·intro u hu
  rcases List.mem_append.1 hu with hu | hu
  ·exact H.b1 u hu
  ·simp at hu;subst hu;exact La H0.list hg _ _
 ·exact KY H.ot H.a1 (Nat.le_succ _) hlo
 ·exact KY H.wt H.a2 (Nat.le_succ _) hlo
 ·refine⟨hbd.next.list,?_,?_,hbd.next.txs,hbd.tx1,hbd.next.outs,hbd.out1,hbd.next.mark,hbd.same⟩
  ·show(s.clauses++[s.list]).length≤_
   rw[hsl];have:=hbd.cls;omega
  ·intro x hx
   rcases List.mem_append.1 hx with hx | hx
   ·exact hbd.cl1 x hx
   ·simp at hx;subst hx;omega
 ·have hbB:Below B w0 w:=hb.trans (hbw.mono hB2)
  have hB3:B≤w.heap.size:=Nat.le_trans hB2 hbw.size
  exact((hbB.alloc hB3 o).grown hg3 (by simp;omega) (fun j hj=>(H.clt.lt j hj).1)).setCell (p:=⟨Wb,1,none⟩) H.base _
theorem Nh{w:World}{a b e e':Nat}{cs cs':Array Value}{fr fr':Nat × Nat}(ha:w.heap[a]?=some (.cells cs e fr))(hb:w.heap[b]?=some (.cells cs' e' fr'))(he:e≠e'):a≠b:=by
 intro eq
 subst eq
 rw[ha] at hb
 simp only[Option.some.injEq,Obj.cells.injEq] at hb
 exact he hb.2.1
theorem KJ{w:World}{B e s n:Nat}{v:Value}{xs:List Value}(h:w.ownsRow B e s v n xs)(b:Nat)(hb:v.ownBlock=some b):∃ cs fr,w.heap[b]?=some (.cells cs e fr):=by
 rcases h.2 with⟨rfl,_⟩ | ⟨g',cap,cur,rfl,_,hg,_⟩
 ·simp[Value.ownBlock] at hb
 ·simp only[Value.ownBlock,Option.some.injEq] at hb
  subst hb
  exact⟨_,_,hg⟩
theorem Dh{w:World}{B e s n:Nat}{v:Value}{xs:List Value}(h:w.ownsRow B e s v n xs)(b:Nat)(hb:v.ownBlock=some b):b<w.heap.size:=(h.lt b hb).2
theorem XE:(44:Nat)≠3:=by decide
theorem Zn:(44:Nat)≠24:=by decide
theorem bc:(3:Nat)≠24:=by decide
def SX.PC{P:DH}(q:SX P)(b:Nat):Prop:=b=q.d.cb∨q.d.vh.ownBlock=some b∨q.vg.ownBlock=some b
theorem SX.PC.j{P:DH}{q:SX P}{b:Nat}(h:q.PC b):q.J b:=by
 rcases h with h | h | h
 ·exact .inl h
 ·exact .inr (.inr (.inl h))
 ·exact .inr (.inl h)
def SX.more{P:DH}(q:SX P)(fx fy:Nat→Prop)(a9:Option Addr)(c9 q9:Nat)(a6:Option Addr)(c6:Nat)(xs:List Int):SX P :=
 { d:={ q.d with vg:=.slice a9 (q.given.length+1) c9,ah:=a6,ch:=c6,hv:=q.d.hv++[Ah xs],lits:=q.d.lits+AG (Ah xs),seen:=q.d.seen|||An (Ah xs) },s:=P.add q.s xs,fx:=fx,fy:=fy,ag:=a9,cg:=c9,vgs:=q.vgs++[.slice (some ⟨q9,0,none⟩) xs.length (xs.length+2)],given:=q.given++[xs] }
theorem Sw{P:DH}{w w5 w9:World}{B:Nat}{q:SX P}{fx fy:Nat→Prop}{a9 a6:Option Addr}{c9 q9 c6:Nat}{xs:List Int}(h:Ii w B q)(t:PA w w5 q (P.add q.s xs) fx fy)(c:CM q.PC w5 w9)(hq:w5.heap.size≤q9)(hx:xs.length≤100000)(hB:B≤w.heap.size)(hk:Aw xs q.d.lits=.takes)(hs:Ah xs<1048576)(hn:q.d.hv.length≤100000)
  (R:AY w9 q.d.cb 44 (q.more fx fy a9 c9 q9 a6 c6 xs).d.cells)
  (hv:w9.ownsRow B 3 1 (.slice a6 (q.d.hv.length+1) c6) (q.d.hv.length+1) (AO (A8 (q.d.hv++[Ah xs]))))
  (gv:w9.ownsRow B 24 1 (.slice a9 (q.given.length+1) c9) (q.given.length+1) (q.vgs++[.slice (some ⟨q9,0,none⟩) xs.length (xs.length+2)]))
  (hrow:AY w9 q9 3 (AO xs++Bx)) (l6:(Value.slice a6 (q.d.hv.length+1) c6).ownBlock=q.d.vh.ownBlock∨∃ k,w5.heap.size≤k∧k≠q9∧(Value.slice a6 (q.d.hv.length+1) c6).ownBlock=some k)
  (l9:(Value.slice a9 (q.given.length+1) c9).ownBlock=q.vg.ownBlock∨∃ k,w5.heap.size≤k∧(Value.slice a9 (q.given.length+1) c9).ownBlock=some k):Sm w w9 B q (q.more fx fy a9 c9 q9 a6 c6 xs) xs:=by
 have z5:=t.chg.size
 have kJ:=h.jAt t.chg
 have ltJ:∀ b,q.J b→b<w.heap.size:=fun b hb=>(h.ltJ hb).2
 have r5:w5.heap[q.d.cb]?=some (.cells q.d.cells.toArray 44 (0,0)):=(kJ _ (.inl rfl)).trans h.js.ji.blk
 have gv5:w5.ownsRow B 24 1 q.vg q.given.length q.vgs:=BV h.gv (fun b e=>kJ b (.inr (.inl e)))
 have ge5:Aq w5 B 3 q.vgs q.given:=h.ge.map (fun u hu _ _ ho=>BV ho (fun b e=>kJ b (.inr (.inr (.inr (.inr ⟨u,hu,e⟩))))))
 have lr5:w5.ownsRow B 3 1 q.d.vl q.d.lr.length (AO (A8 q.d.lr)):=BV h.js.ji.lr (fun b e=>kJ b (.inr (.inr (.inr (.inl e)))))
 have inew:∀ b,(fx b∨fy b)→(q.XY b∧¬ q.J b)∨(w.heap.size≤b∧b<w5.heap.size):=by
  intro b hb
  rcases hb with hb | hb
  ·have l:=P.lt t.x b hb
   exact(t.nx b hb).elim (fun e=>.inl ⟨.inl e,(h.fb b (.inl e)).2⟩) (fun e=>.inr ⟨e,l⟩)
  ·have l:=P.lt t.y b hb
   exact(t.ny b hb).elim (fun e=>.inl ⟨.inr e,(h.fb b (.inr e)).2⟩) (fun e=>.inr ⟨e,l⟩)
 have nPC:∀ b,(fx b∨fy b)→¬ q.PC b:=by
  intro b hb hp
  rcases inew b hb with⟨_,hj⟩ | ⟨h1,h2⟩
  ·exact hj hp.j
  ·have:=ltJ b hp.j;omega
 have X:=P.frame t.x (fun b hb=>c.block b (P.lt t.x b hb) (nPC b (.inl hb)))
 have Y:=P.frame t.y (fun b hb=>c.block b (P.lt t.y b hb) (nPC b (.inr hb)))
 have hnot:∀ {v:Value} {n:Nat} {zs:List Value},w5.ownsRow B 3 1 v n zs→Af v q.d.vh→∀ b,v.ownBlock=some b→¬ q.PC b:=by
  intro v n zs ho ha b e hp
  obtain⟨_,_,k1⟩:=KJ ho b e
  rcases hp with hp | hp | hp
  ·exact Nh k1 r5 XE.symm hp
  ·exact ha b e hp
  ·obtain⟨_,_,k2⟩:=KJ gv5 b hp
   exact Nh k1 k2 bc rfl
 have LR:w9.ownsRow B 3 1 q.d.vl q.d.lr.length (AO (A8 q.d.lr)):=BV lr5 (fun b e=>c.block b (Dh lr5 b e) (hnot lr5 (h.js.ap.symm) b e))
 have hold:Aq w9 B 3 q.vgs q.given:=ge5.map (fun u hu _ _ ho=>BV ho (fun b e=>c.block b (Dh ho b e) (hnot ho (h.gh u hu).1 b e)))
 have hnew:=Ji (B:=B) hrow (by omega) (by omega)
 have len6:(q.d.hv++[Ah xs]).length=q.d.hv.length+1:=Ar _ _
 have len9:(q.given++[xs]).length=q.given.length+1:=Ar _ _
 have o6:∀ b,(Value.slice a6 (q.d.hv++[Ah xs]).length c6).ownBlock=some b→(q.d.vh.ownBlock=some b)∨(w5.heap.size≤b∧b≠q9):=by
  intro b e
  rw[len6] at e
  rcases l6 with l | ⟨k,hk,hn,l⟩
  ·exact .inl (l ▸ e)
  ·rw[l,Option.some.injEq] at e;subst e;exact .inr ⟨hk,hn⟩
 have o9:∀ b,(Value.slice a9 (q.given++[xs]).length c9).ownBlock=some b→(q.vg.ownBlock=some b)∨w5.heap.size≤b:=by
  intro b e
  rw[len9] at e
  rcases l9 with l | ⟨k,hk,l⟩
  ·exact .inl (l ▸ e)
  ·rw[l,Option.some.injEq] at e;subst e;exact .inr hk
 have jnew:∀ b,(q.more fx fy a9 c9 q9 a6 c6 xs).J b→q.J b∨w5.heap.size≤b:=by
  intro b hb
  rcases hb with e | e | e | e | ⟨u,hu,e⟩
  ·exact .inl (.inl e)
  ·exact(o9 b e).imp (fun e=>.inr (.inl e)) id
  ·exact(o6 b e).imp (fun e=>.inr (.inr (.inl e))) (fun e=>e.1)
  ·exact .inl (.inr (.inr (.inr (.inl e))))
  ·rcases List.mem_append.1 hu with hu | hu
   ·exact .inl (.inr (.inr (.inr (.inr ⟨u,hu,e⟩))))
   ·simp only[List.mem_singleton] at hu
    subst hu
    simp only[Value.ownBlock,Option.some.injEq] at e
    right;omega
 have hvw:=(P.addV q.s xs h.ok).2
 have hvw2:(P.vw q.s).add xs={ P.vw q.s with hv:=(P.vw q.s).hv++[Ah xs],seen:=(P.vw q.s).seen|||An (Ah xs) }:=by
  unfold Vw.add
  rw[← h.e.lits,hk]
  rfl
 rw[hvw2] at hvw
 refine⟨⟨⟨⟨R,?_,LR,⟨?_,h.js.ji.top.2⟩,⟨?_,h.js.ji.len.2⟩⟩,?_,h.js.base⟩,?_,?_,hold.snoc hnew,?_,X,Y,?_,t.xy,(P.addV q.s xs h.ok).1,?_⟩,rfl,?_,?_,by show(q.d.hv++[Ah xs]).length≤_;omega,by show(q.given++[xs]).length≤_;omega,?_⟩
 ·show w9.ownsRow B 3 1 (.slice a6 (q.d.hv++[Ah xs]).length c6) (q.d.hv++[Ah xs]).length _
  rw[len6];exact hv
 ·intro x hx
  rcases List.mem_append.1 hx with hx | hx
  ·exact h.js.ji.top.1 x hx
  ·simp at hx;subst hx;exact hs
 ·show(q.d.hv++[Ah xs]).length≤_;omega
 ·intro b e e'
  rcases o6 b e with e6 | ⟨e6,_⟩
  ·exact h.js.ap b e6 e'
  ·have:=Dh lr5 b e';omega
 ·show Value.slice a9 (q.given.length+1) c9=.slice a9 (q.given++[xs]).length c9
  rw[len9]
 ·show w9.ownsRow B 24 1 (.slice a9 (q.given++[xs]).length c9) (q.given++[xs]).length _
  rw[len9];exact gv
 ·intro u hu
  rcases List.mem_append.1 hu with hu | hu
  ·refine⟨fun b e e'=>?_,(h.gh u hu).2⟩
   rcases o6 b e' with e6 | ⟨e6,_⟩
   ·exact(h.gh u hu).1 b e e6
   ·obtain⟨zs,hz⟩:=ge5.mem hu
    have:=Dh hz b e;omega
  ·simp only[List.mem_singleton] at hu
   subst hu
   refine⟨fun b e e'=>?_,fun b e e'=>?_⟩
   ·simp only[Value.ownBlock,Option.some.injEq] at e
    subst e
    rcases o6 q9 e' with e6 | ⟨_,e6⟩
    ·have:=ltJ q9 (.inr (.inr (.inl e6)));omega
    ·exact e6 rfl
   ·simp only[Value.ownBlock,Option.some.injEq] at e
    subst e
    have:=Dh lr5 q9 e';omega
 ·intro b hb
  rcases inew b hb with⟨h1,h2⟩ | ⟨h1,h2⟩
  ·refine⟨(h.fb b h1).1,fun hj=>?_⟩
   rcases jnew b hj with e | e
   ·exact h2 e
   ·have:=(h.lt (.inr h1:q.At b)).2;omega
  ·refine⟨by omega,fun hj=>?_⟩
   rcases jnew b hj with e | e
   ·have:=ltJ b e;omega
   ·omega
 ·show aA _ (P.vw (P.add q.s xs))
  rw[hvw]
  exact⟨h.e.r,h.e.h,h.e.l,by show q.d.hv++_=_;rw[h.e.hv],by show q.d.lits+_=_;rw[h.e.lits];exact(FW _ _).symm,by show q.d.seen|||_=_;rw[h.e.seen],h.e.lr,h.e.held,h.e.log,h.e.unsat,h.e.pf⟩
 ·exact(t.chg.mono (fun _ _ hq=>.inr hq)).trans ⟨c.os,c.tape,c.output,c.size,fun k hk hn=>c.block k hk (fun hp=>hn (.inl hp.j))⟩
 ·intro b hb
  rcases hb with hb | hb
  ·exact(jnew b hb).imp .inl (fun e=>by omega)
  ·exact(inew b hb).imp (fun e=>.inr e.1) (fun e=>e.1)
 ·intro g hg
  rcases List.mem_append.1 hg with hg | hg
  ·exact .inl hg
  ·simp only[List.mem_singleton] at hg;exact .inr hg
end Go.Proofs.YthboeppmlhbofaaGreatDoor
