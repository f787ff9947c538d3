import Derived.Test.YthboeppmlhbofaaGreatDoorTrn
import Derived.Deep.RegionLaw
namespace Go.Proofs.YthboeppmlhbofaaGreatDoor
open Go.RowKit Txt
set_option maxRecDepth 100000
set_option maxHeartbeats 8000000 in
theorem Sx(P:DH)(B:Nat)(q:SX P)(a:Option Addr)(c:Nat)(xs:List Int)(w:World)(h:Ii w B q)(hi:AS w a xs)(hd:∀ g,a=some g→¬ q.At g.block)(hx:xs.length≤100000)(hB:B≤w.heap.size)(hn:q.d.hv.length≤100000)(hgl:q.given.length≤100000)(hk:Aw xs q.d.lits=.takes) :
  Calls Tryz.prog 18 #[.pointer (some ⟨q.d.cb,0,none⟩),.slice a xs.length c] w fun e w'=>e=.returned (.bool true)∧∃ q',Sm w w' B q q' xs:=by
 have hbd:=P.bd h.ok
 have hlits:q.d.lits=Ad (P.vw q.s).hv:=h.e.lits
 have hll:q.d.lits≤150:=by rw[hlits];exact hbd.lits
 have hsn:q.d.seen<1048576:=by rw[h.e.seen];exact hbd.seen
 have hnv:(P.vw q.s).hv.length≤1000000:=by rw[← h.e.hv];omega
 have HSP:Hid (∀ w',AS w' a xs→Calls Tryz.prog 24 #[.slice a xs.length c] w' fun e w''=>e=.returned (.slice (some ⟨w'.heap.size,0,none⟩) xs.length (xs.length+2))∧AY w'' w'.heap.size 3 (AO xs++Bx)∧Below w'.heap.size w' w''):=fun w' hi=>IB a c xs w' (by omega) hi
 have HTK:Hid (∀ w',AS w' a xs→Calls Tryz.prog 32 #[.slice a xs.length c,.int .i64 q.d.lits] w' fun e w''=>e=.returned (.tuple #[.int .i64 (Ah xs:Nat),.bool true,.int .i64 0])∧w''=w'):=fun w' hi=>by
  have:=Ll a c xs q.d.lits w' (by omega) (by omega) hi
  rw[hk] at this
  exact this
 have HAD:Hid (∀ (w':World) (g k:Nat) (F:Nat→Prop),P.At w' g q.s F→AS w' (some ⟨k,0,none⟩) xs→¬ F k→Calls Tryz.prog 30 #[.pointer (some ⟨g,0,none⟩),.slice (some ⟨k,0,none⟩) xs.length (xs.length+2)] w' fun e w''=>e=.returned (.int .i64 0)∧Z9 P.At F w' w'' g (P.add q.s xs) fun _=>True):=fun w' g k F h1 h2 h3=>by
  have:=P.addC (some ⟨k,0,none⟩) (xs.length+2) xs h1 h.ok h2 (fun ad e=>by simp only[Option.some.injEq] at e;subst e;exact h3) hx hnv
  rw[← hlits,hk] at this
  exact this
 have HND:=AB hd
 have HI:=AB hi
 have H:=AB h
 have HK:=AB hk
 have HNM:Hid (∀ n w,Calls Tryz.prog 33 #[.int .i64 n] w fun e w'=>e=.returned (.int .i64 n)∧w'=w):=fun n w=>G8 n w
 clear hd hi h hk hbd hlits hnv
 go_enter Tryz.func18,Tryz.ntmps18
 go_wp2_with fail
 refine(AE HSP _ HI.out).mono ?_
 rintro e w1 ⟨rfl,hr1,hb1⟩
 have HR1:=AB hr1
 have HB1:=AB hb1
 have c0:w1.cell? ⟨q.d.cb,0,none⟩=some (.pointer (some ⟨q.d.gx,0,none⟩)):=((AF H.out.js.ji.blk hb1).cell 0).trans rfl
 have hxl:∀ b,q.fx b→b<w.heap.size:=P.lt H.out.x
 have HA:=AB (HAD.out w1 q.d.gx w.heap.size q.fx (P.below H.out.x hb1) (EE xs w1 _ hr1) (fun hq=>by have:=hxl _ hq;omega))
 clear hr1 hb1
 go_wp2_with fail
 refine(AE HA).mono ?_
 rintro e w2 ⟨rfl,fx',x2,k2,l2,_⟩
 have hq1:w.heap.size<w1.heap.size:=HR1.out.lt
 have hr2:AY w2 w.heap.size 3 (AO xs++Bx):=(k2.block _ hq1 (fun hq=>by have:=hxl _ hq;omega)).trans HR1.out
 have ch2:CM q.fx w w2:=(CM.of HB1.out).trans ⟨k2.os,k2.tape,k2.output,k2.size,k2.block⟩
 have hi2:=Dk HI.out ch2 (fun g e hq=>HND.out g e (.inr (.inl hq)))
 have HST:=AB (IC w.heap.size a c xs w2 (by omega) hr2 hi2)
 have CH2:=AB ch2
 have K2:=AB k2
 have X2:=AB x2
 have L2:=AB l2
 clear hr2 ch2 hi2 k2 x2 l2 HA c0
 go_wp2_with fail
 refine(AE HST).mono ?_
 rintro e w3 ⟨rfl,g3⟩
 have ch3:CM q.fx w w3:=CH2.out.grown g3 (fun b e=>.inr (by simp only[Option.some.injEq] at e;omega))
 have hi3:=Dk HI.out ch3 (fun g e hq=>HND.out g e (.inr (.inl hq)))
 have CH3:=AB ch3
 have HI3:=AB hi3
 have G3:=AB g3
 clear ch3 hi3 g3 HST CH2
 go_wp2_with fail
 refine(AE HSP _ HI3.out).mono ?_
 rintro e w4 ⟨rfl,hr4,hb4⟩
 have ch4:CM q.fx w w4:=CH3.out.below hb4
 have r4:AY w4 q.d.cb 44 q.d.cells:=(ch4.block _ H.out.js.ji.blk.lt (fun hq=>(H.out.fb _ (.inl hq)).2 (.inl rfl))).trans H.out.js.ji.blk
 have c1:w4.cell? ⟨q.d.cb,1,none⟩=some (.pointer (some ⟨q.d.gy,0,none⟩)):=(r4.cell 1).trans rfl
 have hyl:∀ b,q.fy b→b<w.heap.size:=P.lt H.out.y
 have hz3:w.heap.size≤w3.heap.size:=CH3.out.size
 have HA:=AB (HAD.out w4 q.d.gy w3.heap.size q.fy (H.out.yAt ch4) (EE xs w4 _ hr4) (fun hq=>by have:=hyl _ hq;omega))
 have HB4:=AB hb4
 clear hr4 hb4 ch4 r4
 go_wp2_with fail
 refine(AE HA).mono ?_
 rintro e w5 ⟨rfl,fy',y5,k5,l5,_⟩
 have T:=AB (db H.out HB1.out rfl hq1 X2.out K2.out L2.out G3.out HB4.out y5 k5 l5)
 have hi5:=Dk HI.out T.out.chg (fun g e hq=>HND.out g e (.inr hq))
 have HI5:=AB hi5
 have kJ:=H.out.jAt T.out.chg
 have R5:Hid (AY w5 q.d.cb 44 q.d.cells):=(kJ _ (.inl rfl)).trans H.out.js.ji.blk
 have hv5:Hid (w5.ownsRow B 3 1 q.d.vh q.d.hv.length (AO (A8 q.d.hv))):=BV H.out.js.ji.hv (fun b e=>kJ b (.inr (.inr (.inl e))))
 have gv5:Hid (w5.ownsRow B 24 1 q.vg q.given.length q.vgs):=BV H.out.gv (fun b e=>kJ b (.inr (.inl e)))
 have HVG:=AB H.out.vgE
 clear kJ
 have d6:w5.cell? ⟨q.d.cb,6,none⟩=some (.slice q.d.ah q.d.hv.length q.d.ch):=(R5.out.cell 6).trans rfl
 have d7:w5.cell? ⟨q.d.cb,7,none⟩=some (.int .i64 q.d.lits):=(R5.out.cell 7).trans rfl
 have hlt5:q.d.cb<w5.heap.size:=R5.out.lt
 have hB5:B≤w5.heap.size:=Nat.le_trans hB T.out.chg.size
 have hsl:Ah xs<2^20:=by
  have:xs.all AT=true:=by
   have hq:=HK.out
   unfold Aw at hq
   split at hq
   ·assumption
   ·simp at hq
  exact(CT.set xs this).top
 obtain⟨i0,hi0,hz0,hz1,hz2⟩:=info_parts Tryz.infoInt
 obtain⟨i1,gi,gz0,gz1,gz2⟩:=info_parts Tryz.infoInts
 have d1:Hid (q.d.hv.length+1≤maxLen):=by show _≤_;unfold maxLen;omega
 have d2:Hid ((q.d.hv.length+1)*8≤140737488355328):=by show _≤_;omega
 have d3:Hid (q.given.length+1≤maxLen):=by show _≤_;unfold maxLen;omega
 have d4:Hid ((q.given.length+1)*24≤140737488355328):=by show _≤_;omega
 clear y5 k5 l5 hi5 HA c1 K2 X2 L2 G3 HB4 CH3 HI3 HB1 HR1 HAD
 go_wp2_with (first
  | (go_at_call 32;refine(AE HTK _ HI5.out).mono ?_;rintro e w' ⟨rfl,hw⟩;obtain rfl:=hw.symm)
  | (go_at_call 33;refine(AE HNM _ _).mono ?_;rintro e w' ⟨rfl,hw⟩;obtain rfl:=hw.symm)
  | (at_builtin;refine Ap _ rfl (.tmp 60) (.tmp 62) 24 rfl B 3 i0 (.int .i64 0) 8 Tryz.undInts hi0 hz0 hz1 hz2 rfl (.slice q.d.ah q.d.hv.length q.d.ch) q.d.hv.length (AO (A8 q.d.hv)) rfl (hv5.out.alloc _) ⟨w5.heap.size,0,none⟩ 1 1 [.int .i64 (Ah xs:Nat)] rfl rfl (AH w5 [.int .i64 (Ah xs:Nat)] 3) (by intro u hu;simp at hu;subst hu;rfl) (by decide) d1.out d2.out (by simp;omega) (w5.heap.size+1) (by simp) ?_;intro a6 c6 w6 hown6 hg6 hl6;
        have R6:Hid (AY w6 q.d.cb 44 q.d.cells):=BG (AF R5.out ((Below.refl _ _).alloc (Nat.le_refl _) _)) (hv5.out.alloc _) XE.symm hg6;
        have HO6:=AB hown6;have HG6:=AB hg6;have HL6:=AB hl6;clear hown6 hg6 hl6;
        have g6:w6.cell? ⟨q.d.cb,6,none⟩=some (.slice q.d.ah q.d.hv.length q.d.ch):=(R6.out.cell 6).trans rfl;
        have g6':=R6.out.frozen 6))
 have r7:AY (w6.setCell ⟨q.d.cb,6,none⟩ (.slice a6 (q.d.hv.length+1) c6)) q.d.cb 44 (q.d.cells.set 6 (.slice a6 (q.d.hv.length+1) c6)):=R6.out.set 6 _
 have o7:(w6.setCell ⟨q.d.cb,6,none⟩ (.slice a6 (q.d.hv.length+1) c6)).ownsRow B 3 1 (.slice a6 (q.d.hv.length+1) c6) (q.d.hv.length+1) (AO (A8 q.d.hv)++[.int .i64 (Ah xs:Nat)]):=Ae R6.out 6 _ XE.symm HO6.out
 have v7:(w6.setCell ⟨q.d.cb,6,none⟩ (.slice a6 (q.d.hv.length+1) c6)).ownsRow B 24 1 q.vg q.given.length q.vgs:=Ae R6.out 6 _ Zn.symm (Aj (gv5.out.alloc _) HG6.out (AL bc.symm gv5.out hv5.out))
 have ch7:CM q.PC w5 (w6.setCell ⟨q.d.cb,6,none⟩ (.slice a6 (q.d.hv.length+1) c6)):=((CM.of ((Below.refl _ _).alloc (Nat.le_refl _) _)).grown HG6.out (fun b e=>.inl (.inr (.inl e)))).set q.d.cb 6 _ (.inl (.inl rfl))
 have hz7:w5.heap.size+1<(w6.setCell ⟨q.d.cb,6,none⟩ (.slice a6 (q.d.hv.length+1) c6)).heap.size∨(Value.slice a6 (q.d.hv.length+1) c6).ownBlock=q.d.vh.ownBlock:=by
  rcases DT (N:=q.d.hv.length+1) HL6.out with e | e
  ·exact .inr e
  ·exact .inl (Dh o7 _ e)
 have HZ7:=AB hz7
 have R7:=AB r7
 have O7:=AB o7
 have V7:=AB v7
 have CH7:=AB ch7
 have HI7:=AB (Dk HI5.out ch7 (fun g e hq=>HND.out g e (.inl hq.j)))
 have LO6:=AB (DT (N:=q.d.hv.length+1) HL6.out)
 clear r7 o7 v7 ch7 hz7 g6 g6' R6 HO6 HG6 HL6 hv5 gv5 d6 d7 HTK HNM
 generalize w6.setCell ⟨q.d.cb,6,none⟩ (.slice a6 (q.d.hv.length+1) c6)=w7 at *
 have f5:w7.cell? ⟨q.d.cb,5,none⟩=some (.slice q.ag q.given.length q.cg):=((R7.out.cell 5).trans (rfl:_=some q.d.vg)).trans (congrArg some HVG.out)
 have hlt7:q.d.cb<w7.heap.size:=R7.out.lt
 have hB7:B≤w7.heap.size:=Nat.le_trans hB5 CH7.out.size
 have hri:Hid (AS w7.drew a xs):=by
  show AS _ _ _
  exact HI7.out.kept fun _ _ _ h=>h
 go_region_law (
  first
  | (refine DZ _ rfl (.tmp 70) (.tmp 73) 30 rfl B 24 i1 (.slice none 0 0) 24 Tryz.undLists gi gz0 gz1 gz2 rfl (.slice q.ag q.given.length q.cg) q.given.length q.vgs rfl (V8.out.alloc _) ⟨w8.heap.size,0,none⟩ 1 1 [.slice (some ⟨w7.heap.size,0,none⟩) xs.length (xs.length+2)] rfl rfl (AH w8 [.slice (some ⟨w7.heap.size,0,none⟩) xs.length (xs.length+2)] 24) (by intro u hu;simp at hu;subst hu;rfl) (by decide) d3.out d4.out (by simp;omega) (w8.heap.size+1) (by simp) ?_;intro a9 c9 w9 hown9 hg9 hl9;
        have HO9:=AB hown9;have HG9:=AB hg9;have LO9:=AB (DT (N:=q.given.length+1) hl9);clear hown9 hg9 hl9;
        have R9:Hid (AY w9 q.d.cb 44 (q.d.cells.set 6 (.slice a6 (q.d.hv.length+1) c6))):=BG (AF R8.out ((Below.refl _ _).alloc (Nat.le_refl _) _)) (V8.out.alloc _) Zn.symm HG9.out;
        have g2:w9.cell? ⟨q.d.cb,5,none⟩=some (.slice q.ag q.given.length q.cg):=((R9.out.cell 5).trans (rfl:_=some q.d.vg)).trans (congrArg some HVG.out);
        have g2':=R9.out.frozen 5)
  | (go_simp;go_at_call 24;refine(AE HSP _ hri.out).mono ?_;rintro e w8 ⟨rfl,hrow8,hb8⟩;
        have HRW:Hid (AY w8 w7.heap.size 3 (AO xs++Bx)):=hrow8;
        have HB8:Hid (Below w7.heap.size w7 w8):=(below_drewN (Below.refl _ _) 1).trans hb8;
        have R8:=AB (AF R7.out HB8.out);
        have V8:Hid (w8.ownsRow B 24 1 q.vg q.given.length q.vgs):=AK V7.out HB8.out;
        have hz8:w7.heap.size≤w8.heap.size:=HB8.out.size;
        have k1:w8.cell? ⟨q.d.cb,5,none⟩=some (.slice q.ag q.given.length q.cg):=((R8.out.cell 5).trans (rfl:_=some q.d.vg)).trans (congrArg some HVG.out);
        have k1a:∀ o,(w8.alloc o).cell? ⟨q.d.cb,5,none⟩=some (.slice q.ag q.given.length q.cg):=fun o=>(((Below.refl w8.heap.size w8).alloc (Nat.le_refl _) o).cell (p:=⟨q.d.cb,5,none⟩) (show q.d.cb<w8.heap.size by omega)).trans k1;
        clear hrow8 hb8;go_wp2_with fail))
 all_goals
  have r10:AY (w9.setCell ⟨q.d.cb,5,none⟩ (.slice a9 (q.given.length+1) c9)) q.d.cb 44 ((q.d.cells.set 6 (.slice a6 (q.d.hv.length+1) c6)).set 5 (.slice a9 (q.given.length+1) c9)):=R9.out.set 5 _
  have hap:Af (.slice a6 (q.d.hv.length+1) c6) q.vg:=AL bc O7.out V7.out
  have o8:=AK O7.out HB8.out
  have o10:(w9.setCell ⟨q.d.cb,5,none⟩ (.slice a9 (q.given.length+1) c9)).ownsRow B 3 1 (.slice a6 (q.d.hv.length+1) c6) (q.d.hv.length+1) (AO (A8 q.d.hv)++[.int .i64 (Ah xs:Nat)]):=Ae R9.out 5 _ XE.symm (Aj (o8.alloc _) HG9.out hap)
  have v10:(w9.setCell ⟨q.d.cb,5,none⟩ (.slice a9 (q.given.length+1) c9)).ownsRow B 24 1 (.slice a9 (q.given.length+1) c9) (q.given.length+1) (q.vgs++[.slice (some ⟨w7.heap.size,0,none⟩) xs.length (xs.length+2)]):=Ae R9.out 5 _ Zn.symm HO9.out
  have ch10:CM q.PC w5 (w9.setCell ⟨q.d.cb,5,none⟩ (.slice a9 (q.given.length+1) c9)):=(((CH7.out.below HB8.out).below ((Below.refl _ _).alloc (Nat.le_refl _) _)).grown HG9.out (fun b e=>.inl (.inr (.inr e)))).set q.d.cb 5 _ (.inl (.inl rfl))
  have hne:q.d.cb≠w7.heap.size:=by omega
  have w10:AY (w9.setCell ⟨q.d.cb,5,none⟩ (.slice a9 (q.given.length+1) c9)) w7.heap.size 3 (AO xs++Bx):=by
   have q1:=HRW.out.lt
   refine(Below.heap_setCell w9 ⟨q.d.cb,5,none⟩ _ w7.heap.size (fun e=>hne e.symm)).trans ((HG9.out.block w7.heap.size (by simp;omega) (fun e=>?_)).trans ((heap_alloc_old w8 _ q1).trans HRW.out))
   have:=Dh V7.out _ e.symm
   omega
  have L9:Hid ((Value.slice a9 (q.given.length+1) c9).ownBlock=q.vg.ownBlock∨∃ k,w5.heap.size≤k∧(Value.slice a9 (q.given.length+1) c9).ownBlock=some k):=LO9.out.imp id (fun e=>⟨_,by have:=CH7.out.size;omega,e⟩)
  have R10:=AB r10
  have O10:=AB o10
  have V10:=AB v10
  have CH10:=AB ch10
  have W10:=AB w10
  clear r10 hap o8 o10 v10 ch10 w10 R9 HG9 HO9 LO9 g2 g2' R8 V8 k1 k1a HB8 HRW f5
  generalize w9.setCell ⟨q.d.cb,5,none⟩ (.slice a9 (q.given.length+1) c9)=wA at *
  have HS:Hid (∀ w,Calls Tryz.prog 34 #[.int .i64 (Ah xs:Nat)] w fun e w'=>e=.returned (.int .i64 (AG (Ah xs):Nat))∧w'=w):=fun w=>Fu (Ah xs) hsl w
  have HV:Hid (∀ w,Calls Tryz.prog 35 #[.int .i64 (Ah xs:Nat)] w fun e w'=>e=.returned (.int .i64 (An (Ah xs):Nat))∧w'=w):=fun w=>LQ (Ah xs) hsl w
  have hsz:=Cw (Ah xs)
  have hvl:=Ec (Ah xs)
  have ho:=IU q.d.seen (An (Ah xs)) (by omega) (by omega)
  have p7:wA.cell? ⟨q.d.cb,7,none⟩=some (.int .i64 q.d.lits):=(R10.out.cell 7).trans rfl
  have p7':=R10.out.frozen 7
  have hwrap:IntKind.i64.wrap ((q.d.lits:Int)+(AG (Ah xs):Nat))=(q.d.lits:Int)+(AG (Ah xs):Nat):=by rw[IntKind.wrap_i64];omega
  go_wp2_with fail
  go_region_with (go_at_call 34;refine(AE HS _).mono ?_;rintro e w' ⟨rfl,rfl⟩)
  all_goals
   have R11:Hid (AY (wA.setCell ⟨q.d.cb,7,none⟩ (.int .i64 ((q.d.lits:Int)+(AG (Ah xs):Nat)))).drew q.d.cb 44 (((q.d.cells.set 6 (.slice a6 (q.d.hv.length+1) c6)).set 5 (.slice a9 (q.given.length+1) c9)).set 7 (.int .i64 ((q.d.lits:Int)+(AG (Ah xs):Nat))))):=R10.out.set 7 _
   have HB11:Hid (∀ b,b≠q.d.cb→(wA.setCell ⟨q.d.cb,7,none⟩ (.int .i64 ((q.d.lits:Int)+(AG (Ah xs):Nat)))).drew.heap[b]?=wA.heap[b]?):=fun b hb=>Below.heap_setCell wA ⟨q.d.cb,7,none⟩ _ b hb
   have CH11:Hid (CM q.PC w5 (wA.setCell ⟨q.d.cb,7,none⟩ (.int .i64 ((q.d.lits:Int)+(AG (Ah xs):Nat)))).drew):=(CH10.out.set q.d.cb 7 _ (.inl (.inl rfl))).below (below_drewN (Below.refl _ _) 1)
   generalize (wA.setCell ⟨q.d.cb,7,none⟩ (.int .i64 ((q.d.lits:Int)+(AG (Ah xs):Nat)))).drew=wB at *
   have p8:wB.cell? ⟨q.d.cb,8,none⟩=some (.int .i64 q.d.seen):=(R11.out.cell 8).trans rfl
   have p8':=R11.out.frozen 8
   clear p7 p7'
   go_wp2_with fail
   go_region_with (go_at_call 35;refine(AE HV _).mono ?_;rintro e w' ⟨rfl,rfl⟩)
   all_goals
    have R12:Hid (AY (wB.setCell ⟨q.d.cb,8,none⟩ (.int .i64 (q.d.seen|||An (Ah xs):Nat))).drew q.d.cb 44 ((((q.d.cells.set 6 (.slice a6 (q.d.hv.length+1) c6)).set 5 (.slice a9 (q.given.length+1) c9)).set 7 (.int .i64 ((q.d.lits:Int)+(AG (Ah xs):Nat)))).set 8 (.int .i64 (q.d.seen|||An (Ah xs):Nat)))):=R11.out.set 8 _
    have HB12:Hid (∀ b,b≠q.d.cb→(wB.setCell ⟨q.d.cb,8,none⟩ (.int .i64 (q.d.seen|||An (Ah xs):Nat))).drew.heap[b]?=wA.heap[b]?):=fun b hb=>(Below.heap_setCell wB ⟨q.d.cb,8,none⟩ _ b hb).trans (HB11.out b hb)
    have CH12:Hid (CM q.PC w5 (wB.setCell ⟨q.d.cb,8,none⟩ (.int .i64 (q.d.seen|||An (Ah xs):Nat))).drew):=(CH11.out.set q.d.cb 8 _ (.inl (.inl rfl))).below (below_drewN (Below.refl _ _) 1)
    generalize (wB.setCell ⟨q.d.cb,8,none⟩ (.int .i64 (q.d.seen|||An (Ah xs):Nat))).drew=wC at *
    have e7:((q.d.lits:Int)+(AG (Ah xs):Nat))=((q.d.lits+AG (Ah xs):Nat):Int):=by omega
    have rf:AY wC q.d.cb 44 (q.more fx' fy' a9 c9 w7.heap.size a6 c6 xs).d.cells:=by
     have:=R12.out
     rw[e7] at this
     simp only[SE.cells,SX.more,Ar]
     simp only[SE.cells,HVG.out] at this
     exact this
    have vf:wC.ownsRow B 24 1 (.slice a9 (q.given.length+1) c9) (q.given.length+1) (q.vgs++[.slice (some ⟨w7.heap.size,0,none⟩) xs.length (xs.length+2)]):=BV V10.out (fun b e=>HB12.out b (by
     obtain⟨_,_,qq⟩:=KJ V10.out b e
     exact Nh qq R10.out Zn.symm))
    have of:wC.ownsRow B 3 1 (.slice a6 (q.d.hv.length+1) c6) (q.d.hv.length+1) (AO (A8 q.d.hv)++[.int .i64 (Ah xs:Nat)]):=BV O10.out (fun b e=>HB12.out b (by
     obtain⟨_,_,qq⟩:=KJ O10.out b e
     exact Nh qq R10.out XE.symm))
    have wf:AY wC w7.heap.size 3 (AO xs++Bx):=(HB12.out _ (fun e=>hne e.symm)).trans W10.out
    have l6:(Value.slice a6 (q.d.hv.length+1) c6).ownBlock=q.d.vh.ownBlock∨∃ k,w5.heap.size≤k∧k≠w7.heap.size∧(Value.slice a6 (q.d.hv.length+1) c6).ownBlock=some k:=by
     rcases LO6.out with e | e
     ·exact .inl e
     ·rcases HZ7.out with hz | e'
      ·exact .inr ⟨_,by omega,by omega,e⟩
      ·exact .inl e'
    have HN:=AB (Sw H.out T.out CH12.out CH7.out.size hx hB HK.out hsl hn rf (by rw[show AO (A8 (q.d.hv++[Ah xs]))=AO (A8 q.d.hv)++[Value.int .i64 ((Ah xs:Nat):Int)] by simp[AO,A8]];exact of) vf wf l6 L9.out)
    have c0:wC.cell? ⟨q.d.cb,0,none⟩=some (.pointer (some ⟨q.d.gx,0,none⟩)):=(rf.cell 0).trans rfl
    have HRD:=AB (DL P (q.more fx' fy' a9 c9 w7.heap.size a6 c6 xs).d q.d.gx (P.add q.s xs) fx' wC rf HN.out.i.x HN.out.i.ok HN.out.i.e (by show(q.d.hv++[Ah xs]).length≤_;rw[Ar];omega))
    clear rf vf of wf l6 R12 HB12 CH12 R11 HB11 CH11 p8 p8' HS HV
    go_wp2_with fail
    refine(AE HRD).mono ?_
    rintro e wD ⟨rfl,hbD⟩
    have HND':=AB (HN.out.below hbD)
    clear hbD
    go_wp2
    rename_i vq hvq
    cases hvq
    go_ret
    exact⟨rfl,_,HND'.out⟩
end Go.Proofs.YthboeppmlhbofaaGreatDoor
