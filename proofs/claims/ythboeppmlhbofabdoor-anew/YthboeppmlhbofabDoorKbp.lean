import Derived.Test.YthboeppmlhbofabDoorKbg
import Derived.Test.YthboeppmlhbofabDoorLad
namespace Go.Proofs.YthboeppmlhbofabDoor
open Go.RowKit Txt
set_option maxRecDepth 100000
theorem Duo.moreP{P:Prg}{w wr:World}{g1 g2:Nat}{s1 s2:P.S}{F1 F2 K:Nat→Prop}(h:Duo P w wr g1 g2 s1 s2 F1 F2 K)(K2:Nat→Prop)(hk:∀ b,K2 b→¬ F1 b∧¬ F2 b∧b<wr.heap.size):Duo P w wr g1 g2 s1 s2 F1 F2 (fun b=>K b∨K2 b) :=
 ⟨h.x1,h.x2,h.b1,h.b2,h.d12,fun b q=>q.elim (h.k1 b) (fun e=>(hk b e).1),fun b q=>q.elim (h.k2 b) (fun e=>(hk b e).2.1),fun b q=>q.elim (h.kl b) (fun e=>(hk b e).2.2),h.bel⟩
theorem solve_list(P:Prg){w:World}{g:Nat}{s:P.S}{F:Nat→Prop}(h:P.At w g s F)(ok:P.Ok s)(hn:(P.vw s).hv.length≤1000)(ht:Tab w)(h0:0<w.heap.size)(hF:¬ F 0){b0:Nat}{a:Option Addr}{c:Nat}{xs:List Int}(ho:w.ownsRow b0 3 1 (.slice a xs.length c) xs.length (i64s xs))(hd:∀ q,F q→(Value.slice a xs.length c).ownBlock≠some q)(hx:xs.length≤1000)(b:Int) :
  Calls Tryd.prog 13 #[.pointer (some ⟨g,0,none⟩),.slice a xs.length c,.int .i64 b] w fun e w'=>∃ p:A3,e=.returned (.tuple #[.agg #[.int .i64 (P.ans s xs b).st,.int .i64 (P.ans s xs b).re,.slice p.a1 (P.ans s xs b).vs.length p.c1,.slice p.a2 (P.ans s xs b).co.length p.c2,.slice p.a3 (P.ans s xs b).cl.length p.c3],.int .i64 (askedD xs b)]) ∧
   ∃ F',P.At w' g (P.slv s xs b) F'∧Chn F w w'∧(∀ q,F' q→F q∨w.heap.size≤q):=by
 refine(solve_own P h ok hn ht h0 hF ho hd hx b).mono ?_
 rintro e w' ⟨p,he,_,F',x,c,n,_⟩
 exact⟨p,he,F',x,c,n⟩
structure RdM(P:Prg)(w:World)(g1 g2:Nat)(r:Int)(tk:List (List Int))(SB T1 T2:Nat)(ra rb:List Value)(K:Nat→Prop)(a4:Option Addr)(c4:Nat)(l:List Int)(k:Nat)(wr:World)(s1 s2:P.S)(F1 F2:Nat→Prop):Prop where
 duo:Duo P w wr g1 g2 s1 s2 F1 F2 K
 rm:Rmy P tk k s1
 rd:Rdc P r tk s2
 st:Row wr SB 54 [.int .i64 r,.int .i64 1048576,.int .i64 1048576]
 t1:Row wr T1 26 ra
 t2:Row wr T2 26 rb
 own:wr.ownsRow w.heap.size 3 1 (.slice a4 l.length c4) l.length (i64s l)
 kk:K SB∧K T1∧K T2∧∀ b,(Value.slice a4 l.length c4).ownBlock=some b→K b
 lit:l.all litB=true
 len:l.length≤12
theorem RdM.below{P:Prg}{w:World}{g1 g2:Nat}{r:Int}{tk:List (List Int)}{SB T1 T2:Nat}{ra rb:List Value}{K:Nat→Prop}{a4:Option Addr}{c4:Nat}{l:List Int}{k:Nat}{wr wz:World}{s1 s2:P.S}{F1 F2:Nat→Prop}(h:RdM P w g1 g2 r tk SB T1 T2 ra rb K a4 c4 l k wr s1 s2 F1 F2)(hb:Below wr.heap.size wr wz):RdM P w g1 g2 r tk SB T1 T2 ra rb K a4 c4 l k wz s1 s2 F1 F2 :=
 ⟨h.duo.below hb,h.rm,h.rd,row_below h.st hb,row_below h.t1 hb,row_below h.t2 hb,own_below h.own hb,h.kk,h.lit,h.len⟩
theorem RdM.call1{P:Prg}{w:World}{g1 g2:Nat}{r:Int}{tk:List (List Int)}{SB T1 T2:Nat}{ra rb:List Value}{K:Nat→Prop}{a4:Option Addr}{c4:Nat}{l:List Int}{k k':Nat}{wr w':World}{s1 s2 s':P.S}{F1 F2 F':Nat→Prop}(h:RdM P w g1 g2 r tk SB T1 T2 ra rb K a4 c4 l k wr s1 s2 F1 F2)(x:P.At w' g1 s' F')(c:Chn F1 wr w')(n:∀ b,F' b→F1 b∨wr.heap.size≤b)(hs:Rmy P tk k' s'):RdM P w g1 g2 r tk SB T1 T2 ra rb K a4 c4 l k' w' s' s2 F' F2:=by
 obtain⟨d,q⟩:=h.duo.call1 x c n
 exact⟨d,hs,h.rd,row_keep h.st (q _ h.kk.1),row_keep h.t1 (q _ h.kk.2.1),row_keep h.t2 (q _ h.kk.2.2.1),own_keep h.own (fun b e=>q b (h.kk.2.2.2 b e)),h.kk,h.lit,h.len⟩
theorem RdM.call2{P:Prg}{w:World}{g1 g2:Nat}{r:Int}{tk:List (List Int)}{SB T1 T2:Nat}{ra rb:List Value}{K:Nat→Prop}{a4:Option Addr}{c4:Nat}{l:List Int}{k:Nat}{wr w':World}{s1 s2 s':P.S}{F1 F2 F':Nat→Prop}(h:RdM P w g1 g2 r tk SB T1 T2 ra rb K a4 c4 l k wr s1 s2 F1 F2)(x:P.At w' g2 s' F')(c:Chn F2 wr w')(n:∀ b,F' b→F2 b∨wr.heap.size≤b)(hs:Rdc P r tk s'):RdM P w g1 g2 r tk SB T1 T2 ra rb K a4 c4 l k w' s1 s' F1 F':=by
 obtain⟨d,q⟩:=h.duo.call2 x c n
 exact⟨d,h.rm,hs,row_keep h.st (q _ h.kk.1),row_keep h.t1 (q _ h.kk.2.1),row_keep h.t2 (q _ h.kk.2.2.1),own_keep h.own (fun b e=>q b (h.kk.2.2.2 b e)),h.kk,h.lit,h.len⟩
theorem RdM.put{P:Prg}{w:World}{g1 g2:Nat}{r:Int}{tk:List (List Int)}{SB T1 T2:Nat}{ra rb:List Value}{K:Nat→Prop}{b4 c4:Nat}{l:List Int}{k:Nat}{wr:World}{s1 s2:P.S}{F1 F2:Nat→Prop}(h:RdM P w g1 g2 r tk SB T1 T2 ra rb K (some ⟨b4,0,none⟩) c4 l k wr s1 s2 F1 F2)(hw:w.heap.size≤b4)(i:Nat)(v:Int)(hv:(l.set i v).all litB=true):RdM P w g1 g2 r tk SB T1 T2 ra rb K (some ⟨b4,0,none⟩) c4 (l.set i v) k (wr.setCell ⟨b4,i,none⟩ (.int .i64 v)) s1 s2 F1 F2:=by
 have hrow:∃ zs,Row wr b4 3 zs:=by
  rcases h.own.2 with⟨e,_⟩ | ⟨g,cap,cur,hv,_,hg,_⟩
  ·simp at e
  ·simp only[Value.slice.injEq,Option.some.injEq,Addr.mk.injEq] at hv
   obtain⟨⟨rfl,_⟩,_⟩:=hv
   exact⟨cur.toList,by unfold Row;rw[hg]⟩
 obtain⟨zs,hr⟩:=hrow
 have hl:(l.set i v).length=l.length:=by simp
 refine⟨h.duo.set (h.kk.2.2.2 b4 rfl) hw i _,h.rm,h.rd,row_other hr h.st (by decide) i _,row_other hr h.t1 (by decide) i _,row_other hr h.t2 (by decide) i _,?_,?_,hv,by rw[hl];exact h.len⟩
 ·rw[hl,i64s_set]
  exact(h.own.stored i (.int .i64 v)).1
 ·rw[hl];exact h.kk
theorem turn_num{x:Int}(h:litB x=true):wrap64 (-(Int.tmod x 10)+wrap64 (Int.tdiv x 10*3))=turnI x∧turnI x≠0:=by
 rcases lit_cases h with rfl|rfl|rfl|rfl|rfl|rfl|rfl|rfl|rfl|rfl|rfl|rfl|rfl|rfl|rfl|rfl|rfl|rfl|rfl|rfl <;> decide +kernel
set_option maxHeartbeats 8000000 in
theorem reduced_any(P:Prg)(a a2:Option Addr)(c c2:Nat)(A:Nat→Option Addr)(C:Nat→Nat)(cls:List (List Int))(xs:List Int)(z:Int)(w:World)(hr:RowsAt w a A C cls)(hcl:cls.length≤9223372036854775807)(_hcb:∀ c∈cls,∀ x∈c,-9223372036854775808≤x∧x≤9223372036854775807)(hi:IntsAt w a2 xs)(hx:xs.length≤9223372036854775807)(hxb:∀ x∈xs,-9223372036854775808≤x∧x≤9223372036854775807)(hz:-9223372036854775808≤z∧z≤9223372036854775807)(htab:Tab w)(h0:0<w.heap.size) :
  Calls Tryd.prog 9 #[.slice a cls.length c,.slice a2 xs.length c2,.int .i64 z] w fun e w'=>e=.returned (.bool true)∧Below w.heap.size w w':=by
 have HWD:Hid (∀ w',Below w.heap.size w w'→Calls Tryd.prog 10 #[.slice a cls.length c] w' (BegPost P w' (tkS P cls).1 (tkS P cls).2)):=fun w' hb=>widely_any P a c A C cls w' (rows_below hr hb) hcl
 have hpk:=pick_lt z 53 (by decide)
 have HPK:=hide (fun w=>pickG_any z 53 (by decide) (by decide) w hz.1 hz.2)
 generalize pickK z 53=pk at *
 have hset:settingsB (12+(pk:Int)) 1048576 1048576=true:=by
  unfold settingsB
  simp only[Bool.and_eq_true,Bool.or_eq_true,decide_eq_true_eq,beq_iff_eq]
  omega
 have HBG:Hid (∀ w',Below w.heap.size w w'→Calls Tryd.prog 26 #[.agg #[.int .i64 (12+(pk:Int)),.int .i64 1048576,.int .i64 1048576],.slice a cls.length c] w' (BegPost P w' (begL P (P.new (12+(pk:Int)) 1048576 1048576) (begC cls)).1 (begL P (P.new (12+(pk:Int)) 1048576 1048576) (begC cls)).2)):=fun w' hb=>begun_any P (12+(pk:Int)) 1048576 1048576 hset a c A C cls w' (rows_below hr hb) hcl
 have T:=tkS_ok P cls
 have U:=begL_ok (newTk P (12+(pk:Int)) 1048576 1048576 hset) (begC cls)
 have hse:(begL P (P.new (12+(pk:Int)) 1048576 1048576) (begC cls)).2=(tkS P cls).2:=beg_same (newTk P (12+(pk:Int)) 1048576 1048576 hset) (newTk P 0 1048576 1048576 (by decide)) (begC cls)
 have hl40:=tkS_len P cls
 have HLI:Hid (∀ w',Below w.heap.size w w'→Calls Tryd.prog 11 #[] w' fun e w''=>e=.returned (.bool true)∧Below w'.heap.size w' w''):=fun w' hb=>lives_any P w' (htab.below hb h0) (Nat.lt_of_lt_of_le h0 hb.size)
 have HWI:Hid (∀ w',Below w.heap.size w w'→Calls Tryd.prog 12 #[.slice a2 xs.length c2] w' fun e w''=>∃ a' c',e=.returned (.slice a' (wishL xs).length c')∧w''.ownsRow w'.heap.size 3 1 (.slice a' (wishL xs).length c') (wishL xs).length (i64s (wishL xs))∧Below w'.heap.size w' w''):=fun w' hb=>wishes_any a2 c2 xs w' (hi.below hb) hx hxb
 have hwl:=wishL_len xs
 have HWL:=hide (wishL_lits xs)
 have TB:=hide htab
 have HRM:=hide T.rmy
 have HRD:=hide (U.rdc (by omega))
 rw[hse] at HRD HBG
 have HHV:Hid ((hvOf (tkS P cls).2).length≤1000):=by
  have:=hvOf_len (tkS P cls).2
  show _≤_
  omega
 generalize tkS P cls=sk at *
 generalize (begL P (P.new (12+(pk:Int)) 1048576 1048576) (begC cls)).1=u0 at *
 generalize wishL xs=l0 at *
 clear hr hi hxb htab T U hse hz hset
 go_enter Tryd.func9,Tryd.ntmps9
 go_wp2_with fail
 refine(unhide HPK _).mono ?_
 rintro e w0' ⟨rfl,hw⟩
 obtain rfl:=hw.symm
 clear hw HPK
 have BS:=hide (al_below w (.cells #[.int .i64 (12+(pk:Int)),.int .i64 1048576,.int .i64 1048576] 54))
 have RS:Hid (Row (w.alloc (.cells #[.int .i64 (12+(pk:Int)),.int .i64 1048576,.int .i64 1048576] 54)) w.heap.size 54 [.int .i64 (12+(pk:Int)),.int .i64 1048576,.int .i64 1048576]):=heap_alloc_new w _
 have HW1:=hide (HWD.out _ BS.out)
 have hpk2:IntKind.i64.wrap (12+(pk:Int))=12+(pk:Int):=by rw[IntKind.wrap_i64];omega
 clear HWD
 go_wp2_with fail
 refine(unhide HW1).mono ?_
 generalize w.alloc (.cells #[.int .i64 (12+(pk:Int)),.int .i64 1048576,.int .i64 1048576] 54)=wa at *
 rintro e w1 ⟨g1,F1,ta1,tc1,vs1,rfl,X1,hb1⟩
 have hza:w.heap.size<wa.heap.size:=RS.out.lt
 have hbA:=al_below w1 (.cells #[.pointer (some ⟨g1,0,none⟩),.slice ta1 sk.2.length tc1,.bool true] 26)
 have RS1:=hide (row_below (row_below RS.out hb1) hbA)
 have HB2:=hide (HBG.out _ ((BS.out.trans (hb1.mono BS.out.size)).trans (hbA.mono (Nat.le_trans BS.out.size hb1.size))))
 have s0:=(RS1.out.cell 0).trans (show _=some (Value.int .i64 (12+(pk:Int))) from rfl)
 have s1:=(RS1.out.cell 1).trans (show _=some (Value.int .i64 1048576) from rfl)
 have s2:=(RS1.out.cell 2).trans (show _=some (Value.int .i64 1048576) from rfl)
 have X1H:=hide X1
 have B1H:=hide hb1
 clear HBG X1 hb1 hbA HW1 RS
 go_wp2_with fail
 refine(unhide HB2).mono ?_
 rintro e w2 ⟨g2,F2,ta2,tc2,vs2,rfl,X2,hb2⟩
 obtain⟨D2,R1,R2,_⟩:=duo_start (r1:=[.pointer (some ⟨g1,0,none⟩),.slice ta1 sk.2.length tc1,.bool true]) (r2:=[.pointer (some ⟨g2,0,none⟩),.slice ta2 sk.2.length tc2,.bool true]) rfl rfl BS.out X1H.out B1H.out X2 hb2
 have RS2:=row_below (row_below RS1.out hb2) (al_below w2 (.cells #[.pointer (some ⟨g2,0,none⟩),.slice ta2 sk.2.length tc2,.bool true] 26))
 have D3:=hide (D2.more (n:=w.heap.size) (fun q=>by have:=X1H.out.fb _ q;omega) (fun q=>by
  have h1:=X2.fb _ q
  have h2:wa.heap.size≤w1.heap.size:=B1H.out.size
  simp only[World.size_alloc] at h1
  omega) RS2.lt)
 have HL:=hide (HLI.out _ D2.bel)
 have R1H:=hide R1
 have R2H:=hide R2
 have RSH:=hide RS2
 clear HB2 X1H B1H X2 hb2 D2 R1 R2 RS2 HLI s0 s1 s2 RS1 BS
 go_wp2_with fail
 refine(unhide HL).mono ?_
 rintro e w4 ⟨rfl,hb4⟩
 have D4:=hide (D3.out.below hb4)
 have R1:=hide (row_below R1H.out hb4)
 have R2:=hide (row_below R2H.out hb4)
 have RS4:=hide (row_below RSH.out hb4)
 have f12:w4.cell? ⟨w1.heap.size,2,none⟩=some (.bool true):=(R1.out.cell 2).trans rfl
 have f22:w4.cell? ⟨w2.heap.size,2,none⟩=some (.bool true):=(R2.out.cell 2).trans rfl
 have HW5:=hide (HWI.out _ D4.out.bel)
 clear HL D3 R1H R2H RSH hb4 HWI
 go_wp2_with fail
 refine(unhide HW5).mono ?_
 rintro e w5 ⟨a4,c4,rfl,o5,hb5⟩
 have z4:w.heap.size≤w4.heap.size:=D4.out.bel.size
 have M5:Hid (RdM P w g1 g2 (12+(pk:Int)) sk.2 w.heap.size w1.heap.size w2.heap.size [.pointer (some ⟨g1,0,none⟩),.slice ta1 sk.2.length tc1,.bool true] [.pointer (some ⟨g2,0,none⟩),.slice ta2 sk.2.length tc2,.bool true] (fun b=>((b=w1.heap.size∨b=w2.heap.size∨TkB ta2 tc2 vs2 b)∨b=w.heap.size)∨(Value.slice a4 l0.length c4).ownBlock=some b) a4 c4 l0 0 w5 sk.1 u0 F1 F2) :=
  ⟨(D4.out.below hb5).moreP _ fun b q=>⟨fun e=>by have h1:=P.lt D4.out.x1 b e;have h2:=(o5.lt b q).1;omega,fun e=>by have h1:=P.lt D4.out.x2 b e;have h2:=(o5.lt b q).1;omega,(o5.lt b q).2⟩,HRM.out,HRD.out,row_below RS4.out hb5,row_below R1.out hb5,row_below R2.out hb5,own_low o5 z4,⟨.inl (.inr rfl),.inl (.inl (.inl rfl)),.inl (.inl (.inr (.inl rfl))),fun b q=>.inr q⟩,HWL.out,hwl⟩
 clear HW5 o5 hb5 D4 R1 R2 RS4 f12 f22 HRM HRD HWL hwl
 generalize (fun b=>((b=w1.heap.size∨b=w2.heap.size∨TkB ta2 tc2 vs2 b)∨b=w.heap.size)∨(Value.slice a4 l0.length c4).ownBlock=some b)=K at *
 generalize hT1:w1.heap.size=T1 at *
 generalize hT2:w2.heap.size=T2 at *
 clear hT1 hT2
 go_wp2_with fail
 go_loopw [11,12] (fun x11 x12 wr=>∃ (k:Nat) (l:List Int) (a4:Option Addr) (c4:Nat) (s1 s2:P.S) (F1 F2:Nat→Prop),k≤4∧x12=.int .i64 k∧x11=.slice a4 l.length c4∧Hid (RdM P w g1 g2 (12+(pk:Int)) sk.2 w.heap.size T1 T2 [.pointer (some ⟨g1,0,none⟩),.slice ta1 sk.2.length tc1,.bool true] [.pointer (some ⟨g2,0,none⟩),.slice ta2 sk.2.length tc2,.bool true] K a4 c4 l k wr s1 s2 F1 F2)) (fun _ x12 _=>4 - (intOf x12).toNat)
 case atStart=>exact⟨0,l0,a4,c4,sk.1,u0,F1,F2,by decide,rfl,rfl,M5⟩
 case round =>
  clear M5
  obtain⟨k,l,a4,c4,s1,s2,F1,F2,hk,rfl,rfl,M⟩:=hrel
  have hcs:k=4∨k=3∨k<3:=by omega
  rcases hcs with rfl | hcs
  ·go_wp2
   go_ret
   exact⟨rfl,M.out.duo.bel⟩
  ·have hM:∃ (l':List Int) (a':Option Addr) (c':Nat),(k=3→a'=none∧c'=0∧l'=[])∧(k<3→a'=a4∧c'=c4∧l'=l)∧RdM P w g1 g2 (12+(pk:Int)) sk.2 w.heap.size T1 T2 [.pointer (some ⟨g1,0,none⟩),.slice ta1 sk.2.length tc1,.bool true] [.pointer (some ⟨g2,0,none⟩),.slice ta2 sk.2.length tc2,.bool true] K a' c' l' k wr s1 s2 F1 F2:=by
    rcases hcs with e | e
    ·exact⟨[],none,0,fun _=>⟨rfl,rfl,rfl⟩,fun q=>by omega,⟨M.out.duo,M.out.rm,M.out.rd,M.out.st,M.out.t1,M.out.t2,⟨by simp[i64s],.inl ⟨by simp,by simp⟩⟩,⟨M.out.kk.1,M.out.kk.2.1,M.out.kk.2.2.1,fun b q=>by simp[Value.ownBlock] at q⟩,rfl,by simp⟩⟩
    ·exact⟨l,a4,c4,fun q=>by omega,fun _=>⟨rfl,rfl,rfl⟩,M.out⟩
   obtain⟨l',a',c',hk3,hklt,m⟩:=hM
   have hMM:=hide m
   have zr:w.heap.size≤wr.heap.size:=m.duo.bel.size
   have hask:askedD l' 0=0:=lits_asked m.lit (by have:=m.len;omega) (by decide)
   obtain⟨rm1,say1⟩:=m.rm.step (by omega) hask
   obtain⟨rd1,say2⟩:=m.rd.step (by omega) hask (b:=0)
   have hag:=red_agree m.lit say1 say2
   have g10:wr.cell? ⟨T1,0,none⟩=some (.pointer (some ⟨g1,0,none⟩)):=(m.t1.cell 0).trans rfl
   have HS1:=hide (solve_list P m.duo.x1 m.rm.ok (by rw[m.rm.hv];exact HHV.out) (TB.out.below m.duo.bel h0) (by omega) (fun q=>by have:=m.duo.b1 0 q;omega) m.own (fun q hq e=>m.duo.k1 q (m.kk.2.2.2 q e) hq) (by have:=m.len;omega) 0)
   have HS2:Hid (∀ (w':World) (F:Nat→Prop),P.At w' g2 s2 F→Below w.heap.size w w'→¬ F 0→w'.ownsRow w.heap.size 3 1 (.slice a' l'.length c') l'.length (i64s l')→(∀ q,F q→(Value.slice a' l'.length c').ownBlock≠some q)→_):=fun w' F x b f o d=>solve_list P x m.rd.ok (by rw[m.rd.hv];exact HHV.out) (TB.out.below b h0) (Nat.lt_of_lt_of_le h0 b.size) f o d (by have:=m.len;omega) 0
   have HAG:=hide hag
   have HRM1:=hide rm1
   have HRD1:=hide rd1
   generalize P.ans s1 l' 0=x at *
   generalize P.ans s2 l' 0=y at *
   generalize P.slv s1 l' 0=s1' at *
   generalize P.slv s2 l' 0=s2' at *
   clear m say1 say2 hag rm1 rd1 M
   rw[hask] at HS1 HS2
   clear hask
   rcases hcs with rfl | h3
   ·obtain⟨rfl,rfl,rfl⟩:=hk3 rfl
    simp only[List.length_nil] at HS1 HS2
    clear hklt hk3
    go_wp2_with fail
    refine(unhide HS1).mono ?_
    rintro e w6 ⟨p,rfl,F6,x6,c6,nn6⟩
    have m6:=hMM.out.call1 x6 c6 nn6 HRM1.out
    have hbA:=al_below w6 (.cells #[.int .i64 x.st,.int .i64 x.re,.slice p.a1 x.vs.length p.c1,.slice p.a2 x.co.length p.c2,.slice p.a3 x.cl.length p.c3] 31)
    have M6:=hide (m6.below hbA)
    have r6:Row (w6.alloc (.cells #[.int .i64 x.st,.int .i64 x.re,.slice p.a1 x.vs.length p.c1,.slice p.a2 x.co.length p.c2,.slice p.a3 x.cl.length p.c3] 31)) w6.heap.size 31 [.int .i64 x.st,.int .i64 x.re,.slice p.a1 x.vs.length p.c1,.slice p.a2 x.co.length p.c2,.slice p.a3 x.cl.length p.c3]:=heap_alloc_new w6 _
    have R6:=hide r6
    have g20:(w6.alloc (.cells #[.int .i64 x.st,.int .i64 x.re,.slice p.a1 x.vs.length p.c1,.slice p.a2 x.co.length p.c2,.slice p.a3 x.cl.length p.c3] 31)).cell? ⟨T2,0,none⟩=some (.pointer (some ⟨g2,0,none⟩)):=(M6.out.t2.cell 0).trans rfl
    have HQ2:=hide (HS2.out _ F2 M6.out.duo.x2 M6.out.duo.bel (fun q=>by have:=M6.out.duo.b2 0 q;omega) M6.out.own (fun q hq e=>M6.out.duo.k2 q (M6.out.kk.2.2.2 q e) hq))
    have HNF:Hid (¬ F2 w6.heap.size):=fun q=>by have:=P.lt m6.duo.x2 _ q;omega
    clear hbA r6 m6 x6 c6 nn6 HS1 HS2 hMM g10 HRM1
    go_wp2_with fail
    refine(unhide HQ2).mono ?_
    generalize hW6:w6.alloc (.cells #[.int .i64 x.st,.int .i64 x.re,.slice p.a1 x.vs.length p.c1,.slice p.a2 x.co.length p.c2,.slice p.a3 x.cl.length p.c3] 31)=w6a at *
    rintro e w7 ⟨p7,rfl,F7,x7,c7,nn7⟩
    have m7:=M6.out.call2 x7 c7 nn7 HRD1.out
    have r7:=row_keep R6.out (c7.block _ R6.out.lt HNF.out)
    have hbB:=al_below w7 (.cells #[.int .i64 y.st,.int .i64 y.re,.slice p7.a1 y.vs.length p7.c1,.slice p7.a2 y.co.length p7.c2,.slice p7.a3 y.cl.length p7.c3] 31)
    have M7:=hide (m7.below hbB)
    have R7:=hide (row_below r7 hbB)
    have q7:Row (w7.alloc (.cells #[.int .i64 y.st,.int .i64 y.re,.slice p7.a1 y.vs.length p7.c1,.slice p7.a2 y.co.length p7.c2,.slice p7.a3 y.cl.length p7.c3] 31)) w7.heap.size 31 [.int .i64 y.st,.int .i64 y.re,.slice p7.a1 y.vs.length p7.c1,.slice p7.a2 y.co.length p7.c2,.slice p7.a3 y.cl.length p7.c3]:=heap_alloc_new w7 _
    have HCT:=hide (P.countsC M7.out.duo.x2 M7.out.rd.ok (by rw[M7.out.rd.hv];have:=HHV.out;omega))
    have hlr:=M7.out.rd.len
    have u0':=(R7.out.cell 0).trans (show _=some (Value.int .i64 x.st) from rfl)
    have v0':=(q7.cell 0).trans (show _=some (Value.int .i64 y.st) from rfl)
    have g27:(w7.alloc (.cells #[.int .i64 y.st,.int .i64 y.re,.slice p7.a1 y.vs.length p7.c1,.slice p7.a2 y.co.length p7.c2,.slice p7.a3 y.cl.length p7.c3] 31)).cell? ⟨T2,0,none⟩=some (.pointer (some ⟨g2,0,none⟩)):=(M7.out.t2.cell 0).trans rfl
    obtain⟨hx12,hy⟩:=HAG.out
    obtain⟨xst,xre,xvs,xco,xcl⟩:=x
    obtain⟨yst,yre,yvs,yco,ycl⟩:=y
    simp only at hx12 hy u0' v0' R7 M7 q7 HCT g27 hW6
    have hc1:((xst != yst) && (xst != 3) && (yst != 3))=false:=by
     rcases hy with e | e
     ·subst e;simp
     ·subst e;simp
    generalize sizeN (P.vw s2').seen=n1 at *
    generalize (P.vw s2').hv.length=n2 at *
    generalize litsN (P.vw s2').hv=n3 at *
    generalize (P.vw s2').lr.length=n4 at *
    generalize litsN (P.vw s2').lr=n5 at *
    generalize (P.vw s2').log=n6 at *
    generalize (P.vw s2').unsat=n7 at *
    have HLR:=hide hlr
    clear hbB r7 m7 x7 c7 nn7 q7 HQ2 M6 R6 g20 HAG hW6 hlr
    have hys:yst=xst∨(yst≠xst∧yst=3):=by
     rcases hy with e | e
     ·exact .inl e
     ·by_cases q:yst=xst
      ·exact .inl q
      ·exact .inr ⟨q,e⟩
    clear hc1 hy
    rcases hys with hys | ⟨hne,hys⟩
    ·subst hys
     have e1:(yst != yst)=false:=by simp
     clear hx12
     go_wp2_with fail
     refine(unhide HCT).mono ?_
     generalize w7.alloc (.cells #[.int .i64 yst,.int .i64 yre,.slice p7.a1 yvs.length p7.c1,.slice p7.a2 yco.length p7.c2,.slice p7.a3 ycl.length p7.c3] 31)=w7a at *
     rintro e w8 ⟨rfl,hb8⟩
     have hbC:=hb8.trans ((al_below w8 (.cells #[.int .i64 (n1:Nat),.int .i64 (n2:Nat),.int .i64 (n3:Nat),.int .i64 (n4:Nat),.int .i64 (n5:Nat),.int .i64 (n6:Nat),.int .i64 (n7:Nat)] 46)).mono hb8.size)
     have M9:=hide (M7.out.below hbC)
     have r9:Row (w8.alloc (.cells #[.int .i64 (n1:Nat),.int .i64 (n2:Nat),.int .i64 (n3:Nat),.int .i64 (n4:Nat),.int .i64 (n5:Nat),.int .i64 (n6:Nat),.int .i64 (n7:Nat)] 46)) w8.heap.size 46 [.int .i64 (n1:Nat),.int .i64 (n2:Nat),.int .i64 (n3:Nat),.int .i64 (n4:Nat),.int .i64 (n5:Nat),.int .i64 (n6:Nat),.int .i64 (n7:Nat)]:=heap_alloc_new w8 _
     have k3:=(r9.cell 3).trans (show _=some (Value.int .i64 (n4:Nat)) from rfl)
     have k0:=(M9.out.st.cell 0).trans (show _=some (Value.int .i64 (12+(pk:Int))) from rfl)
     have hgt:¬ ((n4:Int) > 12+(pk:Int)):=by have:=HLR.out;omega
     clear hb8 hbC r9 HCT M7 R7 u0' v0' g27 HLR
     go_wp2_with fail
     go_loopw [18] (fun x18 wz=>∃ j:Nat,j≤0∧x18=.int .i64 j∧Hid (RdM P w g1 g2 (12+(pk:Int)) sk.2 w.heap.size T1 T2 [.pointer (some ⟨g1,0,none⟩),.slice ta1 sk.2.length tc1,.bool true] [.pointer (some ⟨g2,0,none⟩),.slice ta2 sk.2.length tc2,.bool true] K none 0 [] (3+1) wz s1' s2' F6 F7)) (fun x18 _=>0 - (intOf x18).toNat)
     case atStart=>exact⟨0,Nat.le_refl _,rfl,M9⟩
     case round =>
      clear M9
      obtain⟨j,hj,rfl,MZ⟩:=hrel
      obtain rfl:j=0:=by omega
      go_wp2
      go_roundw
      case rel=>exact⟨3+1,[],none,0,s1',s2',F6,F7,by omega,by go_num,rfl,MZ⟩
      case measure=>simp[intOf]
    ·have e0:(xst != yst)=true:=by rw[bne_iff_ne];exact fun q=>hne q.symm
     have e1:(xst != 3)=true:=by rcases hx12 with e | e <;> rw[e] <;> rfl
     have e2:(yst != 3)=false:=by rw[hys];rfl
     clear hne hys hx12
     go_wp2_with fail
     refine(unhide HCT).mono ?_
     generalize w7.alloc (.cells #[.int .i64 yst,.int .i64 yre,.slice p7.a1 yvs.length p7.c1,.slice p7.a2 yco.length p7.c2,.slice p7.a3 ycl.length p7.c3] 31)=w7a at *
     rintro e w8 ⟨rfl,hb8⟩
     have hbC:=hb8.trans ((al_below w8 (.cells #[.int .i64 (n1:Nat),.int .i64 (n2:Nat),.int .i64 (n3:Nat),.int .i64 (n4:Nat),.int .i64 (n5:Nat),.int .i64 (n6:Nat),.int .i64 (n7:Nat)] 46)).mono hb8.size)
     have M9:=hide (M7.out.below hbC)
     have r9:Row (w8.alloc (.cells #[.int .i64 (n1:Nat),.int .i64 (n2:Nat),.int .i64 (n3:Nat),.int .i64 (n4:Nat),.int .i64 (n5:Nat),.int .i64 (n6:Nat),.int .i64 (n7:Nat)] 46)) w8.heap.size 46 [.int .i64 (n1:Nat),.int .i64 (n2:Nat),.int .i64 (n3:Nat),.int .i64 (n4:Nat),.int .i64 (n5:Nat),.int .i64 (n6:Nat),.int .i64 (n7:Nat)]:=heap_alloc_new w8 _
     have k3:=(r9.cell 3).trans (show _=some (Value.int .i64 (n4:Nat)) from rfl)
     have k0:=(M9.out.st.cell 0).trans (show _=some (Value.int .i64 (12+(pk:Int))) from rfl)
     have hgt:¬ ((n4:Int) > 12+(pk:Int)):=by have:=HLR.out;omega
     clear hb8 hbC r9 HCT M7 R7 u0' v0' g27 HLR
     go_wp2_with fail
     go_loopw [18] (fun x18 wz=>∃ j:Nat,j≤0∧x18=.int .i64 j∧Hid (RdM P w g1 g2 (12+(pk:Int)) sk.2 w.heap.size T1 T2 [.pointer (some ⟨g1,0,none⟩),.slice ta1 sk.2.length tc1,.bool true] [.pointer (some ⟨g2,0,none⟩),.slice ta2 sk.2.length tc2,.bool true] K none 0 [] (3+1) wz s1' s2' F6 F7)) (fun x18 _=>0 - (intOf x18).toNat)
     case atStart=>exact⟨0,Nat.le_refl _,rfl,M9⟩
     case round =>
      clear M9
      obtain⟨j,hj,rfl,MZ⟩:=hrel
      obtain rfl:j=0:=by omega
      go_wp2
      go_roundw
      case rel=>exact⟨3+1,[],none,0,s1',s2',F6,F7,by omega,by go_num,rfl,MZ⟩
      case measure=>simp[intOf]
   ·obtain⟨rfl,rfl,rfl⟩:=hklt h3
    have hkb:((k:Int) == 3)=false:=by rw[beq_eq_false_iff_ne];omega
    have hk4:(k:Int)<4:=by omega
    clear hklt hk3
    go_wp2_with fail
    refine(unhide HS1).mono ?_
    rintro e w6 ⟨p,rfl,F6,x6,c6,nn6⟩
    have m6:=hMM.out.call1 x6 c6 nn6 HRM1.out
    have hbA:=al_below w6 (.cells #[.int .i64 x.st,.int .i64 x.re,.slice p.a1 x.vs.length p.c1,.slice p.a2 x.co.length p.c2,.slice p.a3 x.cl.length p.c3] 31)
    have M6:=hide (m6.below hbA)
    have r6:Row (w6.alloc (.cells #[.int .i64 x.st,.int .i64 x.re,.slice p.a1 x.vs.length p.c1,.slice p.a2 x.co.length p.c2,.slice p.a3 x.cl.length p.c3] 31)) w6.heap.size 31 [.int .i64 x.st,.int .i64 x.re,.slice p.a1 x.vs.length p.c1,.slice p.a2 x.co.length p.c2,.slice p.a3 x.cl.length p.c3]:=heap_alloc_new w6 _
    have R6:=hide r6
    have g20:(w6.alloc (.cells #[.int .i64 x.st,.int .i64 x.re,.slice p.a1 x.vs.length p.c1,.slice p.a2 x.co.length p.c2,.slice p.a3 x.cl.length p.c3] 31)).cell? ⟨T2,0,none⟩=some (.pointer (some ⟨g2,0,none⟩)):=(M6.out.t2.cell 0).trans rfl
    have HQ2:=hide (HS2.out _ F2 M6.out.duo.x2 M6.out.duo.bel (fun q=>by have:=M6.out.duo.b2 0 q;omega) M6.out.own (fun q hq e=>M6.out.duo.k2 q (M6.out.kk.2.2.2 q e) hq))
    have HNF:Hid (¬ F2 w6.heap.size):=fun q=>by have:=P.lt m6.duo.x2 _ q;omega
    clear hbA r6 m6 x6 c6 nn6 HS1 HS2 hMM g10 HRM1
    go_wp2_with fail
    refine(unhide HQ2).mono ?_
    generalize hW6:w6.alloc (.cells #[.int .i64 x.st,.int .i64 x.re,.slice p.a1 x.vs.length p.c1,.slice p.a2 x.co.length p.c2,.slice p.a3 x.cl.length p.c3] 31)=w6a at *
    rintro e w7 ⟨p7,rfl,F7,x7,c7,nn7⟩
    have m7:=M6.out.call2 x7 c7 nn7 HRD1.out
    have r7:=row_keep R6.out (c7.block _ R6.out.lt HNF.out)
    have hbB:=al_below w7 (.cells #[.int .i64 y.st,.int .i64 y.re,.slice p7.a1 y.vs.length p7.c1,.slice p7.a2 y.co.length p7.c2,.slice p7.a3 y.cl.length p7.c3] 31)
    have M7:=hide (m7.below hbB)
    have R7:=hide (row_below r7 hbB)
    have q7:Row (w7.alloc (.cells #[.int .i64 y.st,.int .i64 y.re,.slice p7.a1 y.vs.length p7.c1,.slice p7.a2 y.co.length p7.c2,.slice p7.a3 y.cl.length p7.c3] 31)) w7.heap.size 31 [.int .i64 y.st,.int .i64 y.re,.slice p7.a1 y.vs.length p7.c1,.slice p7.a2 y.co.length p7.c2,.slice p7.a3 y.cl.length p7.c3]:=heap_alloc_new w7 _
    have HCT:=hide (P.countsC M7.out.duo.x2 M7.out.rd.ok (by rw[M7.out.rd.hv];have:=HHV.out;omega))
    have hlr:=M7.out.rd.len
    have u0':=(R7.out.cell 0).trans (show _=some (Value.int .i64 x.st) from rfl)
    have v0':=(q7.cell 0).trans (show _=some (Value.int .i64 y.st) from rfl)
    have g27:(w7.alloc (.cells #[.int .i64 y.st,.int .i64 y.re,.slice p7.a1 y.vs.length p7.c1,.slice p7.a2 y.co.length p7.c2,.slice p7.a3 y.cl.length p7.c3] 31)).cell? ⟨T2,0,none⟩=some (.pointer (some ⟨g2,0,none⟩)):=(M7.out.t2.cell 0).trans rfl
    obtain⟨hx12,hy⟩:=HAG.out
    obtain⟨xst,xre,xvs,xco,xcl⟩:=x
    obtain⟨yst,yre,yvs,yco,ycl⟩:=y
    simp only at hx12 hy u0' v0' R7 M7 q7 HCT g27 hW6
    have hc1:((xst != yst) && (xst != 3) && (yst != 3))=false:=by
     rcases hy with e | e
     ·subst e;simp
     ·subst e;simp
    generalize sizeN (P.vw s2').seen=n1 at *
    generalize (P.vw s2').hv.length=n2 at *
    generalize litsN (P.vw s2').hv=n3 at *
    generalize (P.vw s2').lr.length=n4 at *
    generalize litsN (P.vw s2').lr=n5 at *
    generalize (P.vw s2').log=n6 at *
    generalize (P.vw s2').unsat=n7 at *
    have HLR:=hide hlr
    clear hbB r7 m7 x7 c7 nn7 q7 HQ2 M6 R6 g20 HAG hW6 hlr
    have hys:yst=xst∨(yst≠xst∧yst=3):=by
     rcases hy with e | e
     ·exact .inl e
     ·by_cases q:yst=xst
      ·exact .inl q
      ·exact .inr ⟨q,e⟩
    clear hc1 hy
    rcases hys with hys | ⟨hne,hys⟩
    ·subst hys
     have e1:(yst != yst)=false:=by simp
     clear hx12
     go_wp2_with fail
     refine(unhide HCT).mono ?_
     generalize w7.alloc (.cells #[.int .i64 yst,.int .i64 yre,.slice p7.a1 yvs.length p7.c1,.slice p7.a2 yco.length p7.c2,.slice p7.a3 ycl.length p7.c3] 31)=w7a at *
     rintro e w8 ⟨rfl,hb8⟩
     have hbC:=hb8.trans ((al_below w8 (.cells #[.int .i64 (n1:Nat),.int .i64 (n2:Nat),.int .i64 (n3:Nat),.int .i64 (n4:Nat),.int .i64 (n5:Nat),.int .i64 (n6:Nat),.int .i64 (n7:Nat)] 46)).mono hb8.size)
     have M9:=hide (M7.out.below hbC)
     have r9:Row (w8.alloc (.cells #[.int .i64 (n1:Nat),.int .i64 (n2:Nat),.int .i64 (n3:Nat),.int .i64 (n4:Nat),.int .i64 (n5:Nat),.int .i64 (n6:Nat),.int .i64 (n7:Nat)] 46)) w8.heap.size 46 [.int .i64 (n1:Nat),.int .i64 (n2:Nat),.int .i64 (n3:Nat),.int .i64 (n4:Nat),.int .i64 (n5:Nat),.int .i64 (n6:Nat),.int .i64 (n7:Nat)]:=heap_alloc_new w8 _
     have k3:=(r9.cell 3).trans (show _=some (Value.int .i64 (n4:Nat)) from rfl)
     have k0:=(M9.out.st.cell 0).trans (show _=some (Value.int .i64 (12+(pk:Int))) from rfl)
     have hgt:¬ ((n4:Int) > 12+(pk:Int)):=by have:=HLR.out;omega
     clear hb8 hbC r9 HCT M7 R7 u0' v0' g27 HLR
     have ML:Hid (RdM P w g1 g2 (12+(pk:Int)) sk.2 w.heap.size T1 T2 [.pointer (some ⟨g1,0,none⟩),.slice ta1 sk.2.length tc1,.bool true] [.pointer (some ⟨g2,0,none⟩),.slice ta2 sk.2.length tc2,.bool true] K a' c' (turnP l' 0) (k+1) (w8.alloc (.cells #[.int .i64 (n1:Nat),.int .i64 (n2:Nat),.int .i64 (n3:Nat),.int .i64 (n4:Nat),.int .i64 (n5:Nat),.int .i64 (n6:Nat),.int .i64 (n7:Nat)] 46)) s1' s2' F6 F7):=by
      have e:turnP l' 0=l':=by simp[turnP]
      rw[e];exact M9
     have hlit:=M9.out.lit
     have hl12:=M9.out.len
     have HLT:=hide hlit
     clear M9 hlit
     go_wp2_with fail
     go_loopw [18] (fun x18 wz=>∃ j:Nat,j≤l'.length∧x18=.int .i64 j∧Hid (RdM P w g1 g2 (12+(pk:Int)) sk.2 w.heap.size T1 T2 [.pointer (some ⟨g1,0,none⟩),.slice ta1 sk.2.length tc1,.bool true] [.pointer (some ⟨g2,0,none⟩),.slice ta2 sk.2.length tc2,.bool true] K a' c' (turnP l' j) (k+1) wz s1' s2' F6 F7)) (fun x18 _=>l'.length - (intOf x18).toNat)
     case atStart=>exact⟨0,Nat.zero_le _,rfl,ML⟩
     case round =>
      clear ML
      obtain⟨j,hj,rfl,MZ⟩:=hrel
      by_cases hjl:j<l'.length
      ·obtain⟨g,cap,e,hbg,_⟩:=MZ.out.own.form (by rw[turnP_len];omega)
       simp only[Value.slice.injEq] at e
       obtain⟨rfl,_,rfl⟩:=e
       have hcell:wr.cell? ⟨g,j,none⟩=some (.int .i64 (l'.getD j 0)):=by
        have h1:=turnP_get l' j hjl
        have:=MZ.out.own.cells (g:=g) rfl j (.int .i64 (l'.getD j 0)) (by simp only[i64s,List.getElem?_map,h1,Option.map_some])
        rw[addr0,Nat.zero_add] at this
        exact this
       have hfz:wr.frozen? ⟨g,j,none⟩=false:=MZ.out.own.frozenAt j
       have hlx:litB (l'.getD j 0)=true:=by
        refine List.all_eq_true.1 HLT.out _ ?_
        rw[List.getD_eq_getElem?_getD,List.getElem?_eq_getElem hjl]
        exact List.getElem_mem hjl
       have MP:=MZ.out.put hbg j (turnI (l'.getD j 0)) (by
        rw[← turnP_succ l' j hjl]
        have:(turnP l' (j+1)).all litB=true:=by
         unfold turnP
         rw[List.all_append,Bool.and_eq_true]
         refine⟨turnL_lits (xs:=l'.take (j+1)) ?_,?_⟩
         ·exact List.all_eq_true.2 fun q hq=>List.all_eq_true.1 HLT.out q (List.mem_of_mem_take hq)
         ·exact List.all_eq_true.2 fun q hq=>List.all_eq_true.1 HLT.out q (List.mem_of_mem_drop hq)
        exact this)
       rw[← turnP_succ l' j hjl] at MP
       have hld:(wr.setCell ⟨g,j,none⟩ (.int .i64 (turnI (l'.getD j 0)))).cell? ⟨g,j,none⟩=some (.int .i64 (turnI (l'.getD j 0))):=by
        have h1:(turnP l' (j+1))[j]?=some (turnI (l'.getD j 0)):=by
         rw[turnP_succ l' j hjl,List.getElem?_set_self (by rw[turnP_len];exact hjl)]
        have:=MP.own.cells (g:=g) rfl j (.int .i64 (turnI (l'.getD j 0))) (by simp only[i64s,List.getElem?_map,h1,Option.map_some])
        rw[addr0,Nat.zero_add] at this
        exact this
       have HMP:=hide (MP.below (below_drewN (Below.refl _ _) 1))
       obtain⟨tn1,tn2⟩:=turn_num hlx
       have tn3:(turnI (l'.getD j 0) == 0)=false:=by rw[beq_eq_false_iff_ne];exact tn2
       have j1:(0:Int)≤(j:Int):=by omega
       have j2:(j:Int)<(l'.length:Int):=by omega
       generalize l'.getD j 0=x at *
       simp only[litB,Bool.and_eq_true,bne_iff_ne,decide_eq_true_eq] at hlx
       have hx1:-10≤x:=hlx.1.2
       have hx2:x≤10:=hlx.2
       have hng:IntKind.i64.wrap (-x)=-x:=by rw[IntKind.wrap_i64];omega
       have HT1:=hide tn1
       clear MP MZ tn1 tn2 hlx
       go_wp2_with fail
       go_region
       all_goals
        rw[HT1.out]
        have hld2:(wr.setCell ⟨g,j,none⟩ (.int .i64 (turnI x))).drew.cell? ⟨g,j,none⟩=some (.int .i64 (turnI x)):=hld
        have HMQ:Hid (RdM P w g1 g2 (12+(pk:Int)) sk.2 w.heap.size T1 T2 [.pointer (some ⟨g1,0,none⟩),.slice ta1 sk.2.length tc1,.bool true] [.pointer (some ⟨g2,0,none⟩),.slice ta2 sk.2.length tc2,.bool true] K (some ⟨g,0,none⟩) c' (turnP l' (j+1)) (k+1) (wr.setCell ⟨g,j,none⟩ (.int .i64 (turnI x))).drew s1' s2' F6 F7):=HMP
        generalize (wr.setCell ⟨g,j,none⟩ (.int .i64 (turnI x))).drew=wq at *
        generalize turnI x=tx at *
        clear HMP hld HT1 hcell hfz
        go_wp2
        go_roundw
        case rel=>exact⟨j+1,by omega,by go_num,HMQ⟩
        case measure=>simp[intOf];omega
      ·obtain rfl:j=l'.length:=by omega
       have MZ2:=MZ
       rw[turnP_end] at MZ2
       have hlen:=turnL_len l'
       go_wp2
       go_roundw
       case rel=>exact⟨k+1,turnL l',a',c',s1',s2',F6,F7,by omega,by go_num,by rw[turnL_len],MZ2⟩
       case measure=>simp[intOf];omega
    ·have e0:(xst != yst)=true:=by rw[bne_iff_ne];exact fun q=>hne q.symm
     have e1:(xst != 3)=true:=by rcases hx12 with e | e <;> rw[e] <;> rfl
     have e2:(yst != 3)=false:=by rw[hys];rfl
     clear hne hys hx12
     go_wp2_with fail
     refine(unhide HCT).mono ?_
     generalize w7.alloc (.cells #[.int .i64 yst,.int .i64 yre,.slice p7.a1 yvs.length p7.c1,.slice p7.a2 yco.length p7.c2,.slice p7.a3 ycl.length p7.c3] 31)=w7a at *
     rintro e w8 ⟨rfl,hb8⟩
     have hbC:=hb8.trans ((al_below w8 (.cells #[.int .i64 (n1:Nat),.int .i64 (n2:Nat),.int .i64 (n3:Nat),.int .i64 (n4:Nat),.int .i64 (n5:Nat),.int .i64 (n6:Nat),.int .i64 (n7:Nat)] 46)).mono hb8.size)
     have M9:=hide (M7.out.below hbC)
     have r9:Row (w8.alloc (.cells #[.int .i64 (n1:Nat),.int .i64 (n2:Nat),.int .i64 (n3:Nat),.int .i64 (n4:Nat),.int .i64 (n5:Nat),.int .i64 (n6:Nat),.int .i64 (n7:Nat)] 46)) w8.heap.size 46 [.int .i64 (n1:Nat),.int .i64 (n2:Nat),.int .i64 (n3:Nat),.int .i64 (n4:Nat),.int .i64 (n5:Nat),.int .i64 (n6:Nat),.int .i64 (n7:Nat)]:=heap_alloc_new w8 _
     have k3:=(r9.cell 3).trans (show _=some (Value.int .i64 (n4:Nat)) from rfl)
     have k0:=(M9.out.st.cell 0).trans (show _=some (Value.int .i64 (12+(pk:Int))) from rfl)
     have hgt:¬ ((n4:Int) > 12+(pk:Int)):=by have:=HLR.out;omega
     clear hb8 hbC r9 HCT M7 R7 u0' v0' g27 HLR
     have ML:Hid (RdM P w g1 g2 (12+(pk:Int)) sk.2 w.heap.size T1 T2 [.pointer (some ⟨g1,0,none⟩),.slice ta1 sk.2.length tc1,.bool true] [.pointer (some ⟨g2,0,none⟩),.slice ta2 sk.2.length tc2,.bool true] K a' c' (turnP l' 0) (k+1) (w8.alloc (.cells #[.int .i64 (n1:Nat),.int .i64 (n2:Nat),.int .i64 (n3:Nat),.int .i64 (n4:Nat),.int .i64 (n5:Nat),.int .i64 (n6:Nat),.int .i64 (n7:Nat)] 46)) s1' s2' F6 F7):=by
      have e:turnP l' 0=l':=by simp[turnP]
      rw[e];exact M9
     have hlit:=M9.out.lit
     have hl12:=M9.out.len
     have HLT:=hide hlit
     clear M9 hlit
     go_wp2_with fail
     go_loopw [18] (fun x18 wz=>∃ j:Nat,j≤l'.length∧x18=.int .i64 j∧Hid (RdM P w g1 g2 (12+(pk:Int)) sk.2 w.heap.size T1 T2 [.pointer (some ⟨g1,0,none⟩),.slice ta1 sk.2.length tc1,.bool true] [.pointer (some ⟨g2,0,none⟩),.slice ta2 sk.2.length tc2,.bool true] K a' c' (turnP l' j) (k+1) wz s1' s2' F6 F7)) (fun x18 _=>l'.length - (intOf x18).toNat)
     case atStart=>exact⟨0,Nat.zero_le _,rfl,ML⟩
     case round =>
      clear ML
      obtain⟨j,hj,rfl,MZ⟩:=hrel
      by_cases hjl:j<l'.length
      ·obtain⟨g,cap,e,hbg,_⟩:=MZ.out.own.form (by rw[turnP_len];omega)
       simp only[Value.slice.injEq] at e
       obtain⟨rfl,_,rfl⟩:=e
       have hcell:wr.cell? ⟨g,j,none⟩=some (.int .i64 (l'.getD j 0)):=by
        have h1:=turnP_get l' j hjl
        have:=MZ.out.own.cells (g:=g) rfl j (.int .i64 (l'.getD j 0)) (by simp only[i64s,List.getElem?_map,h1,Option.map_some])
        rw[addr0,Nat.zero_add] at this
        exact this
       have hfz:wr.frozen? ⟨g,j,none⟩=false:=MZ.out.own.frozenAt j
       have hlx:litB (l'.getD j 0)=true:=by
        refine List.all_eq_true.1 HLT.out _ ?_
        rw[List.getD_eq_getElem?_getD,List.getElem?_eq_getElem hjl]
        exact List.getElem_mem hjl
       have MP:=MZ.out.put hbg j (turnI (l'.getD j 0)) (by
        rw[← turnP_succ l' j hjl]
        have:(turnP l' (j+1)).all litB=true:=by
         unfold turnP
         rw[List.all_append,Bool.and_eq_true]
         refine⟨turnL_lits (xs:=l'.take (j+1)) ?_,?_⟩
         ·exact List.all_eq_true.2 fun q hq=>List.all_eq_true.1 HLT.out q (List.mem_of_mem_take hq)
         ·exact List.all_eq_true.2 fun q hq=>List.all_eq_true.1 HLT.out q (List.mem_of_mem_drop hq)
        exact this)
       rw[← turnP_succ l' j hjl] at MP
       have hld:(wr.setCell ⟨g,j,none⟩ (.int .i64 (turnI (l'.getD j 0)))).cell? ⟨g,j,none⟩=some (.int .i64 (turnI (l'.getD j 0))):=by
        have h1:(turnP l' (j+1))[j]?=some (turnI (l'.getD j 0)):=by
         rw[turnP_succ l' j hjl,List.getElem?_set_self (by rw[turnP_len];exact hjl)]
        have:=MP.own.cells (g:=g) rfl j (.int .i64 (turnI (l'.getD j 0))) (by simp only[i64s,List.getElem?_map,h1,Option.map_some])
        rw[addr0,Nat.zero_add] at this
        exact this
       have HMP:=hide (MP.below (below_drewN (Below.refl _ _) 1))
       obtain⟨tn1,tn2⟩:=turn_num hlx
       have tn3:(turnI (l'.getD j 0) == 0)=false:=by rw[beq_eq_false_iff_ne];exact tn2
       have j1:(0:Int)≤(j:Int):=by omega
       have j2:(j:Int)<(l'.length:Int):=by omega
       generalize l'.getD j 0=x at *
       simp only[litB,Bool.and_eq_true,bne_iff_ne,decide_eq_true_eq] at hlx
       have hx1:-10≤x:=hlx.1.2
       have hx2:x≤10:=hlx.2
       have hng:IntKind.i64.wrap (-x)=-x:=by rw[IntKind.wrap_i64];omega
       have HT1:=hide tn1
       clear MP MZ tn1 tn2 hlx
       go_wp2_with fail
       go_region
       all_goals
        rw[HT1.out]
        have hld2:(wr.setCell ⟨g,j,none⟩ (.int .i64 (turnI x))).drew.cell? ⟨g,j,none⟩=some (.int .i64 (turnI x)):=hld
        have HMQ:Hid (RdM P w g1 g2 (12+(pk:Int)) sk.2 w.heap.size T1 T2 [.pointer (some ⟨g1,0,none⟩),.slice ta1 sk.2.length tc1,.bool true] [.pointer (some ⟨g2,0,none⟩),.slice ta2 sk.2.length tc2,.bool true] K (some ⟨g,0,none⟩) c' (turnP l' (j+1)) (k+1) (wr.setCell ⟨g,j,none⟩ (.int .i64 (turnI x))).drew s1' s2' F6 F7):=HMP
        generalize (wr.setCell ⟨g,j,none⟩ (.int .i64 (turnI x))).drew=wq at *
        generalize turnI x=tx at *
        clear HMP hld HT1 hcell hfz
        go_wp2
        go_roundw
        case rel=>exact⟨j+1,by omega,by go_num,HMQ⟩
        case measure=>simp[intOf];omega
      ·obtain rfl:j=l'.length:=by omega
       have MZ2:=MZ
       rw[turnP_end] at MZ2
       have hlen:=turnL_len l'
       go_wp2
       go_roundw
       case rel=>exact⟨k+1,turnL l',a',c',s1',s2',F6,F7,by omega,by go_num,by rw[turnL_len],MZ2⟩
       case measure=>simp[intOf];omega
end Go.Proofs.YthboeppmlhbofabDoor
