import Derived.Test.YthboeppmlhbofaaGreatDoorClk
namespace Go.Proofs.YthboeppmlhbofaaGreatDoor
open Go.RowKit Txt
set_option maxRecDepth 100000
set_option maxHeartbeats 4000000 in
theorem TS(d:SE)(budget:Int)(w:World)(h:AY w d.cb 44 d.cells)(hs:d.seen<1048576)(hu:d.unsat≤1000000000) :
  Calls Tryz.prog 81 #[.pointer (some ⟨d.cb,0,none⟩),.int .i64 budget] w fun e w'=>e=.returned (.bool (EL d.r d.h d.l budget d.seen d.unsat))∧Below w.heap.size w w':=by
 have c8:w.cell? ⟨d.cb,8,none⟩=some (.int .i64 (d.seen:Nat)):=(h.cell 8).trans rfl
 have c2:w.cell? ⟨d.cb,2,none⟩=some (.int .i64 d.r):=(h.cell 2).trans rfl
 have c3:w.cell? ⟨d.cb,3,none⟩=some (.int .i64 d.h):=(h.cell 3).trans rfl
 have c4:w.cell? ⟨d.cb,4,none⟩=some (.int .i64 d.l):=(h.cell 4).trans rfl
 have c12:w.cell? ⟨d.cb,12,none⟩=some (.int .i64 (d.unsat:Nat)):=(h.cell 12).trans rfl
 have HZ:=AB (Fu d.seen hs w)
 have hzl:=Cw d.seen
 have HRES:Hid (EL d.r d.h d.l budget d.seen d.unsat=(budget == 0 && d.r == 0 && decide (((AG d.seen*Fw (AG d.seen):Nat):Int)≤d.h) && decide ((((AG d.seen+1)*Fw (AG d.seen)+(2*AG d.seen+1)*(d.unsat+1):Nat):Int)≤d.l))):=rfl
 generalize EL d.r d.h d.l budget d.seen d.unsat=RES at *
 generalize AG d.seen=n at *
 clear h
 go_enter Tryz.func81,Tryz.ntmps81
 go_wp2_with (go_at_call 34;refine(AE HZ).mono ?_;rintro e w' ⟨rfl,hw⟩;obtain rfl:=hw.symm)
 go_loop [6,7] (fun x6 x7=>∃ i:Nat,i≤n∧x7=.int .i64 i∧x6=.int .i64 (Fw i:Nat)) (fun _ x7=>n - (intOf x7).toNat)
 case atStart=>exact⟨0,Nat.zero_le _,rfl,rfl⟩
 case round =>
  obtain⟨i,hi,rfl,rfl⟩:=hrel
  have hp:=bK i (by omega)
  by_cases hlt:i<n
  ·have HE:Hid (Fw (i+1)=3*Fw i):=rfl
   generalize Fw i=q at *
   go_wp2
   go_round
   case rel=>exact⟨i+1,by omega,by go_num,by rw[HE.out];go_num⟩
   case measure=>simp[intOf];omega
  ·obtain rfl:i=n:=by omega
   generalize Fw i=q at *
   have k1:i*q≤20*3486784401:=Nat.mul_le_mul (by omega) hp
   have k2:(i+1)*q≤21*3486784401:=Nat.mul_le_mul (by omega) hp
   have k3:(2*i+1)*(d.unsat+1)≤41*1000000001:=Nat.mul_le_mul (by omega) (by omega)
   have m1:(i:Int)*(q:Int)=((i*q:Nat):Int):=by rw[Int.natCast_mul]
   have m2:((i:Int)+1)*(q:Int)=(((i+1)*q:Nat):Int):=by rw[Int.natCast_mul];rfl
   have m3:(2*(i:Int)+1)*((d.unsat:Int)+1)=(((2*i+1)*(d.unsat+1):Nat):Int):=by rw[Int.natCast_mul];rfl
   generalize i*q=M1 at *
   generalize (i+1)*q=M2 at *
   generalize (2*i+1)*(d.unsat+1)=M3 at *
   cases b0:(budget == 0) with
   | false =>
    have HRN:Hid (RES=false):=by show _=_;rw[HRES.out,b0];rfl
    go_wp2_with fail
    go_region
    go_wp2
    go_ret
    exact⟨Am HRN.out.symm,below_drewN (Below.refl _ _) 1⟩
   | true =>
    cases r0:(d.r == 0) with
    | false =>
     have HRN:Hid (RES=false):=by show _=_;rw[HRES.out,b0,r0];rfl
     go_wp2_with fail
     go_region
     go_wp2
     go_ret
     exact⟨Am HRN.out.symm,below_drewN (Below.refl _ _) 1⟩
    | true =>
     by_cases g1:(M1:Int)≤d.h
     ·by_cases g2:((M2+M3:Nat):Int)≤d.l
      ·have HRN:Hid (RES=true):=by show _=_;rw[HRES.out,b0,r0,decide_eq_true g1,decide_eq_true g2];rfl
       have g2':(M2:Int)+(M3:Int)≤d.l:=by omega
       go_wp2_with fail
       go_region
       go_wp2
       go_ret
       exact⟨Am HRN.out.symm,below_drewN (Below.refl _ _) 1⟩
      ·have HRN:Hid (RES=false):=by show _=_;rw[HRES.out,b0,r0,decide_eq_true g1,decide_eq_false g2];rfl
       have g2d:decide ((M2:Int)+(M3:Int)≤d.l)=false:=decide_eq_false (by omega)
       clear g2
       go_wp2_with fail
       go_region
       go_wp2
       go_ret
       exact⟨Am HRN.out.symm,below_drewN (Below.refl _ _) 1⟩
     ·have HRN:Hid (RES=false):=by show _=_;rw[HRES.out,b0,r0,decide_eq_false g1];rfl
      have g1d:decide ((M1:Int)≤d.h)=false:=decide_eq_false g1
      clear g1
      go_wp2_with fail
      go_region
      go_wp2
      go_ret
      exact⟨Am HRN.out.symm,below_drewN (Below.refl _ _) 1⟩
structure MH(hv:List Nat)(x:Fe)(assume last:List Int):Prop where
 vs:x.vs=[]
 cl:x.cl=[]
 re:x.re=0
 am:LZ x.co assume=true
 sz:AG (AJ x.co)=x.co.length
 op:AJ last=AW (AJ x.co)
 no:LF hv (AJ x.co)=false
set_option maxHeartbeats 4000000 in
theorem XN(B:Nat)(d:SE)(x:Fe)(p:A3)(a1 a2:Option Addr)(c1 c2:Nat)(assume last:List Int)(w:World)(h:JI w B d)(hx:KR w x p)(h1:AS w a1 assume)(h2:AS w a2 last)(hl:x.co.length≤1000000∧assume.length≤1000000∧last.length≤10000000)(ho:MH d.hv x assume last) :
  Calls Tryz.prog 46 #[.pointer (some ⟨d.cb,0,none⟩),.agg #[.int .i64 x.st,.int .i64 x.re,.slice p.a1 x.vs.length p.c1,.slice p.a2 x.co.length p.c2,.slice p.a3 x.cl.length p.c3],.slice a1 assume.length c1,.slice a2 last.length c2] w fun e w'=>e=.returned (.bool true)∧Below w.heap.size w w':=by
 obtain⟨o1,o2,o3,o4,o5,o6,o7⟩:=ho
 have hb0:∀ y,Below w.heap.size w (w.alloc y):=fun y=>(Below.refl _ _).alloc (Nat.le_refl _) y
 have hsl:=DX x.co
 have HAM:Hid (∀ w',Below w.heap.size w w'→Calls Tryz.prog 79 #[.slice p.a2 x.co.length p.c2,.slice a1 assume.length c1] w' fun e w''=>e=.returned (.bool true)∧Below w'.heap.size w' w''):=fun w' hb=>by
  have:=Vd p.a2 a1 p.c2 c1 x.co assume w' (hx.co.below hb) (h1.below hb) (by omega) (by omega)
  rwa [o4] at this
 have HSC:Hid (∀ w',Below w.heap.size w w'→Calls Tryz.prog 43 #[.slice p.a2 x.co.length p.c2] w' fun e w''=>e=.returned (.tuple #[.int .i64 (AJ x.co:Nat),.bool (x.co.all AT)])∧w''=w'):=fun w' hb=>FH p.a2 p.c2 x.co w' (by omega) (hx.co.below hb)
 have HSL:Hid (∀ w',Below w.heap.size w w'→Calls Tryz.prog 43 #[.slice a2 last.length c2] w' fun e w''=>e=.returned (.tuple #[.int .i64 (AW (AJ x.co):Nat),.bool (last.all AT)])∧w''=w'):=fun w' hb=>by
  have:=FH a2 c2 last w' (by omega) (h2.below hb)
  rwa [o6] at this
 have HSZ:Hid (∀ w',Calls Tryz.prog 34 #[.int .i64 (AJ x.co:Nat)] w' fun e w''=>e=.returned (.int .i64 (x.co.length:Nat))∧w''=w'):=fun w'=>by
  have:=Fu (AJ x.co) hsl w'
  rwa [o5] at this
 have HOP:Hid (∀ w',Calls Tryz.prog 65 #[.int .i64 (AJ x.co:Nat)] w' fun e w''=>e=.returned (.int .i64 (AW (AJ x.co):Nat))∧w''=w'):=fun w'=>FA (AJ x.co) hsl w'
 have HSO:Hid (∀ w',Below w.heap.size w w'→Calls Tryz.prog 80 #[.slice d.ah d.hv.length d.ch,.int .i64 (AJ x.co:Nat)] w' fun e w''=>e=.returned (.bool false)∧w''=w'):=fun w' hb=>by
  have:=Zb d.ah d.ch d.hv (AJ x.co) w' (Fk (h.below hb).hv) (by have:=h.len;omega) hsl h.top.1
  rwa [o7] at this
 have HJ:=AB h
 have ra:AY (w.alloc (.cells (x.cells p).toArray 70)) w.heap.size 70 (x.cells p):=heap_alloc_new w _
 have RA:=AB ra
 have B0:=AB (hb0 (.cells (x.cells p).toArray 70))
 have hv0:x.vs.length=0:=by rw[o1];rfl
 have hc0:x.cl.length=0:=by rw[o2];rfl
 generalize AW (AJ x.co)=os at *
 generalize AJ x.co=sc at *
 generalize x.co.all AT=lb1 at *
 generalize last.all AT=lb2 at *
 have HV0:=AB hv0
 have HC0:=AB hc0
 have HO3:=AB o3
 clear h hx h1 h2 ra hb0 o1 o2 o3 o4 o5 o6 o7 hv0 hc0
 simp only[Fe.cells] at RA B0
 go_enter Tryz.func46,Tryz.ntmps46
 go_wp2_with fail
 generalize w.alloc (.cells [Value.int .i64 x.st,.int .i64 x.re,.slice p.a1 x.vs.length p.c1,.slice p.a2 x.co.length p.c2,.slice p.a3 x.cl.length p.c3].toArray 70)=w0 at *
 refine(AE HAM w0 B0.out).mono ?_
 rintro e w1 ⟨rfl,hb1⟩
 have B1:Hid (Below w.heap.size w w1):=B0.out.trans (hb1.mono B0.out.size)
 have RA1:=AB (AF RA.out hb1)
 have J1:=AB (HJ.out.below B1.out)
 have p3:w1.cell? ⟨w.heap.size,3,none⟩=some (.slice p.a2 x.co.length p.c2):=(RA1.out.cell 3).trans rfl
 have p2:w1.cell? ⟨w.heap.size,2,none⟩=some (.slice p.a1 0 p.c1):=by rw[← HV0.out];exact(RA1.out.cell 2).trans rfl
 have p4:w1.cell? ⟨w.heap.size,4,none⟩=some (.slice p.a3 0 p.c3):=by rw[← HC0.out];exact(RA1.out.cell 4).trans rfl
 have p1:w1.cell? ⟨w.heap.size,1,none⟩=some (.int .i64 0):=by rw[← HO3.out];exact(RA1.out.cell 1).trans rfl
 have s6:w1.cell? ⟨d.cb,6,none⟩=some (.slice d.ah d.hv.length d.ch):=(J1.out.blk.cell 6).trans rfl
 have S1:=AB (HSC.out w1 B1.out)
 have S2:=AB (HSL.out w1 B1.out)
 have S3:=AB (HSO.out w1 B1.out)
 clear hb1 HAM HSC HSL HSO B0 RA RA1 J1
 go_wp2_with fail
 refine(AE S1).mono ?_
 rintro e w' ⟨rfl,hw⟩
 obtain rfl:=hw.symm
 clear S1
 go_wp2_with fail
 refine(AE HSZ _).mono ?_
 rintro e w' ⟨rfl,hw⟩
 obtain rfl:=hw.symm
 clear HSZ
 go_wp2_with fail
 refine(AE S2).mono ?_
 rintro e w' ⟨rfl,hw⟩
 obtain rfl:=hw.symm
 clear S2
 go_wp2_with fail
 refine(AE HOP _).mono ?_
 rintro e w' ⟨rfl,hw⟩
 obtain rfl:=hw.symm
 clear HOP
 go_wp2_with fail
 refine(AE S3).mono ?_
 rintro e w' ⟨rfl,hw⟩
 obtain rfl:=hw.symm
 clear S3
 go_wp2
 go_ret
 exact⟨rfl,B1.out⟩
structure FP(d:SE)(x:Fe)(budget:Int):Prop where
 vs:x.vs=[]
 co:x.co=[]
 room:EL d.r d.h d.l budget d.seen d.unsat=false
 why:(x.re=1∧0<budget∧(d.st:Int)=budget∧x.cl=[])∨(x.re=2∧CA d.hv d.lr x.cl false=true∧d.h<(d.held:Int)+x.cl.length)∨(x.re=3∧CA d.hv d.lr x.cl true=true∧d.l<(d.log:Int)+x.cl.length+1)
set_option maxHeartbeats 4000000 in
theorem Sc(B:Nat)(d:SE)(x:Fe)(p:A3)(budget:Int)(w:World)(h:JI w B d)(hx:KR w x p)(hl:x.cl.length≤1000000)(hb:d.seen<1048576∧d.unsat≤1000000000∧d.held≤1000000000∧d.log≤1000000000)(ho:FP d x budget) :
  Calls Tryz.prog 47 #[.pointer (some ⟨d.cb,0,none⟩),.agg #[.int .i64 x.st,.int .i64 x.re,.slice p.a1 x.vs.length p.c1,.slice p.a2 x.co.length p.c2,.slice p.a3 x.cl.length p.c3],.int .i64 budget] w fun e w'=>e=.returned (.bool true)∧Below w.heap.size w w':=by
 obtain⟨o1,o2,o3,o4⟩:=ho
 have hb0:∀ y,Below w.heap.size w (w.alloc y):=fun y=>(Below.refl _ _).alloc (Nat.le_refl _) y
 have HEN:Hid (∀ w',Below w.heap.size w w'→Calls Tryz.prog 81 #[.pointer (some ⟨d.cb,0,none⟩),.int .i64 budget] w' fun e w''=>e=.returned (.bool false)∧Below w'.heap.size w' w''):=fun w' hbw=>by
  have:=TS d budget w' (AF h.blk hbw) hb.1 hb.2.1
  rwa [o3] at this
 have HCL:Hid (∀ tl w',Below w.heap.size w w'→Calls Tryz.prog 82 #[.pointer (some ⟨d.cb,0,none⟩),.slice p.a3 x.cl.length p.c3,.bool tl] w' fun e w''=>e=.returned (.bool (CA d.hv d.lr x.cl tl))∧Below w'.heap.size w' w''):=fun tl w' hbw=>J6 B d p.a3 p.c3 x.cl tl w' (h.below hbw) (hx.cl.below hbw) (by omega)
 have HJ:=AB h
 have ra:AY (w.alloc (.cells (x.cells p).toArray 70)) w.heap.size 70 (x.cells p):=heap_alloc_new w _
 have RA:=AB ra
 have B0:=AB (hb0 (.cells (x.cells p).toArray 70))
 have hv0:x.vs.length=0:=by rw[o1];rfl
 have hc0:x.co.length=0:=by rw[o2];rfl
 have HV0:=AB hv0
 have HC0:=AB hc0
 have HO4:=AB o4
 clear h hx ra hb0 o1 o2 o3 o4 hv0 hc0
 simp only[Fe.cells] at RA B0
 go_enter Tryz.func47,Tryz.ntmps47
 go_wp2_with fail
 generalize w.alloc (.cells [Value.int .i64 x.st,.int .i64 x.re,.slice p.a1 x.vs.length p.c1,.slice p.a2 x.co.length p.c2,.slice p.a3 x.cl.length p.c3].toArray 70)=w0 at *
 refine(AE HEN w0 B0.out).mono ?_
 rintro e w1 ⟨rfl,hb1⟩
 have B1:Hid (Below w.heap.size w w1):=B0.out.trans (hb1.mono B0.out.size)
 have RA1:=AB (AF RA.out hb1)
 have J1:=AB (HJ.out.below B1.out)
 have p2:w1.cell? ⟨w.heap.size,2,none⟩=some (.slice p.a1 0 p.c1):=by rw[← HV0.out];exact(RA1.out.cell 2).trans rfl
 have p3:w1.cell? ⟨w.heap.size,3,none⟩=some (.slice p.a2 0 p.c2):=by rw[← HC0.out];exact(RA1.out.cell 3).trans rfl
 clear hb1 HEN B0 RA
 rcases HO4.out with⟨e1,e2,e3,e4⟩ | ⟨e1,e2,e3⟩ | ⟨e1,e2,e3⟩
 ·have p1:w1.cell? ⟨w.heap.size,1,none⟩=some (.int .i64 1):=by rw[← e1];exact(RA1.out.cell 1).trans rfl
  have p4:w1.cell? ⟨w.heap.size,4,none⟩=some (.slice p.a3 0 p.c3):=by
   have:x.cl.length=0:=by rw[e4];rfl
   rw[← this];exact(RA1.out.cell 4).trans rfl
  have s14:w1.cell? ⟨d.cb,14,none⟩=some (.int .i64 budget):=by rw[← e3];exact(J1.out.blk.cell 14).trans rfl
  have hbp:budget > 0:=e2
  clear HO4 e1 e2 e3 e4 RA1 J1 HCL
  go_wp2
  go_ret
  exact⟨rfl,B1.out⟩
 ·have p1:w1.cell? ⟨w.heap.size,1,none⟩=some (.int .i64 2):=by rw[← e1];exact(RA1.out.cell 1).trans rfl
  have p4:w1.cell? ⟨w.heap.size,4,none⟩=some (.slice p.a3 x.cl.length p.c3):=(RA1.out.cell 4).trans rfl
  have HC2:=AB (HCL.out false w1 B1.out)
  rw[e2] at HC2
  have HE3:=AB e3
  clear HO4 e1 e2 e3 HCL
  go_wp2_with fail
  refine(AE HC2).mono ?_
  rintro e w2 ⟨rfl,hb2⟩
  have B2:Hid (Below w.heap.size w w2):=B1.out.trans (hb2.mono B1.out.size)
  have RA2:=AB (AF RA1.out hb2)
  have J2:=AB (J1.out.below hb2)
  have q4:w2.cell? ⟨w.heap.size,4,none⟩=some (.slice p.a3 x.cl.length p.c3):=(RA2.out.cell 4).trans rfl
  have s10:w2.cell? ⟨d.cb,10,none⟩=some (.int .i64 (d.held:Nat)):=(J2.out.blk.cell 10).trans rfl
  have s3:w2.cell? ⟨d.cb,3,none⟩=some (.int .i64 d.h):=(J2.out.blk.cell 3).trans rfl
  have e3:=HE3.out
  clear hb2 HC2 RA1 J1 RA2 J2 p1 p2 p3 p4 B1
  go_wp2_with fail
  go_region
  go_wp2
  go_ret
  exact⟨rfl,below_drewN B2.out 1⟩
 ·have p1:w1.cell? ⟨w.heap.size,1,none⟩=some (.int .i64 3):=by rw[← e1];exact(RA1.out.cell 1).trans rfl
  have p4:w1.cell? ⟨w.heap.size,4,none⟩=some (.slice p.a3 x.cl.length p.c3):=(RA1.out.cell 4).trans rfl
  have HC2:=AB (HCL.out true w1 B1.out)
  rw[e2] at HC2
  have HE3:=AB e3
  clear HO4 e1 e2 e3 HCL
  go_wp2_with fail
  refine(AE HC2).mono ?_
  rintro e w2 ⟨rfl,hb2⟩
  have B2:Hid (Below w.heap.size w w2):=B1.out.trans (hb2.mono B1.out.size)
  have RA2:=AB (AF RA1.out hb2)
  have J2:=AB (J1.out.below hb2)
  have q4:w2.cell? ⟨w.heap.size,4,none⟩=some (.slice p.a3 x.cl.length p.c3):=(RA2.out.cell 4).trans rfl
  have s11:w2.cell? ⟨d.cb,11,none⟩=some (.int .i64 (d.log:Nat)):=(J2.out.blk.cell 11).trans rfl
  have s4:w2.cell? ⟨d.cb,4,none⟩=some (.int .i64 d.l):=(J2.out.blk.cell 4).trans rfl
  have e3:=HE3.out
  clear hb2 HC2 RA1 J1 RA2 J2 p1 p2 p3 p4 B1
  go_wp2_with fail
  go_region
  go_wp2
  go_ret
  exact⟨rfl,below_drewN B2.out 1⟩
end Go.Proofs.YthboeppmlhbofaaGreatDoor
