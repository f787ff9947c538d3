import Derived.Test.YthboeppmlhbofaaGreatDoorPrd
import Derived.Deep.RegionLaw
import Derived.Test.YthboeppmlhbofaaGreatDoorTrn
import Derived.Test.YthboeppmlhbofaaGreatDoorPse
namespace Go.Proofs.YthboeppmlhbofaaGreatDoor
open Go.RowKit Txt
set_option maxRecDepth 100000
set_option maxHeartbeats 4000000 in
theorem Zh(P:DH)(Wb B n:Nat)(V:WV)(s:St)(ds:List (SX P))(w:World)(o:Cq)(ho:o.Ok)(hk:o.k=15)(h:AX w Wb B n V s ds)(hn:n≤16384)(hp:0<ds.length) :
  Calls Tryz.prog 12 #[.pointer (some ⟨Wb,0,none⟩),.agg o.cells] w fun e w'=>e=.returned (.bool true)∧MF P (n+1) w w' Wb B:=by
 have hBs:=h.hB
 have HB:Hid (∀ x,Below w.heap.size w (w.alloc x)):=fun x=>(Below.refl _ _).alloc (Nat.le_refl _) x
 have HT:Hid (∀ x,Calls Tryz.prog 14 #[.pointer (some ⟨Wb,0,none⟩),.agg o.cells] (w.alloc x) fun e w'=>e=.returned (.bool false)∧Below (w.alloc x).heap.size (w.alloc x) w'):=by
  intro x
  refine(Dn Wb B n V s (w.alloc x) o ho (h.i.below (HB.out x)) h.b hn).mono ?_
  have hio:D9 o.k=false:=by rw[hk];rfl
  rintro e w' ⟨rfl,hm⟩
  exact⟨by rw[hio],hm.no hio⟩
 have HK:Hid (∀ w,Calls Tryz.prog 22 #[.pointer (some ⟨Wb,0,none⟩),.slice none 0 0] w fun e w'=>e=.returned (.tuple #[])∧w'=w):=fun w=>FT Wb w
 have hdl:=h.dl
 have hnx:=h.nx
 have p1:=fun w=>DV o.a V.nx w (by omega) (by omega) ho.a.1 ho.a.2
 have l1:=DU o.a V.nx (by omega)
 generalize Er o.a V.nx=j1 at p1 l1
 obtain⟨g,d,eg,hd,c1⟩:=h.at_ (j:=j1) (by omega)
 obtain⟨bd1,bd2,bd3⟩:=h.bd j1 d hd
 have hgt:g<w.heap.size:=World.block_lt_of_cell? w _ c1
 have BD3:=AB bd3
 have P1:=AB p1
 have HD:=AB hd
 have H:=AB h
 have HEG:=AB eg
 have q1:(0:Int)≤(j1:Int):=by omega
 have q3:(j1:Int)<(V.nx:Int):=by omega
 have hnz:((V.nx:Int) == 0)=false:=by simp;omega
 have hlt:Wb<w.heap.size:=h.i.blk.lt
 obtain⟨k,a,b,c,t⟩:=o
 subst hk
 simp only[Cq.cells] at *
 clear h ho p1 hd eg hnx bd3 hdl
 go_enter Tryz.func12,Tryz.ntmps12
 go_wp2_with fail
 refine(AE HT _).mono ?_
 have m0:=AH w [.int .i64 15,.int .i64 a,.int .i64 b,.int .i64 c,.string t] 27 0 _ rfl
 have m1:=AH w [.int .i64 15,.int .i64 a,.int .i64 b,.int .i64 c,.string t] 27 1 _ rfl
 have hb1:Below w.heap.size w (w.alloc (.cells #[.int .i64 15,.int .i64 a,.int .i64 b,.int .i64 c,.string t] 27)):=(Below.refl _ _).alloc (Nat.le_refl _) _
 have e3:w.heap.size<(w.alloc (.cells #[.int .i64 15,.int .i64 a,.int .i64 b,.int .i64 c,.string t] 27)).heap.size:=by simp
 rw[Ch] at m0 m1
 simp only[Nat.zero_add] at m0 m1
 generalize w.alloc (.cells #[.int .i64 15,.int .i64 a,.int .i64 b,.int .i64 c,.string t] 27)=w1 at *
 rintro e w2 ⟨rfl,hb2⟩
 have k0:=(hb2.cell (p:=⟨w.heap.size,0,none⟩) e3).trans m0
 have k1:=(hb2.cell (p:=⟨w.heap.size,1,none⟩) e3).trans m1
 have hbw:Below w.heap.size w w2:=hb1.trans (hb2.mono (Nat.le_of_lt e3))
 have HW2:=AB hbw
 have k3:w2.cell? ⟨Wb,3,none⟩=some (.slice (some ⟨g,0,none⟩) V.nx V.cx):=((H.out.i.below hbw).blk.cell 3).trans (by simp only[WV.cells,WV.vx,HEG.out];rfl)
 have kx:w2.cell? ⟨g,j1,none⟩=some (.pointer (some ⟨d.d.cb,0,none⟩)):=(hbw.cell (p:=⟨g,j1,none⟩) hgt).trans c1
 have he2:w.heap.size<w2.heap.size:=Nat.lt_of_lt_of_le e3 hb2.size
 clear m0 m1 hb1 hb2 HT hbw c1 HB
 go_wp2_with fail
 go_quiet ((go_at_call 16;exact Calls.quiet_of_same (AE P1 _)))
 have hb3:Below w2.heap.size w2 (w2.drewN nq):=below_drewN (Below.refl _ _) _
 generalize w2.drewN nq=w3 at *
 have HW3:Hid (Below w.heap.size w w3):=HW2.out.trans (hb3.mono HW2.out.size)
 have y0:=(hb3.cell (p:=⟨w.heap.size,0,none⟩) he2).trans k0
 have H3:=AB (H.out.below HW3.out)
 have I3:=AB (H3.out.each j1 d HD.out)
 clear hb3 k0 k1 k3 kx HW2 P1 q1 q3 hnz
 have HA:=AB (T8 P B d w3 I3.out H3.out.hB [])
 go_wp2_with fail
 refine(AE HA).mono ?_
 rintro e w4 ⟨rfl,d',hs⟩
 have HN:=AB ((H3.out.sol HD.out hs (by simp)).pre (HW3.out.mono hBs))
 clear hs HA
 go_wp2_with (go_at_call 22;refine(AE HK _).mono ?_;rintro e w' ⟨rfl,hw⟩;obtain rfl:=hw.symm)
 go_ret
 exact⟨rfl,HN.out⟩
set_option maxHeartbeats 4000000 in
theorem Zl(P:DH)(Wb B n:Nat)(V:WV)(s:St)(ds:List (SX P))(w:World)(o:Cq)(ho:o.Ok)(hk:o.k=20)(h:AX w Wb B n V s ds)(hn:n≤16384)(hp:0<ds.length) :
  Calls Tryz.prog 12 #[.pointer (some ⟨Wb,0,none⟩),.agg o.cells] w fun e w'=>e=.returned (.bool true)∧MF P (n+1) w w' Wb B:=by
 have hBs:=h.hB
 have HB:Hid (∀ x,Below w.heap.size w (w.alloc x)):=fun x=>(Below.refl _ _).alloc (Nat.le_refl _) x
 have HT:Hid (∀ x,Calls Tryz.prog 14 #[.pointer (some ⟨Wb,0,none⟩),.agg o.cells] (w.alloc x) fun e w'=>e=.returned (.bool false)∧Below (w.alloc x).heap.size (w.alloc x) w'):=by
  intro x
  refine(Dn Wb B n V s (w.alloc x) o ho (h.i.below (HB.out x)) h.b hn).mono ?_
  have hio:D9 o.k=false:=by rw[hk];rfl
  rintro e w' ⟨rfl,hm⟩
  exact⟨by rw[hio],hm.no hio⟩
 have HK:Hid (∀ w,Calls Tryz.prog 22 #[.pointer (some ⟨Wb,0,none⟩),.slice none 0 0] w fun e w'=>e=.returned (.tuple #[])∧w'=w):=fun w=>FT Wb w
 have hdl:=h.dl
 have hnx:=h.nx
 have p1:=fun w=>DV o.a V.nx w (by omega) (by omega) ho.a.1 ho.a.2
 have l1:=DU o.a V.nx (by omega)
 generalize Er o.a V.nx=j1 at p1 l1
 obtain⟨g,d,eg,hd,c1⟩:=h.at_ (j:=j1) (by omega)
 obtain⟨bd1,bd2,bd3⟩:=h.bd j1 d hd
 have hgt:g<w.heap.size:=World.block_lt_of_cell? w _ c1
 have BD3:=AB bd3
 have P1:=AB p1
 have HD:=AB hd
 have H:=AB h
 have HEG:=AB eg
 have q1:(0:Int)≤(j1:Int):=by omega
 have q3:(j1:Int)<(V.nx:Int):=by omega
 have hnz:((V.nx:Int) == 0)=false:=by simp;omega
 have hlt:Wb<w.heap.size:=h.i.blk.lt
 obtain⟨k,a,b,c,t⟩:=o
 subst hk
 simp only[Cq.cells] at *
 clear h ho p1 hd eg hnx bd3 hdl
 go_enter Tryz.func12,Tryz.ntmps12
 go_wp2_with fail
 refine(AE HT _).mono ?_
 have m0:=AH w [.int .i64 20,.int .i64 a,.int .i64 b,.int .i64 c,.string t] 27 0 _ rfl
 have m1:=AH w [.int .i64 20,.int .i64 a,.int .i64 b,.int .i64 c,.string t] 27 1 _ rfl
 have hb1:Below w.heap.size w (w.alloc (.cells #[.int .i64 20,.int .i64 a,.int .i64 b,.int .i64 c,.string t] 27)):=(Below.refl _ _).alloc (Nat.le_refl _) _
 have e3:w.heap.size<(w.alloc (.cells #[.int .i64 20,.int .i64 a,.int .i64 b,.int .i64 c,.string t] 27)).heap.size:=by simp
 rw[Ch] at m0 m1
 simp only[Nat.zero_add] at m0 m1
 generalize w.alloc (.cells #[.int .i64 20,.int .i64 a,.int .i64 b,.int .i64 c,.string t] 27)=w1 at *
 rintro e w2 ⟨rfl,hb2⟩
 have k0:=(hb2.cell (p:=⟨w.heap.size,0,none⟩) e3).trans m0
 have k1:=(hb2.cell (p:=⟨w.heap.size,1,none⟩) e3).trans m1
 have hbw:Below w.heap.size w w2:=hb1.trans (hb2.mono (Nat.le_of_lt e3))
 have HW2:=AB hbw
 have k3:w2.cell? ⟨Wb,3,none⟩=some (.slice (some ⟨g,0,none⟩) V.nx V.cx):=((H.out.i.below hbw).blk.cell 3).trans (by simp only[WV.cells,WV.vx,HEG.out];rfl)
 have kx:w2.cell? ⟨g,j1,none⟩=some (.pointer (some ⟨d.d.cb,0,none⟩)):=(hbw.cell (p:=⟨g,j1,none⟩) hgt).trans c1
 have he2:w.heap.size<w2.heap.size:=Nat.lt_of_lt_of_le e3 hb2.size
 clear m0 m1 hb1 hb2 HT hbw c1 HB
 go_wp2_with fail
 go_quiet ((go_at_call 16;exact Calls.quiet_of_same (AE P1 _)))
 have hb3:Below w2.heap.size w2 (w2.drewN nq):=below_drewN (Below.refl _ _) _
 generalize w2.drewN nq=w3 at *
 have HW3:Hid (Below w.heap.size w w3):=HW2.out.trans (hb3.mono HW2.out.size)
 have y0:=(hb3.cell (p:=⟨w.heap.size,0,none⟩) he2).trans k0
 have H3:=AB (H.out.below HW3.out)
 have I3:=AB (H3.out.each j1 d HD.out)
 clear hb3 k0 k1 k3 kx HW2 P1 q1 q3 hnz
 have z1:w3.cell? ⟨d.d.cb,1,none⟩=some (.pointer (some ⟨d.d.gy,0,none⟩)):=(I3.out.js.ji.blk.cell 1).trans rfl
 have HA:=AB (DL P d.d d.d.gy d.s d.fy w3 I3.out.js.ji.blk I3.out.y I3.out.ok I3.out.e (by omega))
 go_wp2_with fail
 refine(AE HA).mono ?_
 rintro e w4 ⟨rfl,hb4⟩
 have HN:Hid (MF P (n+1) w w4 Wb B):=⟨V,s,ds,(H3.out.below hb4).on,(HW3.out.trans (hb4.mono HW3.out.size)).mono hBs⟩
 clear hb4 HA
 go_wp2_with (go_at_call 22;refine(AE HK _).mono ?_;rintro e w' ⟨rfl,hw⟩;obtain rfl:=hw.symm)
 go_ret
 exact⟨rfl,HN.out⟩
set_option maxHeartbeats 4000000 in
theorem bY(P:DH)(Wb B n:Nat)(V:WV)(s:St)(ds:List (SX P))(w:World)(o:Cq)(ho:o.Ok)(hk:o.k=9)(h:AX w Wb B n V s ds)(hn:n≤16384)(hp:0<ds.length) :
  Calls Tryz.prog 12 #[.pointer (some ⟨Wb,0,none⟩),.agg o.cells] w fun e w'=>e=.returned (.bool true)∧MF P (n+1) w w' Wb B:=by
 have hBs:=h.hB
 have HB:Hid (∀ x,Below w.heap.size w (w.alloc x)):=fun x=>(Below.refl _ _).alloc (Nat.le_refl _) x
 have HT:Hid (∀ x,Calls Tryz.prog 14 #[.pointer (some ⟨Wb,0,none⟩),.agg o.cells] (w.alloc x) fun e w'=>e=.returned (.bool false)∧Below (w.alloc x).heap.size (w.alloc x) w'):=by
  intro x
  refine(Dn Wb B n V s (w.alloc x) o ho (h.i.below (HB.out x)) h.b hn).mono ?_
  have hio:D9 o.k=false:=by rw[hk];rfl
  rintro e w' ⟨rfl,hm⟩
  exact⟨by rw[hio],hm.no hio⟩
 have HK:Hid (∀ w,Calls Tryz.prog 22 #[.pointer (some ⟨Wb,0,none⟩),.slice none 0 0] w fun e w'=>e=.returned (.tuple #[])∧w'=w):=fun w=>FT Wb w
 have hdl:=h.dl
 have hnx:=h.nx
 have p1:=fun w=>DV o.a V.nx w (by omega) (by omega) ho.a.1 ho.a.2
 have l1:=DU o.a V.nx (by omega)
 generalize Er o.a V.nx=j1 at p1 l1
 obtain⟨g,d,eg,hd,c1⟩:=h.at_ (j:=j1) (by omega)
 obtain⟨bd1,bd2,bd3⟩:=h.bd j1 d hd
 have hgt:g<w.heap.size:=World.block_lt_of_cell? w _ c1
 have BD3:=AB bd3
 have P1:=AB p1
 have HD:=AB hd
 have H:=AB h
 have HEG:=AB eg
 have q1:(0:Int)≤(j1:Int):=by omega
 have q3:(j1:Int)<(V.nx:Int):=by omega
 have hnz:((V.nx:Int) == 0)=false:=by simp;omega
 have hlt:Wb<w.heap.size:=h.i.blk.lt
 obtain⟨k,a,b,c,t⟩:=o
 subst hk
 simp only[Cq.cells] at *
 clear h ho p1 hd eg hnx bd3 hdl
 go_enter Tryz.func12,Tryz.ntmps12
 go_wp2_with fail
 refine(AE HT _).mono ?_
 have m0:=AH w [.int .i64 9,.int .i64 a,.int .i64 b,.int .i64 c,.string t] 27 0 _ rfl
 have m1:=AH w [.int .i64 9,.int .i64 a,.int .i64 b,.int .i64 c,.string t] 27 1 _ rfl
 have hb1:Below w.heap.size w (w.alloc (.cells #[.int .i64 9,.int .i64 a,.int .i64 b,.int .i64 c,.string t] 27)):=(Below.refl _ _).alloc (Nat.le_refl _) _
 have e3:w.heap.size<(w.alloc (.cells #[.int .i64 9,.int .i64 a,.int .i64 b,.int .i64 c,.string t] 27)).heap.size:=by simp
 rw[Ch] at m0 m1
 simp only[Nat.zero_add] at m0 m1
 generalize w.alloc (.cells #[.int .i64 9,.int .i64 a,.int .i64 b,.int .i64 c,.string t] 27)=w1 at *
 rintro e w2 ⟨rfl,hb2⟩
 have k0:=(hb2.cell (p:=⟨w.heap.size,0,none⟩) e3).trans m0
 have k1:=(hb2.cell (p:=⟨w.heap.size,1,none⟩) e3).trans m1
 have hbw:Below w.heap.size w w2:=hb1.trans (hb2.mono (Nat.le_of_lt e3))
 have HW2:=AB hbw
 have k3:w2.cell? ⟨Wb,3,none⟩=some (.slice (some ⟨g,0,none⟩) V.nx V.cx):=((H.out.i.below hbw).blk.cell 3).trans (by simp only[WV.cells,WV.vx,HEG.out];rfl)
 have kx:w2.cell? ⟨g,j1,none⟩=some (.pointer (some ⟨d.d.cb,0,none⟩)):=(hbw.cell (p:=⟨g,j1,none⟩) hgt).trans c1
 have he2:w.heap.size<w2.heap.size:=Nat.lt_of_lt_of_le e3 hb2.size
 clear m0 m1 hb1 hb2 HT hbw c1 HB
 go_wp2_with fail
 go_quiet ((go_at_call 16;exact Calls.quiet_of_same (AE P1 _)))
 have hb3:Below w2.heap.size w2 (w2.drewN nq):=below_drewN (Below.refl _ _) _
 generalize w2.drewN nq=w3 at *
 have HW3:Hid (Below w.heap.size w w3):=HW2.out.trans (hb3.mono HW2.out.size)
 have y0:=(hb3.cell (p:=⟨w.heap.size,0,none⟩) he2).trans k0
 have H3:=AB (H.out.below HW3.out)
 have I3:=AB (H3.out.each j1 d HD.out)
 clear hb3 k0 k1 k3 kx HW2 P1 q1 q3 hnz
 have z5:w3.cell? ⟨d.d.cb,5,none⟩=some (.slice d.ag d.given.length d.cg):=((I3.out.js.ji.blk.cell 5).trans (rfl:_=some d.d.vg)).trans (congrArg some I3.out.vgE)
 obtain⟨RA,RC,hrr⟩:=KE I3.out.gv I3.out.ge (fun x hx=>Nat.le_trans (BD3.out x hx) (by decide))
 have HA:=AB (IY d.ag d.cg RA RC d.given w3 (by omega) hrr (fun x hx=>Nat.le_trans (BD3.out x hx) (by decide)))
 clear hrr
 go_wp2_with fail
 refine(AE HA).mono ?_
 rintro e w4 ⟨G,gs,gl,rfl,hsp,hb4⟩
 have HN:=AB ((H3.out.nxt (UQ H3.out.i H3.out.b hsp hb4 bd2 hn BD3.out)).pre (HW3.out.mono hBs))
 have r4:=(H3.out.i.below hb4).blk
 have s1:w4.cell? ⟨Wb,1,none⟩=some (.slice V.ac s.clauses.length V.cc):=(r4.cell 1).trans rfl
 have s1':=r4.frozen 1
 clear hsp hb4 r4 HA
 go_wp2_with (go_at_call 22;refine(AE HK _).mono ?_;rintro e w' ⟨rfl,hw⟩;obtain rfl:=hw.symm)
 go_ret
 exact⟨rfl,HN.out⟩
set_option maxHeartbeats 4000000 in
theorem Zi(P:DH)(Wb B n:Nat)(V:WV)(s:St)(ds:List (SX P))(w:World)(o:Cq)(ho:o.Ok)(hk:o.k=16)(h:AX w Wb B n V s ds)(hn:n≤16384)(hp:0<ds.length) :
  Calls Tryz.prog 12 #[.pointer (some ⟨Wb,0,none⟩),.agg o.cells] w fun e w'=>e=.returned (.bool true)∧MF P (n+1) w w' Wb B:=by
 have hBs:=h.hB
 have HB:Hid (∀ x,Below w.heap.size w (w.alloc x)):=fun x=>(Below.refl _ _).alloc (Nat.le_refl _) x
 have HT:Hid (∀ x,Calls Tryz.prog 14 #[.pointer (some ⟨Wb,0,none⟩),.agg o.cells] (w.alloc x) fun e w'=>e=.returned (.bool false)∧Below (w.alloc x).heap.size (w.alloc x) w'):=by
  intro x
  refine(Dn Wb B n V s (w.alloc x) o ho (h.i.below (HB.out x)) h.b hn).mono ?_
  have hio:D9 o.k=false:=by rw[hk];rfl
  rintro e w' ⟨rfl,hm⟩
  exact⟨by rw[hio],hm.no hio⟩
 have HK:Hid (∀ w,Calls Tryz.prog 22 #[.pointer (some ⟨Wb,0,none⟩),.slice none 0 0] w fun e w'=>e=.returned (.tuple #[])∧w'=w):=fun w=>FT Wb w
 have hdl:=h.dl
 have hnx:=h.nx
 have p1:=fun w=>DV o.a V.nx w (by omega) (by omega) ho.a.1 ho.a.2
 have l1:=DU o.a V.nx (by omega)
 generalize Er o.a V.nx=j1 at p1 l1
 obtain⟨g,d,eg,hd,c1⟩:=h.at_ (j:=j1) (by omega)
 obtain⟨bd1,bd2,bd3⟩:=h.bd j1 d hd
 have hgt:g<w.heap.size:=World.block_lt_of_cell? w _ c1
 have BD3:=AB bd3
 have P1:=AB p1
 have HD:=AB hd
 have H:=AB h
 have HEG:=AB eg
 have q1:(0:Int)≤(j1:Int):=by omega
 have q3:(j1:Int)<(V.nx:Int):=by omega
 have hnz:((V.nx:Int) == 0)=false:=by simp;omega
 have hlt:Wb<w.heap.size:=h.i.blk.lt
 obtain⟨k,a,b,c,t⟩:=o
 subst hk
 simp only[Cq.cells] at *
 clear h ho p1 hd eg hnx bd3 hdl
 go_enter Tryz.func12,Tryz.ntmps12
 go_wp2_with fail
 refine(AE HT _).mono ?_
 have m0:=AH w [.int .i64 16,.int .i64 a,.int .i64 b,.int .i64 c,.string t] 27 0 _ rfl
 have m1:=AH w [.int .i64 16,.int .i64 a,.int .i64 b,.int .i64 c,.string t] 27 1 _ rfl
 have hb1:Below w.heap.size w (w.alloc (.cells #[.int .i64 16,.int .i64 a,.int .i64 b,.int .i64 c,.string t] 27)):=(Below.refl _ _).alloc (Nat.le_refl _) _
 have e3:w.heap.size<(w.alloc (.cells #[.int .i64 16,.int .i64 a,.int .i64 b,.int .i64 c,.string t] 27)).heap.size:=by simp
 rw[Ch] at m0 m1
 simp only[Nat.zero_add] at m0 m1
 generalize w.alloc (.cells #[.int .i64 16,.int .i64 a,.int .i64 b,.int .i64 c,.string t] 27)=w1 at *
 rintro e w2 ⟨rfl,hb2⟩
 have k0:=(hb2.cell (p:=⟨w.heap.size,0,none⟩) e3).trans m0
 have k1:=(hb2.cell (p:=⟨w.heap.size,1,none⟩) e3).trans m1
 have hbw:Below w.heap.size w w2:=hb1.trans (hb2.mono (Nat.le_of_lt e3))
 have HW2:=AB hbw
 have k3:w2.cell? ⟨Wb,3,none⟩=some (.slice (some ⟨g,0,none⟩) V.nx V.cx):=((H.out.i.below hbw).blk.cell 3).trans (by simp only[WV.cells,WV.vx,HEG.out];rfl)
 have kx:w2.cell? ⟨g,j1,none⟩=some (.pointer (some ⟨d.d.cb,0,none⟩)):=(hbw.cell (p:=⟨g,j1,none⟩) hgt).trans c1
 have he2:w.heap.size<w2.heap.size:=Nat.lt_of_lt_of_le e3 hb2.size
 clear m0 m1 hb1 hb2 HT hbw c1 HB
 go_wp2_with fail
 go_quiet ((go_at_call 16;exact Calls.quiet_of_same (AE P1 _)))
 have hb3:Below w2.heap.size w2 (w2.drewN nq):=below_drewN (Below.refl _ _) _
 generalize w2.drewN nq=w3 at *
 have HW3:Hid (Below w.heap.size w w3):=HW2.out.trans (hb3.mono HW2.out.size)
 have y0:=(hb3.cell (p:=⟨w.heap.size,0,none⟩) he2).trans k0
 have H3:=AB (H.out.below HW3.out)
 have I3:=AB (H3.out.each j1 d HD.out)
 clear hb3 k0 k1 k3 kx HW2 P1 q1 q3 hnz
 obtain⟨i0,hi,hz0,hz1,hz2⟩:=info_parts Tryz.infoString
 have hxt:=H3.out.b.txs
 have d1:Hid (s.texts.length+1≤maxLen):=by show _≤_;unfold maxLen;omega
 have d2:Hid ((s.texts.length+1)*16≤140737488355328):=by show _≤_;omega
 have z1:w3.cell? ⟨d.d.cb,0,none⟩=some (.pointer (some ⟨d.d.gx,0,none⟩)):=(I3.out.js.ji.blk.cell 0).trans rfl
 have HA:=AB (DL P d.d d.d.gx d.s d.fx w3 I3.out.js.ji.blk I3.out.x I3.out.ok I3.out.e (by omega))
 go_wp2_with fail
 refine(AE HA).mono ?_
 rintro e w4 ⟨rfl,hb4⟩
 have H4:=AB (H3.out.below hb4)
 have HW4:Hid (Below w.heap.size w w4):=HW3.out.trans (hb4.mono HW3.out.size)
 have I4:=AB (H4.out.each j1 d HD.out)
 have s2:w4.cell? ⟨Wb,2,none⟩=some (.slice V.at_ s.texts.length V.ct):=(H4.out.i.blk.cell 2).trans rfl
 have s13:w4.cell? ⟨d.d.cb,13,none⟩=some (.string d.d.pf):=(I4.out.js.ji.blk.cell 13).trans rfl
 have HPZ:Hid (d.d.pf.size≤4194304):=by show _≤_;rw[I4.out.e.pf,Up];exact(P.bd I4.out.ok).pfl
 have hlt4:Wb<w4.heap.size:=H4.out.i.blk.lt
 have hcb4:d.d.cb<w4.heap.size:=I4.out.js.ji.blk.lt
 have hB4:B≤w4.heap.size:=H4.out.hB
 have s2a:∀ o,(w4.alloc o).cell? ⟨Wb,2,none⟩=some (.slice V.at_ s.texts.length V.ct):=fun o=>(((Below.refl w4.heap.size w4).alloc (Nat.le_refl _) o).cell (p:=⟨Wb,2,none⟩) hlt4).trans s2
 have s13a:∀ o,(w4.alloc o).cell? ⟨d.d.cb,13,none⟩=some (.string d.d.pf):=fun o=>(((Below.refl w4.heap.size w4).alloc (Nat.le_refl _) o).cell (p:=⟨d.d.cb,13,none⟩) hcb4).trans s13
 clear hb4 HA z1
 go_wp2_with fail
 go_region_law (
  (refine DZ _ (by rfl) (.tmp 93) (.tmp 98) 31 (by rfl) B 9 i0 (.string ByteArray.empty) 16 Tryz.undStrings hi hz0 hz1 hz2 rfl (.slice V.at_ s.texts.length V.ct) s.texts.length (Ia s.texts) (by rfl) (by exact H4.out.i.tx.alloc _) ⟨w4.heap.size,0,none⟩ 1 1 [.string d.d.pf] (by rfl) rfl (by exact AH w4 [.string d.d.pf] 9) (by intro u hu;simp at hu;subst hu;rfl) (by decide) d1.out d2.out (by simp;omega) (w4.heap.size+1) (by simp) ?_;intro a3 c3 w5 hown3 hg3 hl3;
       have HR3:Hid (AY w5 Wb 34 (V.cells s)):=B8 (AF H4.out.i.blk ((Below.refl _ _).alloc (Nat.le_refl _) _)) (H4.out.i.tx.alloc _) Hc (Bj hg3);
       have g2:w5.cell? ⟨Wb,2,none⟩=some (.slice V.at_ s.texts.length V.ct):=(HR3.out.cell 2).trans rfl;
       have g2':=HR3.out.frozen 2))
 all_goals
  have HN:=AB ((H4.out.nxt (IE H4.out.i H4.out.b (Below.refl _ _) H4.out.hB HPZ.out (Bj hg3) hl3 (by omega) hown3)).pre (HW4.out.mono hBs))
  clear hown3 hg3 hl3
  go_wp2_with (go_at_call 22;refine(AE HK _).mono ?_;rintro e w' ⟨rfl,hw⟩;obtain rfl:=hw.symm)
  go_ret
  exact⟨rfl,HN.out⟩
theorem A3.at1{p:A3}{b n:Nat}(h:(Value.slice p.a1 n p.c1).ownBlock=some b):p.At b:=.inl (by rw[← h];exact Eg)
theorem A3.at2{p:A3}{b n:Nat}(h:(Value.slice p.a2 n p.c2).ownBlock=some b):p.At b:=.inr (.inl (by rw[← h];exact Eg))
theorem A3.at3{p:A3}{b n:Nat}(h:(Value.slice p.a3 n p.c3).ownBlock=some b):p.At b:=.inr (.inr (by rw[← h];exact Eg))
theorem Bf.frame{w w':World}{B:Nat}{x:Fe}{p:A3}(h:Bf w B x p)(hk:∀ k,p.At k→w'.heap[k]?=w.heap[k]?):Bf w' B x p :=
 ⟨BV h.vs (fun b e=>hk b (A3.at1 e)),BV h.co (fun b e=>hk b (A3.at2 e)),BV h.cl (fun b e=>hk b (A3.at3 e)),h.p12,h.p13,h.p23⟩
theorem Bf.lt{w:World}{B:Nat}{x:Fe}{p:A3}(h:Bf w B x p){k:Nat}(hk:p.At k):B≤k∧k<w.heap.size:=by
 rcases hk with e | e | e
 ·exact h.vs.lt k (by rw[← e];exact Eg)
 ·exact h.co.lt k (by rw[← e];exact Eg)
 ·exact h.cl.lt k (by rw[← e];exact Eg)
theorem Bf.low{w:World}{B B':Nat}{x:Fe}{p:A3}(h:Bf w B x p)(hb:B'≤B):Bf w B' x p:=⟨BO h.vs hb,BO h.co hb,BO h.cl hb,h.p12,h.p13,h.p23⟩
theorem Bf.at_{w:World}{B:Nat}{x:Fe}{p:A3}(h:Bf w B x p):KR w x p:=⟨BF h.vs,BF h.co,BF h.cl⟩
structure Im{P:DH}(w w6:World)(q:SX P)(s:P.S)(x:Fe)(p1 p2:A3)(fx fy:Nat→Prop):Prop where
 t:PA w w6 q s fx fy
 o1:Bf w6 w.heap.size x p1
 o2:Bf w6 w.heap.size x p2
 d12:∀ k,p1.At k→¬ p2.At k
 n1:∀ k,p1.At k→¬ fx k∧¬ fy k
 n2:∀ k,p2.At k→¬ fx k∧¬ fy k
theorem cr{P:DH}{w w1 w2 w4 w5 w6:World}{B k2:Nat}{q:SX P}{s:P.S}{x:Fe}{p1 p2:A3}{fx fy:Nat→Prop}(h:Ii w B q)(hb1:Below w.heap.size w w1)(hk1:w.heap.size<w1.heap.size)
  (x2:P.At w2 q.d.gx s fx) (c2:CM q.fx w1 w2) (n2:∀ b,fx b→q.fx b∨w1.heap.size≤b) (a2:Bf w2 w1.heap.size x p1) (f2:∀ k,p1.At k→¬ fx k)
  (c24:CM (fun b=>b=w.heap.size) w2 w4) (y5:P.At w5 q.d.gy s fy) (c5:CM q.fy w4 w5) (n5:∀ b,fy b→q.fy b∨w4.heap.size≤b) (a5:Bf w5 w4.heap.size x p2) (f5:∀ k,p2.At k→¬ fy k)
  (hk2:w2.heap.size≤k2∧k2<w4.heap.size) (c56:CM (fun b=>b=k2) w5 w6):Im w w6 q s x p1 p2 fx fy:=by
 have z1:=hb1.size
 have z2:=c2.size
 have z4:=c24.size
 have z5:=c5.size
 have z6:=c56.size
 have xl:=P.lt h.x
 have yl:=P.lt h.y
 have x2l:=P.lt x2
 have y5l:=P.lt y5
 have ifx:∀ b,fx b→(q.fx b∧b<w.heap.size)∨(w1.heap.size≤b∧b<w2.heap.size):=fun b hb=>(n2 b hb).elim (fun e=>.inl ⟨e,xl b e⟩) (fun e=>.inr ⟨e,x2l b hb⟩)
 have ify:∀ b,fy b→(q.fy b∧b<w.heap.size)∨(w4.heap.size≤b∧b<w5.heap.size):=fun b hb=>(n5 b hb).elim (fun e=>.inl ⟨e,yl b e⟩) (fun e=>.inr ⟨e,y5l b hb⟩)
 have ip1:∀ k,p1.At k→w1.heap.size≤k∧k<w2.heap.size:=fun k hk=>a2.lt hk
 have ip2:∀ k,p2.At k→w4.heap.size≤k∧k<w5.heap.size:=fun k hk=>a5.lt hk
 have kx:∀ b,fx b→w6.heap[b]?=w2.heap[b]?:=by
  intro b hb
  have hne:b≠w.heap.size∧b≠k2∧¬ q.fy b∧b<w2.heap.size:=by
   rcases ifx b hb with⟨e,e'⟩ | ⟨e,e'⟩
   ·exact⟨by omega,by omega,h.xy b e,by omega⟩
   ·exact⟨by omega,by omega,fun hq=>by have:=yl b hq;omega,e'⟩
  exact(c56.block b (by omega) hne.2.1).trans ((c5.block b (by omega) hne.2.2.1).trans (c24.block b hne.2.2.2 hne.1))
 have ky:∀ b,fy b→w6.heap[b]?=w5.heap[b]?:=by
  intro b hb
  have hne:b≠k2∧b<w5.heap.size:=by
   rcases ify b hb with⟨e,e'⟩ | ⟨e,e'⟩
   ·exact⟨by omega,by omega⟩
   ·exact⟨by omega,e'⟩
  exact c56.block b hne.2 hne.1
 have k1:∀ k,p1.At k→w6.heap[k]?=w2.heap[k]?:=by
  intro k hk
  have e:=ip1 k hk
  exact(c56.block k (by omega) (by omega)).trans ((c5.block k (by omega) (fun hq=>by have:=yl k hq;omega)).trans (c24.block k e.2 (by omega)))
 have kp2:∀ k,p2.At k→w6.heap[k]?=w5.heap[k]?:=by
  intro k hk
  have e:=ip2 k hk
  exact c56.block k e.2 (by omega)
 have chg:CM q.XY w w6:=by
  refine⟨c56.os.trans (c5.os.trans (c24.os.trans (c2.os.trans hb1.os))),c56.tape.trans (c5.tape.trans (c24.tape.trans (c2.tape.trans hb1.tape))),c56.output.trans (c5.output.trans (c24.output.trans (c2.output.trans hb1.output))),by omega,fun k hk hn=>?_⟩
  exact(c56.block k (by omega) (by omega)).trans ((c5.block k (by omega) (fun hq=>hn (.inr hq))).trans ((c24.block k (by omega) (by omega)).trans ((c2.block k (by omega) (fun hq=>hn (.inl hq))).trans (hb1.block k hk))))
 refine⟨⟨P.frame x2 kx,P.frame y5 ky,chg,fun b hb=>(ifx b hb).imp (fun e=>e.1) (fun e=>by omega),fun b hb=>(ify b hb).imp (fun e=>e.1) (fun e=>by omega),fun b hb hb'=>?_⟩,(a2.frame k1).low z1,(a5.frame kp2).low (by omega),fun k h1 h2=>?_,fun k hk=>⟨f2 k hk,fun hq=>?_⟩,fun k hk=>⟨fun hq=>?_,f5 k hk⟩⟩
 ·rcases ify b hb' with⟨e,e'⟩ | ⟨e,e'⟩
  ·rcases ifx b hb with⟨e2,_⟩ | ⟨e2,_⟩
   ·exact h.xy b e2 e
   ·omega
  ·rcases ifx b hb with⟨_,e2⟩ | ⟨_,e2⟩ <;> omega
 ·have e1:=ip1 k h1
  have e2:=ip2 k h2
  omega
 ·have e1:=ip1 k hk
  rcases ify k hq with⟨_,e2⟩ | ⟨e2,_⟩ <;> omega
 ·have e1:=ip2 k hk
  rcases ifx k hq with⟨_,e2⟩ | ⟨_,e2⟩ <;> omega
theorem Im.below{P:DH}{w w6 w7:World}{q:SX P}{s:P.S}{x:Fe}{p1 p2:A3}{fx fy:Nat→Prop}(h:Im w w6 q s x p1 p2 fx fy)(hb:Below w6.heap.size w6 w7):Im w w7 q s x p1 p2 fx fy :=
 ⟨⟨P.below h.t.x hb,P.below h.t.y hb,h.t.chg.below hb,h.t.nx,h.t.ny,h.t.xy⟩,h.o1.frame (fun k hk=>hb.block k (h.o1.lt hk).2),h.o2.frame (fun k hk=>hb.block k (h.o2.lt hk).2),h.d12,h.n1,h.n2⟩
def SX.solved{P:DH}(q:SX P)(s:P.S)(fx fy:Nat→Prop)(seen unsat:Nat)(j:JV)(al:Option Addr)(cl:Nat)(pf:ByteArray):SX P :=
 { q with d:={ q.d with seen:=seen,unsat:=unsat,lr:=j.lr,held:=j.held,log:=j.log,st:=j.st,al:=al,cl:=cl,pf:=pf },s:=s,fx:=fx,fy:=fy }
theorem JM{P:DH}{w w6 w8:World}{B:Nat}{q:SX P}{s:P.S}{x:Fe}{p1 p2:A3}{fx fy:Nat→Prop}{seen unsat:Nat}{j:JV}{al:Option Addr}{cl:Nat}{pf:ByteArray}(h:Ii w B q)(hB:B≤w.heap.size)(t:Im w w6 q s x p1 p2 fx fy)
  (js:JS w8 B (q.solved s fx fy seen unsat j al cl pf).d) (c:CM q.d.Own w6 w8) (ob:∀ b,(q.solved s fx fy seen unsat j al cl pf).d.Own b→q.d.Own b∨w6.heap.size≤b) (hok:P.Ok s) (he:aA (q.solved s fx fy seen unsat j al cl pf).d (P.vw s)) (xs:List Int) :
  Sm w w8 B q (q.solved s fx fy seen unsat j al cl pf) xs∧Bf w8 w.heap.size x p1∧Bf w8 w.heap.size x p2∧∀ k,(p1.At k∨p2.At k)→¬ (q.solved s fx fy seen unsat j al cl pf).At k:=by
 have z6:=t.t.chg.size
 have kJ:=h.jAt t.t.chg
 have oJ:∀ b,q.d.Own b→q.J b:=fun b hb=>hb.elim .inl (fun e=>.inr (.inr (.inr (.inl e))))
 have ltJ:∀ b,q.J b→b<w.heap.size:=fun b hb=>(h.ltJ hb).2
 have r6:w6.heap[q.d.cb]?=some (.cells q.d.cells.toArray 44 (0,0)):=(kJ _ (.inl rfl)).trans h.js.ji.blk
 have gv6:w6.ownsRow B 24 1 q.vg q.given.length q.vgs:=BV h.gv (fun b e=>kJ b (.inr (.inl e)))
 have ge6:Aq w6 B 3 q.vgs q.given:=h.ge.map (fun u hu _ _ ho=>BV ho (fun b e=>kJ b (.inr (.inr (.inr (.inr ⟨u,hu,e⟩))))))
 have lr6:w6.ownsRow B 3 1 q.d.vl q.d.lr.length (AO (A8 q.d.lr)):=BV h.js.ji.lr (fun b e=>kJ b (.inr (.inr (.inr (.inl e)))))
 have ng:∀ b,q.vg.ownBlock=some b→¬ q.d.Own b:=by
  intro b e hp
  obtain⟨_,_,k1⟩:=KJ gv6 b e
  rcases hp with hp | hp
  ·exact Nh k1 r6 Zn.symm hp
  ·obtain⟨_,_,k2⟩:=KJ lr6 b hp
   exact Nh k1 k2 bc.symm rfl
 have nu:∀ u∈q.vgs,∀ b,u.ownBlock=some b→¬ q.d.Own b:=by
  intro u hu b e hp
  obtain⟨zs,hz⟩:=ge6.mem hu
  obtain⟨_,_,k1⟩:=KJ hz b e
  rcases hp with hp | hp
  ·exact Nh k1 r6 XE.symm hp
  ·exact(h.gh u hu).2 b e hp
 have GV:w8.ownsRow B 24 1 q.vg q.given.length q.vgs:=BV gv6 (fun b e=>c.block b (Dh gv6 b e) (ng b e))
 have GE:Aq w8 B 3 q.vgs q.given:=ge6.map (fun u hu _ _ ho=>BV ho (fun b e=>c.block b (Dh ho b e) (nu u hu b e)))
 have nF:∀ b,(fx b∨fy b)→(q.XY b∧¬ q.J b)∨w.heap.size≤b:=by
  intro b hb
  rcases hb with hb | hb
  ·exact(t.t.nx b hb).imp (fun e=>⟨.inl e,(h.fb b (.inl e)).2⟩) id
  ·exact(t.t.ny b hb).imp (fun e=>⟨.inr e,(h.fb b (.inr e)).2⟩) id
 have nO:∀ b,(fx b∨fy b)→¬ q.d.Own b:=fun b hb ho=>(nF b hb).elim (fun e=>e.2 (oJ b ho)) (fun e=>by have:=ltJ b (oJ b ho);omega)
 have X:=P.frame t.t.x (fun b hb=>c.block b (P.lt t.t.x b hb) (nO b (.inl hb)))
 have Y:=P.frame t.t.y (fun b hb=>c.block b (P.lt t.t.y b hb) (nO b (.inr hb)))
 have vlo:∀ b,(q.solved s fx fy seen unsat j al cl pf).d.vl.ownBlock=some b→q.d.Own b∨w6.heap.size≤b:=fun b e=>ob b (.inr e)
 have jn:∀ b,(q.solved s fx fy seen unsat j al cl pf).J b→q.J b∨w6.heap.size≤b:=by
  intro b hb
  rcases hb with e | e | e | e | ⟨u,hu,e⟩
  ·exact .inl (.inl e)
  ·exact .inl (.inr (.inl e))
  ·exact .inl (.inr (.inr (.inl e)))
  ·exact(vlo b e).imp (oJ b) id
  ·exact .inl (.inr (.inr (.inr (.inr ⟨u,hu,e⟩))))
 have xl:=P.lt t.t.x
 have yl:=P.lt t.t.y
 have fl:∀ b,(fx b∨fy b)→b<w6.heap.size:=fun b hb=>hb.elim (xl b) (yl b)
 have o1l:=fun k hk=>t.o1.lt (k:=k) hk
 have o2l:=fun k hk=>t.o2.lt (k:=k) hk
 have pn:∀ k,(p1.At k∨p2.At k)→w.heap.size≤k∧k<w6.heap.size:=fun k hk=>hk.elim (o1l k) (o2l k)
 have pO:∀ k,(p1.At k∨p2.At k)→¬ q.d.Own k:=fun k hk ho=>by have:=ltJ k (oJ k ho);have:=pn k hk;omega
 refine⟨⟨⟨js,h.vgE,GV,GE,fun u hu=>⟨(h.gh u hu).1,fun b e e'=>?_⟩,X,Y,fun b hb=>⟨?_,fun hj=>?_⟩,t.t.xy,hok,he⟩,rfl,?_,fun b hb=>?_,Nat.le_succ _,Nat.le_succ _,fun g hg=>.inl hg⟩,t.o1.frame (fun k hk=>c.block k (pn k (.inl hk)).2 (pO k (.inl hk))),t.o2.frame (fun k hk=>c.block k (pn k (.inr hk)).2 (pO k (.inr hk))),fun k hk ha=>?_⟩
 ·rcases vlo b e' with k | k
  ·exact nu u hu b e k
  ·obtain⟨zs,hz⟩:=ge6.mem hu
   have:=Dh hz b e
   omega
 ·rcases nF b hb with e | e
  ·exact(h.fb b e.1).1
  ·omega
 ·rcases jn b hj with k | k
  ·rcases nF b hb with e | e
   ·exact e.2 k
   ·have:=ltJ b k;omega
  ·have:=fl b hb;omega
 ·exact(t.t.chg.mono (fun _ _ hq=>.inr hq)).trans ⟨c.os,c.tape,c.output,c.size,fun k hk hn=>c.block k hk (fun ho=>hn (.inl (oJ k ho)))⟩
 ·rcases hb with hb | hb
  ·exact(jn b hb).imp .inl (fun e=>by omega)
  ·exact(nF b hb).imp (fun e=>.inr e.1) id
 ·have hp:=pn k hk
  rcases ha with ha | ha
  ·rcases jn k ha with e | e
   ·have:=ltJ k e;omega
   ·omega
  ·rcases hk with hk | hk
   ·exact ha.elim (t.n1 k hk).1 (t.n1 k hk).2
   ·exact ha.elim (t.n2 k hk).1 (t.n2 k hk).2
end Go.Proofs.YthboeppmlhbofaaGreatDoor
