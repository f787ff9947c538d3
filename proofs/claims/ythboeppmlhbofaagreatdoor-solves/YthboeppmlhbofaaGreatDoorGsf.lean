import Derived.Test.YthboeppmlhbofaaGreatDoorPrd
import Derived.Test.YthboeppmlhbofaaGreatDoorGak
import Derived.Deep.RegionLaw
import Derived.Test.YthboeppmlhbofaaGreatDoorClk
namespace Go.Proofs.YthboeppmlhbofaaGreatDoor
open Go.RowKit Txt
set_option maxRecDepth 100000
set_option maxHeartbeats 4000000 in
theorem Zj(P:DH)(Wb B n:Nat)(V:WV)(s:St)(ds:List (SX P))(w:World)(o:Cq)(ho:o.Ok)(hk:o.k=17)(h:AX w Wb B n V s ds)(hn:n≤16384)(hp:0<ds.length)(h0:0<B)(htab:Hid (Fx w)) :
  Calls Tryz.prog 12 #[.pointer (some ⟨Wb,0,none⟩),.agg o.cells] w fun e w'=>e=.returned (.bool true)∧MF P (n+1) w w' Wb B:=by
 have hBs:=h.hB
 have HB:Hid (∀ x,Below w.heap.size w (w.alloc x)):=fun x=>(Below.refl _ _).alloc (Nat.le_refl _) x
 have HT:Hid (∀ x,Calls Tryz.prog 14 #[.pointer (some ⟨Wb,0,none⟩),.agg o.cells] (w.alloc x) fun e w'=>e=.returned (.bool false)∧Below (w.alloc x).heap.size (w.alloc x) w'):=by
  intro x
  refine(Dn Wb B n V s (w.alloc x) o ho (h.i.below (HB.out x)) h.b hn).mono ?_
  have hio:D9 o.k=false:=by rw[hk];rfl
  rintro e w' ⟨rfl,hm⟩
  exact⟨by rw[hio],hm.no hio⟩
 have hdl:=h.dl
 have hnx:=h.nx
 have p1:=fun w=>DV o.a V.nx w (by omega) (by omega) ho.a.1 ho.a.2
 have l1:=DU o.a V.nx (by omega)
 generalize Er o.a V.nx=j1 at p1 l1
 obtain⟨g,d,eg,hd,c1⟩:=h.at_ (j:=j1) (by omega)
 obtain⟨bd1,bd2,bd3⟩:=h.bd j1 d hd
 have hgt:g<w.heap.size:=World.block_lt_of_cell? w _ c1
 have BD3:=AB bd3
 have P1:=AB p1
 have HD:=AB hd
 have H:=AB h
 have HEG:=AB eg
 have q1:(0:Int)≤(j1:Int):=by omega
 have q3:(j1:Int)<(V.nx:Int):=by omega
 have hnz:((V.nx:Int) == 0)=false:=by simp;omega
 have hlt:Wb<w.heap.size:=h.i.blk.lt
 obtain⟨k,a,b,c,t⟩:=o
 subst hk
 simp only[Cq.cells] at *
 clear h ho p1 hd eg hnx bd3 hdl
 go_enter Tryz.func12,Tryz.ntmps12
 go_wp2_with fail
 refine(AE HT _).mono ?_
 have m0:=AH w [.int .i64 17,.int .i64 a,.int .i64 b,.int .i64 c,.string t] 27 0 _ rfl
 have m1:=AH w [.int .i64 17,.int .i64 a,.int .i64 b,.int .i64 c,.string t] 27 1 _ rfl
 have m2:=AH w [.int .i64 17,.int .i64 a,.int .i64 b,.int .i64 c,.string t] 27 2 _ rfl
 have hb1:Below w.heap.size w (w.alloc (.cells #[.int .i64 17,.int .i64 a,.int .i64 b,.int .i64 c,.string t] 27)):=(Below.refl _ _).alloc (Nat.le_refl _) _
 have e3:w.heap.size<(w.alloc (.cells #[.int .i64 17,.int .i64 a,.int .i64 b,.int .i64 c,.string t] 27)).heap.size:=by simp
 rw[Ch] at m0 m1 m2
 simp only[Nat.zero_add] at m0 m1 m2
 generalize w.alloc (.cells #[.int .i64 17,.int .i64 a,.int .i64 b,.int .i64 c,.string t] 27)=w1 at *
 rintro e w2 ⟨rfl,hb2⟩
 have k0:=(hb2.cell (p:=⟨w.heap.size,0,none⟩) e3).trans m0
 have k1:=(hb2.cell (p:=⟨w.heap.size,1,none⟩) e3).trans m1
 have k2:=(hb2.cell (p:=⟨w.heap.size,2,none⟩) e3).trans m2
 have hbw:Below w.heap.size w w2:=hb1.trans (hb2.mono (Nat.le_of_lt e3))
 have HW2:=AB hbw
 have k3:w2.cell? ⟨Wb,3,none⟩=some (.slice (some ⟨g,0,none⟩) V.nx V.cx):=((H.out.i.below hbw).blk.cell 3).trans (by simp only[WV.cells,WV.vx,HEG.out];rfl)
 have kx:w2.cell? ⟨g,j1,none⟩=some (.pointer (some ⟨d.d.cb,0,none⟩)):=(hbw.cell (p:=⟨g,j1,none⟩) hgt).trans c1
 have he2:w.heap.size<w2.heap.size:=Nat.lt_of_lt_of_le e3 hb2.size
 clear m0 m1 m2 hb1 hb2 HT hbw c1 HB
 go_wp2_with fail
 go_quiet ((go_at_call 16;exact Calls.quiet_of_same (AE P1 _)))
 have hb3:Below w2.heap.size w2 (w2.drewN nq):=below_drewN (Below.refl _ _) _
 generalize w2.drewN nq=w3 at *
 have HW3:Hid (Below w.heap.size w w3):=HW2.out.trans (hb3.mono HW2.out.size)
 have y0:=(hb3.cell (p:=⟨w.heap.size,0,none⟩) he2).trans k0
 have y2:=(hb3.cell (p:=⟨w.heap.size,2,none⟩) he2).trans k2
 have H3:=AB (H.out.below HW3.out)
 have I3:=AB (H3.out.each j1 d HD.out)
 clear hb3 k0 k1 k2 k3 kx HW2 P1 q1 q3 hnz
 have HA:=AB (L8 P B d none 0 [] b w3 I3.out (.inl rfl) (fun g e=>by simp at e) (by simp) H3.out.hB (by omega) h0 (Fx.below htab.out HW3.out (Nat.lt_of_lt_of_le h0 hBs)))
 simp only[List.length_nil] at HA
 go_wp2_with fail
 refine(AE HA).mono ?_
 rintro e w4 ⟨a',c',cl,vs,q',rfl,hN,hv,hg,hcl,hl,ho,he,hp,hna⟩
 obtain⟨h4,hb4⟩:=H3.out.put HD.out hN (Nat.le_refl n) H3.out.b ⟨by rw[hv];exact bd1,by rw[hg];exact bd2,by rw[hg];exact BD3.out⟩
 have HK:=AB (Ki Wb B n V s w4 h4.i h4.b (by omega) a' c' cl vs (cF H3.out.i H3.out.hB ho he hp) (by omega) (fun x hx=>Nat.le_trans (hl x hx) (by decide)))
 have HFI:Hid (∀ w5,dI (n+1) w4 w5 Wb B V vs→MF P (n+1) w w5 Wb B):=fun w5 hk=>((h4.nxk hk (fun j x hx b hb u hu e=>by
  rcases FG HD.out hx with⟨_,rfl⟩ | ⟨_,hx⟩
  ·exact hna u hu b e hb
  ·obtain⟨zs,hz⟩:=he.mem hu
   have q1:=(hz.lt b e).1
   have q2:=((H3.out.each j x hx).lt hb).2
   omega)).pre hb4).pre (HW3.out.mono hBs)
 clear hN hv hg hcl hl ho he hp hna h4 hb4 HA
 go_wp2_with fail
 refine(AE HK).mono ?_
 rintro e w5 ⟨rfl,hk⟩
 have HN:=AB (HFI.out w5 hk)
 clear hk HK HFI
 go_wp2
 go_ret
 exact⟨rfl,HN.out⟩
set_option maxHeartbeats 4000000 in
theorem Zk(P:DH)(Wb B n:Nat)(V:WV)(s:St)(ds:List (SX P))(w:World)(o:Cq)(ho:o.Ok)(hk:o.k=18)(h:AX w Wb B n V s ds)(hn:n≤16384)(hp:0<ds.length)(h0:0<B)(htab:Hid (Fx w)) :
  Calls Tryz.prog 12 #[.pointer (some ⟨Wb,0,none⟩),.agg o.cells] w fun e w'=>e=.returned (.bool true)∧MF P (n+1) w w' Wb B:=by
 have hBs:=h.hB
 have HB:Hid (∀ x,Below w.heap.size w (w.alloc x)):=fun x=>(Below.refl _ _).alloc (Nat.le_refl _) x
 have HT:Hid (∀ x,Calls Tryz.prog 14 #[.pointer (some ⟨Wb,0,none⟩),.agg o.cells] (w.alloc x) fun e w'=>e=.returned (.bool false)∧Below (w.alloc x).heap.size (w.alloc x) w'):=by
  intro x
  refine(Dn Wb B n V s (w.alloc x) o ho (h.i.below (HB.out x)) h.b hn).mono ?_
  have hio:D9 o.k=false:=by rw[hk];rfl
  rintro e w' ⟨rfl,hm⟩
  exact⟨by rw[hio],hm.no hio⟩
 have hdl:=h.dl
 have hnx:=h.nx
 have p1:=fun w=>DV o.a V.nx w (by omega) (by omega) ho.a.1 ho.a.2
 have l1:=DU o.a V.nx (by omega)
 generalize Er o.a V.nx=j1 at p1 l1
 obtain⟨g,d,eg,hd,c1⟩:=h.at_ (j:=j1) (by omega)
 obtain⟨bd1,bd2,bd3⟩:=h.bd j1 d hd
 have hgt:g<w.heap.size:=World.block_lt_of_cell? w _ c1
 have BD3:=AB bd3
 have P1:=AB p1
 have HD:=AB hd
 have H:=AB h
 have HEG:=AB eg
 have q1:(0:Int)≤(j1:Int):=by omega
 have q3:(j1:Int)<(V.nx:Int):=by omega
 have hnz:((V.nx:Int) == 0)=false:=by simp;omega
 have hlt:Wb<w.heap.size:=h.i.blk.lt
 obtain⟨k,a,b,c,t⟩:=o
 subst hk
 simp only[Cq.cells] at *
 clear h ho p1 hd eg hnx bd3 hdl
 go_enter Tryz.func12,Tryz.ntmps12
 go_wp2_with fail
 refine(AE HT _).mono ?_
 have m0:=AH w [.int .i64 18,.int .i64 a,.int .i64 b,.int .i64 c,.string t] 27 0 _ rfl
 have m1:=AH w [.int .i64 18,.int .i64 a,.int .i64 b,.int .i64 c,.string t] 27 1 _ rfl
 have m2:=AH w [.int .i64 18,.int .i64 a,.int .i64 b,.int .i64 c,.string t] 27 2 _ rfl
 have hb1:Below w.heap.size w (w.alloc (.cells #[.int .i64 18,.int .i64 a,.int .i64 b,.int .i64 c,.string t] 27)):=(Below.refl _ _).alloc (Nat.le_refl _) _
 have e3:w.heap.size<(w.alloc (.cells #[.int .i64 18,.int .i64 a,.int .i64 b,.int .i64 c,.string t] 27)).heap.size:=by simp
 rw[Ch] at m0 m1 m2
 simp only[Nat.zero_add] at m0 m1 m2
 generalize w.alloc (.cells #[.int .i64 18,.int .i64 a,.int .i64 b,.int .i64 c,.string t] 27)=w1 at *
 rintro e w2 ⟨rfl,hb2⟩
 have k0:=(hb2.cell (p:=⟨w.heap.size,0,none⟩) e3).trans m0
 have k1:=(hb2.cell (p:=⟨w.heap.size,1,none⟩) e3).trans m1
 have k2:=(hb2.cell (p:=⟨w.heap.size,2,none⟩) e3).trans m2
 have hbw:Below w.heap.size w w2:=hb1.trans (hb2.mono (Nat.le_of_lt e3))
 have HW2:=AB hbw
 have k3:w2.cell? ⟨Wb,3,none⟩=some (.slice (some ⟨g,0,none⟩) V.nx V.cx):=((H.out.i.below hbw).blk.cell 3).trans (by simp only[WV.cells,WV.vx,HEG.out];rfl)
 have kx:w2.cell? ⟨g,j1,none⟩=some (.pointer (some ⟨d.d.cb,0,none⟩)):=(hbw.cell (p:=⟨g,j1,none⟩) hgt).trans c1
 have he2:w.heap.size<w2.heap.size:=Nat.lt_of_lt_of_le e3 hb2.size
 clear m0 m1 m2 hb1 hb2 HT hbw c1 HB
 go_wp2_with fail
 go_quiet ((go_at_call 16;exact Calls.quiet_of_same (AE P1 _)))
 have hb3:Below w2.heap.size w2 (w2.drewN nq):=below_drewN (Below.refl _ _) _
 generalize w2.drewN nq=w3 at *
 have HW3:Hid (Below w.heap.size w w3):=HW2.out.trans (hb3.mono HW2.out.size)
 have y0:=(hb3.cell (p:=⟨w.heap.size,0,none⟩) he2).trans k0
 have y2:=(hb3.cell (p:=⟨w.heap.size,2,none⟩) he2).trans k2
 have H3:=AB (H.out.below HW3.out)
 have I3:=AB (H3.out.each j1 d HD.out)
 clear hb3 k0 k1 k2 k3 kx HW2 P1 q1 q3 hnz
 have z0:w3.cell? ⟨Wb,0,none⟩=some (.slice V.al s.list.length V.cl):=(H3.out.i.blk.cell 0).trans rfl
 have hll:=H3.out.b.list
 have HD3:Hid (Below w3.heap.size w3 w3.drew):=below_drewN (Below.refl _ _) 1
 have H5:=AB (H3.out.below HD3.out)
 have HW5:Hid (Below w.heap.size w w3.drew):=HW3.out.trans (HD3.out.mono HW3.out.size)
 have HA:=AB (L8 P B d V.al V.cl s.list b w3.drew (H5.out.each j1 d HD.out) (BF H5.out.i.list) (fun ga e hat=>(H5.out.out j1 d HD.out _ hat).2.l ga e rfl) (by omega) H5.out.hB (by omega) h0 (Fx.below htab.out HW5.out (Nat.lt_of_lt_of_le h0 hBs)))
 go_wp2_with fail
 go_region_with (go_at_call 21;refine(AE HA).mono ?_;rintro e w4 ⟨a',c',cl,vs,q',rfl,hN,hv,hg,hcl,hl,ho,he,hp,hna⟩)
 all_goals
  obtain⟨h4,hb4⟩:=H5.out.put HD.out hN (Nat.le_refl n) H5.out.b ⟨by rw[hv];exact bd1,by rw[hg];exact bd2,by rw[hg];exact BD3.out⟩
  have HK:=AB (Ki Wb B n V s w4 h4.i h4.b (by omega) a' c' cl vs (cF H5.out.i H5.out.hB ho he hp) (by omega) (fun x hx=>Nat.le_trans (hl x hx) (by decide)))
  have HFI:Hid (∀ w5,dI (n+1) w4 w5 Wb B V vs→MF P (n+1) w w5 Wb B):=fun w5 hk=>((h4.nxk hk (fun j x hx b hb u hu e=>by
   rcases FG HD.out hx with⟨_,rfl⟩ | ⟨_,hx⟩
   ·exact hna u hu b e hb
   ·obtain⟨zs,hz⟩:=he.mem hu
    have q1:=(hz.lt b e).1
    have q2:=((H5.out.each j x hx).lt hb).2
    omega)).pre hb4).pre (HW5.out.mono hBs)
  clear hN hv hg hcl hl ho he hp hna h4 hb4 HA
  go_wp2_with fail
  refine(AE HK).mono ?_
  rintro e w5 ⟨rfl,hk⟩
  have HN:=AB (HFI.out w5 hk)
  clear hk HK HFI
  go_wp2
  go_ret
  exact⟨rfl,HN.out⟩
set_option maxHeartbeats 2000000 in
theorem Zm(Wb B n:Nat)(V:WV)(s:St)(w:World)(o:Cq)(ho:o.Ok)(hio:D9 o.k=true)(h:WI w Wb B V s)(hbd:Bd n s)(hn:n≤16384) :
  Calls Tryz.prog 12 #[.pointer (some ⟨Wb,0,none⟩),.agg o.cells] w fun e w'=>e=.returned (.bool true)∧II (n+1) w w' Wb B V:=by
 have hBs:B≤w.heap.size:=Nat.le_trans h.base (Nat.le_of_lt h.blk.lt)
 have HB:Hid (∀ x,Below w.heap.size w (w.alloc x)):=fun x=>(Below.refl _ _).alloc (Nat.le_refl _) x
 have HT:Hid (∀ x,Calls Tryz.prog 14 #[.pointer (some ⟨Wb,0,none⟩),.agg o.cells] (w.alloc x) fun e w'=>e=.returned (.bool true)∧II (n+1) w w' Wb B V):=by
  intro x
  refine(Dn Wb B n V s (w.alloc x) o ho (h.below (HB.out x)) hbd hn).mono ?_
  rintro e w' ⟨rfl,hm⟩
  obtain⟨V',s',i1,i2,i3,i4,i5,i6⟩:=hm.yes hio
  exact⟨by rw[hio],V',s',i1,i2,((HB.out _).mono hBs).trans i3,i4,i5,Jr.pre (HB.out _) i6⟩
 obtain⟨k,a,b,c,t⟩:=o
 simp only[Cq.cells] at *
 clear h hbd ho hio
 go_enter Tryz.func12,Tryz.ntmps12
 go_wp2_with fail
 refine(AE HT _).mono ?_
 rintro e w' ⟨rfl,hN⟩
 have HN:=AB hN
 clear hN
 go_wp2
 go_ret
 exact⟨rfl,HN.out⟩
set_option maxHeartbeats 2000000 in
theorem Rk(Wb B n:Nat)(V:WV)(s:St)(w:World)(o:Cq)(h:WI w Wb B V s)(hbd:Bd n s)(hn:n≤16384)(hk:o.k=19)(h0:s.texts.length=0) :
  Calls Tryz.prog 15 #[.pointer (some ⟨Wb,0,none⟩),.agg o.cells] w fun e w'=>e=.returned (.bool true)∧II (n+1) w w' Wb B V:=by
 have hBs:B≤w.heap.size:=Nat.le_trans h.base (Nat.le_of_lt h.blk.lt)
 have HB:Hid (∀ x,Below w.heap.size w (w.alloc x)):=fun x=>(Below.refl _ _).alloc (Nat.le_refl _) x
 have HT:Hid (∀ x,Calls Tryz.prog 22 #[.pointer (some ⟨Wb,0,none⟩),.slice none 0 0] (w.alloc x) fun e w'=>e=.returned (.tuple #[])∧II n (w.alloc x) w' Wb B V):=fun x=>Mr Wb B n V s (w.alloc x) (h.below (HB.out x)) hbd (by omega)
 obtain⟨k,a,b,c,t⟩:=o
 have hlt:Wb<w.heap.size:=h.blk.lt
 have f2:w.cell? ⟨Wb,2,none⟩=some (.slice V.at_ s.texts.length V.ct):=(h.blk.cell 2).trans rfl
 simp only[Cq.cells] at *
 clear h hbd
 subst hk
 go_enter Tryz.func15,Tryz.ntmps15
 go_wp2_with fail
 refine(AE HT _).mono ?_
 rintro e w' ⟨rfl,V',s',i1,i2,i3,i4,i5,i6⟩
 go_wp2
 go_ret
 exact⟨rfl,V',s',i1,i2.next,((HB.out _).mono hBs).trans i3,i4,i5,Jr.pre (HB.out _) i6⟩
theorem Vi{w1 w2:World}{Wb B:Nat}{V:WV}{s:St}{a:Option Addr}{c:Nat}{xs:List Int}(H1:WI w1 Wb B V s)(hB1:B≤w1.heap.size)(hb2:Below w1.heap.size w1 w2)(ho:w2.ownsRow w1.heap.size 3 1 (.slice a xs.length c) xs.length (AO xs)) :
  Ev (w2.alloc (.cells #[.slice a xs.length c] 24)) B V s (.slice (some ⟨w2.heap.size,0,none⟩) [xs].length 1) [xs].length [.slice a xs.length c] [.slice a xs.length c] [xs]:=by
 have hB2:B≤w2.heap.size:=Nat.le_trans hB1 hb2.size
 have hu:=Kx ho hB1
 have htop:∀ B',B'≤w2.heap.size→(w2.alloc (.cells #[.slice a xs.length c] 24)).ownsRow B' 24 1 (.slice (some ⟨w2.heap.size,0,none⟩) 1 1) 1 [.slice a xs.length c]:=fun B' hB'=>⟨rfl,.inr ⟨w2.heap.size,1,#[.slice a xs.length c],rfl,hB',heap_alloc_new w2 _,Nat.le_refl _,by unfold maxLen;omega,rfl,rfl⟩⟩
 have H2:=H1.below hb2
 refine⟨htop B hB2,⟨hu.alloc _,trivial⟩,List.pairwise_singleton _ _,?_,?_,?_,?_,?_,?_⟩
 ·exact Ax H2.ot (htop w2.heap.size (Nat.le_refl _)) (Nat.le_refl _)
 ·exact Ax H2.wt (htop w2.heap.size (Nat.le_refl _)) (Nat.le_refl _)
 ·intro u hu
  simp only[List.mem_singleton] at hu
  subst hu
  exact Ax H1.list ho (Nat.le_refl _)
 ·intro u hu v hv
  simp only[List.mem_singleton] at hu
  subst hu
  obtain⟨ys,hy⟩:=H1.cle.mem hv
  exact(Ax hy ho (Nat.le_refl _)).symm
 ·intro u hu v hv
  simp only[List.mem_singleton] at hu
  subst hu
  obtain⟨ys,hy⟩:=H1.oe.mem hv
  exact(Ax hy ho (Nat.le_refl _)).symm
 ·intro u hu v hv
  simp only[List.mem_singleton] at hu
  subst hu
  obtain⟨ys,hy⟩:=H1.we.mem hv
  exact(Ax hy ho (Nat.le_refl _)).symm
set_option maxHeartbeats 4000000 in
theorem Rj(Wb B n:Nat)(V:WV)(s:St)(w:World)(o:Cq)(ho:o.Ok)(hk:o.k=19)(h:WI w Wb B V s)(hbd:Bd n s)(hn:n≤16384)(h0:0<s.texts.length) :
  Calls Tryz.prog 15 #[.pointer (some ⟨Wb,0,none⟩),.agg o.cells] w fun e w'=>e=.returned (.bool true)∧II (n+1) w w' Wb B V:=by
 obtain⟨k,a,b,c,t⟩:=o
 subst hk
 have hx:=hbd.txs
 have hcl:=hbd.cls
 have hBs:B≤w.heap.size:=Nat.le_trans h.base (Nat.le_of_lt h.blk.lt)
 have p1:=fun w=>DV a s.texts.length w h0 (by omega) ho.a.1 ho.a.2
 have l1:=DU a s.texts.length h0
 generalize Er a s.texts.length=j1 at p1 l1
 obtain⟨g,eg,c1⟩:=JO h.tx l1
 have s1:=hbd.tx1 (s.texts.getD j1 ByteArray.empty) (by rw[List.getD_eq_getElem?_getD,List.getElem?_eq_getElem l1];exact List.getElem_mem l1)
 generalize s.texts.getD j1 ByteArray.empty=t1 at c1 s1
 have hln:=ON s.clauses (bs t1)
 rw[Aa] at hln
 have CH:Hid (∀ w1,Below w.heap.size w w1→Calls Tryz.prog 29 #[.slice V.ac s.clauses.length V.cc,.string t1] w1 (eB w1.heap.size w1 (D0 s.clauses (bs t1)).1)):=by
  intro w1 hb
  have H1:=h.below hb
  obtain⟨A,C,hr⟩:=KE H1.clt H1.cle (fun c hc=>Nat.le_trans (hbd.cl1 c hc) (by decide))
  exact QS V.ac V.cc A C s.clauses t1 w1 (by omega) (by omega) hr (fun c hc=>Nat.le_trans (hbd.cl1 c hc) (by decide))
 generalize (D0 s.clauses (bs t1)).1=xs at CH hln
 have H:=AB h
 have HBD:=AB hbd
 have P1:=AB p1
 have hlt:Wb<w.heap.size:=h.blk.lt
 have hgt:g<w.heap.size:=World.block_lt_of_cell? w _ c1
 have f1w:w.cell? ⟨Wb,1,none⟩=some (.slice V.ac s.clauses.length V.cc):=(h.blk.cell 1).trans rfl
 have f2w:w.cell? ⟨Wb,2,none⟩=some (.slice (some ⟨g,0,none⟩) s.texts.length V.ct):=(h.blk.cell 2).trans (by simp only[WV.cells,WV.vt,eg];rfl)
 simp only[Cq.cells] at *
 clear h hbd ho p1 eg
 have q1:(0:Int)≤(j1:Int):=by omega
 have q3:(j1:Int)<(s.texts.length:Int):=by omega
 have hpt:((s.texts.length:Int) > 0):=by omega
 go_enter Tryz.func15,Tryz.ntmps15
 go_wp2_with (go_at_call 16;refine(AE P1 _).mono ?_;rintro e w' ⟨rfl,hw⟩;obtain rfl:=hw.symm)
 have hb1:Below w.heap.size w (w.alloc (.cells #[.int .i64 19,.int .i64 a,.int .i64 b,.int .i64 c,.string t] 27)):=(Below.refl _ _).alloc (Nat.le_refl _) _
 generalize w.alloc (.cells #[.int .i64 19,.int .i64 a,.int .i64 b,.int .i64 c,.string t] 27)=w1 at *
 have H0:=AB (H.out.below hb1)
 have hb1d:Below w.heap.size w w1.drew:=below_drewN hb1 1
 have H1:=AB (H.out.below hb1d)
 have HB1:=AB hb1d
 have hB1:B≤w1.drew.heap.size:=Nat.le_trans hBs hb1d.size
 have CK:=AB (CH.out w1.drew hb1d)
 have f1:w1.cell? ⟨Wb,1,none⟩=some (.slice V.ac s.clauses.length V.cc):=(H0.out.blk.cell 1).trans rfl
 have f2:w1.cell? ⟨Wb,2,none⟩=some (.slice (some ⟨g,0,none⟩) s.texts.length V.ct):=(hb1.cell (p:=⟨Wb,2,none⟩) hlt).trans f2w
 have f3:w1.cell? ⟨g,j1,none⟩=some (.string t1):=(hb1.cell (p:=⟨g,j1,none⟩) hgt).trans c1
 clear hb1 hb1d hw c1 f1w f2w P1 CH H0
 go_region_with (go_at_call 29;refine(AE CK).mono ?_;rintro e w2 ⟨hb2,a',c',rfl,ho2⟩)
 all_goals
  have HR:=AB (Vi H1.out hB1 hb2 ho2)
  have HW3:=AB ((H1.out.below hb2).below ((Below.refl w2.heap.size w2).alloc (Nat.le_refl _) (.cells #[.slice a' xs.length c'] 24)))
  have HB3:Hid (Below B w (w2.alloc (.cells #[.slice a' xs.length c'] 24))):=(((HB1.out.mono hBs).trans (hb2.mono hB1)).alloc (Nat.le_trans hB1 hb2.size) _)
  have HV2:Hid (∀ u∈[Value.slice a' xs.length c'],∀ b,u.ownBlock=some b→w.heap.size≤b):=fun u hu b e=>by
   simp only[List.mem_singleton] at hu
   subst hu
   exact Nat.le_trans HB1.out.size (ho2.lt b e).1
  have HF3:Hid (Jr w (w2.alloc (.cells #[.slice a' xs.length c'] 24)) Wb V V):=Jr.of Wb V ((HB1.out.trans (hb2.mono HB1.out.size)).alloc (Nat.le_trans HB1.out.size hb2.size) _)
  have HK:=AB (Ki Wb B n V s _ HW3.out HBD.out (by omega) (some ⟨w2.heap.size,0,none⟩) 1 [xs] [.slice a' xs.length c'] HR.out (by simp) (fun x hx=>by simp only[List.mem_singleton] at hx;subst hx;omega))
  simp only[List.length_cons,List.length_nil,Nat.zero_add] at HK
  clear hb2 ho2 CK HR
  go_wp2_with fail
  refine(AE HK).mono ?_
  rintro e w' ⟨rfl,hN⟩
  have HN:=AB (hN.nxt HB3.out ⟨rfl,rfl⟩ HF3.out HV2.out)
  clear hN HK
  go_wp2
  go_ret
  exact⟨rfl,HN.out⟩
def VD:Cq:=⟨0,0,0,0,ByteArray.empty⟩
def Gb(w:World)(a:Option Addr)(ops:List Cq):Prop :=
 ops=[]∨∃ b off,a=some ⟨b,off,none⟩∧∀ j,j<ops.length→∀ i v,(ops.getD j VD).cells[i]?=some v→w.cell? ⟨b,off+j*5+i,none⟩=some v
theorem Gb.get{w:World}{a:Option Addr}{ops:List Cq}(h:Gb w a ops)(hp:0<ops.length) :
  ∃ b off,a=some ⟨b,off,none⟩∧∀ j,j<ops.length→∀ i v,(ops.getD j VD).cells[i]?=some v→w.cell? ⟨b,off+j*5+i,none⟩=some v:=by
 rcases h with rfl | h
 ·simp at hp
 ·exact h
theorem Gb.kept{w w':World}{a:Option Addr}{ops:List Cq}(h:Gb w a ops)(hk:∀ b off v,w.cell? ⟨b,off,none⟩=some v→w'.cell? ⟨b,off,none⟩=some v):Gb w' a ops:=by
 rcases h with rfl | ⟨b,off,rfl,h⟩
 ·exact .inl rfl
 ·exact .inr ⟨b,off,rfl,fun j hj i v hv=>hk _ _ _ (h j hj i v hv)⟩
theorem Gb.below{w w':World}{a:Option Addr}{ops:List Cq}(h:Gb w a ops)(hb:Below w.heap.size w w'):Gb w' a ops :=
 h.kept fun b off _ hv=>(hb.cell (p:=⟨b,off,none⟩) (World.block_lt_of_cell? w _ hv)).trans hv
def Cn(ops:List Cq):Nat:=(ops.map fun o=>o.s.size).sum
theorem PJ(ops:List Cq)(k:Nat)(h:k<ops.length):Cn (ops.take (k+1))=Cn (ops.take k)+(ops.getD k VD).s.size:=by
 rw[List.take_succ_eq_append_getElem h,List.getD_eq_getElem?_getD,List.getElem?_eq_getElem h]
 simp only[Cn,List.map_append,List.sum_append,List.map_cons,List.map_nil,List.sum_cons,List.sum_nil,Nat.add_zero,Option.getD_some]
theorem TC(ops:List Cq)(k:Nat):Cn (ops.take k)≤Cn ops:=by
 have h:Cn ops=Cn (ops.take k)+Cn (ops.drop k):=by
  unfold Cn
  rw[← List.sum_append,← List.map_append,List.take_append_drop]
 omega
theorem QQ{ops:List Cq}{o:Cq}(h:o∈ops):o.s.size≤Cn ops:=by
 induction ops with
 | nil=>simp at h
 | cons x xs ih =>
  simp only[Cn,List.map_cons,List.sum_cons]
  rcases List.mem_cons.1 h with rfl | h
  ·omega
  ·have:=ih h
   simp only[Cn] at this
   omega
def Fb(ops:List Cq):Bool:=decide (ops.length+Cn ops≤16384)
set_option maxHeartbeats 2000000 in
theorem W8(a:Option Addr)(c:Nat)(ops:List Cq)(w:World)(h:Gb w a ops)(hlen:ops.length≤9223372036854775807)(hs:Hid (∀ o∈ops,o.s.size≤4611686018427387904)) :
  Calls Tryz.prog 10 #[.slice a ops.length c] w fun e w'=>e=.returned (.bool (Fb ops))∧w'=w:=by
 by_cases hbig:16384<ops.length
 ·have hsb:Hid (Fb ops=false):=by show _=_;simp[Fb];omega
  have hbi:((ops.length:Int) > 16384):=by omega
  go_enter Tryz.func10,Tryz.ntmps10
  go_wp2
  go_ret
  exact⟨by rw[hsb.out];rfl,rfl⟩
 ·have H:=AB h
  have hbi:((ops.length:Int)≤16384):=by omega
  clear h
  go_enter Tryz.func10,Tryz.ntmps10
  go_wp2
  go_loop [3,4] (fun n i=>∃ k:Nat,k≤ops.length∧i=.int .i64 k∧n=.int .i64 ((ops.length+Cn (ops.take k):Nat):Int)∧ops.length+Cn (ops.take k)≤16384) (fun _ i=>ops.length - (intOf i).toNat)
  case atStart=>exact⟨0,Nat.zero_le _,rfl,by simp[Cn],by simp[Cn];omega⟩
  case round =>
   obtain⟨k,hk,rfl,rfl,hle⟩:=hrel
   by_cases hlt:k<ops.length
   ·have hb1:=PJ ops k hlt
    have hb2:=TC ops (k+1)
    have hsk:=hs.out _ (show ops.getD k VD∈ops by rw[List.getD_eq_getElem?_getD,List.getElem?_eq_getElem hlt];exact List.getElem_mem hlt)
    obtain⟨b,off,rfl,hc⟩:=H.out.get (by omega)
    have c4:=hc k hlt 4 (.string (ops.getD k VD).s) rfl
    clear hc
    generalize hm1:Cn (ops.take (k+1))=m1 at hb1 hb2
    generalize hm0:Cn (ops.take k)=m0 at hb1 hle ⊢
    generalize (ops.getD k VD).s=t at *
    by_cases hov:16384<ops.length+m1
    ·have hsb:Hid (Fb ops=false):=by show _=_;simp[Fb];omega
     have hoi:((ops.length:Int)+m0+t.size > 16384):=by omega
     go_wp2
     go_ret
     exact⟨by rw[hsb.out];rfl,rfl⟩
    ·have hoi:((ops.length:Int)+m0+t.size≤16384):=by omega
     have HM1:=AB hm1
     have HM0:=AB hm0
     clear hm1 hm0
     go_wp2
     go_round
     case rel=>exact⟨k+1,by omega,by go_num,by rw[HM1.out,hb1];go_num,by rw[HM1.out];omega⟩
     case measure=>simp[intOf];omega
   ·obtain rfl:k=ops.length:=by omega
    have hsb:Hid (Fb ops=true):=by
     show _=_
     rw[List.take_length] at hle
     simpa [Fb] using hle
    go_wp2
    go_ret
    exact⟨by rw[hsb.out];rfl,rfl⟩
def V0:WV:=⟨none,none,none,none,none,none,0,0,0,0,0,0,0,[],[],[],[]⟩
def s0:St:=⟨[],[],[],[],[],0⟩
theorem dF(w:World):WI (w.alloc (.cells #[.slice none 0 0,.slice none 0 0,.slice none 0 0,.slice none 0 0,.slice none 0 0,.slice none 0 0,.int .i64 0] 34)) w.heap.size w.heap.size V0 s0:=by
 have hn:∀ (w:World) (B e:Nat),w.ownsRow B e 1 (.slice none 0 0) 0 []:=fun w B e=>⟨rfl,.inl ⟨rfl,rfl⟩⟩
 refine⟨?_,Nat.le_refl _,hn _ _ _,hn _ _ _,trivial,hn _ _ _,hn _ _ _,hn _ _ _,trivial,hn _ _ _,trivial,Dm _,Dm _,Dm _,fun u hu=>?_,fun u hu=>?_,fun u hu=>?_⟩
 ·show(w.alloc _).heap[w.heap.size]?=_
  simp[World.alloc,WV.cells,V0,s0,WV.vl,WV.vc,WV.vt,WV.vx,WV.vo,WV.vw,-World.alloc_eq]
 ·simp[V0] at hu
 ·simp[V0] at hu
 ·simp[V0] at hu
theorem cQ:Bd 0 s0:=⟨Nat.le_refl _,by simp[s0],fun c hc=>by simp[s0] at hc,Nat.le_refl _,fun c hc=>by simp[s0] at hc,Nat.le_refl _,fun c hc=>by simp[s0] at hc,by simp[s0],rfl⟩
end Go.Proofs.YthboeppmlhbofaaGreatDoor
