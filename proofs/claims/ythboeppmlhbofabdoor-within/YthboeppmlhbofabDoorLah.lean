import Derived.Test.YthboeppmlhbofabDoorLad
import Derived.Deep.CutRange
import Derived.Test.YthboeppmlhbofabDoorLak
import Derived.Test.YthboeppmlhbofabDoorLap
namespace Go.Proofs.YthboeppmlhbofabDoor
open Go.RowKit Txt
set_option maxRecDepth 100000
theorem need_ret{w':World}{tmps:Array Value}{g:Nat}{p q:Value}(hr:Row w' g 84 [p,q])(h2:tmps.getD 4 undef=.pointer (some ⟨g,0,none⟩)) :
  (results Tryd.f80 tmps).run Tryd.prog w'=.ok (.agg #[p,q]) w':=by
 obtain⟨fs,hu⟩:=setType
 exact results_cell_row rfl tmps w' g 84 #[p,q] (0,0) (.struct fs) h2 hr hu rfl setSize
theorem row_alloc1(w:World)(x y:Value)(t:Nat)(z:Obj):Row ((w.alloc (.cells #[x,y] t)).alloc z) w.heap.size t [x,y]:=(heap_alloc_old (w.alloc _) _ (by simp)).trans (heap_alloc_new w _)
theorem below_alloc2(w:World)(x y:Obj):Below w.heap.size w ((w.alloc x).alloc y):=((Below.refl _ _).alloc (Nat.le_refl _) _).alloc (by simp) _
theorem needD_lt(cs:List Nat)(xs:List Int){d:Nat}(h:d<2^20):needD cs xs d<2^20:=sub_lt20 (need_sub cs xs d) h
set_option maxHeartbeats 8000000 in
theorem sneeded_any(w:World)(B g N:Nat)(E:Sg)(s:Sr)(A:SrA)(an:List Value)(d:Nat)(h:SrI w B g N E s A an)(hx:E.xs.all litB=true)(hxl:E.xs.length≤1000)(hd:d<2^20) :
  Calls Tryd.prog 80 #[.pointer (some ⟨g,0,none⟩),setV d] w fun e w'=>e=.returned (setV (needD (E.hv++s.lr) E.xs d))∧Below w.heap.size w w':=by
 have hB:=h.size
 have hg:g<w.heap.size:=h.m.row.lt
 have F:Hid (∀ w',Below w.heap.size w w'→w'.cell? ⟨g,0,none⟩=some (.pointer (some ⟨A.cb,0,none⟩))∧w'.cell? ⟨g,1,none⟩=some (.slice A.aa E.xs.length A.ca)∧IntsAt w' A.aa E.xs∧Tr w' B A.cb (E.hv++s.lr) (N+10*s.sp)):=fun w' hb=>by
  have hr:=row_below h.m.row hb
  exact⟨(hr.cell 0).trans rfl,(hr.cell 1).trans rfl,h.m.asm.below hb,h.t.below hb⟩
 have HF:Hid (needD (E.hv++s.lr) (E.xs.drop 0) d=needD (E.hv++s.lr) E.xs d):=rfl
 generalize needD (E.hv++s.lr) E.xs d=RES at *
 have B0:=hide (below_alloc2 w (.cells #[.int .i64 (tN d:Nat),.int .i64 (fN d:Nat)] 84) (.cells #[.int .i64 0,.int .i64 0] 84))
 have R0:=hide (row_alloc1 w (.int .i64 (tN d:Nat)) (.int .i64 (fN d:Nat)) 84 (.cells #[.int .i64 0,.int .i64 0] 84))
 have R1:Hid (Row ((w.alloc (.cells #[.int .i64 (tN d:Nat),.int .i64 (fN d:Nat)] 84)).alloc (.cells #[.int .i64 0,.int .i64 0] 84)) (w.heap.size+1) 84 [.int .i64 0,.int .i64 0]):=heap_alloc2_new w _ _
 unfold setV
 clear h
 go_enter Tryd.func80,Tryd.ntmps80
 obtain⟨f0,f1,f2,f3⟩:=F.out _ B0.out
 clear f2 f3
 go_wp2_with fail
 clear f0 f1
 generalize (w.alloc (.cells #[.int .i64 (tN d:Nat),.int .i64 (fN d:Nat)] 84)).alloc (.cells #[.int .i64 0,.int .i64 0] 84)=w0 at *
 go_loopw [15] (fun i wr=>∃ (k y:Nat),k≤E.xs.length∧y<2^20∧i=.int .i64 k∧Hid (needD (E.hv++s.lr) (E.xs.drop k) y=RES)∧Hid (Row wr w.heap.size 84 [.int .i64 (tN y:Nat),.int .i64 (fN y:Nat)])∧Hid (Row wr (w.heap.size+1) 84 [.int .i64 0,.int .i64 0])∧Hid (Below w.heap.size w wr)) (fun i _=>E.xs.length - (intOf i).toNat)
 case atStart=>exact⟨0,d,Nat.zero_le _,hd,rfl,HF,R0,R1,B0⟩
 case round =>
  clear HF R0 R1 B0
  obtain⟨k,y,hk,hy,rfl,HK,RD,RR,BW⟩:=hrel
  by_cases hlt:k<E.xs.length
  ·obtain⟨b,off,hab,hc⟩:=(F.out wr BW.out).2.2.1.get (by omega)
   have h1:=hc k hlt
   have hmem:litB (E.xs.getD k 0)=true:=by
    have:E.xs.getD k 0∈E.xs:=by rw[List.getD_eq_getElem?_getD,List.getElem?_eq_getElem hlt];exact List.getElem_mem hlt
    exact List.all_eq_true.1 hx _ this
   have k2:=HK.out
   rw[drop_get E.xs 0 k hlt] at k2
   simp only[needD] at k2
   generalize E.xs.getD k 0=n at *
   have K2:=hide k2
   have i1:(0:Int)≤(k:Int):=by omega
   have i2:(k:Int)<(E.xs.length:Int):=by omega
   have HWO:Hid (∀ w,Calls Tryd.prog 93 #[.agg #[.int .i64 (tN y:Nat),.int .i64 (fN y:Nat)],.int .i64 n] w fun e w'=>e=.returned (.agg #[.int .i64 (tN (wo y n):Nat),.int .i64 (fN (wo y n):Nat)])∧Below w.heap.size w w'):=fun w=>lwithout_any y hy n hmem w
   have hwl:=wo_lt n hy
   have HPU:Hid (∀ w',Below w.heap.size w w'→Calls Tryd.prog 65 #[.pointer (some ⟨A.cb,0,none⟩),.agg #[.int .i64 (tN (wo y n):Nat),.int .i64 (fN (wo y n):Nat)]] w' fun e w''=>e=.returned (pushV (pushD (E.hv++s.lr) (wo y n)))∧Below w'.heap.size w' w''):=fun w' hb=>push_tr (F.out w' hb).2.2.2 (wo y n) hwl
   have y0:wr.cell? ⟨w.heap.size,0,none⟩=some (.int .i64 (tN y:Nat)):=(RD.out.cell 0).trans rfl
   have y1:wr.cell? ⟨w.heap.size,1,none⟩=some (.int .i64 (fN y:Nat)):=(RD.out.cell 1).trans rfl
   have hc20:Hid (clashD (E.hv++s.lr) (wo y n)=(pushD (E.hv++s.lr) (wo y n)).isNone):=by
    show _=_
    cases hp:pushD (E.hv++s.lr) (wo y n) with
    | none=>rw[push_none.1 hp];rfl
    | some K =>
     cases hq:clashD (E.hv++s.lr) (wo y n) with
     | false=>rfl
     | true=>rw[push_none.2 hq] at hp;simp at hp
   have WL:=hide hwl
   clear hc k2 HK hwl
   rw[hab]
   generalize pushD (E.hv++s.lr) (wo y n)=PR at *
   generalize clashD (E.hv++s.lr) (wo y n)=CD at *
   generalize hwo:wo y n=z at *
   go_wp2_with fail
   refine(unhide HWO _).mono ?_
   rintro e w2 ⟨rfl,hb2⟩
   have B2:Hid (Below w.heap.size w w2):=BW.out.trans (hb2.mono BW.out.size)
   have D2:=hide (row_below RD.out hb2)
   have E2:=hide (row_below RR.out hb2)
   clear hb2 HWO y0 y1 h1
   have hz2:w.heap.size+1<w2.heap.size:=E2.out.lt
   go_wp2_with fail
   have hbL:Below w2.heap.size w2 (w2.alloc (.cells #[.int .i64 (tN z:Nat),.int .i64 (fN z:Nat)] 84)):=(Below.refl _ _).alloc (Nat.le_refl _) _
   have L3:Hid (Row (w2.alloc (.cells #[.int .i64 (tN z:Nat),.int .i64 (fN z:Nat)] 84)) w2.heap.size 84 [.int .i64 (tN z:Nat),.int .i64 (fN z:Nat)]):=heap_alloc_new w2 _
   have B3:Hid (Below w.heap.size w (w2.alloc (.cells #[.int .i64 (tN z:Nat),.int .i64 (fN z:Nat)] 84))):=B2.out.trans (hbL.mono B2.out.size)
   have D3:=hide (row_below D2.out hbL)
   have E3:=hide (row_below E2.out hbL)
   generalize hgL:w2.heap.size=gL at *
   generalize w2.alloc (.cells #[.int .i64 (tN z:Nat),.int .i64 (fN z:Nat)] 84)=w3 at *
   have hgn:gL≠w.heap.size:=by omega
   have hgn1:gL≠w.heap.size+1:=by omega
   clear hgL hbL B2 D2 E2 hz2
   obtain⟨f0,_,_,_⟩:=F.out w3 B3.out
   have l0:w3.cell? ⟨gL,0,none⟩=some (.int .i64 (tN z:Nat)):=(L3.out.cell 0).trans rfl
   have l1:w3.cell? ⟨gL,1,none⟩=some (.int .i64 (fN z:Nat)):=(L3.out.cell 1).trans rfl
   have hg3:g<w3.heap.size:=Nat.lt_of_lt_of_le hg B3.out.size
   have hgL3:gL<w3.heap.size:=L3.out.lt
   have f0a:∀ o,(w3.alloc o).cell? ⟨g,0,none⟩=some (.pointer (some ⟨A.cb,0,none⟩)):=fun o=>(((Below.refl w3.heap.size w3).alloc (Nat.le_refl _) o).cell (p:=⟨g,0,none⟩) hg3).trans f0
   have l0a:∀ o,(w3.alloc o).cell? ⟨gL,0,none⟩=some (.int .i64 (tN z:Nat)):=fun o=>(((Below.refl w3.heap.size w3).alloc (Nat.le_refl _) o).cell (p:=⟨gL,0,none⟩) hgL3).trans l0
   have l1a:∀ o,(w3.alloc o).cell? ⟨gL,1,none⟩=some (.int .i64 (fN z:Nat)):=fun o=>(((Below.refl w3.heap.size w3).alloc (Nat.le_refl _) o).cell (p:=⟨gL,1,none⟩) hgL3).trans l1
   have HP2:Hid (∀ w',Below w3.heap.size w3 w'→Calls Tryd.prog 65 #[.pointer (some ⟨A.cb,0,none⟩),.agg #[.int .i64 (tN z:Nat),.int .i64 (fN z:Nat)]] w' fun e w''=>e=.returned (pushV PR)∧Below w'.heap.size w' w''):=fun w' hb=>HPU.out w' (B3.out.trans (hb.mono B3.out.size))
   clear HPU
   have HX:Hid (∃ kt kf:Nat,pushV PR=.tuple #[.agg #[.int .i64 (kt:Nat),.int .i64 (kf:Nat)],.bool PR.isNone]):=by
    cases PR with
    | none=>exact⟨0,0,by simp only[pushV,setV_zero];rfl⟩
    | some K=>exact⟨tN K,fN K,rfl⟩
   obtain⟨kt,kf,hkk⟩:=HX.out
   rw[hkk] at HP2
   clear hkk HX
   have BA:Hid (Below w3.heap.size w3 (w3.alloc (.cells #[.int .i64 0,.int .i64 0] 84)).drew):=below_drewN ((Below.refl _ _).alloc (Nat.le_refl _) _) 1
   have RA:Hid (Row (w3.alloc (.cells #[.int .i64 0,.int .i64 0] 84)).drew w3.heap.size 84 [.int .i64 0,.int .i64 0]):=heap_alloc_new w3 _
   have BD:Hid (Below w3.heap.size w3 w3.drew):=below_drewN (Below.refl _ _) 1
   go_cut [9] from 16 to 33 (fun s9 wc=>s9=.bool PR.isNone∧Hid (Below w3.heap.size w3 wc))
   case first =>
    go_region_with (first
     | (go_at_call 65;refine(unhide HP2 (w3.alloc (.cells #[.int .i64 0,.int .i64 0] 84)).drew BA.out).mono ?_;rintro e w4 ⟨rfl,hb4⟩;have B4:Hid (Below w3.heap.size w3 w4):=BA.out.trans (hb4.mono BA.out.size);have X4:=hide (row_below RA.out hb4);have x0:w4.cell? ⟨w3.heap.size,0,none⟩=some (.int .i64 0):=(X4.out.cell 0).trans rfl;have x1:w4.cell? ⟨w3.heap.size,1,none⟩=some (.int .i64 0):=(X4.out.cell 1).trans rfl;have xz0:=X4.out.frozen 0;have xz1:=X4.out.frozen 1;clear hb4)
     | (go_at_call 65;refine(unhide HP2 w3.drew BD.out).mono ?_;rintro e w4 ⟨rfl,hb4⟩;have B4:Hid (Below w3.heap.size w3 w4):=BD.out.trans (hb4.mono BD.out.size);clear hb4))
    all_goals
     go_wp2
     go_meet
     case rel =>
      first
       | exact⟨rfl,(B4.out.setCell (p:=⟨w3.heap.size,0,none⟩) (Nat.le_refl _) _).setCell (p:=⟨w3.heap.size,1,none⟩) (Nat.le_refl _) _⟩
       | exact⟨rfl,B4.out.alloc B4.out.size _⟩
   case rest =>
    obtain⟨rfl,B4⟩:=hcut
    clear HP2 BA RA BD f0 f0a l0a l1a
    have B5:Hid (Below w.heap.size w wc):=B3.out.trans (B4.out.mono B3.out.size)
    have D5:=hide (row_below D3.out B4.out)
    have E5:=hide (row_below E3.out B4.out)
    have L5:=hide (row_below L3.out B4.out)
    have m0:wc.cell? ⟨gL,0,none⟩=some (.int .i64 (tN z:Nat)):=(L5.out.cell 0).trans rfl
    have m1:wc.cell? ⟨gL,1,none⟩=some (.int .i64 (fN z:Nat)):=(L5.out.cell 1).trans rfl
    have n0:wc.cell? ⟨w.heap.size,0,none⟩=some (.int .i64 (tN y:Nat)):=(D5.out.cell 0).trans rfl
    have n1:wc.cell? ⟨w.heap.size,1,none⟩=some (.int .i64 (fN y:Nat)):=(D5.out.cell 1).trans rfl
    have nz0:=D5.out.frozen 0
    have nz1:=D5.out.frozen 1
    clear L3 D3 E3 B3 B4 l0 l1
    cases hpr:PR.isNone with
    | true =>
     have K3:Hid (needD (E.hv++s.lr) (E.xs.drop (k+1)) z=RES):=by
      have:=K2.out
      rw[hc20.out,hpr,if_pos rfl] at this
      exact this
     have D6:=hide ((D5.out.set 0 (.int .i64 (tN z:Nat))).set 1 (.int .i64 (fN z:Nat)))
     have E6:Hid (Row ((wc.setCell ⟨w.heap.size,0,none⟩ (.int .i64 (tN z:Nat))).setCell ⟨w.heap.size,1,none⟩ (.int .i64 (fN z:Nat))) (w.heap.size+1) 84 [.int .i64 0,.int .i64 0]):=((Below.heap_setCell _ ⟨w.heap.size,1,none⟩ _ _ (Nat.ne_of_gt (Nat.lt_succ_self _))).trans (Below.heap_setCell _ ⟨w.heap.size,0,none⟩ _ _ (Nat.ne_of_gt (Nat.lt_succ_self _)))).trans E5.out
     have B6:=hide ((B5.out.setCell (p:=⟨w.heap.size,0,none⟩) (Nat.le_refl _) (.int .i64 (tN z:Nat))).setCell (p:=⟨w.heap.size,1,none⟩) (Nat.le_refl _) (.int .i64 (fN z:Nat)))
     clear hpr hc20 K2
     go_wp2
     go_roundw
     case rel=>exact⟨k+1,z,by omega,WL.out,by go_num,K3,D6,E6,B6⟩
     case measure=>simp[intOf];omega
    | false =>
     have K3:Hid (needD (E.hv++s.lr) (E.xs.drop (k+1)) y=RES):=by
      have:=K2.out
      rw[hc20.out,hpr] at this
      exact this
     clear hpr hc20 K2
     go_wp2
     go_roundw
     case rel=>exact⟨k+1,y,by omega,hy,by go_num,K3,D5,E5,B5⟩
     case measure=>simp[intOf];omega
  ·obtain rfl:k=E.xs.length:=by omega
   have HRS:Hid (y=RES):=by
    show _=_
    have:=HK.out
    rw[List.drop_eq_nil_of_le (Nat.le_refl _)] at this
    exact this
   have y0:wr.cell? ⟨w.heap.size,0,none⟩=some (.int .i64 (tN y:Nat)):=(RD.out.cell 0).trans rfl
   have y1:wr.cell? ⟨w.heap.size,1,none⟩=some (.int .i64 (fN y:Nat)):=(RD.out.cell 1).trans rfl
   have z0:wr.cell? ⟨w.heap.size+1,0,none⟩=some (.int .i64 0):=(RR.out.cell 0).trans rfl
   have z1:wr.cell? ⟨w.heap.size+1,1,none⟩=some (.int .i64 0):=(RR.out.cell 1).trans rfl
   have g0:=RR.out.frozen 0
   have g1:=RR.out.frozen 1
   go_wp2
   have R9:=(RR.out.set 0 (.int .i64 (tN y:Nat))).set 1 (.int .i64 (fN y:Nat))
   refine bodyPost_ret (v:=.agg #[.int .i64 (tN y:Nat),.int .i64 (fN y:Nat)]) (need_ret R9 rfl) rfl ⟨by rw[HRS.out],?_⟩
   exact(BW.out.setCell (p:=⟨w.heap.size+1,0,none⟩) (Nat.le_succ _) _).setCell (p:=⟨w.heap.size+1,1,none⟩) (Nat.le_succ _) _
set_option maxHeartbeats 8000000 in
theorem inOrder_any(c:Nat)(hc:c<2^20)(a:Option Addr)(cp:Nat)(xs:List Int)(w:World)(hr:IntsAt w a xs)(hx:xs.all litB=true)(hxl:xs.length≤1000) :
  Calls Tryd.prog 83 #[setV c,.slice a xs.length cp] w fun e w'=>(∃ a' c',e=.returned (.slice a' (inOrd c xs).length c')∧w'.ownsRow w.heap.size 3 1 (.slice a' (inOrd c xs).length c') (inOrd c xs).length (i64s (inOrd c xs)))∧Below w.heap.size w w':=by
 obtain⟨i0,hi0,hz0,hz1,hz2⟩:=info_parts Tryd.infoInt
 have HF:Hid ([]++inOrd c (xs.drop 0)=inOrd c xs):=rfl
 generalize inOrd c xs=RES at *
 have HR:=hide hr
 have HX:=hide hx
 have B0:=hide (show Below w.heap.size w (w.alloc (.cells #[.int .i64 (tN c:Nat),.int .i64 (fN c:Nat)] 84)) from(Below.refl _ _).alloc (Nat.le_refl _) _)
 have R0:Hid (Row (w.alloc (.cells #[.int .i64 (tN c:Nat),.int .i64 (fN c:Nat)] 84)) w.heap.size 84 [.int .i64 (tN c:Nat),.int .i64 (fN c:Nat)]):=heap_alloc_new w _
 unfold setV
 clear hr hx
 go_enter Tryd.func83,Tryd.ntmps83
 go_wp2_with fail
 generalize w.alloc (.cells #[.int .i64 (tN c:Nat),.int .i64 (fN c:Nat)] 84)=w0 at *
 go_loopw [5,10] (fun x5 x10 wr=>∃ (k y:Nat) (ls:List Int) (a1:Option Addr) (c1:Nat),k≤xs.length∧y<2^20∧ls.length≤k∧x5=.slice a1 ls.length c1∧x10=.int .i64 k∧Hid (ls++inOrd y (xs.drop k)=RES)∧Hid (wr.ownsRow w.heap.size 3 1 (.slice a1 ls.length c1) ls.length (i64s ls))∧Hid (Row wr w.heap.size 84 [.int .i64 (tN y:Nat),.int .i64 (fN y:Nat)])∧Hid (Below w.heap.size w wr)) (fun _ x10 _=>xs.length - (intOf x10).toNat)
 case atStart=>exact⟨0,c,[],none,0,Nat.zero_le _,hc,Nat.le_refl _,rfl,rfl,HF,⟨rfl,.inl ⟨rfl,rfl⟩⟩,R0,B0⟩
 case round =>
  clear HF R0 B0
  obtain⟨k,y,ls,a1,c1,hk,hy,hls,rfl,rfl,F,O,R,B⟩:=hrel
  by_cases hlt:k<xs.length
  ·obtain⟨b,off,rfl,hcc⟩:=(HR.out.below B.out).get (by omega)
   have h1:=hcc k hlt
   have hmem:litB (xs.getD k 0)=true:=by
    have:xs.getD k 0∈xs:=by rw[List.getD_eq_getElem?_getD,List.getElem?_eq_getElem hlt];exact List.getElem_mem hlt
    exact List.all_eq_true.1 HX.out _ this
   have f2:=F.out
   rw[drop_get xs 0 k hlt] at f2
   simp only[inOrd] at f2
   generalize xs.getD k 0=n at *
   have F2:=hide f2
   have HM:=hide hmem
   have hbits:-10≤n∧n≤10:=by simp only[litB,Bool.and_eq_true,bne_iff_ne,decide_eq_true_eq] at hmem;omega
   have HH:Hid (∀ w,Calls Tryd.prog 71 #[.agg #[.int .i64 (tN y:Nat),.int .i64 (fN y:Nat)],.int .i64 n] w fun e w'=>e=.returned (.bool (y.testBit (bitI n)))∧Below w.heap.size w w'):=fun w=>by
    have:=has_any (tN y) (fN y) n (tN_lt y) (fN_lt y) hbits.1 hbits.2 w
    rwa [has_bit hy hmem] at this
   have HWO:Hid (∀ w,Calls Tryd.prog 93 #[.agg #[.int .i64 (tN y:Nat),.int .i64 (fN y:Nat)],.int .i64 n] w fun e w'=>e=.returned (.agg #[.int .i64 (tN (wo y n):Nat),.int .i64 (fN (wo y n):Nat)])∧Below w.heap.size w w'):=fun w=>lwithout_any y hy n hmem w
   have WL:=hide (wo_lt n hy)
   have y0:wr.cell? ⟨w.heap.size,0,none⟩=some (.int .i64 (tN y:Nat)):=(R.out.cell 0).trans rfl
   have y1:wr.cell? ⟨w.heap.size,1,none⟩=some (.int .i64 (fN y:Nat)):=(R.out.cell 1).trans rfl
   clear hcc f2 F hmem hbits
   go_wp2_with fail
   refine(unhide HH _).mono ?_
   rintro e w2 ⟨rfl,hb2⟩
   have B2:Hid (Below w.heap.size w w2):=B.out.trans (hb2.mono B.out.size)
   have R2:=hide (row_below R.out hb2)
   have O2:=hide (own_below O.out hb2)
   clear hb2 HH y0 y1 h1
   cases hb:y.testBit (bitI n) with
   | true =>
    have F3:Hid ((ls++[n])++inOrd (wo y n) (xs.drop (k+1))=RES):=by
     show _=_
     have:=F2.out
     rw[hb,if_pos rfl] at this
     simpa using this
    have d1:Hid (ls.length+1≤maxLen):=by show _≤_;unfold maxLen;omega
    have d2:Hid ((ls.length+1)*8≤140737488355328):=by show _≤_;omega
    have d3:Hid (∀ o,w.heap.size≤(w2.alloc o).heap.size):=fun o=>by have:=B2.out.size;simp;omega
    clear hb F2
    go_wp2_with (at_builtin;refine wpList_append_at _ rfl _ _ 23 rfl w.heap.size 3 i0 (.int .i64 0) 8 Tryd.undInts hi0 hz0 hz1 hz2 rfl (.slice a1 ls.length c1) ls.length (i64s ls) rfl (O2.out.alloc _) ⟨w2.heap.size,0,none⟩ 1 1 [.int .i64 n] rfl rfl (new_cells1 w2 [.int .i64 n] 3) (by intro u hu;simp at hu;subst hu;rfl) (by decide) d1.out d2.out (d3.out _) ?_;intro v3 w3 hown3 hg3 hwh3;obtain⟨a3,c3,rfl⟩:=own_shape hown3;have B3:Hid (Below w.heap.size w w3):=(B2.out.alloc B2.out.size _).grown hg3 (B2.out.alloc B2.out.size _).size (fun k hk=>(O2.out.lt k hk).1);have R3:=hide (row_grownN (row_below R2.out (alloc_below w2 _)) (own_below O2.out (alloc_below w2 _)) n_int_set hg3);have y0:w3.cell? ⟨w.heap.size,0,none⟩=some (.int .i64 (tN y:Nat)):=(R3.out.cell 0).trans rfl;have y1:w3.cell? ⟨w.heap.size,1,none⟩=some (.int .i64 (fN y:Nat)):=(R3.out.cell 1).trans rfl)
    have O3:Hid (w3.ownsRow w.heap.size 3 1 (.slice a3 (ls.length+1) c3) (ls.length+1) (i64s (ls++[n]))):=by
     show _
     rw[i64s_snoc];exact hown3
    clear hown3 hg3 hwh3
    refine(unhide HWO _).mono ?_
    rintro e w4 ⟨rfl,hb4⟩
    have B4:Hid (Below w.heap.size w w4):=B3.out.trans (hb4.mono B3.out.size)
    have R4:=hide (row_below R3.out hb4)
    have O4:=hide (own_below O3.out hb4)
    have z0:w4.cell? ⟨w.heap.size,0,none⟩=some (.int .i64 (tN y:Nat)):=(R4.out.cell 0).trans rfl
    have z1:w4.cell? ⟨w.heap.size,1,none⟩=some (.int .i64 (fN y:Nat)):=(R4.out.cell 1).trans rfl
    have g0:=R4.out.frozen 0
    have g1:=R4.out.frozen 1
    clear hb4 HWO y0 y1
    generalize wo y n=z at *
    have R5:=hide ((R4.out.set 0 (.int .i64 (tN z:Nat))).set 1 (.int .i64 (fN z:Nat)))
    have B5:=hide ((B4.out.setCell (p:=⟨w.heap.size,0,none⟩) (Nat.le_refl _) (.int .i64 (tN z:Nat))).setCell (p:=⟨w.heap.size,1,none⟩) (Nat.le_refl _) (.int .i64 (fN z:Nat)))
    have O5:=hide (own_setN (R4.out.set 0 (.int .i64 (tN z:Nat))) 1 (.int .i64 (fN z:Nat)) n_int_set (own_setN R4.out 0 (.int .i64 (tN z:Nat)) n_int_set O4.out))
    go_wp2
    go_roundw
    case rel=>exact⟨k+1,z,ls++[n],a3,c3,by omega,WL.out,by rw[List.length_append,List.length_singleton];omega,by rw[List.length_append,List.length_singleton],by go_num,F3,by rw[List.length_append,List.length_singleton];exact O5,R5,B5⟩
    case measure=>simp[intOf];omega
   | false =>
    have F3:Hid (ls++inOrd y (xs.drop (k+1))=RES):=by
     show _=_
     have:=F2.out
     rw[hb] at this
     simpa using this
    clear hb F2
    go_wp2
    go_roundw
    case rel=>exact⟨k+1,y,ls,a1,c1,by omega,hy,by omega,rfl,by go_num,F3,O2,R2,B2⟩
    case measure=>simp[intOf];omega
  ·obtain rfl:k=xs.length:=by omega
   have HRS:Hid (ls=RES):=by
    show _=_
    have:=F.out
    rw[List.drop_eq_nil_of_le (Nat.le_refl _)] at this
    simpa [inOrd] using this
   clear F
   go_wp2
   go_ret
   exact⟨⟨a1,c1,by rw[← HRS.out];rfl,by rw[← HRS.out];exact O.out⟩,B.out⟩
def EndPost(w:World)(B g N:Nat)(E:Sg)(A:SrA)(r:Rs)(e:Ending)(w':World):Prop:=Fr srT B w w'∧SetK A.vl w w'∧e=.returned (.tuple #[])∧match r with
 | .fin s x=>∃ A' an,A'.cb=A.cb∧A'.aa=A.aa∧A'.ca=A.ca∧Mov A.vl A'.vl w∧SrI w' B g N E s A' an∧AnsC w' B an x
 | .go _=>False
theorem ans_core{w:World}{B:Nat}{xs:List Int}{a:Option Addr}{cp:Nat}(h:w.ownsRow B 3 1 (.slice a xs.length cp) xs.length (i64s xs)):AnsC w B [.int .i64 2,.int .i64 0,.slice none 0 0,.slice a xs.length cp,.slice none 0 0] ⟨2,0,[],xs,[]⟩ :=
 ⟨⟨none,a,none,0,cp,0⟩,rfl,own_nil _ _ _ _,h,own_nil _ _ _ _,apart_none _,apart_none _,(apart_none _).symm⟩
set_option maxHeartbeats 16000000 in
theorem send_any(w:World)(B g N:Nat)(E:Sg)(s:Sr)(A:SrA)(h:SrI w B g N E s A anZero)(hb:SrB s)(hx:E.xs.all litB=true)(hxl:E.xs.length≤1000) :
  Calls Tryd.prog 66 #[.pointer (some ⟨g,0,none⟩)] w (EndPost w B g N E A (endS E s)):=by
 have hB:=h.size
 have hA:E.as<2^20:=setOk_lt E.xs
 have hD:=needD_lt (E.hv++s.lr) E.xs hA
 have HND:Hid (∀ w',SrI w' B g N E s A anZero→Calls Tryd.prog 80 #[.pointer (some ⟨g,0,none⟩),.agg #[.int .i64 (tN E.as:Nat),.int .i64 (fN E.as:Nat)]] w' fun e w''=>e=.returned (.agg #[.int .i64 (tN (needD (E.hv++s.lr) E.xs E.as):Nat),.int .i64 (fN (needD (E.hv++s.lr) E.xs E.as):Nat)])∧Below w'.heap.size w' w''):=fun w' hi=>sneeded_any w' B g N E s A anZero E.as hi hx hxl hA
 have HRES:Hid (endS E s=match wrt 101 (oppN (needD (E.hv++s.lr) E.xs E.as)) s with | .fin s x=>.fin s x | .go s=>.fin s ⟨2,0,[],inOrd (needD (E.hv++s.lr) E.xs E.as) E.xs,[]⟩):=rfl
 have hnd:Hid (∀ l1 ls1,wrt 101 (oppN (needD (E.hv++s.lr) E.xs E.as)) s=.go { s with l:=l1,ls:=ls1 }→endS E s=.fin { s with l:=l1,ls:=ls1 } ⟨2,0,[],inOrd (needD (E.hv++s.lr) E.xs E.as) E.xs,[]⟩):=fun l1 ls1 e=>by
  show(match wrt 101 (oppN (needD (E.hv++s.lr) E.xs E.as)) s with | .fin s x=>Rs.fin s x | .go s'=>.fin s' ⟨2,0,[],inOrd (needD (E.hv++s'.lr) E.xs E.as) E.xs,[]⟩)=_
  rw[e]
 generalize needD (E.hv++s.lr) E.xs E.as=D at *
 have HOP:Hid (∀ w,Calls Tryd.prog 82 #[.agg #[.int .i64 (tN D:Nat),.int .i64 (fN D:Nat)]] w fun e w'=>e=.returned (.agg #[.int .i64 (tN (oppN D):Nat),.int .i64 (fN (oppN D):Nat)])∧Below w.heap.size w w'):=fun w=>by
  rw[(tN_opp hD).1,(tN_opp hD).2]
  exact lopp_any (tN D) (fN D) w
 have HWR:Hid (∀ w',SrI w' B g N E s A anZero→Calls Tryd.prog 81 #[.pointer (some ⟨g,0,none⟩),.int .u8 101,.agg #[.int .i64 (tN (oppN D):Nat),.int .i64 (fN (oppN D):Nat)]] w' (SrPost w' B g N E A (wrt 101 (oppN D) s))):=fun w' hi=>swrite_any w' B g N E s A 101 (oppN D) hi hb (oppN_lt D)
 have HIO:Hid (∀ w',IntsAt w' A.aa E.xs→Calls Tryd.prog 83 #[.agg #[.int .i64 (tN D:Nat),.int .i64 (fN D:Nat)],.slice A.aa E.xs.length A.ca] w' fun e w''=>(∃ a' c',e=.returned (.slice a' (inOrd D E.xs).length c')∧w''.ownsRow w'.heap.size 3 1 (.slice a' (inOrd D E.xs).length c') (inOrd D E.xs).length (i64s (inOrd D E.xs)))∧Below w'.heap.size w' w''):=fun w' hi=>inOrder_any D hD A.aa A.ca E.xs w' hi hx hxl
 have HWD:Hid ((∃ s1 x,wrt 101 (oppN D) s=.fin s1 x)∨∃ l1 ls1,wrt 101 (oppN D) s=.go { s with l:=l1,ls:=ls1 }):=by
  unfold wrt
  split
  ·exact .inl ⟨_,_,rfl⟩
  ·exact .inr ⟨_,_,rfl⟩
 generalize endS E s=RES at *
 have hbox:A.vl.ownBlock≠none→True:=fun _=>trivial
 have I0:=hide h
 have OWN:Hid (∀ b,A.vl.ownBlock=some b→b<w.heap.size):=fun b q=>(h.m.lr.lt b q).2
 have c2:w.cell? ⟨g,2,none⟩=some (.int .i64 (tN E.as:Nat)):=(h.m.row.cell 2).trans rfl
 have c3:w.cell? ⟨g,3,none⟩=some (.int .i64 (fN E.as:Nat)):=(h.m.row.cell 3).trans rfl
 clear h hb hbox
 go_enter Tryd.func66,Tryd.ntmps66
 go_wp2_with fail
 refine(unhide HND _ I0.out).mono ?_
 rintro e w1 ⟨rfl,hb1⟩
 have I1:=hide (I0.out.below hB hb1)
 have B1:=hide hb1
 clear hb1 HND c2 c3 I0
 have hbx:A.vl.ownBlock≠some w1.heap.size:=fun q=>by have:=OWN.out _ q;have:=B1.out.size;omega
 have HBX:=hide hbx
 clear hbx
 go_wp2_with fail
 have R2:Hid (Row (w1.alloc (.cells #[.int .i64 (tN D:Nat),.int .i64 (fN D:Nat)] 84)) w1.heap.size 84 [.int .i64 (tN D:Nat),.int .i64 (fN D:Nat)]):=heap_alloc_new w1 _
 have I2:=hide (I1.out.below I1.out.size (alloc_below w1 (.cells #[.int .i64 (tN D:Nat),.int .i64 (fN D:Nat)] 84)))
 have B2:Hid (Below w.heap.size w (w1.alloc (.cells #[.int .i64 (tN D:Nat),.int .i64 (fN D:Nat)] 84))):=B1.out.alloc B1.out.size _
 refine(unhide HOP _).mono ?_
 generalize w1.alloc (.cells #[.int .i64 (tN D:Nat),.int .i64 (fN D:Nat)] 84)=w2 at *
 generalize hgb:w1.heap.size=gb at *
 clear hgb
 rintro e w3 ⟨rfl,hb3⟩
 have I3:=hide (I2.out.below I2.out.size hb3)
 have R3:=hide (row_below R2.out hb3)
 have B3:Hid (Below w.heap.size w w3):=B2.out.trans (hb3.mono B2.out.size)
 clear hb3 I2 R2 B2 I1 HOP
 go_wp2_with fail
 refine(unhide HWR _ I3.out).mono ?_
 intro e w4 hp
 have F3:=hide (Fr.of srT B B3.out)
 have K3:=hide (SetK.fr A.vl (Fr.of (fun _=>False) B B3.out) id)
 rcases HWD.out with⟨s1,x,hw⟩ | ⟨l1,ls1,hw⟩
 ·rw[hw] at hp
  obtain⟨p1,p2,rfl,A1,an1,q1,q2,q3,q4,q5,q6⟩:=hp
  have HR2:Hid (RES=.fin s1 x):=by show _=_;rw[HRES.out,hw]
  have P:=hide (And.intro p1 (And.intro p2 (And.intro q4 (And.intro q5 q6))))
  have HQ:=hide (And.intro q1 (And.intro q2 q3))
  clear p1 p2 q1 q2 q3 q4 q5 q6 hw HRES HWD HWR hnd
  go_wp2
  go_end0
  rw[HR2.out]
  exact⟨F3.out.trans P.out.1,K3.out.trans (Mov.refl _ _) B3.out.size P.out.2.1,rfl,A1,an1,HQ.out.1,HQ.out.2.1,HQ.out.2.2,fun b hb=>(P.out.2.2.1 b hb).imp id fun q=>Nat.le_trans B3.out.size q,P.out.2.2.2.1,P.out.2.2.2.2⟩
 ·rw[hw] at hp
  obtain⟨p1,p2,rfl,A1,q1,q2,q3,q4,q5⟩:=hp
  have HR2:Hid (RES=.fin { s with l:=l1,ls:=ls1 } ⟨2,0,[],inOrd D E.xs,[]⟩):=hnd.out l1 ls1 hw
  have I4:=hide q5
  have HQ:=hide (And.intro q1 (And.intro q2 q3))
  have F4:=hide (F3.out.trans p1)
  have K4:=hide (K3.out.trans (Mov.refl _ _) B3.out.size p2)
  have M4:Hid (Mov A.vl A1.vl w):=fun b hb=>(q4 b hb).imp id fun q=>Nat.le_trans B3.out.size q
  have R4:=hide (p2.row R3.out HBX.out)
  have haa:=q2
  have hca:=q3
  clear p1 p2 q1 q2 q3 q4 q5 hw HRES HWD HWR hnd I3 R3 F3 K3
  rw[← haa,← hca] at HIO
  have C:Hid (∀ w',Below w4.heap.size w4 w'→w'.cell? ⟨g,1,none⟩=some (.slice A1.aa E.xs.length A1.ca)∧w'.cell? ⟨gb,0,none⟩=some (.int .i64 (tN D:Nat))∧w'.cell? ⟨gb,1,none⟩=some (.int .i64 (fN D:Nat))):=fun w' hb'=>⟨((row_below I4.out.m.row hb').cell 1).trans rfl,((row_below R4.out hb').cell 0).trans rfl,((row_below R4.out hb').cell 1).trans rfl⟩
  obtain⟨f1,f2,f3⟩:=C.out w4 (Below.refl _ _)
  have BD:Hid (Below w4.heap.size w4 w4.drew):=below_drewN (Below.refl _ _) 1
  have HI5:=hide (HIO.out w4.drew (I4.out.m.asm.below BD.out))
  clear HIO haa hca
  go_wp2_with fail
  go_region_with (go_at_call 83;refine(unhide HI5).mono ?_;rintro e w5 ⟨⟨a5,c5,rfl,ho5⟩,hb5⟩;have B5:Hid (Below w4.heap.size w4 w5):=BD.out.trans (hb5.mono BD.out.size);have P5:=hide (I4.out.below I4.out.size B5.out);have O5:=hide (own_low ho5 (Nat.le_trans I4.out.size BD.out.size));clear ho5 hb5;have z0:=P5.out.m.row.frozen 15;have z1:=P5.out.m.row.frozen 16;have z2:=P5.out.m.row.frozen 17;have z3:=P5.out.m.row.frozen 18;have z4:=P5.out.m.row.frozen 19;have y0:w5.cell? ⟨g,15,none⟩=some (.int .i64 0):=(P5.out.m.row.cell 15).trans rfl;have y1:w5.cell? ⟨g,16,none⟩=some (.int .i64 0):=(P5.out.m.row.cell 16).trans rfl;have y2:w5.cell? ⟨g,17,none⟩=some (.slice none 0 0):=(P5.out.m.row.cell 17).trans rfl;have y3:w5.cell? ⟨g,18,none⟩=some (.slice none 0 0):=(P5.out.m.row.cell 18).trans rfl;have y4:w5.cell? ⟨g,19,none⟩=some (.slice none 0 0):=(P5.out.m.row.cell 19).trans rfl)
  all_goals
   obtain⟨q1,q2⟩:=P5.out.ans5 (.int .i64 2) (.int .i64 0) (.slice none 0 0) (.slice a5 (inOrd D E.xs).length c5) (.slice none 0 0)
   have Q:=hide (And.intro q1 q2)
   clear q1 q2 z0 z1 z2 z3 z4 y0 y1 y2 y3 y4 f1 f2 f3
   go_wp2
   go_end0
   rw[HR2.out]
   have f45:Fr lwT B w4 _:=(Fr.of lwT B B5.out).trans Q.out.2
   exact⟨F4.out.trans (f45.mono wr_sr),K4.out.trans M4.out F4.out.size (SetK.fr _ f45 set_wr),rfl,A1,_,HQ.out.1,HQ.out.2.1,HQ.out.2.2,M4.out,Q.out.1,ans_core (Q.out.2.own O5.out int_wr)⟩
set_option maxHeartbeats 16000000 in
theorem refute_any(w:World)(B g N:Nat)(E:Sg)(s:Sr)(A:SrA)(dec:Nat)(h:SrI w B g N E s A anZero)(hb:SrB s)(hx:E.xs.all litB=true)(hxl:E.xs.length≤1000)(hd:dec<2^20)(hN:N+10*s.sp≤80000000)(hlong:¬ (E.r=0∨(s.lr.length:Int)<E.r)→longD E s dec s.lr 0∈s.lr)(hs1:∀ s1,mkr E s dec=.go s1→SrB s1∧s1.sp=s.sp) :
  Calls Tryd.prog 67 #[.pointer (some ⟨g,0,none⟩),setV dec] w (SrPost w B g N E A (rft E s dec)):=by
 have hB:=h.size
 have OWN:Hid (∀ b,A.vl.ownBlock=some b→b<w.heap.size):=fun b q=>(h.m.lr.lt b q).2
 have hsp:=hb.sp
 have HMK:Hid (∀ w',SrI w' B g N E s A anZero→Calls Tryd.prog 85 #[.pointer (some ⟨g,0,none⟩),.agg #[.int .i64 (tN dec:Nat),.int .i64 (fN dec:Nat)]] w' (SrPost w' B g N E A (mkr E s dec))):=fun w' hi=>makeRoom_any w' B g N E s A dec hi hb hd hN hlong
 have HS1:=hide hs1
 have z00:tN 0=0∧fN 0=0:=by
  obtain⟨a,b⟩:=Two.zero.eq
  exact⟨a.symm,b.symm⟩
 have HU:Hid (∀ w,Calls Tryd.prog 84 #[.int .i64 1,.agg #[.int .i64 0,.int .i64 0]] w fun e w'=>(∃ a cp,e=.returned (.agg #[.int .i64 3,.int .i64 1,.slice none 0 0,.slice none 0 0,.slice a (listN 0).length cp])∧w'.ownsRow w.heap.size 3 1 (.slice a (listN 0).length cp) (listN 0).length (i64s (listN 0)))∧Below w.heap.size w w'):=fun w=>by
  have:=sunk_any 1 0 (by decide) w
  unfold setV at this
  rw[z00.1,z00.2] at this
  exact this
 have HRES:Hid (rft E s dec=if 0<E.b∧E.b≤(s.sp:Int) then .fin s (unk 1 0) else match mkr E s dec with | .fin s x=>.fin s x | .go s=>lrn (oppN (needD (E.hv++s.lr) E.xs dec)) s):=rfl
 generalize rft E s dec=RES at *
 have B0:=hide (alloc_below w (.cells #[.int .i64 (tN dec:Nat),.int .i64 (fN dec:Nat)] 84))
 have I0:=hide (h.below hB B0.out)
 have R0:Hid (Row (w.alloc (.cells #[.int .i64 (tN dec:Nat),.int .i64 (fN dec:Nat)] 84)) w.heap.size 84 [.int .i64 (tN dec:Nat),.int .i64 (fN dec:Nat)]):=heap_alloc_new w _
 unfold setV
 clear h hb hlong hs1 z00
 go_enter Tryd.func67,Tryd.ntmps67
 go_wp2_with fail
 generalize w.alloc (.cells #[.int .i64 (tN dec:Nat),.int .i64 (fN dec:Nat)] 84)=w0 at *
 have c4:w0.cell? ⟨g,4,none⟩=some (.int .i64 E.b):=(I0.out.m.row.cell 4).trans rfl
 have c9:w0.cell? ⟨g,9,none⟩=some (.int .i64 (s.sp:Nat)):=(I0.out.m.row.cell 9).trans rfl
 have BD:Hid (Below w0.heap.size w0 w0.drew):=below_drewN (Below.refl _ _) 1
 go_cut [23] from 6 (fun s23 wc=>s23=.bool (decide (0<E.b∧E.b≤(s.sp:Int)))∧Hid (Below w0.heap.size w0 wc))
 case first =>
  by_cases hb0:0<E.b
  ·have e0:E.b > 0:=hb0
   by_cases hle:E.b≤(s.sp:Int)
   ·have e1:((s.sp:Int) ≥ E.b):=hle
    go_region
    all_goals
     go_wp2
     go_meet
     case rel=>exact⟨by rw[decide_eq_true (show 0<E.b∧E.b≤(s.sp:Int) by omega)],BD⟩
   ·have e1:¬ ((s.sp:Int) ≥ E.b):=hle
    go_region
    all_goals
     go_wp2
     go_meet
     case rel=>exact⟨by rw[decide_eq_false (show ¬ (0<E.b∧E.b≤(s.sp:Int)) by omega)],BD⟩
  ·have e0:¬ E.b > 0:=hb0
   go_region
   all_goals
    go_wp2
    go_meet
    case rel=>exact⟨by rw[decide_eq_false (show ¬ (0<E.b∧E.b≤(s.sp:Int)) by omega)],BD⟩
 case rest =>
  obtain⟨rfl,BC⟩:=hcut
  have I1:=hide (I0.out.below I0.out.size BC.out)
  have R1:=hide (row_below R0.out BC.out)
  have B1:Hid (Below w.heap.size w wc):=B0.out.trans (BC.out.mono B0.out.size)
  clear I0 R0 B0 BC BD c4 c9
  by_cases hcond:0<E.b∧E.b≤(s.sp:Int)
  ·have HR:Hid (RES=.fin s (unk 1 0)):=by show _=_;rw[HRES.out,if_pos hcond]
   have hdc:decide (0<E.b∧E.b≤(s.sp:Int))=true:=by simpa using hcond
   rw[hdc]
   clear hcond hdc HRES HMK HS1
   go_wp2_with fail
   refine(unhide HU _).mono ?_
   rintro e w5 ⟨⟨a5,cp5,rfl,ho5⟩,hb5⟩
   have P2:=hide (I1.out.below I1.out.size hb5)
   have P1:Hid (Below w.heap.size w w5):=B1.out.trans (hb5.mono B1.out.size)
   have O5:=hide (own_low ho5 I1.out.size)
   have z0:=P2.out.m.row.frozen 15
   have z1:=P2.out.m.row.frozen 16
   have z2:=P2.out.m.row.frozen 17
   have z3:=P2.out.m.row.frozen 18
   have z4:=P2.out.m.row.frozen 19
   have y0:w5.cell? ⟨g,15,none⟩=some (.int .i64 0):=(P2.out.m.row.cell 15).trans rfl
   have y1:w5.cell? ⟨g,16,none⟩=some (.int .i64 0):=(P2.out.m.row.cell 16).trans rfl
   have y2:w5.cell? ⟨g,17,none⟩=some (.slice none 0 0):=(P2.out.m.row.cell 17).trans rfl
   have y3:w5.cell? ⟨g,18,none⟩=some (.slice none 0 0):=(P2.out.m.row.cell 18).trans rfl
   have y4:w5.cell? ⟨g,19,none⟩=some (.slice none 0 0):=(P2.out.m.row.cell 19).trans rfl
   clear ho5 hb5 HU
   go_wp2
   go_ret
   rw[HR.out]
   obtain⟨q1,q2⟩:=P2.out.ans5 (.int .i64 3) (.int .i64 1) (.slice none 0 0) (.slice none 0 0) (.slice a5 (listN 0).length cp5)
   have hfr:Fr lwT B w _:=(Fr.of lwT B P1.out).trans q2
   exact⟨hfr.mono wr_sr,SetK.fr _ hfr set_wr,rfl,A,_,rfl,rfl,rfl,Mov.refl _ _,q1,ans_unk (q2.own O5.out int_wr)⟩
  ·have HR:Hid (RES=match mkr E s dec with | .fin s x=>.fin s x | .go s=>lrn (oppN (needD (E.hv++s.lr) E.xs dec)) s):=by show _=_;rw[HRES.out,if_neg hcond]
   have hdc:decide (0<E.b∧E.b≤(s.sp:Int))=false:=by simpa using hcond
   rw[hdc]
   have x0:wc.cell? ⟨w.heap.size,0,none⟩=some (.int .i64 (tN dec:Nat)):=(R1.out.cell 0).trans rfl
   have x1:wc.cell? ⟨w.heap.size,1,none⟩=some (.int .i64 (fN dec:Nat)):=(R1.out.cell 1).trans rfl
   have F1:=hide (Fr.of srT B B1.out)
   have K1:=hide (SetK.fr A.vl (Fr.of (fun _=>False) B B1.out) id)
   clear HRES hcond hdc HU
   go_wp2_with fail
   refine(unhide HMK _ I1.out).mono ?_
   intro e w2 hp
   generalize hmk:mkr E s dec=MK at *
   cases MK with
   | fin s1 x =>
    obtain⟨p1,p2,rfl,A1,an1,q1,q2,q3,q4,q5,q6⟩:=hp
    have HR2:Hid (RES=.fin s1 x):=HR.out
    have P:=hide (And.intro p1 (And.intro p2 (And.intro q4 (And.intro q5 q6))))
    have HQ:=hide (And.intro q1 (And.intro q2 q3))
    clear p1 p2 q1 q2 q3 q4 q5 q6 HR HMK HS1 hmk x0 x1
    go_wp2
    go_ret
    rw[HR2.out]
    exact⟨F1.out.trans P.out.1,K1.out.trans (Mov.refl _ _) B1.out.size P.out.2.1,rfl,A1,an1,HQ.out.1,HQ.out.2.1,HQ.out.2.2,fun b hb=>(P.out.2.2.1 b hb).imp id fun q=>Nat.le_trans B1.out.size q,P.out.2.2.2.1,P.out.2.2.2.2⟩
   | go s1 =>
    obtain⟨p1,p2,rfl,A1,q1,q2,q3,q4,q5⟩:=hp
    obtain⟨hb1,hsp1⟩:=HS1.out s1 rfl
    have HR2:Hid (RES=lrn (oppN (needD (E.hv++s1.lr) E.xs dec)) s1):=HR.out
    have hbox:A.vl.ownBlock≠some w.heap.size:=fun q=>by have:=OWN.out _ q;omega
    have I2:=hide q5
    have HQ:=hide (And.intro q1 (And.intro q2 q3))
    have F2:=hide (F1.out.trans p1)
    have K2:=hide (K1.out.trans (Mov.refl _ _) B1.out.size p2)
    have M2:Hid (Mov A.vl A1.vl w):=fun b hb=>(q4 b hb).imp id fun q=>Nat.le_trans B1.out.size q
    have R2:=hide (p2.row R1.out hbox)
    have hDl:=needD_lt (E.hv++s1.lr) E.xs hd
    have HND:Hid (∀ w',SrI w' B g N E s1 A1 anZero→Calls Tryd.prog 80 #[.pointer (some ⟨g,0,none⟩),.agg #[.int .i64 (tN dec:Nat),.int .i64 (fN dec:Nat)]] w' fun e w''=>e=.returned (.agg #[.int .i64 (tN (needD (E.hv++s1.lr) E.xs dec):Nat),.int .i64 (fN (needD (E.hv++s1.lr) E.xs dec):Nat)])∧Below w'.heap.size w' w''):=fun w' hi=>sneeded_any w' B g N E s1 A1 anZero dec hi hx hxl hd
    generalize needD (E.hv++s1.lr) E.xs dec=D at *
    have HOP:Hid (∀ w,Calls Tryd.prog 82 #[.agg #[.int .i64 (tN D:Nat),.int .i64 (fN D:Nat)]] w fun e w'=>e=.returned (.agg #[.int .i64 (tN (oppN D):Nat),.int .i64 (fN (oppN D):Nat)])∧Below w.heap.size w w'):=fun w=>by
     rw[(tN_opp hDl).1,(tN_opp hDl).2]
     exact lopp_any (tN D) (fN D) w
    have HLN:Hid (∀ w',SrI w' B g N E s1 A1 anZero→Calls Tryd.prog 86 #[.pointer (some ⟨g,0,none⟩),.agg #[.int .i64 (tN (oppN D):Nat),.int .i64 (fN (oppN D):Nat)]] w' (SrPost w' B g N E A1 (lrn (oppN D) s1))):=fun w' hi=>slearn_any w' B g N E s1 A1 (oppN D) hi hb1 (oppN_lt D) (by rw[hsp1];exact hN)
    have y0:w2.cell? ⟨w.heap.size,0,none⟩=some (.int .i64 (tN dec:Nat)):=(R2.out.cell 0).trans rfl
    have y1:w2.cell? ⟨w.heap.size,1,none⟩=some (.int .i64 (fN dec:Nat)):=(R2.out.cell 1).trans rfl
    clear p1 p2 q1 q2 q3 q4 q5 HR HMK HS1 hmk x0 x1 F1 K1 I1 R1 hb1 hsp1 hbox hDl
    go_wp2_with fail
    refine(unhide HND _ I2.out).mono ?_
    rintro e w3 ⟨rfl,hb3⟩
    have I3:=hide (I2.out.below I2.out.size hb3)
    have B3:=hide hb3
    clear hb3 HND y0 y1 I2
    go_wp2_with fail
    have I4:=hide (I3.out.below I3.out.size (alloc_below w3 (.cells #[.int .i64 (tN D:Nat),.int .i64 (fN D:Nat)] 84)))
    have B4:Hid (Below w2.heap.size w2 (w3.alloc (.cells #[.int .i64 (tN D:Nat),.int .i64 (fN D:Nat)] 84))):=B3.out.alloc B3.out.size _
    refine(unhide HOP _).mono ?_
    generalize w3.alloc (.cells #[.int .i64 (tN D:Nat),.int .i64 (fN D:Nat)] 84)=w4 at *
    rintro e w5 ⟨rfl,hb5⟩
    have I5:=hide (I4.out.below I4.out.size hb5)
    have B5:Hid (Below w2.heap.size w2 w5):=B4.out.trans (hb5.mono B4.out.size)
    clear hb5 HOP I3 I4 B3 B4
    go_wp2_with fail
    refine(unhide HLN _ I5.out).mono ?_
    intro e w6 hp6
    have F6:=hide (F2.out.trans (Fr.of srT B B5.out))
    have K6:=hide (K2.out.trans M2.out F2.out.size (SetK.fr A1.vl (Fr.of (fun _=>False) B B5.out) id))
    clear HLN I5
    generalize lrn (oppN D) s1=LR at *
    cases LR with
    | fin s2 x =>
     obtain⟨p1,p2,rfl,A2,an2,q1,q2,q3,q4,q5,q6⟩:=hp6
     have P:=hide (And.intro p1 (And.intro p2 (And.intro q4 (And.intro q5 q6))))
     have HQ2:=hide (And.intro q1 (And.intro q2 q3))
     clear p1 p2 q1 q2 q3 q4 q5 q6
     go_wp2
     go_ret
     rw[HR2.out]
     exact⟨F6.out.trans P.out.1,K6.out.trans M2.out F6.out.size P.out.2.1,rfl,A2,an2,HQ2.out.1.trans HQ.out.1,HQ2.out.2.1.trans HQ.out.2.1,HQ2.out.2.2.trans HQ.out.2.2,M2.out.trans P.out.2.2.1 F6.out.size,P.out.2.2.2.1,P.out.2.2.2.2⟩
    | go s2 =>
     obtain⟨p1,p2,rfl,A2,q1,q2,q3,q4,q5⟩:=hp6
     have P:=hide (And.intro p1 (And.intro p2 (And.intro q4 q5)))
     have HQ2:=hide (And.intro q1 (And.intro q2 q3))
     clear p1 p2 q1 q2 q3 q4 q5
     go_wp2
     go_ret
     rw[HR2.out]
     exact⟨F6.out.trans P.out.1,K6.out.trans M2.out F6.out.size P.out.2.1,rfl,A2,HQ2.out.1.trans HQ.out.1,HQ2.out.2.1.trans HQ.out.2.1,HQ2.out.2.2.trans HQ.out.2.2,M2.out.trans P.out.2.2.1 F6.out.size,P.out.2.2.2⟩
theorem long_mem{X:Cx}(hX:CxOk X){T:List (Nat × Nat)}{w k dec:Nat}{s:Sr}(hW:Wks X T w)(h:Hd X T w (k+1) dec s)(hcl:clashD (X.E.hv++s.lr) dec=true)(hr:¬ (X.E.r=0∨(s.lr.length:Int)<X.E.r)):longD X.E s dec s.lr 0∈s.lr:=by
 have hok:=h.si.csok hX hW.me
 have hno:=h.no (by omega)
 have hr0:X.E.r≠0:=fun e=>hr (.inl e)
 have h12:12≤X.E.r:=hX.set.resolve_left hr0
 obtain⟨c0,hc0,hi0⟩:=idle_ex h.si.nod (by omega) hok h.trk h.done h.dec h.path hcl hno hW.dis
 rcases long_spec X.E s dec s.lr 0 with⟨_,b⟩ | b
 ·exfalso
  rcases b c0 hc0 with q | q
  ·have l:=h.si.lr c0 hc0
   have:sizeN 0<sizeN c0:=size_lt (fun i q=>by rw[Nat.zero_testBit] at q;simp at q) l.top (fun e=>l.ne e.symm)
   omega
  ·rw[hi0] at q;simp at q
 ·exact b.1
theorem linesTo_log:∀ (ls:List Lin) (j:JV),j.log+ls.length≤(linesTo j ls).log∧(linesTo j ls).st≤j.st+ls.length:=by
 intro ls
 induction ls with
 | nil=>intro j;simp[linesTo]
 | cons p ls ih =>
  intro j
  have h:=ih (lineTo j p)
  have e:linesTo j (p :: ls)=linesTo (lineTo j p) ls:=rfl
  have k:j.log+1≤(lineTo j p).log∧(lineTo j p).st≤j.st+1:=by
   unfold lineTo
   split
   ·simp only;omega
   ·split
    ·simp only;omega
    ·simp only;omega
  rw[e]
  simp only[List.length_cons]
  omega
theorem pathF_len(cs:List Nat)(A w:Nat):∀ i,(pathF cs A w i).length≤i:=by
 intro i
 induction i with
 | zero=>simp[pathF]
 | succ i ih =>
  simp only[pathF,List.length_append]
  cases decF cs A w i with
  | none=>simp only[List.length_nil];omega
  | some d =>
   simp only
   cases lpush cs (litsV w) d with
   | none=>simp only[List.length_nil];omega
   | some kn=>simp only[List.length_singleton];omega
theorem tracks_len{cs:List Nat}{A:Nat}:∀ (T:List (Nat × Nat)),(∀ t∈T,Trk cs A t.1 t.2)→(tracks cs A T).length≤11*T.length:=by
 intro T
 induction T with
 | nil=>intro _;simp[tracks]
 | cons t T ih =>
  intro h
  have a:=ih fun x hx=>h x (List.mem_cons_of_mem _ hx)
  obtain⟨d,kn,h1,h2⟩:=(h t (List.mem_cons_self ..)).is
  have b:=kn_size (h t (List.mem_cons_self ..)).ok h1 h2
  have c:=cvN_le t.1
  have e:=pathF_len cs A t.1 (t.2+1)
  simp only[tracks,List.flatMap_cons,List.length_append,List.length_cons] at a ⊢
  omega
structure CxB(X:Cx)(T:List (Nat × Nat)):Prop where
 h:X.h≤1048576
 l:X.l≤1048576
 T:T.length≤10000
theorem ws_lt{X:Cx}(hX:CxOk X){w:Nat}(hw:w=0∨w∈X.ws):w<2^11:=by
 rcases hw with e | e
 ·rw[e];decide
 ·refine lt_pow_bits fun i hi=>?_
  cases hb:w.testBit i with
  | false=>rfl
  | true=>have:=bit_lt hX.sn (hX.cmp.sub w e i hb);omega
theorem Hd.bounds{X:Cx}(hX:CxOk X){T:List (Nat × Nat)}(hB:CxB X T){w i dec:Nat}{s:Sr}(hW:Wks X T w)(h:Hd X T w i dec s)(hv:s.vals<2^20):SrB s∧s.sp≤1048576:=by
 have hok:=h.si.csok hX hW.me
 have h10:=dec_ten hok h.dec
 obtain⟨log,t1,t2,_⟩:=h.si.to
 obtain⟨g1,g2⟩:=linesTo_log s.ls X.j0
 rw[t1] at g1 g2
 simp only at g1 g2
 have e0:X.j0.st=0:=rfl
 rw[e0] at g2
 have r1:=h.si.rh
 have r2:=h.si.rl
 have r3:=h.si.held
 have b1:=hB.h
 have b2:=hB.l
 have b3:=hB.T
 have l1:=len_lits s.lr fun c hc=>⟨(h.si.lr c hc).top,(h.si.lr c hc).ne⟩
 have p1:=pathF_len (X.E.hv++s.lr) X.E.as w i
 have p2:=tracks_len T h.trk
 refine⟨⟨by omega,by omega,by omega,by rw[h.path];omega,by rw[h.done];omega,by omega,by omega,by omega,by omega,fun c hc=>(h.si.lr c hc).top,hv,fun p hp=>?_⟩,by omega⟩
 have key:∀ (w' n:Nat),(w'=0∨w'∈X.ws)→p∈pathF (X.E.hv++s.lr) X.E.as w' n→p.dec<2^20∧p.kn<2^20∧p.vs<2^11:=fun w' n hw' hp=>by
  have ok':=h.si.csok hX hw'
  obtain⟨j,d,kn,_,q1,q2,rfl⟩:=mem_path hp
  obtain⟨a1,_,_⟩:=decF_ok ok' q1
  exact⟨a1,(kn_ok ok' a1 q2).1.top,ws_lt hX hw'⟩
 rcases List.mem_append.1 hp with hp | hp
 ·rw[h.path] at hp
  exact key w i hW.me hp
 ·rw[h.done] at hp
  simp only[tracks,List.mem_flatMap] at hp
  obtain⟨t,ht,hp⟩:=hp
  exact key t.1 _ (hW.all t ht) hp
def stT(t:Nat):Prop:=t=112∨t=93
theorem st_sr(t:Nat)(h:stT t):srT t:=h.elim (fun e=>by rw[e];exact srT_step) (fun e=>by rw[e];exact srT_me)
theorem set_st:¬ stT 84:=fun h=>h.elim (by decide) (by decide)
theorem own_grown{w w6:World}{o:Obj}{v u:Value}(hg:(w.alloc o).grownBy w6 v.ownBlock){b e k n:Nat}{zs:List Value}(ho:w.ownsRow b e k u n zs)(ha:Apart u v):w6.ownsRow b e k u n zs:=by
 refine⟨ho.1,?_⟩
 rcases ho.2 with hn | ⟨g,cap,cur,hv,q1,hgg,r⟩
 ·exact .inl hn
 ·refine .inr ⟨g,cap,cur,hv,q1,?_,r⟩
  have hl:=(Array.getElem?_eq_some_iff.1 hgg).1
  exact((hg.block g (by simp;omega) fun q=>ha g (by rw[hv];rfl) q.symm).trans (heap_alloc_old w o hl)).trans hgg
theorem SrI.addPath{w w6:World}{B g N:Nat}{E:Sg}{s:Sr}{A:SrA}(h:SrI w B g N E s A anZero){o:Obj}(hg:(w.alloc o).grownBy w6 A.vp.ownBlock){v':Value}{p:Stp}(hown:w6.ownsRow B 112 5 v' (s.path.length+1) (stCells s.path++p.cells))(hmv:∀ b,v'.ownBlock=some b→A.vp.ownBlock=some b∨w.heap.size≤b) :
  SrI (w6.setCell ⟨g,10,none⟩ v') B g N E { s with path:=s.path++[p] } { A with vp:=v' } anZero∧Fr stT B w (w6.setCell ⟨g,10,none⟩ v'):=by
 have hB:=h.size
 have hf:Fr (fun t=>t=112) B w w6:=(Fr.of _ B (alloc_below w o)).grown (own_below h.m.path (alloc_below w o)) rfl hg
 have r6:=hf.row h.m.row (by decide)
 have st:∀ {b e k n:Nat} {v:Value} {zs:List Value},w6.ownsRow b e k v n zs→e≠93→(w6.setCell ⟨g,10,none⟩ v').ownsRow b e k v n zs:=fun ho he=>own_setN r6 10 v' he ho
 have hfs:Fr stT B w (w6.setCell ⟨g,10,none⟩ v'):=(hf.mono fun t e=>.inl e).set r6 (.inr rfl) h.m.base 10 v'
 obtain⟨us,l1,l2,l3⟩:=h.m.lines
 refine⟨⟨⟨r6.set 10 v',h.m.base,h.m.asm.fr hfs hB h.m.asb,h.m.asb,st (hf.own h.m.lr (by decide)) (by decide),?_,st (own_grown hg h.m.done h.m.apart.symm) (by decide),?_,us,l1,st (hf.own l2 (by decide)) (by decide),l3.map fun _ _ _ _ ho=>st (hf.own ho (by decide)) (by decide)⟩,(h.t.fr hf fun t e=>by rw[e];exact not_tree (by decide) (by decide)).set r6 10 v' me_tree⟩,hfs⟩
 ·show(w6.setCell ⟨g,10,none⟩ v').ownsRow B 112 5 v' (s.path++[p]).length (stCells (s.path++[p]))
  rw[stCells_snoc,List.length_append,List.length_singleton]
  exact st hown (by decide)
 ·intro b hb hd
  rcases hmv b hb with q | q
  ·exact h.m.apart b q hd
  ·have:=(h.m.done.lt b hd).2;omega
theorem SrI.addDone{w w6:World}{B g N:Nat}{E:Sg}{s:Sr}{A:SrA}(h:SrI w B g N E s A anZero)(hg:w.grownBy w6 A.vd.ownBlock){v':Value}(hown:w6.ownsRow B 112 5 v' (s.done.length+s.path.length) (stCells s.done++stCells s.path))(hmv:∀ b,v'.ownBlock=some b→A.vd.ownBlock=some b∨w.heap.size≤b) :
  SrI (w6.setCell ⟨g,11,none⟩ v') B g N E { s with done:=s.done++s.path } { A with vd:=v' } anZero∧Fr stT B w (w6.setCell ⟨g,11,none⟩ v'):=by
 have hB:=h.size
 have hf:Fr (fun t=>t=112) B w w6:=(Fr.refl _ B w).grown h.m.done rfl hg
 have r6:=hf.row h.m.row (by decide)
 have st:∀ {b e k n:Nat} {v:Value} {zs:List Value},w6.ownsRow b e k v n zs→e≠93→(w6.setCell ⟨g,11,none⟩ v').ownsRow b e k v n zs:=fun ho he=>own_setN r6 11 v' he ho
 have hfs:Fr stT B w (w6.setCell ⟨g,11,none⟩ v'):=(hf.mono fun t e=>.inl e).set r6 (.inr rfl) h.m.base 11 v'
 obtain⟨us,l1,l2,l3⟩:=h.m.lines
 refine⟨⟨⟨r6.set 11 v',h.m.base,h.m.asm.fr hfs hB h.m.asb,h.m.asb,st (hf.own h.m.lr (by decide)) (by decide),st (own_apart_kept h.m.path hg h.m.apart) (by decide),?_,?_,us,l1,st (hf.own l2 (by decide)) (by decide),l3.map fun _ _ _ _ ho=>st (hf.own ho (by decide)) (by decide)⟩,(h.t.fr hf fun t e=>by rw[e];exact not_tree (by decide) (by decide)).set r6 11 v' me_tree⟩,hfs⟩
 ·show(w6.setCell ⟨g,11,none⟩ v').ownsRow B 112 5 v' (s.done++s.path).length (stCells (s.done++s.path))
  rw[stCells_app,List.length_append]
  exact st hown (by decide)
 ·intro b hb hd
  rcases hmv b hd with q | q
  ·exact h.m.apart b hb q
  ·have:=(h.m.path.lt b hb).2;omega
theorem SrI.noPath{w:World}{B g N:Nat}{E:Sg}{s:Sr}{A:SrA}(h:SrI w B g N E s A anZero):SrI (w.setCell ⟨g,10,none⟩ (.slice none 0 0)) B g N E { s with path:=[] } { A with vp:=.slice none 0 0 } anZero∧Fr stT B w (w.setCell ⟨g,10,none⟩ (.slice none 0 0)):=by
 have hB:=h.size
 have st:∀ {b e k n:Nat} {v:Value} {zs:List Value},w.ownsRow b e k v n zs→e≠93→(w.setCell ⟨g,10,none⟩ (.slice none 0 0)).ownsRow b e k v n zs:=fun ho he=>own_setN h.m.row 10 _ he ho
 have hfs:Fr stT B w (w.setCell ⟨g,10,none⟩ (.slice none 0 0)):=(Fr.refl stT B w).set h.m.row (.inr rfl) h.m.base 10 _
 obtain⟨us,l1,l2,l3⟩:=h.m.lines
 exact⟨⟨⟨h.m.row.set 10 _,h.m.base,h.m.asm.fr hfs hB h.m.asb,h.m.asb,st h.m.lr (by decide),own_nil _ _ _ _,st h.m.done (by decide),apart_none _,us,l1,st l2 (by decide),l3.map fun _ _ _ _ ho=>st ho (by decide)⟩,h.t.set h.m.row 10 _ me_tree⟩,hfs⟩
theorem Tryd.infoStep:(Tryd.prog.info? 112).map (fun i=>(i.zero,i.size,i.bytes))=some (some (.agg #[.int .i64 0,.int .i64 0,.int .i64 0,.int .i64 0,.int .i64 0]),5,40):=by kernel_rfl
theorem Tryd.undSteps:Tryd.prog.underlying 91=some (.slice 112):=by kernel_rfl
end Go.Proofs.YthboeppmlhbofabDoor
