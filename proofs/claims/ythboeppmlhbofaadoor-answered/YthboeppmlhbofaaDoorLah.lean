import Derived.Test.YthboeppmlhbofaaDoorLad
import Derived.Deep.CutRange
import Derived.Test.YthboeppmlhbofaaDoorLak
import Derived.Test.YthboeppmlhbofaaDoorLap
namespace Go.Proofs.YthboeppmlhbofaaDoor
open Go.RowKit Txt
set_option maxRecDepth 100000
theorem UM{w':World}{tmps:Array Value}{g:Nat}{p q:Value}(hr:Ab w' g 86 [p,q])(h2:tmps.getD 4 undef=.pointer (some ⟨g,0,none⟩)) :
  (results Tryd.f79 tmps).run Tryd.prog w'=.ok (.agg #[p,q]) w':=by
 obtain⟨fs,hu⟩:=Ek
 exact results_cell_row rfl tmps w' g 86 #[p,q] (0,0) (.struct fs) h2 hr hu rfl Ej
theorem Pc(w:World)(x y:Value)(t:Nat)(z:Obj):Ab ((w.alloc (.cells #[x,y] t)).alloc z) w.heap.size t [x,y]:=(heap_alloc_old (w.alloc _) _ (by simp)).trans (heap_alloc_new w _)
theorem MJ(w:World)(x y:Obj):Below w.heap.size w ((w.alloc x).alloc y):=((Below.refl _ _).alloc (Nat.le_refl _) _).alloc (by simp) _
theorem Nw(cs:List Nat)(xs:List Int){d:Nat}(h:d<2^20):Al cs xs d<2^20:=C8 (Fy cs xs d) h
set_option maxHeartbeats 8000000 in
theorem Jp(w:World)(B g N:Nat)(E:Sg)(s:Sr)(A:Gf)(an:List Value)(d:Nat)(h:DK w B g N E s A an)(hx:E.xs.all AK=true)(hxl:E.xs.length≤1000)(hd:d<2^20) :
  Calls Tryd.prog 79 #[.pointer (some ⟨g,0,none⟩),Bo d] w fun e w'=>e=.returned (Bo (Al (E.hv++s.lr) E.xs d))∧Below w.heap.size w w':=by
 have hB:=h.size
 have hg:g<w.heap.size:=h.m.row.lt
 have F:Hid (∀ w',Below w.heap.size w w'→w'.cell? ⟨g,0,none⟩=some (.pointer (some ⟨A.cb,0,none⟩))∧w'.cell? ⟨g,1,none⟩=some (.slice A.aa E.xs.length A.ca)∧Ad w' A.aa E.xs∧Tr w' B A.cb (E.hv++s.lr) (N+10*s.sp)):=fun w' hb=>by
  have hr:=AB h.m.row hb
  exact⟨(hr.cell 0).trans rfl,(hr.cell 1).trans rfl,h.m.asm.below hb,h.t.below hb⟩
 have HF:Hid (Al (E.hv++s.lr) (E.xs.drop 0) d=Al (E.hv++s.lr) E.xs d):=rfl
 generalize Al (E.hv++s.lr) E.xs d=RES at *
 have B0:=AA (MJ w (.cells #[.int .i64 (tN d:Nat),.int .i64 (fN d:Nat)] 86) (.cells #[.int .i64 0,.int .i64 0] 86))
 have R0:=AA (Pc w (.int .i64 (tN d:Nat)) (.int .i64 (fN d:Nat)) 86 (.cells #[.int .i64 0,.int .i64 0] 86))
 have R1:Hid (Ab ((w.alloc (.cells #[.int .i64 (tN d:Nat),.int .i64 (fN d:Nat)] 86)).alloc (.cells #[.int .i64 0,.int .i64 0] 86)) (w.heap.size+1) 86 [.int .i64 0,.int .i64 0]):=heap_alloc2_new w _ _
 unfold Bo
 clear h
 go_enter Tryd.func79,Tryd.ntmps79
 obtain⟨f0,f1,f2,f3⟩:=F.out _ B0.out
 clear f2 f3
 go_wp2_with fail
 clear f0 f1
 generalize (w.alloc (.cells #[.int .i64 (tN d:Nat),.int .i64 (fN d:Nat)] 86)).alloc (.cells #[.int .i64 0,.int .i64 0] 86)=w0 at *
 go_loopw [15] (fun i wr=>∃ (k y:Nat),k≤E.xs.length∧y<2^20∧i=.int .i64 k∧Hid (Al (E.hv++s.lr) (E.xs.drop k) y=RES)∧Hid (Ab wr w.heap.size 86 [.int .i64 (tN y:Nat),.int .i64 (fN y:Nat)])∧Hid (Ab wr (w.heap.size+1) 86 [.int .i64 0,.int .i64 0])∧Hid (Below w.heap.size w wr)) (fun i _=>E.xs.length - (intOf i).toNat)
 case atStart=>exact⟨0,d,Nat.zero_le _,hd,rfl,HF,R0,R1,B0⟩
 case round =>
  clear HF R0 R1 B0
  obtain⟨k,y,hk,hy,rfl,HK,RD,RR,BW⟩:=hrel
  by_cases hlt:k<E.xs.length
  ·obtain⟨b,off,hab,hc⟩:=(F.out wr BW.out).2.2.1.get (by omega)
   have h1:=hc k hlt
   have hmem:AK (E.xs.getD k 0)=true:=by
    have:E.xs.getD k 0∈E.xs:=by rw[List.getD_eq_getElem?_getD,List.getElem?_eq_getElem hlt];exact List.getElem_mem hlt
    exact List.all_eq_true.1 hx _ this
   have k2:=HK.out
   rw[CK E.xs 0 k hlt] at k2
   simp only[Al] at k2
   generalize E.xs.getD k 0=n at *
   have K2:=AA k2
   have i1:(0:Int)≤(k:Int):=by omega
   have i2:(k:Int)<(E.xs.length:Int):=by omega
   have HWO:Hid (∀ w,Calls Tryd.prog 89 #[.agg #[.int .i64 (tN y:Nat),.int .i64 (fN y:Nat)],.int .i64 n] w fun e w'=>e=.returned (.agg #[.int .i64 (tN (wo y n):Nat),.int .i64 (fN (wo y n):Nat)])∧Below w.heap.size w w'):=fun w=>Iq y hy n hmem w
   have hwl:=Jr n hy
   have HPU:Hid (∀ w',Below w.heap.size w w'→Calls Tryd.prog 70 #[.pointer (some ⟨A.cb,0,none⟩),.agg #[.int .i64 (tN (wo y n):Nat),.int .i64 (fN (wo y n):Nat)]] w' fun e w''=>e=.returned (Kp (BQ (E.hv++s.lr) (wo y n)))∧Below w'.heap.size w' w''):=fun w' hb=>J5 (F.out w' hb).2.2.2 (wo y n) hwl
   have y0:wr.cell? ⟨w.heap.size,0,none⟩=some (.int .i64 (tN y:Nat)):=(RD.out.cell 0).trans rfl
   have y1:wr.cell? ⟨w.heap.size,1,none⟩=some (.int .i64 (fN y:Nat)):=(RD.out.cell 1).trans rfl
   have hc20:Hid (AU (E.hv++s.lr) (wo y n)=(BQ (E.hv++s.lr) (wo y n)).isNone):=by
    show _=_
    cases hp:BQ (E.hv++s.lr) (wo y n) with
    | none=>rw[Bw.1 hp];rfl
    | some K =>
     cases hq:AU (E.hv++s.lr) (wo y n) with
     | false=>rfl
     | true=>rw[Bw.2 hq] at hp;simp at hp
   have WL:=AA hwl
   clear hc k2 HK hwl
   rw[hab]
   generalize BQ (E.hv++s.lr) (wo y n)=PR at *
   generalize AU (E.hv++s.lr) (wo y n)=CD at *
   generalize hwo:wo y n=z at *
   go_wp2_with fail
   refine(AE HWO _).mono ?_
   rintro e w2 ⟨rfl,hb2⟩
   have B2:Hid (Below w.heap.size w w2):=BW.out.trans (hb2.mono BW.out.size)
   have D2:=AA (AB RD.out hb2)
   have E2:=AA (AB RR.out hb2)
   clear hb2 HWO y0 y1 h1
   have hz2:w.heap.size+1<w2.heap.size:=E2.out.lt
   go_wp2_with fail
   have hbL:Below w2.heap.size w2 (w2.alloc (.cells #[.int .i64 (tN z:Nat),.int .i64 (fN z:Nat)] 86)):=(Below.refl _ _).alloc (Nat.le_refl _) _
   have L3:Hid (Ab (w2.alloc (.cells #[.int .i64 (tN z:Nat),.int .i64 (fN z:Nat)] 86)) w2.heap.size 86 [.int .i64 (tN z:Nat),.int .i64 (fN z:Nat)]):=heap_alloc_new w2 _
   have B3:Hid (Below w.heap.size w (w2.alloc (.cells #[.int .i64 (tN z:Nat),.int .i64 (fN z:Nat)] 86))):=B2.out.trans (hbL.mono B2.out.size)
   have D3:=AA (AB D2.out hbL)
   have E3:=AA (AB E2.out hbL)
   generalize hgL:w2.heap.size=gL at *
   generalize w2.alloc (.cells #[.int .i64 (tN z:Nat),.int .i64 (fN z:Nat)] 86)=w3 at *
   have hgn:gL≠w.heap.size:=by omega
   have hgn1:gL≠w.heap.size+1:=by omega
   clear hgL hbL B2 D2 E2 hz2
   obtain⟨f0,_,_,_⟩:=F.out w3 B3.out
   have l0:w3.cell? ⟨gL,0,none⟩=some (.int .i64 (tN z:Nat)):=(L3.out.cell 0).trans rfl
   have l1:w3.cell? ⟨gL,1,none⟩=some (.int .i64 (fN z:Nat)):=(L3.out.cell 1).trans rfl
   have hg3:g<w3.heap.size:=Nat.lt_of_lt_of_le hg B3.out.size
   have hgL3:gL<w3.heap.size:=L3.out.lt
   have f0a:∀ o,(w3.alloc o).cell? ⟨g,0,none⟩=some (.pointer (some ⟨A.cb,0,none⟩)):=fun o=>(((Below.refl w3.heap.size w3).alloc (Nat.le_refl _) o).cell (p:=⟨g,0,none⟩) hg3).trans f0
   have l0a:∀ o,(w3.alloc o).cell? ⟨gL,0,none⟩=some (.int .i64 (tN z:Nat)):=fun o=>(((Below.refl w3.heap.size w3).alloc (Nat.le_refl _) o).cell (p:=⟨gL,0,none⟩) hgL3).trans l0
   have l1a:∀ o,(w3.alloc o).cell? ⟨gL,1,none⟩=some (.int .i64 (fN z:Nat)):=fun o=>(((Below.refl w3.heap.size w3).alloc (Nat.le_refl _) o).cell (p:=⟨gL,1,none⟩) hgL3).trans l1
   have HP2:Hid (∀ w',Below w3.heap.size w3 w'→Calls Tryd.prog 70 #[.pointer (some ⟨A.cb,0,none⟩),.agg #[.int .i64 (tN z:Nat),.int .i64 (fN z:Nat)]] w' fun e w''=>e=.returned (Kp PR)∧Below w'.heap.size w' w''):=fun w' hb=>HPU.out w' (B3.out.trans (hb.mono B3.out.size))
   clear HPU
   have HX:Hid (∃ kt kf:Nat,Kp PR=.tuple #[.agg #[.int .i64 (kt:Nat),.int .i64 (kf:Nat)],.bool PR.isNone]):=by
    cases PR with
    | none=>exact⟨0,0,by simp only[Kp,Ls];rfl⟩
    | some K=>exact⟨tN K,fN K,rfl⟩
   obtain⟨kt,kf,hkk⟩:=HX.out
   rw[hkk] at HP2
   clear hkk HX
   have BA:Hid (Below w3.heap.size w3 (w3.alloc (.cells #[.int .i64 0,.int .i64 0] 86)).drew):=below_drewN ((Below.refl _ _).alloc (Nat.le_refl _) _) 1
   have RA:Hid (Ab (w3.alloc (.cells #[.int .i64 0,.int .i64 0] 86)).drew w3.heap.size 86 [.int .i64 0,.int .i64 0]):=heap_alloc_new w3 _
   have BD:Hid (Below w3.heap.size w3 w3.drew):=below_drewN (Below.refl _ _) 1
   go_cut [9] from 16 to 33 (fun s9 wc=>s9=.bool PR.isNone∧Hid (Below w3.heap.size w3 wc))
   case first =>
    go_region_with (first
     | (go_at_call 70;refine(AE HP2 (w3.alloc (.cells #[.int .i64 0,.int .i64 0] 86)).drew BA.out).mono ?_;rintro e w4 ⟨rfl,hb4⟩;have B4:Hid (Below w3.heap.size w3 w4):=BA.out.trans (hb4.mono BA.out.size);have X4:=AA (AB RA.out hb4);have x0:w4.cell? ⟨w3.heap.size,0,none⟩=some (.int .i64 0):=(X4.out.cell 0).trans rfl;have x1:w4.cell? ⟨w3.heap.size,1,none⟩=some (.int .i64 0):=(X4.out.cell 1).trans rfl;have xz0:=X4.out.frozen 0;have xz1:=X4.out.frozen 1;clear hb4)
     | (go_at_call 70;refine(AE HP2 w3.drew BD.out).mono ?_;rintro e w4 ⟨rfl,hb4⟩;have B4:Hid (Below w3.heap.size w3 w4):=BD.out.trans (hb4.mono BD.out.size);clear hb4))
    all_goals
     go_wp2
     go_meet
     case rel =>
      first
       | exact⟨rfl,(B4.out.setCell (p:=⟨w3.heap.size,0,none⟩) (Nat.le_refl _) _).setCell (p:=⟨w3.heap.size,1,none⟩) (Nat.le_refl _) _⟩
       | exact⟨rfl,B4.out.alloc B4.out.size _⟩
   case rest =>
    obtain⟨rfl,B4⟩:=hcut
    clear HP2 BA RA BD f0 f0a l0a l1a
    have B5:Hid (Below w.heap.size w wc):=B3.out.trans (B4.out.mono B3.out.size)
    have D5:=AA (AB D3.out B4.out)
    have E5:=AA (AB E3.out B4.out)
    have L5:=AA (AB L3.out B4.out)
    have m0:wc.cell? ⟨gL,0,none⟩=some (.int .i64 (tN z:Nat)):=(L5.out.cell 0).trans rfl
    have m1:wc.cell? ⟨gL,1,none⟩=some (.int .i64 (fN z:Nat)):=(L5.out.cell 1).trans rfl
    have n0:wc.cell? ⟨w.heap.size,0,none⟩=some (.int .i64 (tN y:Nat)):=(D5.out.cell 0).trans rfl
    have n1:wc.cell? ⟨w.heap.size,1,none⟩=some (.int .i64 (fN y:Nat)):=(D5.out.cell 1).trans rfl
    have nz0:=D5.out.frozen 0
    have nz1:=D5.out.frozen 1
    clear L3 D3 E3 B3 B4 l0 l1
    cases hpr:PR.isNone with
    | true =>
     have K3:Hid (Al (E.hv++s.lr) (E.xs.drop (k+1)) z=RES):=by
      have:=K2.out
      rw[hc20.out,hpr,if_pos rfl] at this
      exact this
     have D6:=AA ((D5.out.set 0 (.int .i64 (tN z:Nat))).set 1 (.int .i64 (fN z:Nat)))
     have E6:Hid (Ab ((wc.setCell ⟨w.heap.size,0,none⟩ (.int .i64 (tN z:Nat))).setCell ⟨w.heap.size,1,none⟩ (.int .i64 (fN z:Nat))) (w.heap.size+1) 86 [.int .i64 0,.int .i64 0]):=((Below.heap_setCell _ ⟨w.heap.size,1,none⟩ _ _ (Nat.ne_of_gt (Nat.lt_succ_self _))).trans (Below.heap_setCell _ ⟨w.heap.size,0,none⟩ _ _ (Nat.ne_of_gt (Nat.lt_succ_self _)))).trans E5.out
     have B6:=AA ((B5.out.setCell (p:=⟨w.heap.size,0,none⟩) (Nat.le_refl _) (.int .i64 (tN z:Nat))).setCell (p:=⟨w.heap.size,1,none⟩) (Nat.le_refl _) (.int .i64 (fN z:Nat)))
     clear hpr hc20 K2
     go_wp2
     go_roundw
     case rel=>exact⟨k+1,z,by omega,WL.out,by go_num,K3,D6,E6,B6⟩
     case measure=>simp[intOf];omega
    | false =>
     have K3:Hid (Al (E.hv++s.lr) (E.xs.drop (k+1)) y=RES):=by
      have:=K2.out
      rw[hc20.out,hpr] at this
      exact this
     clear hpr hc20 K2
     go_wp2
     go_roundw
     case rel=>exact⟨k+1,y,by omega,hy,by go_num,K3,D5,E5,B5⟩
     case measure=>simp[intOf];omega
  ·obtain rfl:k=E.xs.length:=by omega
   have HRS:Hid (y=RES):=by
    show _=_
    have:=HK.out
    rw[List.drop_eq_nil_of_le (Nat.le_refl _)] at this
    exact this
   have y0:wr.cell? ⟨w.heap.size,0,none⟩=some (.int .i64 (tN y:Nat)):=(RD.out.cell 0).trans rfl
   have y1:wr.cell? ⟨w.heap.size,1,none⟩=some (.int .i64 (fN y:Nat)):=(RD.out.cell 1).trans rfl
   have z0:wr.cell? ⟨w.heap.size+1,0,none⟩=some (.int .i64 0):=(RR.out.cell 0).trans rfl
   have z1:wr.cell? ⟨w.heap.size+1,1,none⟩=some (.int .i64 0):=(RR.out.cell 1).trans rfl
   have g0:=RR.out.frozen 0
   have g1:=RR.out.frozen 1
   go_wp2
   have R9:=(RR.out.set 0 (.int .i64 (tN y:Nat))).set 1 (.int .i64 (fN y:Nat))
   refine bodyPost_ret (v:=.agg #[.int .i64 (tN y:Nat),.int .i64 (fN y:Nat)]) (UM R9 rfl) rfl ⟨by rw[HRS.out],?_⟩
   exact(BW.out.setCell (p:=⟨w.heap.size+1,0,none⟩) (Nat.le_succ _) _).setCell (p:=⟨w.heap.size+1,1,none⟩) (Nat.le_succ _) _
set_option maxHeartbeats 8000000 in
theorem Nc(c:Nat)(hc:c<2^20)(a:Option Addr)(cp:Nat)(xs:List Int)(w:World)(hr:Ad w a xs)(hx:xs.all AK=true)(hxl:xs.length≤1000) :
  Calls Tryd.prog 82 #[Bo c,.slice a xs.length cp] w fun e w'=>(∃ a' c',e=.returned (.slice a' (Au c xs).length c')∧w'.ownsRow w.heap.size 3 1 (.slice a' (Au c xs).length c') (Au c xs).length (AW (Au c xs)))∧Below w.heap.size w w':=by
 obtain⟨i0,hi0,hz0,hz1,hz2⟩:=info_parts Tryd.infoInt
 have HF:Hid ([]++Au c (xs.drop 0)=Au c xs):=rfl
 generalize Au c xs=RES at *
 have HR:=AA hr
 have HX:=AA hx
 have B0:=AA (show Below w.heap.size w (w.alloc (.cells #[.int .i64 (tN c:Nat),.int .i64 (fN c:Nat)] 86)) from(Below.refl _ _).alloc (Nat.le_refl _) _)
 have R0:Hid (Ab (w.alloc (.cells #[.int .i64 (tN c:Nat),.int .i64 (fN c:Nat)] 86)) w.heap.size 86 [.int .i64 (tN c:Nat),.int .i64 (fN c:Nat)]):=heap_alloc_new w _
 unfold Bo
 clear hr hx
 go_enter Tryd.func82,Tryd.ntmps82
 go_wp2_with fail
 generalize w.alloc (.cells #[.int .i64 (tN c:Nat),.int .i64 (fN c:Nat)] 86)=w0 at *
 go_loopw [5,10] (fun x5 x10 wr=>∃ (k y:Nat) (ls:List Int) (a1:Option Addr) (c1:Nat),k≤xs.length∧y<2^20∧ls.length≤k∧x5=.slice a1 ls.length c1∧x10=.int .i64 k∧Hid (ls++Au y (xs.drop k)=RES)∧Hid (wr.ownsRow w.heap.size 3 1 (.slice a1 ls.length c1) ls.length (AW ls))∧Hid (Ab wr w.heap.size 86 [.int .i64 (tN y:Nat),.int .i64 (fN y:Nat)])∧Hid (Below w.heap.size w wr)) (fun _ x10 _=>xs.length - (intOf x10).toNat)
 case atStart=>exact⟨0,c,[],none,0,Nat.zero_le _,hc,Nat.le_refl _,rfl,rfl,HF,⟨rfl,.inl ⟨rfl,rfl⟩⟩,R0,B0⟩
 case round =>
  clear HF R0 B0
  obtain⟨k,y,ls,a1,c1,hk,hy,hls,rfl,rfl,F,O,R,B⟩:=hrel
  by_cases hlt:k<xs.length
  ·obtain⟨b,off,rfl,hcc⟩:=(HR.out.below B.out).get (by omega)
   have h1:=hcc k hlt
   have hmem:AK (xs.getD k 0)=true:=by
    have:xs.getD k 0∈xs:=by rw[List.getD_eq_getElem?_getD,List.getElem?_eq_getElem hlt];exact List.getElem_mem hlt
    exact List.all_eq_true.1 HX.out _ this
   have f2:=F.out
   rw[CK xs 0 k hlt] at f2
   simp only[Au] at f2
   generalize xs.getD k 0=n at *
   have F2:=AA f2
   have HM:=AA hmem
   have hbits:-10≤n∧n≤10:=by simp only[AK,Bool.and_eq_true,bne_iff_ne,decide_eq_true_eq] at hmem;omega
   have HH:Hid (∀ w,Calls Tryd.prog 76 #[.agg #[.int .i64 (tN y:Nat),.int .i64 (fN y:Nat)],.int .i64 n] w fun e w'=>e=.returned (.bool (y.testBit (CS n)))∧Below w.heap.size w w'):=fun w=>by
    have:=J0 (tN y) (fN y) n (Ed y) (Ec y) hbits.1 hbits.2 w
    rwa [Qd hy hmem] at this
   have HWO:Hid (∀ w,Calls Tryd.prog 89 #[.agg #[.int .i64 (tN y:Nat),.int .i64 (fN y:Nat)],.int .i64 n] w fun e w'=>e=.returned (.agg #[.int .i64 (tN (wo y n):Nat),.int .i64 (fN (wo y n):Nat)])∧Below w.heap.size w w'):=fun w=>Iq y hy n hmem w
   have WL:=AA (Jr n hy)
   have y0:wr.cell? ⟨w.heap.size,0,none⟩=some (.int .i64 (tN y:Nat)):=(R.out.cell 0).trans rfl
   have y1:wr.cell? ⟨w.heap.size,1,none⟩=some (.int .i64 (fN y:Nat)):=(R.out.cell 1).trans rfl
   clear hcc f2 F hmem hbits
   go_wp2_with fail
   refine(AE HH _).mono ?_
   rintro e w2 ⟨rfl,hb2⟩
   have B2:Hid (Below w.heap.size w w2):=B.out.trans (hb2.mono B.out.size)
   have R2:=AA (AB R.out hb2)
   have O2:=AA (AL O.out hb2)
   clear hb2 HH y0 y1 h1
   cases hb:y.testBit (CS n) with
   | true =>
    have F3:Hid ((ls++[n])++Au (wo y n) (xs.drop (k+1))=RES):=by
     show _=_
     have:=F2.out
     rw[hb,if_pos rfl] at this
     simpa using this
    have d1:Hid (ls.length+1≤maxLen):=by show _≤_;unfold maxLen;omega
    have d2:Hid ((ls.length+1)*8≤140737488355328):=by show _≤_;omega
    have d3:Hid (∀ o,w.heap.size≤(w2.alloc o).heap.size):=fun o=>by have:=B2.out.size;simp;omega
    clear hb F2
    go_wp2_with (at_builtin;refine Ap _ rfl _ _ 26 rfl w.heap.size 3 i0 (.int .i64 0) 8 Tryd.undInts hi0 hz0 hz1 hz2 rfl (.slice a1 ls.length c1) ls.length (AW ls) rfl (O2.out.alloc _) ⟨w2.heap.size,0,none⟩ 1 1 [.int .i64 n] rfl rfl (AX w2 [.int .i64 n] 3) (by intro u hu;simp at hu;subst hu;rfl) (by decide) d1.out d2.out (d3.out _) ?_;intro v3 w3 hown3 hg3 hwh3;obtain⟨a3,c3,rfl⟩:=Ax hown3;have B3:Hid (Below w.heap.size w w3):=(B2.out.alloc B2.out.size _).grown hg3 (B2.out.alloc B2.out.size _).size (fun k hk=>(O2.out.lt k hk).1);have R3:=AA (BU (AB R2.out (AF w2 _)) (AL O2.out (AF w2 _)) Ep hg3);have y0:w3.cell? ⟨w.heap.size,0,none⟩=some (.int .i64 (tN y:Nat)):=(R3.out.cell 0).trans rfl;have y1:w3.cell? ⟨w.heap.size,1,none⟩=some (.int .i64 (fN y:Nat)):=(R3.out.cell 1).trans rfl)
    have O3:Hid (w3.ownsRow w.heap.size 3 1 (.slice a3 (ls.length+1) c3) (ls.length+1) (AW (ls++[n]))):=by
     show _
     rw[Hf];exact hown3
    clear hown3 hg3 hwh3
    refine(AE HWO _).mono ?_
    rintro e w4 ⟨rfl,hb4⟩
    have B4:Hid (Below w.heap.size w w4):=B3.out.trans (hb4.mono B3.out.size)
    have R4:=AA (AB R3.out hb4)
    have O4:=AA (AL O3.out hb4)
    have z0:w4.cell? ⟨w.heap.size,0,none⟩=some (.int .i64 (tN y:Nat)):=(R4.out.cell 0).trans rfl
    have z1:w4.cell? ⟨w.heap.size,1,none⟩=some (.int .i64 (fN y:Nat)):=(R4.out.cell 1).trans rfl
    have g0:=R4.out.frozen 0
    have g1:=R4.out.frozen 1
    clear hb4 HWO y0 y1
    generalize wo y n=z at *
    have R5:=AA ((R4.out.set 0 (.int .i64 (tN z:Nat))).set 1 (.int .i64 (fN z:Nat)))
    have B5:=AA ((B4.out.setCell (p:=⟨w.heap.size,0,none⟩) (Nat.le_refl _) (.int .i64 (tN z:Nat))).setCell (p:=⟨w.heap.size,1,none⟩) (Nat.le_refl _) (.int .i64 (fN z:Nat)))
    have O5:=AA (Ai (R4.out.set 0 (.int .i64 (tN z:Nat))) 1 (.int .i64 (fN z:Nat)) Ep (Ai R4.out 0 (.int .i64 (tN z:Nat)) Ep O4.out))
    go_wp2
    go_roundw
    case rel=>exact⟨k+1,z,ls++[n],a3,c3,by omega,WL.out,by rw[List.length_append,List.length_singleton];omega,by rw[List.length_append,List.length_singleton],by go_num,F3,by rw[List.length_append,List.length_singleton];exact O5,R5,B5⟩
    case measure=>simp[intOf];omega
   | false =>
    have F3:Hid (ls++Au y (xs.drop (k+1))=RES):=by
     show _=_
     have:=F2.out
     rw[hb] at this
     simpa using this
    clear hb F2
    go_wp2
    go_roundw
    case rel=>exact⟨k+1,y,ls,a1,c1,by omega,hy,by omega,rfl,by go_num,F3,O2,R2,B2⟩
    case measure=>simp[intOf];omega
  ·obtain rfl:k=xs.length:=by omega
   have HRS:Hid (ls=RES):=by
    show _=_
    have:=F.out
    rw[List.drop_eq_nil_of_le (Nat.le_refl _)] at this
    simpa [Au] using this
   clear F
   go_wp2
   go_ret
   exact⟨⟨a1,c1,by rw[← HRS.out];rfl,by rw[← HRS.out];exact O.out⟩,B.out⟩
def VQ(w:World)(B g N:Nat)(E:Sg)(A:Gf)(r:Rs)(e:Ending)(w':World):Prop:=Fr GX B w w'∧BR A.vl w w'∧e=.returned (.tuple #[])∧match r with
 | .fin s x=>∃ A' an,A'.cb=A.cb∧A'.aa=A.aa∧A'.ca=A.ca∧DM A.vl A'.vl w∧DK w' B g N E s A' an∧Oi w' B an x
 | .go _=>False
theorem TL{w:World}{B:Nat}{xs:List Int}{a:Option Addr}{cp:Nat}(h:w.ownsRow B 3 1 (.slice a xs.length cp) xs.length (AW xs)):Oi w B [.int .i64 2,.int .i64 0,.slice none 0 0,.slice a xs.length cp,.slice none 0 0] ⟨2,0,[],xs,[]⟩ :=
 ⟨⟨none,a,none,0,cp,0⟩,rfl,CE _ _ _ _,h,CE _ _ _ _,Bk _,Bk _,(Bk _).symm⟩
set_option maxHeartbeats 16000000 in
theorem Us(w:World)(B g N:Nat)(E:Sg)(s:Sr)(A:Gf)(h:DK w B g N E s A AY)(hb:VV s)(hx:E.xs.all AK=true)(hxl:E.xs.length≤1000) :
  Calls Tryd.prog 71 #[.pointer (some ⟨g,0,none⟩)] w (VQ w B g N E A (LP E s)):=by
 have hB:=h.size
 have hA:E.as<2^20:=Dw E.xs
 have hD:=Nw (E.hv++s.lr) E.xs hA
 have HND:Hid (∀ w',DK w' B g N E s A AY→Calls Tryd.prog 79 #[.pointer (some ⟨g,0,none⟩),.agg #[.int .i64 (tN E.as:Nat),.int .i64 (fN E.as:Nat)]] w' fun e w''=>e=.returned (.agg #[.int .i64 (tN (Al (E.hv++s.lr) E.xs E.as):Nat),.int .i64 (fN (Al (E.hv++s.lr) E.xs E.as):Nat)])∧Below w'.heap.size w' w''):=fun w' hi=>Jp w' B g N E s A AY E.as hi hx hxl hA
 have HRES:Hid (LP E s=match JI 101 (AS (Al (E.hv++s.lr) E.xs E.as)) s with | .fin s x=>.fin s x | .go s=>.fin s ⟨2,0,[],Au (Al (E.hv++s.lr) E.xs E.as) E.xs,[]⟩):=rfl
 have hnd:Hid (∀ l1 ls1,JI 101 (AS (Al (E.hv++s.lr) E.xs E.as)) s=.go { s with l:=l1,ls:=ls1 }→LP E s=.fin { s with l:=l1,ls:=ls1 } ⟨2,0,[],Au (Al (E.hv++s.lr) E.xs E.as) E.xs,[]⟩):=fun l1 ls1 e=>by
  show(match JI 101 (AS (Al (E.hv++s.lr) E.xs E.as)) s with | .fin s x=>Rs.fin s x | .go s'=>.fin s' ⟨2,0,[],Au (Al (E.hv++s'.lr) E.xs E.as) E.xs,[]⟩)=_
  rw[e]
 generalize Al (E.hv++s.lr) E.xs E.as=D at *
 have HOP:Hid (∀ w,Calls Tryd.prog 81 #[.agg #[.int .i64 (tN D:Nat),.int .i64 (fN D:Nat)]] w fun e w'=>e=.returned (.agg #[.int .i64 (tN (AS D):Nat),.int .i64 (fN (AS D):Nat)])∧Below w.heap.size w w'):=fun w=>by
  rw[(Mq hD).1,(Mq hD).2]
  exact Nt (tN D) (fN D) w
 have HWR:Hid (∀ w',DK w' B g N E s A AY→Calls Tryd.prog 80 #[.pointer (some ⟨g,0,none⟩),.int .u8 101,.agg #[.int .i64 (tN (AS D):Nat),.int .i64 (fN (AS D):Nat)]] w' (Fi w' B g N E A (JI 101 (AS D) s))):=fun w' hi=>II w' B g N E s A 101 (AS D) hi hb (Cl D)
 have HIO:Hid (∀ w',Ad w' A.aa E.xs→Calls Tryd.prog 82 #[.agg #[.int .i64 (tN D:Nat),.int .i64 (fN D:Nat)],.slice A.aa E.xs.length A.ca] w' fun e w''=>(∃ a' c',e=.returned (.slice a' (Au D E.xs).length c')∧w''.ownsRow w'.heap.size 3 1 (.slice a' (Au D E.xs).length c') (Au D E.xs).length (AW (Au D E.xs)))∧Below w'.heap.size w' w''):=fun w' hi=>Nc D hD A.aa A.ca E.xs w' hi hx hxl
 have HWD:Hid ((∃ s1 x,JI 101 (AS D) s=.fin s1 x)∨∃ l1 ls1,JI 101 (AS D) s=.go { s with l:=l1,ls:=ls1 }):=by
  unfold JI
  split
  ·exact .inl ⟨_,_,rfl⟩
  ·exact .inr ⟨_,_,rfl⟩
 generalize LP E s=RES at *
 have hbox:A.vl.ownBlock≠none→True:=fun _=>trivial
 have I0:=AA h
 have OWN:Hid (∀ b,A.vl.ownBlock=some b→b<w.heap.size):=fun b q=>(h.m.lr.lt b q).2
 have c2:w.cell? ⟨g,2,none⟩=some (.int .i64 (tN E.as:Nat)):=(h.m.row.cell 2).trans rfl
 have c3:w.cell? ⟨g,3,none⟩=some (.int .i64 (fN E.as:Nat)):=(h.m.row.cell 3).trans rfl
 clear h hb hbox
 go_enter Tryd.func71,Tryd.ntmps71
 go_wp2_with fail
 refine(AE HND _ I0.out).mono ?_
 rintro e w1 ⟨rfl,hb1⟩
 have I1:=AA (I0.out.below hB hb1)
 have B1:=AA hb1
 clear hb1 HND c2 c3 I0
 have hbx:A.vl.ownBlock≠some w1.heap.size:=fun q=>by have:=OWN.out _ q;have:=B1.out.size;omega
 have HBX:=AA hbx
 clear hbx
 go_wp2_with fail
 have R2:Hid (Ab (w1.alloc (.cells #[.int .i64 (tN D:Nat),.int .i64 (fN D:Nat)] 86)) w1.heap.size 86 [.int .i64 (tN D:Nat),.int .i64 (fN D:Nat)]):=heap_alloc_new w1 _
 have I2:=AA (I1.out.below I1.out.size (AF w1 (.cells #[.int .i64 (tN D:Nat),.int .i64 (fN D:Nat)] 86)))
 have B2:Hid (Below w.heap.size w (w1.alloc (.cells #[.int .i64 (tN D:Nat),.int .i64 (fN D:Nat)] 86))):=B1.out.alloc B1.out.size _
 refine(AE HOP _).mono ?_
 generalize w1.alloc (.cells #[.int .i64 (tN D:Nat),.int .i64 (fN D:Nat)] 86)=w2 at *
 generalize hgb:w1.heap.size=gb at *
 clear hgb
 rintro e w3 ⟨rfl,hb3⟩
 have I3:=AA (I2.out.below I2.out.size hb3)
 have R3:=AA (AB R2.out hb3)
 have B3:Hid (Below w.heap.size w w3):=B2.out.trans (hb3.mono B2.out.size)
 clear hb3 I2 R2 B2 I1 HOP
 go_wp2_with fail
 refine(AE HWR _ I3.out).mono ?_
 intro e w4 hp
 have F3:=AA (Fr.of GX B B3.out)
 have K3:=AA (BR.fr A.vl (Fr.of (fun _=>False) B B3.out) id)
 rcases HWD.out with⟨s1,x,hw⟩ | ⟨l1,ls1,hw⟩
 ·rw[hw] at hp
  obtain⟨p1,p2,rfl,A1,an1,q1,q2,q3,q4,q5,q6⟩:=hp
  have HR2:Hid (RES=.fin s1 x):=by show _=_;rw[HRES.out,hw]
  have P:=AA (And.intro p1 (And.intro p2 (And.intro q4 (And.intro q5 q6))))
  have HQ:=AA (And.intro q1 (And.intro q2 q3))
  clear p1 p2 q1 q2 q3 q4 q5 q6 hw HRES HWD HWR hnd
  go_wp2
  go_end0
  rw[HR2.out]
  exact⟨F3.out.trans P.out.1,K3.out.trans (DM.refl _ _) B3.out.size P.out.2.1,rfl,A1,an1,HQ.out.1,HQ.out.2.1,HQ.out.2.2,fun b hb=>(P.out.2.2.1 b hb).imp id fun q=>Nat.le_trans B3.out.size q,P.out.2.2.2.1,P.out.2.2.2.2⟩
 ·rw[hw] at hp
  obtain⟨p1,p2,rfl,A1,q1,q2,q3,q4,q5⟩:=hp
  have HR2:Hid (RES=.fin { s with l:=l1,ls:=ls1 } ⟨2,0,[],Au D E.xs,[]⟩):=hnd.out l1 ls1 hw
  have I4:=AA q5
  have HQ:=AA (And.intro q1 (And.intro q2 q3))
  have F4:=AA (F3.out.trans p1)
  have K4:=AA (K3.out.trans (DM.refl _ _) B3.out.size p2)
  have M4:Hid (DM A.vl A1.vl w):=fun b hb=>(q4 b hb).imp id fun q=>Nat.le_trans B3.out.size q
  have R4:=AA (p2.row R3.out HBX.out)
  have haa:=q2
  have hca:=q3
  clear p1 p2 q1 q2 q3 q4 q5 hw HRES HWD HWR hnd I3 R3 F3 K3
  rw[← haa,← hca] at HIO
  have C:Hid (∀ w',Below w4.heap.size w4 w'→w'.cell? ⟨g,1,none⟩=some (.slice A1.aa E.xs.length A1.ca)∧w'.cell? ⟨gb,0,none⟩=some (.int .i64 (tN D:Nat))∧w'.cell? ⟨gb,1,none⟩=some (.int .i64 (fN D:Nat))):=fun w' hb'=>⟨((AB I4.out.m.row hb').cell 1).trans rfl,((AB R4.out hb').cell 0).trans rfl,((AB R4.out hb').cell 1).trans rfl⟩
  obtain⟨f1,f2,f3⟩:=C.out w4 (Below.refl _ _)
  have BD:Hid (Below w4.heap.size w4 w4.drew):=below_drewN (Below.refl _ _) 1
  have HI5:=AA (HIO.out w4.drew (I4.out.m.asm.below BD.out))
  clear HIO haa hca
  go_wp2_with fail
  go_region_with (go_at_call 82;refine(AE HI5).mono ?_;rintro e w5 ⟨⟨a5,c5,rfl,ho5⟩,hb5⟩;have B5:Hid (Below w4.heap.size w4 w5):=BD.out.trans (hb5.mono BD.out.size);have P5:=AA (I4.out.below I4.out.size B5.out);have O5:=AA (BO ho5 (Nat.le_trans I4.out.size BD.out.size));clear ho5 hb5;have z0:=P5.out.m.row.frozen 15;have z1:=P5.out.m.row.frozen 16;have z2:=P5.out.m.row.frozen 17;have z3:=P5.out.m.row.frozen 18;have z4:=P5.out.m.row.frozen 19;have y0:w5.cell? ⟨g,15,none⟩=some (.int .i64 0):=(P5.out.m.row.cell 15).trans rfl;have y1:w5.cell? ⟨g,16,none⟩=some (.int .i64 0):=(P5.out.m.row.cell 16).trans rfl;have y2:w5.cell? ⟨g,17,none⟩=some (.slice none 0 0):=(P5.out.m.row.cell 17).trans rfl;have y3:w5.cell? ⟨g,18,none⟩=some (.slice none 0 0):=(P5.out.m.row.cell 18).trans rfl;have y4:w5.cell? ⟨g,19,none⟩=some (.slice none 0 0):=(P5.out.m.row.cell 19).trans rfl)
  all_goals
   obtain⟨q1,q2⟩:=P5.out.ans5 (.int .i64 2) (.int .i64 0) (.slice none 0 0) (.slice a5 (Au D E.xs).length c5) (.slice none 0 0)
   have Q:=AA (And.intro q1 q2)
   clear q1 q2 z0 z1 z2 z3 z4 y0 y1 y2 y3 y4 f1 f2 f3
   go_wp2
   go_end0
   rw[HR2.out]
   have f45:Fr IQ B w4 _:=(Fr.of IQ B B5.out).trans Q.out.2
   exact⟨F4.out.trans (f45.mono JH),K4.out.trans M4.out F4.out.size (BR.fr _ f45 Fp),rfl,A1,_,HQ.out.1,HQ.out.2.1,HQ.out.2.2,M4.out,Q.out.1,TL (Q.out.2.own O5.out KZ)⟩
set_option maxHeartbeats 16000000 in
theorem Pb(w:World)(B g N:Nat)(E:Sg)(s:Sr)(A:Gf)(dec:Nat)(h:DK w B g N E s A AY)(hb:VV s)(hx:E.xs.all AK=true)(hxl:E.xs.length≤1000)(hd:dec<2^20)(hN:N+10*s.sp≤80000000)(hlong:¬ (E.r=0∨(s.lr.length:Int)<E.r)→CH E s dec s.lr 0∈s.lr)(hs1:∀ s1,S8 E s dec=.go s1→VV s1∧s1.sp=s.sp) :
  Calls Tryd.prog 72 #[.pointer (some ⟨g,0,none⟩),Bo dec] w (Fi w B g N E A (WH E s dec)):=by
 have hB:=h.size
 have OWN:Hid (∀ b,A.vl.ownBlock=some b→b<w.heap.size):=fun b q=>(h.m.lr.lt b q).2
 have hsp:=hb.sp
 have HMK:Hid (∀ w',DK w' B g N E s A AY→Calls Tryd.prog 84 #[.pointer (some ⟨g,0,none⟩),.agg #[.int .i64 (tN dec:Nat),.int .i64 (fN dec:Nat)]] w' (Fi w' B g N E A (S8 E s dec))):=fun w' hi=>Mc w' B g N E s A dec hi hb hd hN hlong
 have HS1:=AA hs1
 have z00:tN 0=0∧fN 0=0:=by
  obtain⟨a,b⟩:=Bf.zero.eq
  exact⟨a.symm,b.symm⟩
 have HU:Hid (∀ w,Calls Tryd.prog 83 #[.int .i64 1,.agg #[.int .i64 0,.int .i64 0]] w fun e w'=>(∃ a cp,e=.returned (.agg #[.int .i64 3,.int .i64 1,.slice none 0 0,.slice none 0 0,.slice a (AM 0).length cp])∧w'.ownsRow w.heap.size 3 1 (.slice a (AM 0).length cp) (AM 0).length (AW (AM 0)))∧Below w.heap.size w w'):=fun w=>by
  have:=Kz 1 0 (by decide) w
  unfold Bo at this
  rw[z00.1,z00.2] at this
  exact this
 have HRES:Hid (WH E s dec=if 0<E.b∧E.b≤(s.sp:Int) then .fin s (U8 1 0) else match S8 E s dec with | .fin s x=>.fin s x | .go s=>VO (AS (Al (E.hv++s.lr) E.xs dec)) s):=rfl
 generalize WH E s dec=RES at *
 have B0:=AA (AF w (.cells #[.int .i64 (tN dec:Nat),.int .i64 (fN dec:Nat)] 86))
 have I0:=AA (h.below hB B0.out)
 have R0:Hid (Ab (w.alloc (.cells #[.int .i64 (tN dec:Nat),.int .i64 (fN dec:Nat)] 86)) w.heap.size 86 [.int .i64 (tN dec:Nat),.int .i64 (fN dec:Nat)]):=heap_alloc_new w _
 unfold Bo
 clear h hb hlong hs1 z00
 go_enter Tryd.func72,Tryd.ntmps72
 go_wp2_with fail
 generalize w.alloc (.cells #[.int .i64 (tN dec:Nat),.int .i64 (fN dec:Nat)] 86)=w0 at *
 have c4:w0.cell? ⟨g,4,none⟩=some (.int .i64 E.b):=(I0.out.m.row.cell 4).trans rfl
 have c9:w0.cell? ⟨g,9,none⟩=some (.int .i64 (s.sp:Nat)):=(I0.out.m.row.cell 9).trans rfl
 have BD:Hid (Below w0.heap.size w0 w0.drew):=below_drewN (Below.refl _ _) 1
 go_cut [23] from 6 (fun s23 wc=>s23=.bool (decide (0<E.b∧E.b≤(s.sp:Int)))∧Hid (Below w0.heap.size w0 wc))
 case first =>
  by_cases hb0:0<E.b
  ·have e0:E.b > 0:=hb0
   by_cases hle:E.b≤(s.sp:Int)
   ·have e1:((s.sp:Int) ≥ E.b):=hle
    go_region
    all_goals
     go_wp2
     go_meet
     case rel=>exact⟨by rw[decide_eq_true (show 0<E.b∧E.b≤(s.sp:Int) by omega)],BD⟩
   ·have e1:¬ ((s.sp:Int) ≥ E.b):=hle
    go_region
    all_goals
     go_wp2
     go_meet
     case rel=>exact⟨by rw[decide_eq_false (show ¬ (0<E.b∧E.b≤(s.sp:Int)) by omega)],BD⟩
  ·have e0:¬ E.b > 0:=hb0
   go_region
   all_goals
    go_wp2
    go_meet
    case rel=>exact⟨by rw[decide_eq_false (show ¬ (0<E.b∧E.b≤(s.sp:Int)) by omega)],BD⟩
 case rest =>
  obtain⟨rfl,BC⟩:=hcut
  have I1:=AA (I0.out.below I0.out.size BC.out)
  have R1:=AA (AB R0.out BC.out)
  have B1:Hid (Below w.heap.size w wc):=B0.out.trans (BC.out.mono B0.out.size)
  clear I0 R0 B0 BC BD c4 c9
  by_cases hcond:0<E.b∧E.b≤(s.sp:Int)
  ·have HR:Hid (RES=.fin s (U8 1 0)):=by show _=_;rw[HRES.out,if_pos hcond]
   have hdc:decide (0<E.b∧E.b≤(s.sp:Int))=true:=by simpa using hcond
   rw[hdc]
   clear hcond hdc HRES HMK HS1
   go_wp2_with fail
   refine(AE HU _).mono ?_
   rintro e w5 ⟨⟨a5,cp5,rfl,ho5⟩,hb5⟩
   have P2:=AA (I1.out.below I1.out.size hb5)
   have P1:Hid (Below w.heap.size w w5):=B1.out.trans (hb5.mono B1.out.size)
   have O5:=AA (BO ho5 I1.out.size)
   have z0:=P2.out.m.row.frozen 15
   have z1:=P2.out.m.row.frozen 16
   have z2:=P2.out.m.row.frozen 17
   have z3:=P2.out.m.row.frozen 18
   have z4:=P2.out.m.row.frozen 19
   have y0:w5.cell? ⟨g,15,none⟩=some (.int .i64 0):=(P2.out.m.row.cell 15).trans rfl
   have y1:w5.cell? ⟨g,16,none⟩=some (.int .i64 0):=(P2.out.m.row.cell 16).trans rfl
   have y2:w5.cell? ⟨g,17,none⟩=some (.slice none 0 0):=(P2.out.m.row.cell 17).trans rfl
   have y3:w5.cell? ⟨g,18,none⟩=some (.slice none 0 0):=(P2.out.m.row.cell 18).trans rfl
   have y4:w5.cell? ⟨g,19,none⟩=some (.slice none 0 0):=(P2.out.m.row.cell 19).trans rfl
   clear ho5 hb5 HU
   go_wp2
   go_ret
   rw[HR.out]
   obtain⟨q1,q2⟩:=P2.out.ans5 (.int .i64 3) (.int .i64 1) (.slice none 0 0) (.slice none 0 0) (.slice a5 (AM 0).length cp5)
   have hfr:Fr IQ B w _:=(Fr.of IQ B P1.out).trans q2
   exact⟨hfr.mono JH,BR.fr _ hfr Fp,rfl,A,_,rfl,rfl,rfl,DM.refl _ _,q1,MF (q2.own O5.out KZ)⟩
  ·have HR:Hid (RES=match S8 E s dec with | .fin s x=>.fin s x | .go s=>VO (AS (Al (E.hv++s.lr) E.xs dec)) s):=by show _=_;rw[HRES.out,if_neg hcond]
   have hdc:decide (0<E.b∧E.b≤(s.sp:Int))=false:=by simpa using hcond
   rw[hdc]
   have x0:wc.cell? ⟨w.heap.size,0,none⟩=some (.int .i64 (tN dec:Nat)):=(R1.out.cell 0).trans rfl
   have x1:wc.cell? ⟨w.heap.size,1,none⟩=some (.int .i64 (fN dec:Nat)):=(R1.out.cell 1).trans rfl
   have F1:=AA (Fr.of GX B B1.out)
   have K1:=AA (BR.fr A.vl (Fr.of (fun _=>False) B B1.out) id)
   clear HRES hcond hdc HU
   go_wp2_with fail
   refine(AE HMK _ I1.out).mono ?_
   intro e w2 hp
   generalize hmk:S8 E s dec=MK at *
   cases MK with
   | fin s1 x =>
    obtain⟨p1,p2,rfl,A1,an1,q1,q2,q3,q4,q5,q6⟩:=hp
    have HR2:Hid (RES=.fin s1 x):=HR.out
    have P:=AA (And.intro p1 (And.intro p2 (And.intro q4 (And.intro q5 q6))))
    have HQ:=AA (And.intro q1 (And.intro q2 q3))
    clear p1 p2 q1 q2 q3 q4 q5 q6 HR HMK HS1 hmk x0 x1
    go_wp2
    go_ret
    rw[HR2.out]
    exact⟨F1.out.trans P.out.1,K1.out.trans (DM.refl _ _) B1.out.size P.out.2.1,rfl,A1,an1,HQ.out.1,HQ.out.2.1,HQ.out.2.2,fun b hb=>(P.out.2.2.1 b hb).imp id fun q=>Nat.le_trans B1.out.size q,P.out.2.2.2.1,P.out.2.2.2.2⟩
   | go s1 =>
    obtain⟨p1,p2,rfl,A1,q1,q2,q3,q4,q5⟩:=hp
    obtain⟨hb1,hsp1⟩:=HS1.out s1 rfl
    have HR2:Hid (RES=VO (AS (Al (E.hv++s1.lr) E.xs dec)) s1):=HR.out
    have hbox:A.vl.ownBlock≠some w.heap.size:=fun q=>by have:=OWN.out _ q;omega
    have I2:=AA q5
    have HQ:=AA (And.intro q1 (And.intro q2 q3))
    have F2:=AA (F1.out.trans p1)
    have K2:=AA (K1.out.trans (DM.refl _ _) B1.out.size p2)
    have M2:Hid (DM A.vl A1.vl w):=fun b hb=>(q4 b hb).imp id fun q=>Nat.le_trans B1.out.size q
    have R2:=AA (p2.row R1.out hbox)
    have hDl:=Nw (E.hv++s1.lr) E.xs hd
    have HND:Hid (∀ w',DK w' B g N E s1 A1 AY→Calls Tryd.prog 79 #[.pointer (some ⟨g,0,none⟩),.agg #[.int .i64 (tN dec:Nat),.int .i64 (fN dec:Nat)]] w' fun e w''=>e=.returned (.agg #[.int .i64 (tN (Al (E.hv++s1.lr) E.xs dec):Nat),.int .i64 (fN (Al (E.hv++s1.lr) E.xs dec):Nat)])∧Below w'.heap.size w' w''):=fun w' hi=>Jp w' B g N E s1 A1 AY dec hi hx hxl hd
    generalize Al (E.hv++s1.lr) E.xs dec=D at *
    have HOP:Hid (∀ w,Calls Tryd.prog 81 #[.agg #[.int .i64 (tN D:Nat),.int .i64 (fN D:Nat)]] w fun e w'=>e=.returned (.agg #[.int .i64 (tN (AS D):Nat),.int .i64 (fN (AS D):Nat)])∧Below w.heap.size w w'):=fun w=>by
     rw[(Mq hDl).1,(Mq hDl).2]
     exact Nt (tN D) (fN D) w
    have HLN:Hid (∀ w',DK w' B g N E s1 A1 AY→Calls Tryd.prog 85 #[.pointer (some ⟨g,0,none⟩),.agg #[.int .i64 (tN (AS D):Nat),.int .i64 (fN (AS D):Nat)]] w' (Fi w' B g N E A1 (VO (AS D) s1))):=fun w' hi=>Pk w' B g N E s1 A1 (AS D) hi hb1 (Cl D) (by rw[hsp1];exact hN)
    have y0:w2.cell? ⟨w.heap.size,0,none⟩=some (.int .i64 (tN dec:Nat)):=(R2.out.cell 0).trans rfl
    have y1:w2.cell? ⟨w.heap.size,1,none⟩=some (.int .i64 (fN dec:Nat)):=(R2.out.cell 1).trans rfl
    clear p1 p2 q1 q2 q3 q4 q5 HR HMK HS1 hmk x0 x1 F1 K1 I1 R1 hb1 hsp1 hbox hDl
    go_wp2_with fail
    refine(AE HND _ I2.out).mono ?_
    rintro e w3 ⟨rfl,hb3⟩
    have I3:=AA (I2.out.below I2.out.size hb3)
    have B3:=AA hb3
    clear hb3 HND y0 y1 I2
    go_wp2_with fail
    have I4:=AA (I3.out.below I3.out.size (AF w3 (.cells #[.int .i64 (tN D:Nat),.int .i64 (fN D:Nat)] 86)))
    have B4:Hid (Below w2.heap.size w2 (w3.alloc (.cells #[.int .i64 (tN D:Nat),.int .i64 (fN D:Nat)] 86))):=B3.out.alloc B3.out.size _
    refine(AE HOP _).mono ?_
    generalize w3.alloc (.cells #[.int .i64 (tN D:Nat),.int .i64 (fN D:Nat)] 86)=w4 at *
    rintro e w5 ⟨rfl,hb5⟩
    have I5:=AA (I4.out.below I4.out.size hb5)
    have B5:Hid (Below w2.heap.size w2 w5):=B4.out.trans (hb5.mono B4.out.size)
    clear hb5 HOP I3 I4 B3 B4
    go_wp2_with fail
    refine(AE HLN _ I5.out).mono ?_
    intro e w6 hp6
    have F6:=AA (F2.out.trans (Fr.of GX B B5.out))
    have K6:=AA (K2.out.trans M2.out F2.out.size (BR.fr A1.vl (Fr.of (fun _=>False) B B5.out) id))
    clear HLN I5
    generalize VO (AS D) s1=LR at *
    cases LR with
    | fin s2 x =>
     obtain⟨p1,p2,rfl,A2,an2,q1,q2,q3,q4,q5,q6⟩:=hp6
     have P:=AA (And.intro p1 (And.intro p2 (And.intro q4 (And.intro q5 q6))))
     have HQ2:=AA (And.intro q1 (And.intro q2 q3))
     clear p1 p2 q1 q2 q3 q4 q5 q6
     go_wp2
     go_ret
     rw[HR2.out]
     exact⟨F6.out.trans P.out.1,K6.out.trans M2.out F6.out.size P.out.2.1,rfl,A2,an2,HQ2.out.1.trans HQ.out.1,HQ2.out.2.1.trans HQ.out.2.1,HQ2.out.2.2.trans HQ.out.2.2,M2.out.trans P.out.2.2.1 F6.out.size,P.out.2.2.2.1,P.out.2.2.2.2⟩
    | go s2 =>
     obtain⟨p1,p2,rfl,A2,q1,q2,q3,q4,q5⟩:=hp6
     have P:=AA (And.intro p1 (And.intro p2 (And.intro q4 q5)))
     have HQ2:=AA (And.intro q1 (And.intro q2 q3))
     clear p1 p2 q1 q2 q3 q4 q5
     go_wp2
     go_ret
     rw[HR2.out]
     exact⟨F6.out.trans P.out.1,K6.out.trans M2.out F6.out.size P.out.2.1,rfl,A2,HQ2.out.1.trans HQ.out.1,HQ2.out.2.1.trans HQ.out.2.1,HQ2.out.2.2.trans HQ.out.2.2,M2.out.trans P.out.2.2.1 F6.out.size,P.out.2.2.2⟩
theorem T8{X:Cx}(hX:Gi X){T:List (Nat × Nat)}{w k dec:Nat}{s:Sr}(hW:TH X T w)(h:Hd X T w (k+1) dec s)(hcl:AU (X.E.hv++s.lr) dec=true)(hr:¬ (X.E.r=0∨(s.lr.length:Int)<X.E.r)):CH X.E s dec s.lr 0∈s.lr:=by
 have hok:=h.si.csok hX hW.me
 have hno:=h.no (by omega)
 have hr0:X.E.r≠0:=fun e=>hr (.inl e)
 have h12:12≤X.E.r:=hX.set.resolve_left hr0
 obtain⟨c0,hc0,hi0⟩:=Qe h.si.nod (by omega) hok h.trk h.done h.dec h.path hcl hno hW.dis
 rcases Lk X.E s dec s.lr 0 with⟨_,b⟩ | b
 ·exfalso
  rcases b c0 hc0 with q | q
  ·have l:=h.si.lr c0 hc0
   have:AG 0<AG c0:=Cn (fun i q=>by rw[Nat.zero_testBit] at q;simp at q) l.top (fun e=>l.ne e.symm)
   omega
  ·rw[hi0] at q;simp at q
 ·exact b.1
theorem No:∀ (ls:List EY) (j:JV),j.log+ls.length≤(Ay j ls).log∧(Ay j ls).st≤j.st+ls.length:=by
 intro ls
 induction ls with
 | nil=>intro j;simp[Ay]
 | cons p ls ih =>
  intro j
  have h:=ih (Bu j p)
  have e:Ay j (p :: ls)=Ay (Bu j p) ls:=rfl
  have k:j.log+1≤(Bu j p).log∧(Bu j p).st≤j.st+1:=by
   unfold Bu
   split
   ·simp only;omega
   ·split
    ·simp only;omega
    ·simp only;omega
  rw[e]
  simp only[List.length_cons]
  omega
theorem Ln(cs:List Nat)(A w:Nat):∀ i,(Bn cs A w i).length≤i:=by
 intro i
 induction i with
 | zero=>simp[Bn]
 | succ i ih =>
  simp only[Bn,List.length_append]
  cases BM cs A w i with
  | none=>simp only[List.length_nil];omega
  | some d =>
   simp only
   cases A5 cs (AI w) d with
   | none=>simp only[List.length_nil];omega
   | some kn=>simp only[List.length_singleton];omega
theorem Pz{cs:List Nat}{A:Nat}:∀ (T:List (Nat × Nat)),(∀ t∈T,Mz cs A t.1 t.2)→(CI cs A T).length≤11*T.length:=by
 intro T
 induction T with
 | nil=>intro _;simp[CI]
 | cons t T ih =>
  intro h
  have a:=ih fun x hx=>h x (List.mem_cons_of_mem _ hx)
  obtain⟨d,kn,h1,h2⟩:=(h t (List.mem_cons_self ..)).is
  have b:=Ih (h t (List.mem_cons_self ..)).ok h1 h2
  have c:=Fl t.1
  have e:=Ln cs A t.1 (t.2+1)
  simp only[CI,List.flatMap_cons,List.length_append,List.length_cons] at a ⊢
  omega
structure ZT(X:Cx)(T:List (Nat × Nat)):Prop where
 h:X.h≤1048576
 l:X.l≤1048576
 T:T.length≤10000
theorem VI{X:Cx}(hX:Gi X){w:Nat}(hw:w=0∨w∈X.ws):w<2^11:=by
 rcases hw with e | e
 ·rw[e];decide
 ·refine BX fun i hi=>?_
  cases hb:w.testBit i with
  | false=>rfl
  | true=>have:=A8 hX.sn (hX.cmp.sub w e i hb);omega
theorem Hd.bounds{X:Cx}(hX:Gi X){T:List (Nat × Nat)}(hB:ZT X T){w i dec:Nat}{s:Sr}(hW:TH X T w)(h:Hd X T w i dec s)(hv:s.vals<2^20):VV s∧s.sp≤1048576:=by
 have hok:=h.si.csok hX hW.me
 have h10:=QY hok h.dec
 obtain⟨log,t1,t2,_⟩:=h.si.to
 obtain⟨g1,g2⟩:=No s.ls X.j0
 rw[t1] at g1 g2
 simp only at g1 g2
 have e0:X.j0.st=0:=rfl
 rw[e0] at g2
 have r1:=h.si.rh
 have r2:=h.si.rl
 have r3:=h.si.held
 have b1:=hB.h
 have b2:=hB.l
 have b3:=hB.T
 have l1:=Kd s.lr fun c hc=>⟨(h.si.lr c hc).top,(h.si.lr c hc).ne⟩
 have p1:=Ln (X.E.hv++s.lr) X.E.as w i
 have p2:=Pz T h.trk
 refine⟨⟨by omega,by omega,by omega,by rw[h.path];omega,by rw[h.done];omega,by omega,by omega,by omega,by omega,fun c hc=>(h.si.lr c hc).top,hv,fun p hp=>?_⟩,by omega⟩
 have key:∀ (w' n:Nat),(w'=0∨w'∈X.ws)→p∈Bn (X.E.hv++s.lr) X.E.as w' n→p.dec<2^20∧p.kn<2^20∧p.vs<2^11:=fun w' n hw' hp=>by
  have ok':=h.si.csok hX hw'
  obtain⟨j,d,kn,_,q1,q2,rfl⟩:=Is hp
  obtain⟨a1,_,_⟩:=Bg ok' q1
  exact⟨a1,(De ok' a1 q2).1.top,VI hX hw'⟩
 rcases List.mem_append.1 hp with hp | hp
 ·rw[h.path] at hp
  exact key w i hW.me hp
 ·rw[h.done] at hp
  simp only[CI,List.mem_flatMap] at hp
  obtain⟨t,ht,hp⟩:=hp
  exact key t.1 _ (hW.all t ht) hp
def Pq(t:Nat):Prop:=t=116∨t=94
theorem OZ(t:Nat)(h:Pq t):GX t:=h.elim (fun e=>by rw[e];exact Uz) (fun e=>by rw[e];exact Mm)
theorem IG:¬ Pq 86:=fun h=>h.elim (by decide) (by decide)
theorem SG{w w6:World}{o:Obj}{v u:Value}(hg:(w.alloc o).grownBy w6 v.ownBlock){b e k n:Nat}{zs:List Value}(ho:w.ownsRow b e k u n zs)(ha:Bp u v):w6.ownsRow b e k u n zs:=by
 refine⟨ho.1,?_⟩
 rcases ho.2 with hn | ⟨g,cap,cur,hv,q1,hgg,r⟩
 ·exact .inl hn
 ·refine .inr ⟨g,cap,cur,hv,q1,?_,r⟩
  have hl:=(Array.getElem?_eq_some_iff.1 hgg).1
  exact((hg.block g (by simp;omega) fun q=>ha g (by rw[hv];rfl) q.symm).trans (heap_alloc_old w o hl)).trans hgg
theorem DK.addPath{w w6:World}{B g N:Nat}{E:Sg}{s:Sr}{A:Gf}(h:DK w B g N E s A AY){o:Obj}(hg:(w.alloc o).grownBy w6 A.vp.ownBlock){v':Value}{p:H9}(hown:w6.ownsRow B 116 5 v' (s.path.length+1) (A7 s.path++p.cells))(hmv:∀ b,v'.ownBlock=some b→A.vp.ownBlock=some b∨w.heap.size≤b) :
  DK (w6.setCell ⟨g,10,none⟩ v') B g N E { s with path:=s.path++[p] } { A with vp:=v' } AY∧Fr Pq B w (w6.setCell ⟨g,10,none⟩ v'):=by
 have hB:=h.size
 have hf:Fr (fun t=>t=116) B w w6:=(Fr.of _ B (AF w o)).grown (AL h.m.path (AF w o)) rfl hg
 have r6:=hf.row h.m.row (by decide)
 have st:∀ {b e k n:Nat} {v:Value} {zs:List Value},w6.ownsRow b e k v n zs→e≠94→(w6.setCell ⟨g,10,none⟩ v').ownsRow b e k v n zs:=fun ho he=>Ai r6 10 v' he ho
 have hfs:Fr Pq B w (w6.setCell ⟨g,10,none⟩ v'):=(hf.mono fun t e=>.inl e).set r6 (.inr rfl) h.m.base 10 v'
 obtain⟨us,l1,l2,l3⟩:=h.m.lines
 refine⟨⟨⟨r6.set 10 v',h.m.base,h.m.asm.fr hfs hB h.m.asb,h.m.asb,st (hf.own h.m.lr (by decide)) (by decide),?_,st (SG hg h.m.done h.m.apart.symm) (by decide),?_,us,l1,st (hf.own l2 (by decide)) (by decide),l3.map fun _ _ _ _ ho=>st (hf.own ho (by decide)) (by decide)⟩,(h.t.fr hf fun t e=>by rw[e];exact Bx (by decide) (by decide)).set r6 10 v' CM⟩,hfs⟩
 ·show(w6.setCell ⟨g,10,none⟩ v').ownsRow B 116 5 v' (s.path++[p]).length (A7 (s.path++[p]))
  rw[Mn,List.length_append,List.length_singleton]
  exact st hown (by decide)
 ·intro b hb hd
  rcases hmv b hb with q | q
  ·exact h.m.apart b q hd
  ·have:=(h.m.done.lt b hd).2;omega
theorem DK.addDone{w w6:World}{B g N:Nat}{E:Sg}{s:Sr}{A:Gf}(h:DK w B g N E s A AY)(hg:w.grownBy w6 A.vd.ownBlock){v':Value}(hown:w6.ownsRow B 116 5 v' (s.done.length+s.path.length) (A7 s.done++A7 s.path))(hmv:∀ b,v'.ownBlock=some b→A.vd.ownBlock=some b∨w.heap.size≤b) :
  DK (w6.setCell ⟨g,11,none⟩ v') B g N E { s with done:=s.done++s.path } { A with vd:=v' } AY∧Fr Pq B w (w6.setCell ⟨g,11,none⟩ v'):=by
 have hB:=h.size
 have hf:Fr (fun t=>t=116) B w w6:=(Fr.refl _ B w).grown h.m.done rfl hg
 have r6:=hf.row h.m.row (by decide)
 have st:∀ {b e k n:Nat} {v:Value} {zs:List Value},w6.ownsRow b e k v n zs→e≠94→(w6.setCell ⟨g,11,none⟩ v').ownsRow b e k v n zs:=fun ho he=>Ai r6 11 v' he ho
 have hfs:Fr Pq B w (w6.setCell ⟨g,11,none⟩ v'):=(hf.mono fun t e=>.inl e).set r6 (.inr rfl) h.m.base 11 v'
 obtain⟨us,l1,l2,l3⟩:=h.m.lines
 refine⟨⟨⟨r6.set 11 v',h.m.base,h.m.asm.fr hfs hB h.m.asb,h.m.asb,st (hf.own h.m.lr (by decide)) (by decide),st (Cz h.m.path hg h.m.apart) (by decide),?_,?_,us,l1,st (hf.own l2 (by decide)) (by decide),l3.map fun _ _ _ _ ho=>st (hf.own ho (by decide)) (by decide)⟩,(h.t.fr hf fun t e=>by rw[e];exact Bx (by decide) (by decide)).set r6 11 v' CM⟩,hfs⟩
 ·show(w6.setCell ⟨g,11,none⟩ v').ownsRow B 116 5 v' (s.done++s.path).length (A7 (s.done++s.path))
  rw[OY,List.length_append]
  exact st hown (by decide)
 ·intro b hb hd
  rcases hmv b hd with q | q
  ·exact h.m.apart b hb q
  ·have:=(h.m.path.lt b hb).2;omega
theorem DK.noPath{w:World}{B g N:Nat}{E:Sg}{s:Sr}{A:Gf}(h:DK w B g N E s A AY):DK (w.setCell ⟨g,10,none⟩ (.slice none 0 0)) B g N E { s with path:=[] } { A with vp:=.slice none 0 0 } AY∧Fr Pq B w (w.setCell ⟨g,10,none⟩ (.slice none 0 0)):=by
 have hB:=h.size
 have st:∀ {b e k n:Nat} {v:Value} {zs:List Value},w.ownsRow b e k v n zs→e≠94→(w.setCell ⟨g,10,none⟩ (.slice none 0 0)).ownsRow b e k v n zs:=fun ho he=>Ai h.m.row 10 _ he ho
 have hfs:Fr Pq B w (w.setCell ⟨g,10,none⟩ (.slice none 0 0)):=(Fr.refl Pq B w).set h.m.row (.inr rfl) h.m.base 10 _
 obtain⟨us,l1,l2,l3⟩:=h.m.lines
 exact⟨⟨⟨h.m.row.set 10 _,h.m.base,h.m.asm.fr hfs hB h.m.asb,h.m.asb,st h.m.lr (by decide),CE _ _ _ _,st h.m.done (by decide),Bk _,us,l1,st l2 (by decide),l3.map fun _ _ _ _ ho=>st ho (by decide)⟩,h.t.set h.m.row 10 _ CM⟩,hfs⟩
theorem Tryd.infoStep:(Tryd.prog.info? 116).map (fun i=>(i.zero,i.size,i.bytes))=some (some (.agg #[.int .i64 0,.int .i64 0,.int .i64 0,.int .i64 0,.int .i64 0]),5,40):=by kernel_rfl
theorem Tryd.undSteps:Tryd.prog.underlying 92=some (.slice 116):=by kernel_rfl
end Go.Proofs.YthboeppmlhbofaaDoor
