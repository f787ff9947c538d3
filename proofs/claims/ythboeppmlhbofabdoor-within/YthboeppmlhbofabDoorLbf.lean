import Derived.Test.YthboeppmlhbofabDoorLba
namespace Go.Proofs.YthboeppmlhbofabDoor
open Go.RowKit Txt
set_option maxRecDepth 100000
theorem Tr.mono{w:World}{B cb N N':Nat}{cs:List Nat}(h:Tr w B cb cs N)(hN:N≤N'):Tr w B cb cs N':=by
 obtain⟨na,nc,ns,h1,h2,h3,h4⟩:=h
 exact⟨na,nc,ns,h1,h2,by omega,fun j=>Nat.le_trans (h4 j) hN⟩
theorem take_snoc(cs:List Nat)(k:Nat)(h:k<cs.length):cs.take (k+1)=cs.take k++[cs.getD k 0]:=by
 rw[List.take_succ_eq_append_getElem h,List.getD_eq_getElem?_getD,List.getElem?_eq_getElem h];rfl
set_option maxHeartbeats 8000000 in
theorem standingG_any(g:Nat)(r h l:Int)(em se lo un:Nat)(v7:Value)(ta la:Option Addr)(tc lc:Nat)(tk lr:List Nat)(w:World)(b0 b1:Nat)(hr:Row w g 68 (svCells r h l (.slice ta tk.length tc) em se (.slice la lr.length lc) v7 lo un))
  (hot:w.ownsRow b0 84 2 (.slice ta tk.length tc) tk.length (prCells (prL tk))) (hol:w.ownsRow b1 84 2 (.slice la lr.length lc) lr.length (prCells (prL lr))) (htk:∀ c∈tk,c<2^20) (hlr:∀ c∈lr,c<2^20) (hem:em≤2000000) (htl:tk.length≤1000000) (hll:lr.length≤1000000) :
  Calls Tryd.prog 32 #[.pointer (some ⟨g,0,none⟩)] w fun e w'=>∃ cb,e=.returned (.pointer (some ⟨cb,0,none⟩))∧Tr w' w.heap.size cb (List.replicate em 0++tk++lr) (11+em+10*tk.length+10*lr.length)∧Below w.heap.size w w':=by
 have HN:=hide (newC_any w.heap.size w (Nat.le_refl _))
 have H:=hide (And.intro hr (And.intro hot (And.intro hol (And.intro htk hlr))))
 clear hr hot hol htk hlr
 go_enter Tryd.func32,Tryd.ntmps32
 go_wp2_with fail
 refine(unhide HN).mono ?_
 rintro e w1 ⟨cb,na,nc,rfl,ht1,hb1,hcb⟩
 have T1:=hide ht1
 have B1:=hide hb1
 have hz1:w.heap.size≤w1.heap.size:=hb1.size
 have c4:w1.cell? ⟨g,4,none⟩=some (.int .i64 em):=((row_below H.out.1 hb1).cell 4).trans rfl
 have HA:=hide (addC_any w1 w.heap.size cb na nc [nd0] ht1 wf_one 0 cb_one 0 0 em (by decide) (by decide) (by omega) (by decide) (by omega))
 clear ht1 hb1 HN
 go_wp2_with fail
 refine(unhide HA).mono ?_
 rintro e w2 ⟨rfl,na2,nc2,hn2⟩
 have F2:=hide (hn2.fr T1.out)
 have T2:Hid (Tr w2 w.heap.size cb (List.replicate em 0++tk.take 0) (11+em+10*0)):=by
  obtain⟨a1,a2,a3⟩:=addN_wf wf_one (by decide) 0 0 em
  simp only[List.length_cons,List.length_nil] at a2
  refine⟨na2,nc2,_,hn2.t,?_,by omega,?_⟩
  ·have:=Stand.one.adds Two.zero em
   simpa using this
  ·intro j
   have:=addN_cb cb_one wf_one (by decide) 0 0 em j
   omega
 have B2:Hid (Below w.heap.size w w2):=B1.out.trans ((F2.out.belowB (by omega)))
 have c3:w2.cell? ⟨g,3,none⟩=some (.slice ta tk.length tc):=((row_below H.out.1 B2.out).cell 3).trans rfl
 clear hn2 HA c4 F2 B1 T1
 go_wp2_with fail
 go_loopw [21] (fun i wr=>∃ (k:Nat),k≤tk.length∧i=.int .i64 k∧Hid (Tr wr w.heap.size cb (List.replicate em 0++tk.take k) (11+em+10*k))∧Hid (Below w.heap.size w wr)) (fun i _=>tk.length - (intOf i).toNat)
 case atStart=>exact⟨0,Nat.zero_le _,rfl,T2,B2⟩
 case round =>
  clear T2 B2 c3
  obtain⟨k,hk,rfl,T,BB⟩:=hrel
  have hzr:w.heap.size≤wr.heap.size:=BB.out.size
  by_cases hlt:k<tk.length
  ·have ol':wr.ownsRow b0 84 2 (.slice ta (prL tk).length tc) (prL tk).length (prCells (prL tk)):=by rw[prL_len];exact own_below H.out.2.1 BB.out
   obtain⟨b,off,rfl,hc⟩:=(sets_own ol').get (by rw[prL_len];omega)
   obtain⟨q0,q1⟩:=hc k (by rw[prL_len];omega)
   rw[prL_get tk k hlt] at q0 q1
   have hc20:=H.out.2.2.2.1 _ (get_mem tk k hlt)
   have HE:=hide (take_snoc tk k hlt)
   generalize tk.getD k 0=x at *
   have i1:(0:Int)≤(k:Int):=by omega
   have i2:(k:Int)<(tk.length:Int):=by omega
   have hbA:Below wr.heap.size wr (wr.alloc (.cells #[.int .i64 (tN x:Nat),.int .i64 (fN x:Nat)] 84)):=alloc_below _ _
   have TA:=hide (T.out.below hbA)
   have HA:=hide (add_tr TA.out x hc20 (Nat.le_trans hzr hbA.size) (by omega))
   unfold setV at HA
   have BA:Hid (Below w.heap.size w (wr.alloc (.cells #[.int .i64 (tN x:Nat),.int .i64 (fN x:Nat)] 84))):=BB.out.trans (hbA.mono hzr)
   clear hc hbA ol' T BB
   go_wp2_with fail
   refine(unhide HA).mono ?_
   generalize wr.alloc (.cells #[.int .i64 (tN x:Nat),.int .i64 (fN x:Nat)] 84)=wA at *
   rintro e w4 ⟨rfl,ht4,hf4⟩
   have T4:Hid (Tr w4 w.heap.size cb (List.replicate em 0++tk.take (k+1)) (11+em+10*(k+1))):=by
    rw[HE.out,← List.append_assoc]
    exact ht4.mono (by omega)
   have B4:Hid (Below w.heap.size w w4):=BA.out.trans (hf4.belowB BA.out.size)
   clear ht4 hf4 HA
   go_wp2
   go_roundw
   case rel=>exact⟨k+1,by omega,by go_num,T4,B4⟩
   case measure=>simp[intOf];omega
  ·obtain rfl:k=tk.length:=by omega
   rw[List.take_length] at T
   have c6:wr.cell? ⟨g,6,none⟩=some (.slice la lr.length lc):=((row_below H.out.1 BB.out).cell 6).trans rfl
   have T2:Hid (Tr wr w.heap.size cb (List.replicate em 0++tk++lr.take 0) (11+em+10*tk.length+10*0)):=by
    show Tr _ _ _ _ _
    have:=T.out
    simpa using this
   have BB2:=BB
   clear T hlt hk
   go_wp2_with fail
   clear c6 BB
   go_loopw [34] (fun i wr=>∃ (k:Nat),k≤lr.length∧i=.int .i64 k∧Hid (Tr wr w.heap.size cb (List.replicate em 0++tk++lr.take k) (11+em+10*tk.length+10*k))∧Hid (Below w.heap.size w wr)) (fun i _=>lr.length - (intOf i).toNat)
   case atStart=>exact⟨0,Nat.zero_le _,rfl,T2,BB2⟩
   case round =>
    clear T2 BB2
    rename_i wr0 _ _
    obtain⟨k,hk,rfl,T,BB⟩:=hrel
    have hzr:w.heap.size≤wr.heap.size:=BB.out.size
    by_cases hlt:k<lr.length
    ·have ol':wr.ownsRow b1 84 2 (.slice la (prL lr).length lc) (prL lr).length (prCells (prL lr)):=by rw[prL_len];exact own_below H.out.2.2.1 BB.out
     obtain⟨b,off,rfl,hc⟩:=(sets_own ol').get (by rw[prL_len];omega)
     obtain⟨q0,q1⟩:=hc k (by rw[prL_len];omega)
     rw[prL_get lr k hlt] at q0 q1
     have hc20:=H.out.2.2.2.2 _ (get_mem lr k hlt)
     have HE:=hide (take_snoc lr k hlt)
     generalize lr.getD k 0=x at *
     have i1:(0:Int)≤(k:Int):=by omega
     have i2:(k:Int)<(lr.length:Int):=by omega
     have hbA:Below wr.heap.size wr (wr.alloc (.cells #[.int .i64 (tN x:Nat),.int .i64 (fN x:Nat)] 84)):=alloc_below _ _
     have TA:=hide (T.out.below hbA)
     have HA:=hide (add_tr TA.out x hc20 (Nat.le_trans hzr hbA.size) (by omega))
     unfold setV at HA
     have BA:Hid (Below w.heap.size w (wr.alloc (.cells #[.int .i64 (tN x:Nat),.int .i64 (fN x:Nat)] 84))):=BB.out.trans (hbA.mono hzr)
     clear hc hbA ol' T BB
     go_wp2_with fail
     refine(unhide HA).mono ?_
     generalize wr.alloc (.cells #[.int .i64 (tN x:Nat),.int .i64 (fN x:Nat)] 84)=wA at *
     rintro e w4 ⟨rfl,ht4,hf4⟩
     have T4:Hid (Tr w4 w.heap.size cb (List.replicate em 0++tk++lr.take (k+1)) (11+em+10*tk.length+10*(k+1))):=by
      rw[HE.out,← List.append_assoc]
      exact ht4.mono (by omega)
     have B4:Hid (Below w.heap.size w w4):=BA.out.trans (hf4.belowB BA.out.size)
     clear ht4 hf4 HA
     go_wp2
     go_roundw
     case rel=>exact⟨k+1,by omega,by go_num,T4,B4⟩
     case measure=>simp[intOf];omega
    ·obtain rfl:k=lr.length:=by omega
     rw[List.take_length] at T
     have T2:=T
     have BB2:=BB
     clear T BB
     go_wp2
     go_ret
     exact⟨cb,rfl,T2.out,BB2.out⟩
def KpP(g:Nat)(vl vp:Value)(b:Nat):Prop:=b=g∨vl.ownBlock=some b∨vp.ownBlock=some b
def lrK(lt:UInt8)(xs:List Int)(lr:List Nat):List Nat:=if lt=97 then lr++[setOk xs] else if lt=100 then lr.erase (setOk xs) else lr
def unK(lt:UInt8)(un:Nat):Nat:=if lt=101 then un+1 else un
def KpPost(w:World)(g:Nat)(r h l:Int)(v3:Value)(em se lo un:Nat)(vl vp:Value)(lr:List Nat)(pf:List UInt8)(lt:UInt8)(xs:List Int)(e:Ending)(w':World):Prop :=
 e=.returned (.tuple #[])∧∃ la' lc' pa' pc',Row w' g 68 (svCells r h l v3 em se (.slice la' (lrK lt xs lr).length lc') (.slice pa' (pf++lineT lt xs).length pc') (lo+(xs.length+1)) (unK lt un)) ∧
  w'.ownsRow 0 84 2 (.slice la' (lrK lt xs lr).length lc') (lrK lt xs lr).length (prCells (prL (lrK lt xs lr)))∧w'.ownsRow 0 5 1 (.slice pa' (pf++lineT lt xs).length pc') (pf++lineT lt xs).length (c8 (pf++lineT lt xs)) ∧
  Chn (KpP g vl vp) w w'∧Mov vl (.slice la' (lrK lt xs lr).length lc') w∧Mov vp (.slice pa' (pf++lineT lt xs).length pc') w
set_option maxHeartbeats 16000000 in
theorem keepS_any(g:Nat)(r h l:Int)(v3:Value)(em se lo un:Nat)(la pa:Option Addr)(lc pc:Nat)(lr:List Nat)(pf:List UInt8)(w:World)(h0:0<w.heap.size)(hn0:(Value.slice pa pf.length pc).ownBlock≠some 0)(htab:Tab w)
  (hr:Row w g 68 (svCells r h l v3 em se (.slice la lr.length lc) (.slice pa pf.length pc) lo un)) (hol:w.ownsRow 0 84 2 (.slice la lr.length lc) lr.length (prCells (prL lr))) (hop:w.ownsRow 0 5 1 (.slice pa pf.length pc) pf.length (c8 pf))
  (hlr:∀ c∈lr,c<2^20) (hll:lr.length≤10000000) (hpl:pf.length≤100000000) (hlo:lo≤100000000) (hun:un≤100000000) (lt:UInt8) (hlt:lt=97∨lt=100∨lt=101) (a:Option Addr) (c b0:Nat) (xs:List Int) (hoi:w.ownsRow b0 3 1 (.slice a xs.length c) xs.length (i64s xs)) (hlit:xs.all litB=true) (hxl:xs.length≤1000) :
  Calls Tryd.prog 36 #[.pointer (some ⟨g,0,none⟩),.agg #[.int .u8 (lt.toNat:Int),.slice a xs.length c]] w (KpPost w g r h l v3 em se lo un (.slice la lr.length lc) (.slice pa pf.length pc) lr pf lt xs):=by
 obtain⟨i1,gi,gz0,gz1,gz2⟩:=info_parts Tryd.infoSet
 have hgl:g<w.heap.size:=hr.lt
 have hbA:=alloc_below w (.cells #[.int .u8 (lt.toNat:Int),.slice a xs.length c] 76)
 have r0:Row (w.alloc (.cells #[.int .u8 (lt.toNat:Int),.slice a xs.length c] 76)) w.heap.size 76 [.int .u8 (lt.toNat:Int),.slice a xs.length c]:=heap_alloc_new w _
 have R0:=hide r0
 have S0:=hide (row_below hr hbA)
 have OL0:=hide (own_below hol hbA)
 have OP0:=hide (own_below hop hbA)
 have OI0:=hide (own_below hoi hbA)
 have TB0:Hid (Tab (w.alloc (.cells #[.int .u8 (lt.toNat:Int),.slice a xs.length c] 76))):=htab.below hbA h0
 have CH0:Hid (Chn (KpP g (.slice la lr.length lc) (.slice pa pf.length pc)) w (w.alloc (.cells #[.int .u8 (lt.toNat:Int),.slice a xs.length c] 76))):=Chn.of hbA
 have hsz:w.heap.size<(w.alloc (.cells #[.int .u8 (lt.toNat:Int),.slice a xs.length c] 76)).heap.size:=by simp
 have HLR:=hide hlr
 have HLIT:=hide hlit
 have HN0:=hide hn0
 clear hr hol hop hoi htab hbA r0 hlr hlit hn0
 go_enter Tryd.func36,Tryd.ntmps36
 go_wp2_with fail
 generalize w.alloc (.cells #[.int .u8 (lt.toNat:Int),.slice a xs.length c] 76)=w0 at *
 have C0:Hid (∀ w',Below w0.heap.size w0 w'→w'.cell? ⟨g,7,none⟩=some (.slice pa pf.length pc)∧w'.cell? ⟨w.heap.size,0,none⟩=some (.int .u8 (lt.toNat:Int))∧w'.cell? ⟨w.heap.size,1,none⟩=some (.slice a xs.length c)):=fun w' hb=>⟨((row_below S0.out hb).cell 7).trans rfl,((row_below R0.out hb).cell 0).trans rfl,((row_below R0.out hb).cell 1).trans rfl⟩
 obtain⟨f1,f2,f3⟩:=C0.out w0 (Below.refl _ _)
 have HAL:Hid (∀ w',Below w0.heap.size w0 w'→Calls Tryd.prog 55 #[.slice pa pf.length pc,.agg #[.int .u8 (lt.toNat:Int),.slice a xs.length c]] w' fun e w''=>∃ ao' cap',e=.returned (.slice ao' (pf++lineT lt xs).length cap')∧w''.ownsRow 0 5 1 (.slice ao' (pf++lineT lt xs).length cap') (pf++lineT lt xs).length (c8 (pf++lineT lt xs))∧w'.grownBy w'' (Value.slice pa pf.length pc).ownBlock∧Mov (.slice pa pf.length pc) (.slice ao' (pf++lineT lt xs).length cap') w'):=fun w' hb=>appendLine_any pa pc pf lt a c b0 xs w' (by have:=hb.size;omega) HN0.out (TB0.out.below hb (by omega)) (own_below OP0.out hb) hpl (own_below OI0.out hb) HLIT.out hxl
 have BD:Hid (Below w0.heap.size w0 w0.drew):=below_drewN (Below.refl _ _) 1
 generalize hpf:pf++lineT lt xs=pf2 at *
 have HPF:=hide hpf
 clear hpf
 go_cut [] from 6 (fun wx=>∃ (pa1:Option Addr) (pc1:Nat),Hid (Row wx g 68 (svCells r h l v3 em se (.slice la lr.length lc) (.slice pa1 pf2.length pc1) lo un))∧Hid (wx.ownsRow 0 84 2 (.slice la lr.length lc) lr.length (prCells (prL lr)))∧Hid (wx.ownsRow 0 5 1 (.slice pa1 pf2.length pc1) pf2.length (c8 pf2))∧Hid (wx.ownsRow b0 3 1 (.slice a xs.length c) xs.length (i64s xs))∧Hid (Row wx w.heap.size 76 [.int .u8 (lt.toNat:Int),.slice a xs.length c])∧Hid (Chn (KpP g (.slice la lr.length lc) (.slice pa pf.length pc)) w wx)∧Hid (Mov (.slice pa pf.length pc) (.slice pa1 pf2.length pc1) w))
 case first =>
  go_region_with (go_at_call 55;refine(unhide HAL w0.drew BD.out).mono ?_;rintro e w2 ⟨pa1,pc1,rfl,ho2,hg2,hm2⟩;have O2:=hide ho2;have G2:Hid (w0.grownBy w2 (Value.slice pa pf.length pc).ownBlock):=⟨hg2.os,hg2.tape,hg2.output,hg2.size,hg2.block⟩;have M2:Hid (Mov (.slice pa pf.length pc) (.slice pa1 pf2.length pc1) w):=(fun b hb=>(hm2 b hb).imp id fun q=>Nat.le_trans (Nat.le_of_lt hsz) q);clear ho2 hg2 hm2;have S2:=hide (row_grownN S0.out OP0.out (by decide) G2.out);have g7:w2.cell? ⟨g,7,none⟩=some (.slice pa pf.length pc):=(S2.out.cell 7).trans rfl;have z7:=S2.out.frozen 7)
  all_goals
   have L2:=OL0.out.kept G2.out (own_diff OL0.out OP0.out (by decide))
   have I2:=OI0.out.kept G2.out (own_diff OI0.out OP0.out (by decide))
   have R2:=row_grownN R0.out OP0.out (by decide) G2.out
   have X1:Hid (Row (w2.setCell ⟨g,7,none⟩ (.slice pa1 pf2.length pc1)) g 68 (svCells r h l v3 em se (.slice la lr.length lc) (.slice pa1 pf2.length pc1) lo un)):=S2.out.set 7 _
   have X2:=hide (own_setN S2.out 7 (.slice pa1 pf2.length pc1) (by decide) L2)
   have X3:=hide (own_setN S2.out 7 (.slice pa1 pf2.length pc1) (by decide) O2.out)
   have X4:=hide (own_setN S2.out 7 (.slice pa1 pf2.length pc1) (by decide) I2)
   have X5:=hide (row_other S2.out R2 (by decide) 7 (.slice pa1 pf2.length pc1))
   have X6:Hid (Chn (KpP g (.slice la lr.length lc) (.slice pa pf.length pc)) w (w2.setCell ⟨g,7,none⟩ (.slice pa1 pf2.length pc1))):=(CH0.out.grown G2.out (fun b hb=>.inl (.inr (.inr hb)))).set g 7 _ (.inl (.inl rfl))
   clear L2 I2 R2
   go_wp2
   go_meet
   case rel=>exact⟨pa1,pc1,X1,X2,X3,X4,X5,X6,M2⟩
 case rest =>
  obtain⟨pa1,pc1,S1,L1,P1,I1,R1,C1,M1⟩:=hcut
  generalize hwc:wc=w1 at *
  clear hwc S0 R0 OL0 OP0 OI0 TB0 CH0 C0 f1 f2 f3 HAL BD hsz
  have hsz1:w.heap.size<w1.heap.size:=R1.out.lt
  have HSZ:Hid (∀ w,Calls Tryd.prog 56 #[.agg #[.int .u8 (lt.toNat:Int),.slice a xs.length c]] w fun e w'=>e=.returned (.int .i64 ((xs.length:Int)+1))∧Below w.heap.size w w'):=fun w=>lineSize_any _ a xs.length c (by omega) w
  have C0:Hid (∀ w',Below w1.heap.size w1 w'→w'.cell? ⟨g,8,none⟩=some (.int .i64 lo)∧w'.cell? ⟨w.heap.size,0,none⟩=some (.int .u8 (lt.toNat:Int))∧w'.cell? ⟨w.heap.size,1,none⟩=some (.slice a xs.length c)):=fun w' hb=>⟨((row_below S1.out hb).cell 8).trans rfl,((row_below R1.out hb).cell 0).trans rfl,((row_below R1.out hb).cell 1).trans rfl⟩
  obtain⟨f1,f2,f3⟩:=C0.out w1 (Below.refl _ _)
  have BD:Hid (Below w1.heap.size w1 w1.drew):=below_drewN (Below.refl _ _) 1
  have hwr:IntKind.i64.wrap ((lo:Int)+((xs.length:Int)+1))=(lo:Int)+((xs.length:Int)+1):=by rw[IntKind.wrap_i64];omega
  go_wp2_with fail
  go_cut [] from 6 (fun wx=>Hid (Row wx g 68 (svCells r h l v3 em se (.slice la lr.length lc) (.slice pa1 pf2.length pc1) (lo+(xs.length+1)) un))∧Hid (wx.ownsRow 0 84 2 (.slice la lr.length lc) lr.length (prCells (prL lr)))∧Hid (wx.ownsRow 0 5 1 (.slice pa1 pf2.length pc1) pf2.length (c8 pf2))∧Hid (wx.ownsRow b0 3 1 (.slice a xs.length c) xs.length (i64s xs))∧Hid (Row wx w.heap.size 76 [.int .u8 (lt.toNat:Int),.slice a xs.length c])∧Hid (Chn (KpP g (.slice la lr.length lc) (.slice pa pf.length pc)) w wx))
  case first =>
   go_region_with (go_at_call 56;refine(unhide HSZ w1.drew).mono ?_;rintro e w2 ⟨rfl,hb2⟩;have B2:Hid (Below w1.heap.size w1 w2):=BD.out.trans (hb2.mono BD.out.size);clear hb2;obtain⟨f1,f2,f3⟩:=C0.out w2 B2.out;have z8:=(row_below S1.out B2.out).frozen 8)
   all_goals
    have S2:=row_below S1.out B2.out
    have he:((lo+(xs.length+1):Nat):Int)=(lo:Int)+((xs.length:Int)+1):=by omega
    have X1:Hid (Row (w2.setCell ⟨g,8,none⟩ (.int .i64 ((lo:Int)+((xs.length:Int)+1)))) g 68 (svCells r h l v3 em se (.slice la lr.length lc) (.slice pa1 pf2.length pc1) (lo+(xs.length+1)) un)):=by
     have:=S2.set 8 (.int .i64 ((lo:Int)+((xs.length:Int)+1)))
     show Row _ _ _ _
     unfold svCells
     rw[he]
     exact this
    have X2:=hide (own_setN S2 8 (.int .i64 ((lo:Int)+((xs.length:Int)+1))) (by decide) (own_below L1.out B2.out))
    have X3:=hide (own_setN S2 8 (.int .i64 ((lo:Int)+((xs.length:Int)+1))) (by decide) (own_below P1.out B2.out))
    have X4:=hide (own_setN S2 8 (.int .i64 ((lo:Int)+((xs.length:Int)+1))) (by decide) (own_below I1.out B2.out))
    have X5:=hide (row_other S2 (row_below R1.out B2.out) (by decide) 8 (.int .i64 ((lo:Int)+((xs.length:Int)+1))))
    have X6:Hid (Chn (KpP g (.slice la lr.length lc) (.slice pa pf.length pc)) w (w2.setCell ⟨g,8,none⟩ (.int .i64 ((lo:Int)+((xs.length:Int)+1))))):=(C1.out.below B2.out).set g 8 _ (.inl (.inl rfl))
    clear S2 he
    go_wp2
    go_meet
    case rel=>exact⟨X1,X2,X3,X4,X5,X6⟩
  case rest =>
   obtain⟨S2,L2,P2,I2,R2,C2⟩:=hcut
   generalize hwc:wc=w2 at *
   clear hwc S1 L1 P1 I1 R1 C1 C0 f1 f2 f3 BD hwr HSZ hsz1
   have f2:w2.cell? ⟨w.heap.size,0,none⟩=some (.int .u8 (lt.toNat:Int)):=(R2.out.cell 0).trans rfl
   have f3:w2.cell? ⟨w.heap.size,1,none⟩=some (.slice a xs.length c):=(R2.out.cell 1).trans rfl
   have HO:=hide (of_any a c xs w2 (by omega) (own_intsAt I2.out))
   have h2:=(Two.ok xs).eq
   rw[h2.1,h2.2] at HO
   clear h2
   have hs20:=setOk_lt xs
   generalize hsx:setOk xs=sx at *
   have HSX:=hide hsx
   clear hsx
   generalize xs.all litB=bb at HO
   go_wp2_with fail
   refine(unhide HO).mono ?_
   rintro e w3 ⟨rfl,hb3⟩
   have hbA:=alloc_below w3 (.cells #[.int .i64 (tN sx:Nat),.int .i64 (fN sx:Nat)] 84)
   have hb4:Below w2.heap.size w2 (w3.alloc (.cells #[.int .i64 (tN sx:Nat),.int .i64 (fN sx:Nat)] 84)):=hb3.trans (hbA.mono hb3.size)
   have r1:Row (w3.alloc (.cells #[.int .i64 (tN sx:Nat),.int .i64 (fN sx:Nat)] 84)) w3.heap.size 84 [.int .i64 (tN sx:Nat),.int .i64 (fN sx:Nat)]:=heap_alloc_new w3 _
   have X4:=hide r1
   have S4:=hide (row_below S2.out hb4)
   have L4:=hide (own_below L2.out hb4)
   have P4:=hide (own_below P2.out hb4)
   have C4:=hide (C2.out.below hb4)
   have hz3:w2.heap.size≤w3.heap.size:=hb3.size
   have hz2:w.heap.size≤w2.heap.size:=C2.out.size
   have g3:(w3.alloc (.cells #[.int .i64 (tN sx:Nat),.int .i64 (fN sx:Nat)] 84)).cell? ⟨w.heap.size,0,none⟩=some (.int .u8 (lt.toNat:Int)):=((row_below R2.out hb4).cell 0).trans rfl
   clear hb3 hbA hb4 r1 HO S2 L2 P2 I2 R2 C2 f2 f3
   have x0:(w3.alloc (.cells #[.int .i64 (tN sx:Nat),.int .i64 (fN sx:Nat)] 84)).cell? ⟨w3.heap.size,0,none⟩=some (.int .i64 (tN sx:Nat)):=(X4.out.cell 0).trans rfl
   have x1:(w3.alloc (.cells #[.int .i64 (tN sx:Nat),.int .i64 (fN sx:Nat)] 84)).cell? ⟨w3.heap.size,1,none⟩=some (.int .i64 (fN sx:Nat)):=(X4.out.cell 1).trans rfl
   have hB4:w3.heap.size<(w3.alloc (.cells #[.int .i64 (tN sx:Nat),.int .i64 (fN sx:Nat)] 84)).heap.size:=X4.out.lt
   have hgg:g<(w3.alloc (.cells #[.int .i64 (tN sx:Nat),.int .i64 (fN sx:Nat)] 84)).heap.size:=S4.out.lt
   rcases hlt with rfl|rfl|rfl
   ·have g3':(w3.alloc (.cells #[.int .i64 (tN sx:Nat),.int .i64 (fN sx:Nat)] 84)).cell? ⟨w.heap.size,0,none⟩=some (.int .u8 97):=g3
    have e8:(w3.alloc (.cells #[.int .i64 (tN sx:Nat),.int .i64 (fN sx:Nat)] 84)).cell? ⟨g,6,none⟩=some (.slice la lr.length lc):=(S4.out.cell 6).trans rfl
    have e8a:∀ o,((w3.alloc (.cells #[.int .i64 (tN sx:Nat),.int .i64 (fN sx:Nat)] 84)).alloc o).cell? ⟨g,6,none⟩=some (.slice la lr.length lc):=fun o=>((alloc_below (w3.alloc (.cells #[.int .i64 (tN sx:Nat),.int .i64 (fN sx:Nat)] 84)) o).cell (p:=⟨g,6,none⟩) hgg).trans e8
    have d1:Hid (lr.length+1≤maxLen):=by show _≤_;unfold maxLen;omega
    have d2:Hid ((lr.length+1)*16≤140737488355328):=by show _≤_;omega
    clear g3
    go_wp2_with fail
    generalize w3.alloc (.cells #[.int .i64 (tN sx:Nat),.int .i64 (fN sx:Nat)] 84)=w4 at *
    generalize hgb:w3.heap.size=gb at *
    clear hgb
    go_region_law (refine step_append_many _ rfl (.tmp 38) (.tmp 40) 65 rfl 0 84 i1 (.agg #[.int .i64 0,.int .i64 0]) 2 16 Tryd.undSets gi gz0 gz1 gz2 rfl (by decide) (.slice la lr.length lc) lr.length (prCells (prL lr)) rfl (by exact L4.out.alloc _) ⟨w4.heap.size,0,none⟩ 1 1 [.int .i64 (tN sx:Nat),.int .i64 (fN sx:Nat)] rfl rfl (by exact new_cells1 w4 [.int .i64 (tN sx:Nat),.int .i64 (fN sx:Nat)] 84) (by intro u hu;simp at hu;rcases hu with rfl|rfl <;> rfl) (by decide) d1.out d2.out (Nat.zero_le _) (w4.heap.size+1) (by simp) ?_;intro a5 c5 w5 hown5 hg5 hl5;have HG5:Hid ((w4.alloc (.cells [Value.int .i64 (tN sx:Nat),.int .i64 (fN sx:Nat)].toArray 84)).grownBy w5 (Value.slice la lr.length lc).ownBlock):=(by first | exact grown_undrew hg5 | exact hg5);have S5:=hide (row_grownN (row_below S4.out (alloc_below w4 _)) (L4.out.alloc _) (by decide) HG5.out);have g6:w5.cell? ⟨g,6,none⟩=some (.slice la lr.length lc):=(S5.out.cell 6).trans rfl;have z6:=S5.out.frozen 6)
    all_goals
     have Y1:Hid (Row (w5.setCell ⟨g,6,none⟩ (.slice a5 (lr.length+1) c5)) g 68 (svCells r h l v3 em se (.slice a5 (lr.length+1) c5) (.slice pa1 pf2.length pc1) (lo+(xs.length+1)) un)):=S5.out.set 6 _
     have Y2:=hide (own_setN S5.out 6 (.slice a5 (lr.length+1) c5) (by decide) hown5)
     have Y3:=hide (own_setN S5.out 6 (.slice a5 (lr.length+1) c5) (by decide) ((P4.out.alloc _).kept HG5.out (own_diff P4.out L4.out (by decide))))
     have Y4:Hid (Chn (KpP g (.slice la lr.length lc) (.slice pa pf.length pc)) w (w5.setCell ⟨g,6,none⟩ (.slice a5 (lr.length+1) c5))):=((C4.out.below (alloc_below w4 _)).grown HG5.out (fun b hb=>.inl (.inr (.inl hb)))).set g 6 _ (.inl (.inl rfl))
     have Y5:Hid (Mov (.slice la lr.length lc) (.slice a5 (lr.length+1) c5) w):=lies_mov hl5 (by omega)
     clear hown5 hg5 hl5
     go_wp2
     go_end0
     refine⟨rfl,a5,c5,pa1,pc1,?_⟩
     have ek:lrK 97 xs lr=lr++[sx]:=by unfold lrK;rw[if_pos rfl,HSX.out]
     have eu:unK 97 un=un:=by unfold unK;rw[if_neg (by decide)]
     rw[ek,eu,HPF.out,List.length_append,List.length_singleton,prL_snoc,← prCells_snoc]
     exact⟨Y1.out,Y2.out,Y3.out,Y4.out,Y5.out,M1.out⟩
   ·have g3':(w3.alloc (.cells #[.int .i64 (tN sx:Nat),.int .i64 (fN sx:Nat)] 84)).cell? ⟨w.heap.size,0,none⟩=some (.int .u8 100):=g3
    have e8:(w3.alloc (.cells #[.int .i64 (tN sx:Nat),.int .i64 (fN sx:Nat)] 84)).cell? ⟨g,6,none⟩=some (.slice la lr.length lc):=(S4.out.cell 6).trans rfl
    have HLO:Hid (∀ w',Below (w3.alloc (.cells #[.int .i64 (tN sx:Nat),.int .i64 (fN sx:Nat)] 84)).heap.size (w3.alloc (.cells #[.int .i64 (tN sx:Nat),.int .i64 (fN sx:Nat)] 84)) w'→Calls Tryd.prog 57 #[.slice la lr.length lc,.agg #[.int .i64 (tN sx:Nat),.int .i64 (fN sx:Nat)]] w' fun e w''=>(∃ a' c',e=.returned (.slice a' (lr.erase sx).length c')∧w''.ownsRow w'.heap.size 84 2 (.slice a' (lr.erase sx).length c') (lr.erase sx).length (prCells (prL (lr.erase sx))))∧Below w'.heap.size w' w''):=fun w' hb=>leaveOut_any la lc lr sx w' (by
     have:=own_below L4.out hb
     have ol':w'.ownsRow 0 84 2 (.slice la (prL lr).length lc) (prL lr).length (prCells (prL lr)):=by rw[prL_len];exact this
     exact sets_own ol') hll HLR.out hs20
    have BD:Hid (Below (w3.alloc (.cells #[.int .i64 (tN sx:Nat),.int .i64 (fN sx:Nat)] 84)).heap.size (w3.alloc (.cells #[.int .i64 (tN sx:Nat),.int .i64 (fN sx:Nat)] 84)) (w3.alloc (.cells #[.int .i64 (tN sx:Nat),.int .i64 (fN sx:Nat)] 84)).drew):=below_drewN (Below.refl _ _) 1
    clear g3
    generalize hle:lr.erase sx=le at *
    have HLE:=hide hle
    clear hle
    go_wp2_with fail
    generalize w3.alloc (.cells #[.int .i64 (tN sx:Nat),.int .i64 (fN sx:Nat)] 84)=w4 at *
    generalize hgb:w3.heap.size=gb at *
    clear hgb
    go_region_with (go_at_call 57;refine(unhide HLO w4.drew BD.out).mono ?_;rintro e w5 ⟨⟨a5,c5,rfl,ho5⟩,hb5⟩;have O5:=hide ho5;have B5:Hid (Below w4.heap.size w4 w5):=BD.out.trans (hb5.mono BD.out.size);clear ho5 hb5;have S5:=hide (row_below S4.out B5.out);have g6:w5.cell? ⟨g,6,none⟩=some (.slice la lr.length lc):=(S5.out.cell 6).trans rfl;have z6:=S5.out.frozen 6)
    all_goals
     have Y1:Hid (Row (w5.setCell ⟨g,6,none⟩ (.slice a5 le.length c5)) g 68 (svCells r h l v3 em se (.slice a5 le.length c5) (.slice pa1 pf2.length pc1) (lo+(xs.length+1)) un)):=S5.out.set 6 _
     have Y2:=hide (own_setN S5.out 6 (.slice a5 le.length c5) (by decide) (own_low O5.out (Nat.zero_le _)))
     have Y3:=hide (own_setN S5.out 6 (.slice a5 le.length c5) (by decide) (own_below P4.out B5.out))
     have Y4:Hid (Chn (KpP g (.slice la lr.length lc) (.slice pa pf.length pc)) w (w5.setCell ⟨g,6,none⟩ (.slice a5 le.length c5))):=(C4.out.below B5.out).set g 6 _ (.inl (.inl rfl))
     have Y5:Hid (Mov (.slice la lr.length lc) (.slice a5 le.length c5) w):=fun b hb=>.inr (by have:=(O5.out.lt b hb).1;have h4:=C4.out.size;have:w4.heap.size≤b:=this;omega)
     go_wp2
     go_end0
     refine⟨rfl,a5,c5,pa1,pc1,?_⟩
     have ek:lrK 100 xs lr=le:=by unfold lrK;rw[if_neg (by decide),if_pos rfl,HSX.out,HLE.out]
     have eu:unK 100 un=un:=by unfold unK;rw[if_neg (by decide)]
     rw[ek,eu,HPF.out]
     exact⟨Y1.out,Y2.out,Y3.out,Y4.out,Y5.out,M1.out⟩
   ·have g3':(w3.alloc (.cells #[.int .i64 (tN sx:Nat),.int .i64 (fN sx:Nat)] 84)).cell? ⟨w.heap.size,0,none⟩=some (.int .u8 101):=g3
    have e9:(w3.alloc (.cells #[.int .i64 (tN sx:Nat),.int .i64 (fN sx:Nat)] 84)).cell? ⟨g,9,none⟩=some (.int .i64 un):=(S4.out.cell 9).trans rfl
    have z9:=S4.out.frozen 9
    have hwr:IntKind.i64.wrap ((un:Int)+1)=(un:Int)+1:=by rw[IntKind.wrap_i64];omega
    have he:((un+1:Nat):Int)=(un:Int)+1:=by omega
    have Y1:Hid (Row ((w3.alloc (.cells #[.int .i64 (tN sx:Nat),.int .i64 (fN sx:Nat)] 84)).setCell ⟨g,9,none⟩ (.int .i64 ((un:Int)+1))) g 68 (svCells r h l v3 em se (.slice la lr.length lc) (.slice pa1 pf2.length pc1) (lo+(xs.length+1)) (un+1))):=by
     have:=S4.out.set 9 (.int .i64 ((un:Int)+1))
     show Row _ _ _ _
     unfold svCells
     rw[he]
     exact this
    have Y2:=hide (own_setN S4.out 9 (.int .i64 ((un:Int)+1)) (by decide) L4.out)
    have Y3:=hide (own_setN S4.out 9 (.int .i64 ((un:Int)+1)) (by decide) P4.out)
    have Y4:Hid (Chn (KpP g (.slice la lr.length lc) (.slice pa pf.length pc)) w ((w3.alloc (.cells #[.int .i64 (tN sx:Nat),.int .i64 (fN sx:Nat)] 84)).setCell ⟨g,9,none⟩ (.int .i64 ((un:Int)+1)))):=C4.out.set g 9 _ (.inl (.inl rfl))
    clear g3 he
    go_wp2
    go_end0
    refine⟨rfl,la,lc,pa1,pc1,?_⟩
    have ek:lrK 101 xs lr=lr:=by unfold lrK;rw[if_neg (by decide),if_neg (by decide)]
    have eu:unK 101 un=un+1:=by unfold unK;rw[if_pos rfl]
    rw[ek,eu,HPF.out]
    exact⟨Y1.out,Y2.out,Y3.out,Y4.out,Mov.refl _ _,M1.out⟩
end Go.Proofs.YthboeppmlhbofabDoor
