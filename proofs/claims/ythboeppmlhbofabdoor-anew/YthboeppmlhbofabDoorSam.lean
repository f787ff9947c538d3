import Derived.Test.YthboeppmlhbofabDoorTxt
import Derived.Test.YthboeppmlhbofabDoorKbp
namespace Go.Proofs.YthboeppmlhbofabDoor
open Go.RowKit Txt
set_option maxRecDepth 100000
set_option maxHeartbeats 2000000 in
theorem sameLists_any(a1 a2:Option Addr)(c1 c2:Nat)(A1 A2:Nat→Option Addr)(C1 C2:Nat→Nat)(xss yss:List (List Int))(w:World)
  (hx:xss.length≤9223372036854775807) (hr1:RowsAt w a1 A1 C1 xss) (hr2:RowsAt w a2 A2 C2 yss) :
  Calls Tryd.prog 25 #[.slice a1 xss.length c1,.slice a2 yss.length c2] w fun e w'=>e=.returned (.bool (eqB xss yss))∧∃ m,w'=w.drewN m:=by
 by_cases hlen:¬ xss.length=yss.length
 ·have hne:((xss.length:Int) != (yss.length:Int))=true:=by rw[bne_iff_ne];omega
  have H:Hid (eqB xss yss=false):=eqB_len _ _ hlen
  clear hlen
  go_enter Tryd.func25,Tryd.ntmps25
  go_wp2
  go_ret
  exact⟨ret_bool H.out.symm,0,rfl⟩
 have hne:((xss.length:Int) != (yss.length:Int))=false:=by rw[bne_eq_false_iff_eq];omega
 have hlen:=Decidable.not_not.1 hlen
 have HL:Hid (xss.length=yss.length):=hlen
 clear hlen
 go_enter Tryd.func25,Tryd.ntmps25
 go_wp2
 go_loopw [5] (fun i wr=>∃ k m:Nat,k≤xss.length∧i=.int .i64 k∧Hid (eqB xss yss=eqB (xss.drop k) (yss.drop k))∧wr=w.drewN m) (fun i _=>xss.length - (intOf i).toNat)
 case atStart=>exact⟨0,0,Nat.zero_le _,rfl,rfl,rfl⟩
 case round =>
  obtain⟨k,m,hk,rfl,hl,rfl⟩:=hrel
  by_cases hlt:k<xss.length
  ·have hlt2:k<yss.length:=by have:=HL.out;omega
   obtain⟨b1,o1,rfl,hc1⟩:=hr1.get (by omega)
   obtain⟨b2,o2,rfl,hc2⟩:=hr2.get (by omega)
   obtain⟨p1,q1,s1⟩:=hc1 k hlt
   obtain⟨p2,q2,s2⟩:=hc2 k hlt2
   have HD:Hid (eqB (xss.drop k) (yss.drop k)=(eqB (xss.getD k []) (yss.getD k []) && eqB (xss.drop (k+1)) (yss.drop (k+1)))):=eqB_drop xss yss [] k hlt hlt2
   clear hc1 hc2 hr1 hr2
   generalize xss.getD k []=xs at p1 q1 s1 HD
   generalize yss.getD k []=ys at p2 q2 s2 HD
   generalize A1 k=a1 at p1 q1
   generalize A2 k=a2 at p2 q2
   generalize C1 k=c1 at p1
   generalize C2 k=c2 at p2
   by_cases hlen:xs.length=ys.length
   ·have hne2:((xs.length:Int) != (ys.length:Int))=false:=by rw[bne_eq_false_iff_eq];omega
    have HM:Hid (xs.length=ys.length):=hlen
    clear hlen
    go_wp2
    go_quiet (fail)
    go_wp2
    go_loopw [6] (fun i wr=>∃ j m2:Nat,j≤xs.length∧i=.int .i64 j∧Hid (eqB xs ys=eqB (xs.drop j) (ys.drop j))∧wr=w.drewN m2) (fun i _=>xs.length - (intOf i).toNat)
    case atStart=>exact⟨0,_,Nat.zero_le _,rfl,rfl,World.drewN_drewN _ _ _⟩
    case round =>
     obtain⟨j,m2,hj,rfl,hl2,rfl⟩:=hrel
     by_cases hjl:j<xs.length
     ·have hjl2:j<ys.length:=by have:=HM.out;omega
      obtain⟨b3,o3,rfl,hc3⟩:=q1.get (by omega)
      obtain⟨b4,o4,rfl,hc4⟩:=q2.get (by omega)
      have r3:=hc3 j hjl
      have r4:=hc4 j hjl2
      have HE:Hid (eqB (xs.drop j) (ys.drop j)=(eqB (xs.getD j 0) (ys.getD j 0) && eqB (xs.drop (j+1)) (ys.drop (j+1)))):=eqB_drop xs ys 0 j hjl hjl2
      clear hc3 hc4 q1 q2 hne2 hne
      generalize xs.getD j 0=x at r3 HE
      generalize ys.getD j 0=y at r4 HE
      cases hb:(x != y)
      ·have H:Hid (eqB x y=true):=by show _=_;rw[bne_eq_false_iff_eq] at hb;simp[eqB,hb]
       go_wp2
       go_quiet (fail)
       go_wp2
       go_roundw
       case rel=>exact⟨j+1,_,by omega,by go_num,by show _=_;rw[hl2.out,HE.out,H.out] <;> rfl,rfl⟩
       case measure=>simp[intOf];omega
      ·have H:Hid (eqB x y=false):=by show _=_;rw[bne_iff_ne] at hb;simp[eqB,hb]
       go_wp2
       go_quiet (fail)
       go_wp2
       go_ret
       exact⟨ret_bool (by rw[hl.out,HD.out,hl2.out,HE.out,H.out] <;> rfl),_,World.drewN_drewN _ _ _⟩
     ·have HE:Hid (eqB (xs.drop j) (ys.drop j)=true):=eqB_end _ _ _ (by omega) (by have:=HM.out;omega)
      go_wp2
      go_roundw
      case rel=>exact⟨k+1,m2,by omega,by go_num,by show _=_;rw[hl.out,HD.out,hl2.out,HE.out] <;> rfl,rfl⟩
      case measure=>simp[intOf];omega
   ·have hne2:((xs.length:Int) != (ys.length:Int))=true:=by rw[bne_iff_ne];omega
    have H:Hid (eqB xs ys=false):=eqB_len _ _ hlen
    clear hlen
    go_wp2
    go_quiet (fail)
    go_wp2
    go_ret
    exact⟨ret_bool (by rw[hl.out,HD.out,H.out] <;> rfl),_,World.drewN_drewN _ _ _⟩
  ·have HE:Hid (eqB (xss.drop k) (yss.drop k)=true):=eqB_end _ _ _ (by omega) (by have:=HL.out;omega)
   go_wp2
   go_ret
   exact⟨ret_bool (by rw[hl.out,HE.out] <;> rfl),m,rfl⟩
theorem rows3{w:World}{g:Nat}{x:Ans}{p:A3}(hr:Row w g 23 [.slice p.a1 x.vs.length p.c1,.slice p.a2 x.co.length p.c2,.slice p.a3 x.cl.length p.c3])(h1:IntsAt w p.a1 x.vs)(h2:IntsAt w p.a2 x.co)(h3:IntsAt w p.a3 x.cl)(hl:x.vs.length≤1000∧x.co.length≤1000∧x.cl.length≤1000) :
  RowsAt w (some ⟨g,0,none⟩) (fun r=>if r=0 then p.a1 else if r=1 then p.a2 else p.a3) (fun r=>if r=0 then p.c1 else if r=1 then p.c2 else p.c3) [x.vs,x.co,x.cl]:=by
 refine .inr ⟨g,0,rfl,fun r hr'=>?_⟩
 rw[Nat.zero_add]
 have hr3:r=0∨r=1∨r=2:=by simp only[List.length_cons,List.length_nil] at hr';omega
 rcases hr3 with rfl|rfl|rfl
 ·exact⟨(hr.cell 0).trans rfl,h1,by show x.vs.length≤_;omega⟩
 ·exact⟨(hr.cell 1).trans rfl,h2,by show x.co.length≤_;omega⟩
 ·exact⟨(hr.cell 2).trans rfl,h3,by show x.cl.length≤_;omega⟩
theorem eqB_self(xss:List (List Int)):eqB xss xss=true:=by
 unfold eqB
 exact decide_eq_true rfl
structure AnM(P:Prg)(w:World)(g1 g2:Nat)(tk:List (List Int))(ta2:Option Addr)(tc2:Nat)(vs2:List Value)(T1 T2 NB:Nat)(ra rb:List Value)(K:Nat→Prop)(a4:Option Addr)(c4:Nat)(l:List Int)(wr:World)(s1 s2:P.S)(F1 F2:Nat→Prop):Prop where
 duo:Duo P w wr g1 g2 s1 s2 F1 F2 K
 t1:Row wr T1 26 ra
 t2:Row wr T2 26 rb
 nb:Row wr NB 46 [.int .i64 0,.int .i64 0,.int .i64 0,.int .i64 0,.int .i64 0,.int .i64 0,.int .i64 0]
 tkn:Tkn wr w.heap.size ta2 tc2 vs2 tk
 own:wr.ownsRow w.heap.size 3 1 (.slice a4 l.length c4) l.length (i64s l)
 kk:K T1∧K T2∧K NB∧(∀ b,TkB ta2 tc2 vs2 b→K b)∧∀ b,(Value.slice a4 l.length c4).ownBlock=some b→K b
theorem AnM.below{P:Prg}{w:World}{g1 g2:Nat}{tk:List (List Int)}{ta2:Option Addr}{tc2:Nat}{vs2:List Value}{T1 T2 NB:Nat}{ra rb:List Value}{K:Nat→Prop}{a4:Option Addr}{c4:Nat}{l:List Int}{wr wz:World}{s1 s2:P.S}{F1 F2:Nat→Prop}(h:AnM P w g1 g2 tk ta2 tc2 vs2 T1 T2 NB ra rb K a4 c4 l wr s1 s2 F1 F2)(hb:Below wr.heap.size wr wz):AnM P w g1 g2 tk ta2 tc2 vs2 T1 T2 NB ra rb K a4 c4 l wz s1 s2 F1 F2 :=
 ⟨h.duo.below hb,row_below h.t1 hb,row_below h.t2 hb,row_below h.nb hb,h.tkn.below hb,own_below h.own hb,h.kk⟩
theorem AnM.call1{P:Prg}{w:World}{g1 g2:Nat}{tk:List (List Int)}{ta2:Option Addr}{tc2:Nat}{vs2:List Value}{T1 T2 NB:Nat}{ra rb:List Value}{K:Nat→Prop}{a4:Option Addr}{c4:Nat}{l:List Int}{wr w':World}{s1 s2 s':P.S}{F1 F2 F':Nat→Prop}(h:AnM P w g1 g2 tk ta2 tc2 vs2 T1 T2 NB ra rb K a4 c4 l wr s1 s2 F1 F2)(x:P.At w' g1 s' F')(c:Chn F1 wr w')(n:∀ b,F' b→F1 b∨wr.heap.size≤b):AnM P w g1 g2 tk ta2 tc2 vs2 T1 T2 NB ra rb K a4 c4 l w' s' s2 F' F2:=by
 obtain⟨d,q⟩:=h.duo.call1 x c n
 exact⟨d,row_keep h.t1 (q _ h.kk.1),row_keep h.t2 (q _ h.kk.2.1),row_keep h.nb (q _ h.kk.2.2.1),h.tkn.frame (fun b e=>q b (h.kk.2.2.2.1 b e)),own_keep h.own (fun b e=>q b (h.kk.2.2.2.2 b e)),h.kk⟩
theorem AnM.call2{P:Prg}{w:World}{g1 g2:Nat}{tk:List (List Int)}{ta2:Option Addr}{tc2:Nat}{vs2:List Value}{T1 T2 NB:Nat}{ra rb:List Value}{K:Nat→Prop}{a4:Option Addr}{c4:Nat}{l:List Int}{wr w':World}{s1 s2 s':P.S}{F1 F2 F':Nat→Prop}(h:AnM P w g1 g2 tk ta2 tc2 vs2 T1 T2 NB ra rb K a4 c4 l wr s1 s2 F1 F2)(x:P.At w' g2 s' F')(c:Chn F2 wr w')(n:∀ b,F' b→F2 b∨wr.heap.size≤b):AnM P w g1 g2 tk ta2 tc2 vs2 T1 T2 NB ra rb K a4 c4 l w' s1 s' F1 F':=by
 obtain⟨d,q⟩:=h.duo.call2 x c n
 exact⟨d,row_keep h.t1 (q _ h.kk.1),row_keep h.t2 (q _ h.kk.2.1),row_keep h.nb (q _ h.kk.2.2.1),h.tkn.frame (fun b e=>q b (h.kk.2.2.2.1 b e)),own_keep h.own (fun b e=>q b (h.kk.2.2.2.2 b e)),h.kk⟩
theorem tkS_short{P:Prg}{cls:List (List Int)}:∀ c∈(tkS P cls).2,c.length≤12:=by
 intro c hc
 have h1:=(begL_len P (P.new 0 1048576 1048576) (begC cls)).2 c hc
 unfold begC at h1
 obtain⟨d,_,rfl⟩:=List.mem_map.1 h1
 simp
 omega
theorem new_counts(P:Prg){w:World}{g:Nat}{F:Nat→Prop}(h:P.At w g (P.new 0 1048576 1048576) F):Calls Tryd.prog 21 #[.pointer (some ⟨g,0,none⟩)] w fun e w'=>e=.returned (.agg #[.int .i64 0,.int .i64 0,.int .i64 0,.int .i64 0,.int .i64 0,.int .i64 0,.int .i64 0])∧Below w.heap.size w w':=by
 obtain⟨ok,hv⟩:=P.newV 0 1048576 1048576 (by decide)
 have:=P.countsC h ok (by rw[hv];decide)
 rw[hv] at this
 exact this
theorem new_proof(P:Prg){w:World}{g:Nat}{F:Nat→Prop}(h:P.At w g (P.new 0 1048576 1048576) F):Calls Tryd.prog 14 #[.pointer (some ⟨g,0,none⟩)] w fun e w'=>e=.returned (.string ⟨#[]⟩)∧Below w.heap.size w w':=by
 obtain⟨ok,hv⟩:=P.newV 0 1048576 1048576 (by decide)
 have:=P.proofC h ok
 rw[hv] at this
 exact this
theorem AnM.put7{P:Prg}{w:World}{g1 g2:Nat}{tk:List (List Int)}{ta2:Option Addr}{tc2:Nat}{vs2:List Value}{T1 T2 NB:Nat}{ra rb:List Value}{K:Nat→Prop}{a4:Option Addr}{c4:Nat}{l:List Int}{wr:World}{s1 s2:P.S}{F1 F2:Nat→Prop}(h:AnM P w g1 g2 tk ta2 tc2 vs2 T1 T2 NB ra rb K a4 c4 l wr s1 s2 F1 F2)(hz:w.heap.size≤NB)(v0 v1 v2 v3 v4 v5 v6:Value) :
  Duo P w (((((((wr.setCell ⟨NB,0,none⟩ v0).setCell ⟨NB,1,none⟩ v1).setCell ⟨NB,2,none⟩ v2).setCell ⟨NB,3,none⟩ v3).setCell ⟨NB,4,none⟩ v4).setCell ⟨NB,5,none⟩ v5).setCell ⟨NB,6,none⟩ v6) g1 g2 s1 s2 F1 F2 K∧(∀ b,b≠NB→(((((((wr.setCell ⟨NB,0,none⟩ v0).setCell ⟨NB,1,none⟩ v1).setCell ⟨NB,2,none⟩ v2).setCell ⟨NB,3,none⟩ v3).setCell ⟨NB,4,none⟩ v4).setCell ⟨NB,5,none⟩ v5).setCell ⟨NB,6,none⟩ v6).heap[b]?=wr.heap[b]?) ∧
   Row (((((((wr.setCell ⟨NB,0,none⟩ v0).setCell ⟨NB,1,none⟩ v1).setCell ⟨NB,2,none⟩ v2).setCell ⟨NB,3,none⟩ v3).setCell ⟨NB,4,none⟩ v4).setCell ⟨NB,5,none⟩ v5).setCell ⟨NB,6,none⟩ v6) NB 46 [v0,v1,v2,v3,v4,v5,v6]:=by
 have hk:=h.kk.2.2.1
 refine⟨((((((h.duo.set hk hz 0 v0).set hk hz 1 v1).set hk hz 2 v2).set hk hz 3 v3).set hk hz 4 v4).set hk hz 5 v5).set hk hz 6 v6,fun b hb=>?_,?_⟩
 ·rw[Below.heap_setCell _ ⟨NB,6,none⟩ v6 b hb,Below.heap_setCell _ ⟨NB,5,none⟩ v5 b hb,Below.heap_setCell _ ⟨NB,4,none⟩ v4 b hb,Below.heap_setCell _ ⟨NB,3,none⟩ v3 b hb,Below.heap_setCell _ ⟨NB,2,none⟩ v2 b hb,Below.heap_setCell _ ⟨NB,1,none⟩ v1 b hb,Below.heap_setCell _ ⟨NB,0,none⟩ v0 b hb]
 ·exact((((((h.nb.set 0 v0).set 1 v1).set 2 v2).set 3 v3).set 4 v4).set 5 v5).set 6 v6
set_option maxHeartbeats 8000000 in
theorem anew_any(P:Prg)(a b a2:Option Addr)(c cb c2:Nat)(A:Nat→Option Addr)(C:Nat→Nat)(A':Nat→Option Addr)(C':Nat→Nat)(cls bef:List (List Int))(xs:List Int)(w:World)(hr:RowsAt w a A C cls)(hcl:cls.length≤9223372036854775807)(_hcb:∀ c∈cls,∀ x∈c,-9223372036854775808≤x∧x≤9223372036854775807)(hr':RowsAt w b A' C' bef)(hcl':bef.length≤9223372036854775807)(_hcb':∀ c∈bef,∀ x∈c,-9223372036854775808≤x∧x≤9223372036854775807)(hi:IntsAt w a2 xs)(hx:xs.length≤9223372036854775807)(hxb:∀ x∈xs,-9223372036854775808≤x∧x≤9223372036854775807)(htab:Tab w)(h0:0<w.heap.size) :
  Calls Tryd.prog 8 #[.slice a cls.length c,.slice b bef.length cb,.slice a2 xs.length c2] w fun e w'=>e=.returned (.bool true)∧Below w.heap.size w w':=by
 have HW1:Hid (Calls Tryd.prog 10 #[.slice b bef.length cb] w (BegPost P w (tkS P bef).1 (tkS P bef).2)):=widely_any P b cb A' C' bef w hr' hcl'
 have HWD:Hid (∀ w',Below w.heap.size w w'→Calls Tryd.prog 10 #[.slice a cls.length c] w' (BegPost P w' (tkS P cls).1 (tkS P cls).2)):=fun w' hb=>widely_any P a c A C cls w' (rows_below hr hb) hcl
 have T:=tkS_ok P bef
 have U:=tkS_ok P cls
 have hlT:=T.len (tkS_len P bef)
 have hlU:=U.len (tkS_len P cls)
 have h40:=tkS_len P cls
 have HLI:Hid (∀ w',Below w.heap.size w w'→Calls Tryd.prog 11 #[] w' fun e w''=>e=.returned (.bool true)∧Below w'.heap.size w' w''):=fun w' hb=>lives_any P w' (htab.below hb h0) (Nat.lt_of_lt_of_le h0 hb.size)
 have HWI:Hid (∀ w',Below w.heap.size w w'→Calls Tryd.prog 12 #[.slice a2 xs.length c2] w' fun e w''=>∃ a' c',e=.returned (.slice a' (wishL xs).length c')∧w''.ownsRow w'.heap.size 3 1 (.slice a' (wishL xs).length c') (wishL xs).length (i64s (wishL xs))∧Below w'.heap.size w' w''):=fun w' hb=>wishes_any a2 c2 xs w' (hi.below hb) hx hxb
 have hwl:=wishL_len xs
 have ha0:askedD (wishL xs) 0=0:=wishL_asked xs
 have ha3:askedD (wishL xs) 3=0:=lits_asked (wishL_lits xs) (by omega) (by decide)
 obtain⟨okS,hrst⟩:=anew_state T ha3
 have hlen:(P.ans (tkS P cls).1 (wishL xs) 0).vs.length≤1000∧(P.ans (tkS P cls).1 (wishL xs) 0).co.length≤1000∧(P.ans (tkS P cls).1 (wishL xs) 0).cl.length≤1000:=by
  obtain⟨_,ls,st,so⟩:=P.slvV _ _ 0 U.ok ha0
  exact⟨so.len.1,so.len.2.1,so.len.2.2.1⟩
 obtain⟨okE,hvE⟩:=slv_hv U.ok ha0
 have TB:=hide htab
 have HTO:=hide T.ok
 have HUO:=hide U.ok
 have HOS:=hide okS
 have HOE:=hide okE
 have HRST:=hide hrst
 obtain⟨okN,hvN⟩:=P.newV 0 1048576 1048576 (by decide)
 have hst:(tkS P cls).2.foldl P.add (P.new 0 1048576 1048576)=(tkS P cls).1:=(beg_fold (P.new 0 1048576 1048576) (begC cls)).1
 have her:∀ k,k<(tkS P cls).2.length→errOf (takenK ((tkS P cls).2.getD k []) (litsN (P.vw (((tkS P cls).2.take k).foldl P.add (P.new 0 1048576 1048576))).hv))=0:=(beg_fold (P.new 0 1048576 1048576) (begC cls)).2
 have HST:=hide hst
 have HER:=hide her
 have HOK:Hid (∀ k,P.Ok (((tkS P cls).2.take k).foldl P.add (P.new 0 1048576 1048576))):=fun k=>fold_ok okN _
 have HHV:Hid (∀ k,(P.vw (((tkS P cls).2.take k).foldl P.add (P.new 0 1048576 1048576))).hv.length≤1000):=fun k=>by
  have h1:=fold_hv okN ((tkS P cls).2.take k)
  rw[hvN] at h1
  have h2:((tkS P cls).2.take k).length≤40:=by simp;omega
  have h3:(Vw.none 0 1048576 1048576).hv.length=0:=rfl
  omega
 have HSH:Hid (∀ k,k<(tkS P cls).2.length→((tkS P cls).2.getD k []).length≤12):=fun k hk=>by
  rw[List.getD_eq_getElem?_getD,List.getElem?_eq_getElem hk]
  exact tkS_short _ (List.getElem_mem hk)
 have hlE:(P.vw (P.slv (tkS P cls).1 (wishL xs) 0)).hv.length≤1000:=by rw[hvE];exact hlU
 have HNC:Hid (∀ (w:World) (g:Nat) (F:Nat→Prop),P.At w g (P.new 0 1048576 1048576) F→Calls Tryd.prog 21 #[.pointer (some ⟨g,0,none⟩)] w fun e w'=>e=.returned (.agg #[.int .i64 0,.int .i64 0,.int .i64 0,.int .i64 0,.int .i64 0,.int .i64 0,.int .i64 0])∧Below w.heap.size w w'):=fun w g F h=>new_counts P h
 have HNP:Hid (∀ (w:World) (g:Nat) (F:Nat→Prop),P.At w g (P.new 0 1048576 1048576) F→Calls Tryd.prog 14 #[.pointer (some ⟨g,0,none⟩)] w fun e w'=>e=.returned (.string ⟨#[]⟩)∧Below w.heap.size w w'):=fun w g F h=>new_proof P h
 generalize tkS P cls=skU at *
 generalize tkS P bef=skT at *
 generalize wishL xs=l at *
 generalize P.new 0 1048576 1048576=N0 at *
 clear hr hr' hi hxb htab T U hrst hst her okS okE okN hvN hvE
 go_enter Tryd.func8,Tryd.ntmps8
 go_wp2_with fail
 refine(unhide HW1).mono ?_
 rintro e w1 ⟨g1,F1,ta1,tc1,vs1,rfl,X1,hb1⟩
 have HW2:=hide (HWD.out (w1.alloc (.cells #[.pointer (some ⟨g1,0,none⟩),.slice ta1 skT.2.length tc1,.bool true] 26)) (hb1.trans ((al_below w1 _).mono hb1.size)))
 have X1H:=hide X1
 have B1H:=hide hb1
 clear HW1 HWD X1 hb1
 go_wp2_with fail
 refine(unhide HW2).mono ?_
 rintro e w2 ⟨g2,F2,ta2,tc2,vs2,rfl,X2,hb2⟩
 obtain⟨D2,R1,R2,K2⟩:=duo_start (r1:=[.pointer (some ⟨g1,0,none⟩),.slice ta1 skT.2.length tc1,.bool true]) (r2:=[.pointer (some ⟨g2,0,none⟩),.slice ta2 skU.2.length tc2,.bool true]) rfl rfl (Below.refl _ _) X1H.out B1H.out X2 hb2
 have HL:=hide (HLI.out _ D2.bel)
 have D2H:=hide D2
 have R1H:=hide R1
 have R2H:=hide R2
 have K2H:=hide K2
 clear HW2 X1H B1H X2 hb2 D2 R1 R2 K2 HLI
 go_wp2_with fail
 refine(unhide HL).mono ?_
 rintro e w4 ⟨rfl,hb4⟩
 have D4:=hide (D2H.out.below hb4)
 have R1:=hide (row_below R1H.out hb4)
 have R2:=hide (row_below R2H.out hb4)
 have K4:=hide (K2H.out.below hb4)
 have f12:w4.cell? ⟨w1.heap.size,2,none⟩=some (.bool true):=(R1.out.cell 2).trans rfl
 have f22:w4.cell? ⟨w2.heap.size,2,none⟩=some (.bool true):=(R2.out.cell 2).trans rfl
 have HW5:=hide (HWI.out _ D4.out.bel)
 clear HL D2H R1H R2H K2H hb4 HWI
 go_wp2_with fail
 refine(unhide HW5).mono ?_
 rintro e w5 ⟨a4,c4,rfl,o5,hb5⟩
 have z4:w.heap.size≤w4.heap.size:=D4.out.bel.size
 have d5:=(D4.out.below hb5).moreP (fun b=>(Value.slice a4 l.length c4).ownBlock=some b) fun b q=>⟨fun e=>by have h1:=P.lt D4.out.x1 b e;have h2:=(o5.lt b q).1;omega,fun e=>by have h1:=P.lt D4.out.x2 b e;have h2:=(o5.lt b q).1;omega,(o5.lt b q).2⟩
 have D5:=hide d5
 have R15:=hide (row_below R1.out hb5)
 have R25:=hide (row_below R2.out hb5)
 have K5:=hide (K4.out.below hb5)
 have O5:=hide (own_low o5 z4)
 have g0:w5.cell? ⟨w1.heap.size,0,none⟩=some (.pointer (some ⟨g1,0,none⟩)):=(R15.out.cell 0).trans rfl
 have z5:w.heap.size≤w5.heap.size:=d5.bel.size
 have HS1:=hide (solve_list P d5.x1 HTO.out hlT (TB.out.below d5.bel h0) (by omega) (fun q=>by have:=d5.b1 0 q;omega) o5 (fun q hq e=>d5.k1 q (.inr e) hq) (by omega) 3)
 rw[ha3] at HS1
 generalize P.ans skT.1 l 3=x3 at *
 clear d5 HW5 o5 hb5 D4 R1 R2 K4 f12 f22
 go_wp2_with fail
 refine(unhide HS1).mono ?_
 rintro e w6 ⟨p,rfl,F6,x6,c6,n6⟩
 obtain⟨d6,k6⟩:=D5.out.call1 x6 c6 n6
 have D6:=hide d6
 have R16:=hide (row_keep R15.out (k6 _ (.inl (.inl rfl))))
 have R26:=hide (row_keep R25.out (k6 _ (.inl (.inr (.inl rfl)))))
 have K6:=hide (K5.out.frame fun b q=>k6 b (.inl (.inr (.inr q))))
 have O6:=hide (own_keep O5.out fun b q=>k6 b (.inr q))
 have g6:w6.cell? ⟨w1.heap.size,0,none⟩=some (.pointer (some ⟨g1,0,none⟩)):=(R16.out.cell 0).trans rfl
 have HRS:=hide (P.rstC d6.x1 HOS.out)
 rw[HRST.out] at HRS
 clear d6 k6 x6 c6 n6 HS1 D5 R15 R25 K5 O5 g0
 go_wp2_with fail
 refine(unhide HRS).mono ?_
 rintro e w7 ⟨rfl,F7,x7,c7,n7,_⟩
 obtain⟨d7,k7⟩:=D6.out.call1 x7 c7 n7
 have D7:=hide d7
 have R17:=hide (row_keep R16.out (k7 _ (.inl (.inl rfl))))
 have R27:=hide (row_keep R26.out (k7 _ (.inl (.inr (.inl rfl)))))
 have K7:=hide (K6.out.frame fun b q=>k7 b (.inl (.inr (.inr q))))
 have O7:=hide (own_keep O6.out fun b q=>k7 b (.inr q))
 have g7:w7.cell? ⟨w1.heap.size,0,none⟩=some (.pointer (some ⟨g1,0,none⟩)):=(R17.out.cell 0).trans rfl
 have HC7:=hide (HNC.out w7 g1 F7 d7.x1)
 clear d7 k7 x7 c7 n7 HRS D6 R16 R26 K6 O6 g6 HNC
 go_wp2_with fail
 refine(unhide HC7).mono ?_
 rintro e w8 ⟨rfl,hb8⟩
 have hbN:=hb8.trans ((al_below w8 (.cells #[.int .i64 0,.int .i64 0,.int .i64 0,.int .i64 0,.int .i64 0,.int .i64 0,.int .i64 0] 46)).mono hb8.size)
 have z8:w.heap.size≤w8.heap.size:=Nat.le_trans D7.out.bel.size hb8.size
 have r8:Row (w8.alloc (.cells #[.int .i64 0,.int .i64 0,.int .i64 0,.int .i64 0,.int .i64 0,.int .i64 0,.int .i64 0] 46)) w8.heap.size 46 [.int .i64 0,.int .i64 0,.int .i64 0,.int .i64 0,.int .i64 0,.int .i64 0,.int .i64 0]:=heap_alloc_new w8 _
 have M8:Hid (AnM P w g1 g2 skU.2 ta2 tc2 vs2 w1.heap.size w2.heap.size w8.heap.size [.pointer (some ⟨g1,0,none⟩),.slice ta1 skT.2.length tc1,.bool true] [.pointer (some ⟨g2,0,none⟩),.slice ta2 skU.2.length tc2,.bool true] (fun b=>((b=w1.heap.size∨b=w2.heap.size∨TkB ta2 tc2 vs2 b)∨(Value.slice a4 l.length c4).ownBlock=some b)∨b=w8.heap.size) a4 c4 l (w8.alloc (.cells #[.int .i64 0,.int .i64 0,.int .i64 0,.int .i64 0,.int .i64 0,.int .i64 0,.int .i64 0] 46)) N0 skU.1 F7 F2) :=
  ⟨(D7.out.below hbN).more (fun q=>by have h1:=P.lt D7.out.x1 _ q;have h2:=hb8.size;omega) (fun q=>by have h1:=P.lt D7.out.x2 _ q;have h2:=hb8.size;omega) r8.lt,row_below R17.out hbN,row_below R27.out hbN,r8,K7.out.below hbN,own_below O7.out hbN,⟨.inl (.inl (.inl rfl)),.inl (.inl (.inr (.inl rfl))),.inr rfl,fun b q=>.inl (.inl (.inr (.inr q))),fun b q=>.inl (.inr q)⟩⟩
 have g8:(w8.alloc (.cells #[.int .i64 0,.int .i64 0,.int .i64 0,.int .i64 0,.int .i64 0,.int .i64 0,.int .i64 0] 46)).cell? ⟨w1.heap.size,0,none⟩=some (.pointer (some ⟨g1,0,none⟩)):=(M8.out.t1.cell 0).trans rfl
 have HP8:=hide (HNP.out _ g1 F7 M8.out.duo.x1)
 generalize (fun b=>((b=w1.heap.size∨b=w2.heap.size∨TkB ta2 tc2 vs2 b)∨(Value.slice a4 l.length c4).ownBlock=some b)∨b=w8.heap.size)=K at *
 clear hb8 hbN r8 HC7 D7 R17 R27 K7 O7 g7 HNP
 go_wp2_with fail
 refine(unhide HP8).mono ?_
 rintro e w9 ⟨rfl,hb9⟩
 have M9:=hide (M8.out.below hb9)
 have t0:=(M9.out.nb.cell 0).trans (show _=some (Value.int .i64 0) from rfl)
 have t1:=(M9.out.nb.cell 1).trans (show _=some (Value.int .i64 0) from rfl)
 have t2:=(M9.out.nb.cell 2).trans (show _=some (Value.int .i64 0) from rfl)
 have t3:=(M9.out.nb.cell 3).trans (show _=some (Value.int .i64 0) from rfl)
 have t4:=(M9.out.nb.cell 4).trans (show _=some (Value.int .i64 0) from rfl)
 have t5:=(M9.out.nb.cell 5).trans (show _=some (Value.int .i64 0) from rfl)
 have t6:=(M9.out.nb.cell 6).trans (show _=some (Value.int .i64 0) from rfl)
 clear hb9 HP8 M8 g8
 have zNB:w.heap.size≤w8.heap.size:=by
  have h1:=z8
  omega
 clear z8
 generalize hT1:w1.heap.size=T1 at *
 generalize hT2:w2.heap.size=T2 at *
 generalize hNB:w8.heap.size=NB at *
 clear hT1 hT2 hNB
 go_wp2_with fail
 go_loopw [13] (fun x13 wr=>∃ (k:Nat) (F1:Nat→Prop),k≤skU.2.length∧x13=.int .i64 k∧Hid (AnM P w g1 g2 skU.2 ta2 tc2 vs2 T1 T2 NB [.pointer (some ⟨g1,0,none⟩),.slice ta1 skT.2.length tc1,.bool true] [.pointer (some ⟨g2,0,none⟩),.slice ta2 skU.2.length tc2,.bool true] K a4 c4 l wr ((skU.2.take k).foldl P.add N0) skU.1 F1 F2)) (fun x13 _=>skU.2.length - (intOf x13).toNat)
 case atStart=>exact⟨0,F7,Nat.zero_le _,rfl,M9⟩
 case round =>
  clear M9 t0 t1 t2 t3 t4 t5 t6
  obtain⟨k,F1,hk,rfl,M⟩:=hrel
  have q21:wr.cell? ⟨T2,1,none⟩=some (.slice ta2 skU.2.length tc2):=(M.out.t2.cell 1).trans rfl
  have q10:wr.cell? ⟨T1,0,none⟩=some (.pointer (some ⟨g1,0,none⟩)):=(M.out.t1.cell 0).trans rfl
  have zr:w.heap.size≤wr.heap.size:=M.out.duo.bel.size
  by_cases hlt:k<skU.2.length
  ·have md:=M.out.below (below_drewN (Below.refl _ _) 1)
   obtain⟨gq,aq,cq,e,hcell,hown,hblk⟩:=M.out.tkn.at hlt
   obtain⟨gq',aq',cq',e',hcell',hown',hblk'⟩:=md.tkn.at hlt
   subst e
   simp only[Option.some.injEq,Addr.mk.injEq,and_true] at e'
   obtain⟨rfl,_⟩:gq'=gq∧True:=⟨e'.symm ▸ rfl,trivial⟩
   have hsame:Value.slice aq' (skU.2.getD k []).length cq'=Value.slice aq (skU.2.getD k []).length cq:=by
    have h1:(wr.drewN 1).cell? ⟨gq',k,none⟩=wr.cell? ⟨gq',k,none⟩:=rfl
    have h2:=hcell'.symm.trans (h1.trans hcell)
    exact Option.some.inj h2
   have hshort:=HSH.out k hlt
   have herk:=HER.out k hlt
   have hfd:(skU.2.take (k+1)).foldl P.add N0=P.add ((skU.2.take k).foldl P.add N0) (skU.2.getD k []):=by
    rw[List.take_succ_eq_append_getElem hlt,List.foldl_append,List.getD_eq_getElem?_getD,List.getElem?_eq_getElem hlt]
    rfl
   have had:=P.addC aq cq (skU.2.getD k []) md.duo.x1 (HOK.out k) (own_intsAt (hsame ▸ hown')) (fun ad e hq=>by
    subst e
    exact md.duo.k1 _ (md.kk.2.2.2.1 _ (hblk _ rfl)) hq) (by omega) (by have:=HHV.out k;omega)
   rw[herk,← hfd] at had
   have HAD:=hide had
   have HMD:=hide md
   have i1:(0:Int)≤(k:Int):=by omega
   have i2:(k:Int)<(skU.2.length:Int):=by omega
   generalize skU.2.getD k []=ys at *
   generalize (skU.2.take k).foldl P.add N0=sA at *
   clear hcell' hown' hblk' hown hblk hsame md had herk hfd e'
   go_wp2_with fail
   go_region_with (go_at_call 23;refine(unhide HAD).mono ?_;rintro e w11 ⟨rfl,F11,x11,c11,n11,_⟩;have M11:=hide (HMD.out.call1 x11 c11 n11);clear x11 c11 n11 HAD)
   all_goals
    go_wp2
    go_roundw
    case rel=>exact⟨k+1,F11,by omega,by go_num,M11⟩
    case measure=>simp[intOf];omega
  ·obtain rfl:k=skU.2.length:=by omega
   rw[List.take_length,HST.out] at M
   have hs1:=solve_own P M.out.duo.x1 HUO.out hlU (TB.out.below M.out.duo.bel h0) (by omega) (fun q=>by have:=M.out.duo.b1 0 q;omega) M.out.own (fun q hq e=>M.out.duo.k1 q (M.out.kk.2.2.2.2 q e) hq) (by omega) 0
   rw[ha0] at hs1
   have HS1:=hide hs1
   have HS2:Hid (∀ (w':World) (F:Nat→Prop),P.At w' g2 skU.1 F→Below w.heap.size w w'→¬ F 0→w'.ownsRow w.heap.size 3 1 (.slice a4 l.length c4) l.length (i64s l)→(∀ q,F q→(Value.slice a4 l.length c4).ownBlock≠some q)→_):=fun w' F x b f o d=>solve_own P x HUO.out hlU (TB.out.below b h0) (Nat.lt_of_lt_of_le h0 b.size) f o d (by omega) 0
   rw[ha0] at HS2
   have HCE:Hid (∀ (w':World) (g:Nat) (F:Nat→Prop),P.At w' g (P.slv skU.1 l 0) F→Calls Tryd.prog 21 #[.pointer (some ⟨g,0,none⟩)] w' fun e w''=>e=.returned (.agg #[.int .i64 (sizeN (P.vw (P.slv skU.1 l 0)).seen:Nat),.int .i64 ((P.vw (P.slv skU.1 l 0)).hv.length:Nat),.int .i64 (litsN (P.vw (P.slv skU.1 l 0)).hv:Nat),.int .i64 ((P.vw (P.slv skU.1 l 0)).lr.length:Nat),.int .i64 (litsN (P.vw (P.slv skU.1 l 0)).lr:Nat),.int .i64 ((P.vw (P.slv skU.1 l 0)).log:Nat),.int .i64 ((P.vw (P.slv skU.1 l 0)).unsat:Nat)])∧Below w'.heap.size w' w''):=fun w' g F h=>P.countsC h HOE.out (by omega)
   have HPE:Hid (∀ (w':World) (g:Nat) (F:Nat→Prop),P.At w' g (P.slv skU.1 l 0) F→Calls Tryd.prog 14 #[.pointer (some ⟨g,0,none⟩)] w' fun e w''=>e=.returned (.string (bA (P.vw (P.slv skU.1 l 0)).pf))∧Below w'.heap.size w' w''):=fun w' g F h=>P.proofC h HOE.out
   have HLN:=hide hlen
   clear hlE hlen hs1
   generalize P.ans skU.1 l 0=x at *
   generalize P.slv skU.1 l 0=sE at *
   generalize sizeN (P.vw sE).seen=n1 at *
   generalize (P.vw sE).hv.length=n2 at *
   generalize litsN (P.vw sE).hv=n3 at *
   generalize (P.vw sE).lr.length=n4 at *
   generalize litsN (P.vw sE).lr=n5 at *
   generalize (P.vw sE).log=n6 at *
   generalize (P.vw sE).unsat=n7 at *
   generalize bA (P.vw sE).pf=pf at *
   go_wp2_with fail
   refine(unhide HS1).mono ?_
   rintro e w10 ⟨p,rfl,ao1,F10,x10,c10,nn10,_⟩
   have m10:=M.out.call1 x10 c10 nn10
   have hbA:=al_below w10 (.cells #[.int .i64 x.st,.int .i64 x.re,.slice p.a1 x.vs.length p.c1,.slice p.a2 x.co.length p.c2,.slice p.a3 x.cl.length p.c3] 31)
   have M10:=hide (m10.below hbA)
   have rA:Row (w10.alloc (.cells #[.int .i64 x.st,.int .i64 x.re,.slice p.a1 x.vs.length p.c1,.slice p.a2 x.co.length p.c2,.slice p.a3 x.cl.length p.c3] 31)) w10.heap.size 31 [.int .i64 x.st,.int .i64 x.re,.slice p.a1 x.vs.length p.c1,.slice p.a2 x.co.length p.c2,.slice p.a3 x.cl.length p.c3]:=heap_alloc_new w10 _
   have RA:=hide rA
   have V1:=hide (own_below ao1.vs hbA)
   have V2:=hide (own_below ao1.co hbA)
   have V3:=hide (own_below ao1.cl hbA)
   have zA:wr.heap.size≤w10.heap.size:=c10.size
   have HF2:Hid (∀ b,F2 b→b<wr.heap.size):=P.lt M.out.duo.x2
   have HNBL:Hid (NB<wr.heap.size):=M.out.duo.kl _ M.out.kk.2.2.1
   have q20:(w10.alloc (.cells #[.int .i64 x.st,.int .i64 x.re,.slice p.a1 x.vs.length p.c1,.slice p.a2 x.co.length p.c2,.slice p.a3 x.cl.length p.c3] 31)).cell? ⟨T2,0,none⟩=some (.pointer (some ⟨g2,0,none⟩)):=(M10.out.t2.cell 0).trans rfl
   have HQ2:=hide (HS2.out _ F2 M10.out.duo.x2 M10.out.duo.bel (fun q=>by have:=M10.out.duo.b2 0 q;omega) M10.out.own (fun q hq e=>M10.out.duo.k2 q (M10.out.kk.2.2.2.2 q e) hq))
   clear hbA rA m10 x10 c10 nn10 ao1 HS1 HS2 M q21 q10
   go_wp2_with fail
   refine(unhide HQ2).mono ?_
   generalize w10.alloc (.cells #[.int .i64 x.st,.int .i64 x.re,.slice p.a1 x.vs.length p.c1,.slice p.a2 x.co.length p.c2,.slice p.a3 x.cl.length p.c3] 31)=w10a at *
   rintro e w11 ⟨q,rfl,ao2,F11,x11,c11,nn11,_⟩
   have m11:=M10.out.call2 x11 c11 nn11
   have hbB:=al_below w11 (.cells #[.int .i64 x.st,.int .i64 x.re,.slice q.a1 x.vs.length q.c1,.slice q.a2 x.co.length q.c2,.slice q.a3 x.cl.length q.c3] 31)
   have M11:=hide (m11.below hbB)
   have RA1:=hide (row_below (row_keep RA.out (c11.block _ RA.out.lt fun hf=>by have:=HF2.out _ hf;omega)) hbB)
   have rB:Row (w11.alloc (.cells #[.int .i64 x.st,.int .i64 x.re,.slice q.a1 x.vs.length q.c1,.slice q.a2 x.co.length q.c2,.slice q.a3 x.cl.length q.c3] 31)) w11.heap.size 31 [.int .i64 x.st,.int .i64 x.re,.slice q.a1 x.vs.length q.c1,.slice q.a2 x.co.length q.c2,.slice q.a3 x.cl.length q.c3]:=heap_alloc_new w11 _
   have RB1:=hide rB
   have I1:=hide (own_intsAt (own_below (own_keep V1.out fun b e=>c11.block b (V1.out.lt b e).2 fun hf=>by have h1:=HF2.out _ hf;have h2:=(V1.out.lt b e).1;omega) hbB))
   have I2:=hide (own_intsAt (own_below (own_keep V2.out fun b e=>c11.block b (V2.out.lt b e).2 fun hf=>by have h1:=HF2.out _ hf;have h2:=(V2.out.lt b e).1;omega) hbB))
   have I3:=hide (own_intsAt (own_below (own_keep V3.out fun b e=>c11.block b (V3.out.lt b e).2 fun hf=>by have h1:=HF2.out _ hf;have h2:=(V3.out.lt b e).1;omega) hbB))
   have J1:=hide (own_intsAt (own_below ao2.vs hbB))
   have J2:=hide (own_intsAt (own_below ao2.co hbB))
   have J3:=hide (own_intsAt (own_below ao2.cl hbB))
   have zB:w10a.heap.size≤w11.heap.size:=c11.size
   have zC:w10.heap.size<w10a.heap.size:=RA.out.lt
   have u2:=(RA1.out.cell 2).trans (show _=some (Value.slice p.a1 x.vs.length p.c1) from rfl)
   have u3:=(RA1.out.cell 3).trans (show _=some (Value.slice p.a2 x.co.length p.c2) from rfl)
   have u4:=(RA1.out.cell 4).trans (show _=some (Value.slice p.a3 x.cl.length p.c3) from rfl)
   have v2:=(RB1.out.cell 2).trans (show _=some (Value.slice q.a1 x.vs.length q.c1) from rfl)
   have v3:=(RB1.out.cell 3).trans (show _=some (Value.slice q.a2 x.co.length q.c2) from rfl)
   have v4:=(RB1.out.cell 4).trans (show _=some (Value.slice q.a3 x.cl.length q.c3) from rfl)
   clear hbB rB m11 x11 c11 nn11 ao2 HQ2 M10 RA V1 V2 V3 q20 HF2
   have hzb:w11.heap.size<(w11.alloc (.cells #[.int .i64 x.st,.int .i64 x.re,.slice q.a1 x.vs.length q.c1,.slice q.a2 x.co.length q.c2,.slice q.a3 x.cl.length q.c3] 31)).heap.size:=by simp
   have b12:=al_below (w11.alloc (.cells #[.int .i64 x.st,.int .i64 x.re,.slice q.a1 x.vs.length q.c1,.slice q.a2 x.co.length q.c2,.slice q.a3 x.cl.length q.c3] 31)) (.cells #[.slice p.a1 x.vs.length p.c1,.slice p.a2 x.co.length p.c2,.slice p.a3 x.cl.length p.c3] 23)
   have s12:((w11.alloc (.cells #[.int .i64 x.st,.int .i64 x.re,.slice q.a1 x.vs.length q.c1,.slice q.a2 x.co.length q.c2,.slice q.a3 x.cl.length q.c3] 31)).alloc (.cells #[.slice p.a1 x.vs.length p.c1,.slice p.a2 x.co.length p.c2,.slice p.a3 x.cl.length p.c3] 23)).heap.size=w11.heap.size+2:=by simp
   have s11:(w11.alloc (.cells #[.int .i64 x.st,.int .i64 x.re,.slice q.a1 x.vs.length q.c1,.slice q.a2 x.co.length q.c2,.slice q.a3 x.cl.length q.c3] 31)).heap.size=w11.heap.size+1:=by simp
   have r12:Row ((w11.alloc (.cells #[.int .i64 x.st,.int .i64 x.re,.slice q.a1 x.vs.length q.c1,.slice q.a2 x.co.length q.c2,.slice q.a3 x.cl.length q.c3] 31)).alloc (.cells #[.slice p.a1 x.vs.length p.c1,.slice p.a2 x.co.length p.c2,.slice p.a3 x.cl.length p.c3] 23)) (w11.heap.size+1) 23 [.slice p.a1 x.vs.length p.c1,.slice p.a2 x.co.length p.c2,.slice p.a3 x.cl.length p.c3]:=by
    have:=heap_alloc_new (w11.alloc (.cells #[.int .i64 x.st,.int .i64 x.re,.slice q.a1 x.vs.length q.c1,.slice q.a2 x.co.length q.c2,.slice q.a3 x.cl.length q.c3] 31)) (.cells #[.slice p.a1 x.vs.length p.c1,.slice p.a2 x.co.length p.c2,.slice p.a3 x.cl.length p.c3] 23)
    rw[s11] at this
    exact this
   have b13:=al_below ((w11.alloc (.cells #[.int .i64 x.st,.int .i64 x.re,.slice q.a1 x.vs.length q.c1,.slice q.a2 x.co.length q.c2,.slice q.a3 x.cl.length q.c3] 31)).alloc (.cells #[.slice p.a1 x.vs.length p.c1,.slice p.a2 x.co.length p.c2,.slice p.a3 x.cl.length p.c3] 23)) (.cells #[.slice q.a1 x.vs.length q.c1,.slice q.a2 x.co.length q.c2,.slice q.a3 x.cl.length q.c3] 23)
   have r13:Row (((w11.alloc (.cells #[.int .i64 x.st,.int .i64 x.re,.slice q.a1 x.vs.length q.c1,.slice q.a2 x.co.length q.c2,.slice q.a3 x.cl.length q.c3] 31)).alloc (.cells #[.slice p.a1 x.vs.length p.c1,.slice p.a2 x.co.length p.c2,.slice p.a3 x.cl.length p.c3] 23)).alloc (.cells #[.slice q.a1 x.vs.length q.c1,.slice q.a2 x.co.length q.c2,.slice q.a3 x.cl.length q.c3] 23)) (w11.heap.size+2) 23 [.slice q.a1 x.vs.length q.c1,.slice q.a2 x.co.length q.c2,.slice q.a3 x.cl.length q.c3]:=by
    have:=heap_alloc_new ((w11.alloc (.cells #[.int .i64 x.st,.int .i64 x.re,.slice q.a1 x.vs.length q.c1,.slice q.a2 x.co.length q.c2,.slice q.a3 x.cl.length q.c3] 31)).alloc (.cells #[.slice p.a1 x.vs.length p.c1,.slice p.a2 x.co.length p.c2,.slice p.a3 x.cl.length p.c3] 23)) (.cells #[.slice q.a1 x.vs.length q.c1,.slice q.a2 x.co.length q.c2,.slice q.a3 x.cl.length q.c3] 23)
    rw[s12] at this
    exact this
   have bb:=b12.trans (b13.mono (by omega))
   have v2':=(((row_below RB1.out b12).cell 2)).trans (show _=some (Value.slice q.a1 x.vs.length q.c1) from rfl)
   have v3':=(((row_below RB1.out b12).cell 3)).trans (show _=some (Value.slice q.a2 x.co.length q.c2) from rfl)
   have v4':=(((row_below RB1.out b12).cell 4)).trans (show _=some (Value.slice q.a3 x.cl.length q.c3) from rfl)
   have hsm:=sameLists_any (some ⟨w11.heap.size+1,0,none⟩) (some ⟨w11.heap.size+2,0,none⟩) 3 3 _ _ _ _ [x.vs,x.co,x.cl] [x.vs,x.co,x.cl] _ (by simp) (rows3 (row_below r12 b13) (I1.out.below bb) (I2.out.below bb) (I3.out.below bb) HLN.out) (rows3 r13 (J1.out.below bb) (J2.out.below bb) (J3.out.below bb) HLN.out)
   rw[eqB_self] at hsm
   have HSM:=hide hsm
   have M13:=hide (M11.out.below bb)
   have RA13:=hide (row_below RA1.out bb)
   have RB13:=hide (row_below RB1.out bb)
   clear b12 s12 s11 r12 b13 r13 bb hsm M11 I1 I2 I3 J1 J2 J3 RA1 RB1
   simp only[List.length_cons,List.length_nil,Nat.zero_add,Nat.reduceAdd] at HSM
   go_wp2_with fail
   refine(unhide HSM).mono ?_
   generalize ((w11.alloc (.cells #[.int .i64 x.st,.int .i64 x.re,.slice q.a1 x.vs.length q.c1,.slice q.a2 x.co.length q.c2,.slice q.a3 x.cl.length q.c3] 31)).alloc (.cells #[.slice p.a1 x.vs.length p.c1,.slice p.a2 x.co.length p.c2,.slice p.a3 x.cl.length p.c3] 23)).alloc (.cells #[.slice q.a1 x.vs.length q.c1,.slice q.a2 x.co.length q.c2,.slice q.a3 x.cl.length q.c3] 23)=w13 at *
   rintro e w14' ⟨rfl,mm,rfl⟩
   have b14:Below w13.heap.size w13 (w13.drewN mm):=below_drewN (Below.refl _ _) mm
   have M14:=hide (M13.out.below b14)
   have RA14:=hide (row_below RA13.out b14)
   have RB14:=hide (row_below RB13.out b14)
   generalize w13.drewN mm=w14 at *
   have q10:w14.cell? ⟨T1,0,none⟩=some (.pointer (some ⟨g1,0,none⟩)):=(M14.out.t1.cell 0).trans rfl
   have HP1:=hide (HPE.out w14 g1 F10 M14.out.duo.x1)
   clear b14 M13 RA13 RB13 HSM u2 u3 u4 v2 v3 v4 v2' v3' v4' hzb
   go_wp2_with fail
   refine(unhide HP1).mono ?_
   rintro e w15 ⟨rfl,hb15⟩
   have M15:=hide (M14.out.below hb15)
   have RA15:=hide (row_below RA14.out hb15)
   have RB15:=hide (row_below RB14.out hb15)
   have q20:w15.cell? ⟨T2,0,none⟩=some (.pointer (some ⟨g2,0,none⟩)):=(M15.out.t2.cell 0).trans rfl
   have HP2:=hide (HPE.out w15 g2 F11 M15.out.duo.x2)
   clear hb15 M14 RA14 RB14 HP1 q10 HPE
   go_wp2_with fail
   refine(unhide HP2).mono ?_
   rintro e w16 ⟨rfl,hb16⟩
   have M16:=hide (M15.out.below hb16)
   have RA16:=hide (row_below RA15.out hb16)
   have RB16:=hide (row_below RB15.out hb16)
   have q10:w16.cell? ⟨T1,0,none⟩=some (.pointer (some ⟨g1,0,none⟩)):=(M16.out.t1.cell 0).trans rfl
   have HC1:=hide (HCE.out w16 g1 F10 M16.out.duo.x1)
   clear hb16 M15 RA15 RB15 HP2 q20
   go_wp2_with fail
   refine(unhide HC1).mono ?_
   rintro e w17 ⟨rfl,hb17⟩
   have M17:=hide (M16.out.below hb17)
   have RA17:=row_below RA16.out hb17
   have RB17:=row_below RB16.out hb17
   obtain⟨D18,hoth,R18⟩:=M17.out.put7 zNB (.int .i64 (n1:Nat)) (.int .i64 (n2:Nat)) (.int .i64 (n3:Nat)) (.int .i64 (n4:Nat)) (.int .i64 (n5:Nat)) (.int .i64 (n6:Nat)) (.int .i64 (n7:Nat))
   have RA18:=hide (row_keep RA17 (hoth _ (by have:=HNBL.out;omega)))
   have RB18:=hide (row_keep RB17 (hoth _ (by have:=HNBL.out;omega)))
   have hT2N:T2≠NB:=fun e=>by
    have h1:=M17.out.t2
    have h2:=M17.out.nb
    rw[e] at h1
    have h3:=h1.symm.trans h2
    simp at h3
   have T218:=row_keep M17.out.t2 (hoth _ hT2N)
   have q20:(((((((w17.setCell ⟨NB,0,none⟩ (.int .i64 (n1:Nat))).setCell ⟨NB,1,none⟩ (.int .i64 (n2:Nat))).setCell ⟨NB,2,none⟩ (.int .i64 (n3:Nat))).setCell ⟨NB,3,none⟩ (.int .i64 (n4:Nat))).setCell ⟨NB,4,none⟩ (.int .i64 (n5:Nat))).setCell ⟨NB,5,none⟩ (.int .i64 (n6:Nat))).setCell ⟨NB,6,none⟩ (.int .i64 (n7:Nat))).cell? ⟨T2,0,none⟩=some (.pointer (some ⟨g2,0,none⟩)):=(T218.cell 0).trans rfl
   have D18H:=hide D18
   have R18H:=hide R18
   have HC2:=hide (HCE.out _ g2 F11 D18.x2)
   have t0:=(M17.out.nb.cell 0).trans (show _=some (Value.int .i64 0) from rfl)
   have t1:=(M17.out.nb.cell 1).trans (show _=some (Value.int .i64 0) from rfl)
   have t2:=(M17.out.nb.cell 2).trans (show _=some (Value.int .i64 0) from rfl)
   have t3:=(M17.out.nb.cell 3).trans (show _=some (Value.int .i64 0) from rfl)
   have t4:=(M17.out.nb.cell 4).trans (show _=some (Value.int .i64 0) from rfl)
   have t5:=(M17.out.nb.cell 5).trans (show _=some (Value.int .i64 0) from rfl)
   have t6:=(M17.out.nb.cell 6).trans (show _=some (Value.int .i64 0) from rfl)
   have z0:=M17.out.nb.frozen 0
   have z1:=M17.out.nb.frozen 1
   have z2:=M17.out.nb.frozen 2
   have z3:=M17.out.nb.frozen 3
   have z4':=M17.out.nb.frozen 4
   have z5':=M17.out.nb.frozen 5
   have z6:=M17.out.nb.frozen 6
   clear hb17 M16 RA16 RB16 HC1 q10 HCE RA17 RB17 D18 hoth R18 hT2N T218
   go_wp2_with fail
   refine(unhide HC2).mono ?_
   generalize (((((((w17.setCell ⟨NB,0,none⟩ (.int .i64 (n1:Nat))).setCell ⟨NB,1,none⟩ (.int .i64 (n2:Nat))).setCell ⟨NB,2,none⟩ (.int .i64 (n3:Nat))).setCell ⟨NB,3,none⟩ (.int .i64 (n4:Nat))).setCell ⟨NB,4,none⟩ (.int .i64 (n5:Nat))).setCell ⟨NB,5,none⟩ (.int .i64 (n6:Nat))).setCell ⟨NB,6,none⟩ (.int .i64 (n7:Nat)))=w18 at *
   rintro e w19 ⟨rfl,hb19⟩
   have hbC:=hb19.trans ((al_below w19 (.cells #[.int .i64 (n1:Nat),.int .i64 (n2:Nat),.int .i64 (n3:Nat),.int .i64 (n4:Nat),.int .i64 (n5:Nat),.int .i64 (n6:Nat),.int .i64 (n7:Nat)] 46)).mono hb19.size)
   have D20:=hide (D18H.out.below hbC)
   have A20:=row_below RA18.out hbC
   have B20:=row_below RB18.out hbC
   have N20:=row_below R18H.out hbC
   have C20:Row (w19.alloc (.cells #[.int .i64 (n1:Nat),.int .i64 (n2:Nat),.int .i64 (n3:Nat),.int .i64 (n4:Nat),.int .i64 (n5:Nat),.int .i64 (n6:Nat),.int .i64 (n7:Nat)] 46)) w19.heap.size 46 [.int .i64 (n1:Nat),.int .i64 (n2:Nat),.int .i64 (n3:Nat),.int .i64 (n4:Nat),.int .i64 (n5:Nat),.int .i64 (n6:Nat),.int .i64 (n7:Nat)]:=heap_alloc_new w19 _
   have ca0:=(A20.cell 0).trans (show _=some (Value.int .i64 x.st) from rfl)
   have ca1:=(A20.cell 1).trans (show _=some (Value.int .i64 x.re) from rfl)
   have cb0:=(B20.cell 0).trans (show _=some (Value.int .i64 x.st) from rfl)
   have cb1:=(B20.cell 1).trans (show _=some (Value.int .i64 x.re) from rfl)
   have cn0:=(N20.cell 0).trans (show _=some (Value.int .i64 (n1:Nat)) from rfl)
   have cc0:=(C20.cell 0).trans (show _=some (Value.int .i64 (n1:Nat)) from rfl)
   have cn1:=(N20.cell 1).trans (show _=some (Value.int .i64 (n2:Nat)) from rfl)
   have cc1:=(C20.cell 1).trans (show _=some (Value.int .i64 (n2:Nat)) from rfl)
   have cn2:=(N20.cell 2).trans (show _=some (Value.int .i64 (n3:Nat)) from rfl)
   have cc2:=(C20.cell 2).trans (show _=some (Value.int .i64 (n3:Nat)) from rfl)
   have cn3:=(N20.cell 3).trans (show _=some (Value.int .i64 (n4:Nat)) from rfl)
   have cc3:=(C20.cell 3).trans (show _=some (Value.int .i64 (n4:Nat)) from rfl)
   have cn4:=(N20.cell 4).trans (show _=some (Value.int .i64 (n5:Nat)) from rfl)
   have cc4:=(C20.cell 4).trans (show _=some (Value.int .i64 (n5:Nat)) from rfl)
   have cn5:=(N20.cell 5).trans (show _=some (Value.int .i64 (n6:Nat)) from rfl)
   have cc5:=(C20.cell 5).trans (show _=some (Value.int .i64 (n6:Nat)) from rfl)
   have cn6:=(N20.cell 6).trans (show _=some (Value.int .i64 (n7:Nat)) from rfl)
   have cc6:=(C20.cell 6).trans (show _=some (Value.int .i64 (n7:Nat)) from rfl)
   have hst1:(x.st == x.st)=true:=by simp
   have hst2:(x.re == x.re)=true:=by simp
   clear hb19 hbC A20 B20 N20 C20 HC2 q20 t0 t1 t2 t3 t4 t5 t6 z0 z1 z2 z3 z4' z5' z6 RA18 RB18 D18H R18H
   generalize x.st=xst at *
   generalize x.re=xre at *
   go_wp2
   go_ret
   exact⟨rfl,D20.out.bel⟩
end Go.Proofs.YthboeppmlhbofabDoor
