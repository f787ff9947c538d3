import Derived.Test.YthboeppmlhbofabDoorKbv
import Derived.OwnWalk
namespace Go.Proofs.YthboeppmlhbofabDoor
open Go.RowKit Txt
set_option maxRecDepth 100000
theorem tkS_len12{P:Prg}{cls:List (List Int)}:∀ c∈(tkS P cls).2,c.length≤12:=by
 intro c hc
 have h1:=(begL_len P (P.new 0 1048576 1048576) (begC cls)).2 c hc
 unfold begC at h1
 obtain⟨d,_,rfl⟩:=List.mem_map.1 h1
 simp
 omega
theorem lits_len(xs:List Int):xs.length≤(litsT xs).length:=by
 induction xs with
 | nil=>simp[litsT]
 | cons x xs ih =>
  have e:litsT (x :: xs)=litT x++litsT xs:=by simp[litsT]
  rw[e,List.length_append,List.length_cons]
  have:1≤(litT x).length:=by simp[litT]
  omega
set_option maxHeartbeats 8000000 in
theorem fresh_any(P:Prg)(a a2:Option Addr)(c c2:Nat)(A:Nat→Option Addr)(C:Nat→Nat)(cls:List (List Int))(xs:List Int)(z:Int)(w:World)(hr:RowsAt w a A C cls)(hcl:cls.length≤9223372036854775807)(_hcb:∀ c∈cls,∀ x∈c,-9223372036854775808≤x∧x≤9223372036854775807)(hi:IntsAt w a2 xs)(hx:xs.length≤9223372036854775807)(hxb:∀ x∈xs,-9223372036854775808≤x∧x≤9223372036854775807)(hz:-9223372036854775808≤z∧z≤9223372036854775807)(htab:Tab w)(h0:0<w.heap.size) :
  Calls Tryd.prog 5 #[.slice a cls.length c,.slice a2 xs.length c2,.int .i64 z] w fun e w'=>e=.returned (.bool true)∧Below w.heap.size w w':=by
 obtain⟨i1,gi,gz0,gz1,gz2⟩:=info_parts Tryd.infoInts
 have HW:=hide (widely_any P a c A C cls w hr hcl)
 have T:=tkS_ok P cls
 have hl40:=tkS_len P cls
 have hln:=T.len hl40
 have HLI:Hid (∀ w',Below w.heap.size w w'→Calls Tryd.prog 11 #[] w' fun e w''=>e=.returned (.bool true)∧Below w'.heap.size w' w''):=fun w' hb=>lives_any P w' (htab.below hb h0) (Nat.lt_of_lt_of_le h0 hb.size)
 have HWI:Hid (∀ w',Below w.heap.size w w'→Calls Tryd.prog 12 #[.slice a2 xs.length c2] w' fun e w''=>∃ a' c',e=.returned (.slice a' (wishL xs).length c')∧w''.ownsRow w'.heap.size 3 1 (.slice a' (wishL xs).length c') (wishL xs).length (i64s (wishL xs))∧Below w'.heap.size w' w''):=fun w' hb=>wishes_any a2 c2 xs w' (hi.below hb) hx hxb
 have hwl:=wishL_len xs
 have HPK:=hide (fun w=>pickG_any z 4 (by decide) (by decide) w hz.1 hz.2)
 generalize pickK z 4=pk at *
 have hask:askedD (wishL xs) (pk:Int)=0:=by
  unfold askedD
  rw[if_neg (by omega),if_neg (by rw[wishL_lits];simp),if_neg (by omega)]
 obtain⟨o1,o2,o3,hv1,hv2,L,hpf,hfr⟩:=fresh_three T hask
 have hpfl:=(P.bd o3).pfl
 rw[hpf] at hpfl
 have hll:=linesT_len L
 have TB:=hide htab
 have HTO:=hide T.ok
 have HO1:=hide o1
 have HO2:=hide o2
 have HO3:=hide o3
 have HLIT:=hide T.lit
 have hvl:(hvOf (tkS P cls).2).length≤1000:=by have:=hvOf_len (tkS P cls).2;omega
 have hn1:(P.vw (P.slv (tkS P cls).1 (wishL xs) (pk:Int))).hv.length≤1000:=by rw[hv1];exact hvl
 have hn2:(P.vw (P.slv (P.slv (tkS P cls).1 (wishL xs) (pk:Int)) [] 1)).hv.length≤1000:=by rw[hv2];exact hvl
 have HPF:=hide hpf
 have HSHT0:Hid (∀ b∈(tkS P cls).2,b.length≤12):=fun b hb=>tkS_len12 b hb
 have HFR:=hide hfr
 have e1:begL P (P.new 0 1048576 1048576) (begC cls)=tkS P cls:=rfl
 rw[e1] at HW
 have HSO:Hid (∀ (w':World) (g:Nat) (F:Nat→Prop),P.At w' g (tkS P cls).1 F→Tab w'→0<w'.heap.size→¬ F 0→∀ (b0:Nat) (a:Option Addr) (c:Nat),w'.ownsRow b0 3 1 (.slice a (wishL xs).length c) (wishL xs).length (i64s (wishL xs))→(∀ q,F q→(Value.slice a (wishL xs).length c).ownBlock≠some q)→_):=fun w' g F h1 h2 h3 h4 b0 a c h5 h6=>solve_own P h1 HTO.out hln h2 h3 h4 h5 h6 (by omega) (pk:Int)
 generalize tkS P cls=sk at *
 generalize wishL xs=l at *
 generalize P.ans sk.1 l (pk:Int)=x1 at *
 generalize P.slv sk.1 l (pk:Int)=s1 at *
 generalize askedD l (pk:Int)=er at *
 clear hr hi hxb htab T e1 hz o1 o2 o3 hv1 hv2 hpf hfr hask
 go_enter Tryd.func5,Tryd.ntmps5
 go_wp2_with fail
 refine(unhide HW).mono ?_
 rintro e w1 ⟨g,F,ta,tc,vs,rfl,X1,hb1⟩
 have hbA:=al_below w1 (.cells #[.pointer (some ⟨g,0,none⟩),.slice ta sk.2.length tc,.bool true] 26)
 have r2:Row (w1.alloc (.cells #[.pointer (some ⟨g,0,none⟩),.slice ta sk.2.length tc,.bool true] 26)) w1.heap.size 26 [.pointer (some ⟨g,0,none⟩),.slice ta sk.2.length tc,.bool true]:=heap_alloc_new w1 _
 have M2:Hid (OnM P w g sk.2 w1.heap.size [.pointer (some ⟨g,0,none⟩),.slice ta sk.2.length tc,.bool true] ta tc vs (w1.alloc (.cells #[.pointer (some ⟨g,0,none⟩),.slice ta sk.2.length tc,.bool true] 26)) sk.1 F):=⟨X1.below hbA,r2,fun q=>by have:=P.lt X1.x _ q;omega,hb1.trans (hbA.mono hb1.size)⟩
 have HL:=hide (HLI.out _ M2.out.bel)
 clear hbA r2 X1 hb1 HLI HW
 go_wp2_with fail
 refine(unhide HL).mono ?_
 generalize w1.alloc (.cells #[.pointer (some ⟨g,0,none⟩),.slice ta sk.2.length tc,.bool true] 26)=w2 at *
 rintro e w3 ⟨rfl,hb3⟩
 have M3:=hide (M2.out.below hb3)
 have f2:w3.cell? ⟨w1.heap.size,2,none⟩=some (.bool true):=(M3.out.row.cell 2).trans rfl
 have HW3:=hide (HWI.out _ M3.out.bel)
 clear hb3 HL HWI M2
 go_wp2_with fail
 refine(unhide HW3).mono ?_
 rintro e w4 ⟨a4,c4,rfl,o4,hb4⟩
 have M4:=hide (M3.out.below hb4)
 have O4:=hide o4
 have HFL:Hid (∀ q,F q→q<w3.heap.size):=P.lt M3.out.beg.x
 clear hb4 o4 HW3 f2 M3
 go_wp2_with fail
 refine(unhide HPK _).mono ?_
 rintro e w4' ⟨rfl,hw⟩
 obtain rfl:=hw.symm
 clear hw HPK
 have f0:w4.cell? ⟨w1.heap.size,0,none⟩=some (.pointer (some ⟨g,0,none⟩)):=(M4.out.row.cell 0).trans rfl
 have z4:w.heap.size≤w4.heap.size:=M4.out.bel.size
 have HS1:=hide (HSO.out w4 g F M4.out.beg.x (TB.out.below M4.out.bel h0) (by omega) (fun q=>by have:=M4.out.beg.fb 0 q;omega) _ a4 c4 O4.out (fun q hq e=>by
  have h1:=(O4.out.lt q e).1
  have h2:=HFL.out q hq
  omega))
 clear HSO O4 HFL
 go_wp2_with fail
 refine(unhide HS1).mono ?_
 rintro e w5 ⟨p,rfl,_,F5,x5,c5,n5,_⟩
 obtain⟨G5,m5⟩:=M4.out.call x5 c5 n5
 have M5:=hide m5
 have f0:w5.cell? ⟨w1.heap.size,0,none⟩=some (.pointer (some ⟨g,0,none⟩)):=(M5.out.row.cell 0).trans rfl
 have z5:w.heap.size≤w5.heap.size:=M5.out.bel.size
 have HS2:=hide (solve_none P m5.beg.x HO1.out hn1 (TB.out.below m5.bel h0) (by omega) (fun q=>by have:=m5.beg.fb 0 q;omega) 1)
 generalize P.ans s1 [] 1=x2 at *
 generalize P.slv s1 [] 1=s2 at *
 clear m5 x5 c5 n5 HS1 M4
 go_wp2_with fail
 refine(unhide HS2).mono ?_
 rintro e w6 ⟨p6,rfl,_,F6,x6,c6,n6,_⟩
 obtain⟨G6,m6⟩:=M5.out.call x6 c6 n6
 have M6:=hide m6
 have f0:w6.cell? ⟨w1.heap.size,0,none⟩=some (.pointer (some ⟨g,0,none⟩)):=(M6.out.row.cell 0).trans rfl
 have z6:w.heap.size≤w6.heap.size:=M6.out.bel.size
 have HS3:=hide (solve_none P m6.beg.x HO2.out hn2 (TB.out.below m6.bel h0) (by omega) (fun q=>by have:=m6.beg.fb 0 q;omega) 0)
 generalize P.ans s2 [] 0=x3 at *
 generalize P.slv s2 [] 0=s3 at *
 clear m6 x6 c6 n6 HS2 M5
 go_wp2_with fail
 refine(unhide HS3).mono ?_
 rintro e w7 ⟨p7,rfl,_,F7,x7,c7,n7,_⟩
 obtain⟨G7,m7⟩:=M6.out.call x7 c7 n7
 have M7:=hide m7
 have f0:w7.cell? ⟨w1.heap.size,0,none⟩=some (.pointer (some ⟨g,0,none⟩)):=(M7.out.row.cell 0).trans rfl
 have HP7:=hide (P.proofC m7.beg.x HO3.out)
 rw[HPF.out] at HP7
 clear m7 x7 c7 n7 HS3 M6 TB HTO HO1 HO2 HO3 hn1 hn2
 go_wp2_with fail
 refine(unhide HP7).mono ?_
 rintro e w8 ⟨rfl,hb8⟩
 have M8:=hide (M7.out.below hb8)
 have f1:w8.cell? ⟨w1.heap.size,1,none⟩=some (.slice ta sk.2.length tc):=(M8.out.row.cell 1).trans rfl
 clear hb8 HP7 M7 f0
 have z8:w.heap.size≤w8.heap.size:=M8.out.bel.size
 have K8:=hide M8.out.beg.tkn
 have R8:=hide M8.out.row
 have B8:=hide M8.out.bel
 have d1:Hid (sk.2.length≤maxLen):=by show _≤_;unfold maxLen;omega
 have d2:Hid (i1.bytes*sk.2.length≤281474976710656):=by show _≤_;rw[gz2];omega
 have HVL:Hid (vs.length=sk.2.length):=by
  have:=M8.out.beg.top.1
  show _=_
  omega
 have HSRC:Hid (∀ ad,ta=some ad→∀ j u,vs[j]?=some u→w8.cell? (ad.add j)=some u):=fun ad e j u hu=>by
  subst e
  have hj:j<vs.length:=(List.getElem?_eq_some_iff.1 hu).1
  have hp:0<sk.2.length:=by have:=HVL.out;omega
  obtain⟨g',cap,e,_,_⟩:=M8.out.beg.top.form hp
  simp only[Value.slice.injEq,Option.some.injEq] at e
  obtain⟨rfl,_⟩:=e
  exact M8.out.beg.top.cells (g:=g') rfl j u hu
 have HNIL:Hid (ta=none→sk.2.length=0∧tc=0):=fun e=>by
  subst e
  rcases M8.out.beg.top.2 with⟨h1,h2⟩ | ⟨g',cap,cur,hv,_⟩
  ·simp only[Value.slice.injEq,true_and] at h1
   exact⟨h2,h1.2⟩
  ·simp at hv
 have HONE:Hid (∀ u∈vs,u.oneCell'=true):=fun u hu=>by
  obtain⟨xs,hx⟩:=M8.out.beg.each.mem hu
  obtain⟨a',c',rfl⟩:=own_shape hx
  rfl
 clear M8
 go_wp2_with (first
  | (at_make;refine wpList_make_own _ rfl (.const (.int .i64 0)) (.tmp 49) 22 rfl w8.heap.size 23 i1 (.slice none 0 0) 1 Tryd.undLists gi gz0 gz1 .i64 .i64 _ sk.2.length rfl rfl rfl d2.out d1.out (Nat.le_refl _) ?_;intro w9 hown9 hg9;
        have K9:Hid (Below w8.heap.size w8 w9):=(Below.refl _ _).grown hg9 (Nat.le_refl _) (by simp);
        have O9:=hide hown9;have f19:w9.cell? ⟨w1.heap.size,1,none⟩=some (.slice ta sk.2.length tc):=((row_below R8.out K9.out).cell 1).trans rfl;clear hown9 hg9)
  | (at_builtin;refine wpList_append_fits_any _ rfl (.tmp 51) (.tmp 53) 22 rfl w8.heap.size 23 i1 1 Tryd.undLists gi gz1 w8.heap.size 0 sk.2.length [] rfl O9.out ta sk.2.length tc vs rfl (by rw[HVL.out,Nat.mul_one]) HNIL.out (fun ad had j u hu=>by have hc:=HSRC.out ad had j u hu;exact(K9.out.cell (World.block_lt_of_cell? w8 _ hc)).trans hc) HONE.out (by omega) ?_;intro w10 hown10 hg10;
        have K10:Hid (Below w8.heap.size w8 w10):=K9.out.grown hg10 K9.out.size (by intro k hk;simp at hk;omega);
        rw[Nat.zero_add,List.nil_append] at hown10;
        have O10:=hide hown10;clear hown10 hg10 O9 K9))
 have T10:Hid (Tkn w10 w.heap.size (some ⟨w8.heap.size,0,none⟩) sk.2.length vs sk.2):=⟨own_low O10.out z8,(K8.out.below K10.out).each⟩
 have B10:Hid (Below w.heap.size w w10):=B8.out.trans (K10.out.mono z8)
 clear K8 R8 B8 O10 K10 HSRC HNIL HONE d1 d2 HVL f1
 have hsz:((bA (linesT L)).size:Int)=((linesT L).length:Nat):=by rw[bA_size]
 have HLN:Hid (∀ (k:Nat) (w':World),k<L.length→(L.getD k (0,[])).2.all litB=true→_):=fun k w' hk hl=>lineL_any L k hk hl (by omega) w'
 have HP1:Hid (∀ k,k<L.length→posL L k+2≤(linesT L).length):=fun k hk=>by have:=pos_lt hk;omega
 have HPE:=hide (pos_end L)
 have HPS:Hid (∀ k,k<L.length→posL L k<posL L (k+1)∧posL L (k+1)≤(linesT L).length):=fun k hk=>by have h1:=pos_lt hk;have h2:=pos_succ hk;omega
 have HPL:Hid (∀ k,k<L.length→(L.getD k (0,[])).2.length≤(linesT L).length):=fun k hk=>by
  have h1:=pos_lt hk
  have h2:=lits_len (L.getD k (0,[])).2
  have h3:(bodyT (L.getD k (0,[])).2).length=(litsT (L.getD k (0,[])).2).length+2:=by simp[bodyT]
  omega
 have HSHT:Hid (∀ b∈sk.2,b.length≤12):=HSHT0
 have HP0:Hid (posL L 0=0):=by show _=_;simp[posL,linesT]
 have HDR:Hid (∀ k,k<L.length→L.drop k=L.getD k (0,[]) :: L.drop (k+1)):=fun k hk=>drop_one hk
 generalize bA (linesT L)=pfb at *
 generalize (linesT L).length=N at *
 generalize hP:posL L=PL at *
 clear hP
 go_wp2_with fail
 go_loopw [12,13] (fun x12 x13 wr=>∃ (k:Nat) (ls tk2:List (List Int)) (zs:List Value) (ath:Option Addr) (cth:Nat),k≤L.length∧tk2.length≤40+k∧x13=.int .i64 (PL k:Nat)∧x12=.slice ath tk2.length cth∧Hid (tk2=sk.2++ls)∧Hid (Tkn wr w.heap.size ath cth zs tk2)∧Hid (frOk (hvOf sk.2) (ls.map setOk) (L.drop k))∧Hid (∀ c∈ls,c.all litB=true)∧Hid (∀ c∈tk2,c.length≤4194304)∧Hid (Below w.heap.size w wr)) (fun _ x13 _=>N - (intOf x13).toNat)
 case atStart=>exact⟨0,[],sk.2,vs,some ⟨w8.heap.size,0,none⟩,sk.2.length,Nat.zero_le _,by omega,by rw[HP0.out];rfl,rfl,by show _=_;rw[List.append_nil],T10,HFR,fun c hc=>by simp at hc,fun c hc=>by have:=HSHT.out c hc;omega,B10⟩
 case round =>
  clear T10 B10 HFR HP0
  obtain⟨k,ls,tk2,zs,ath,cth,hk,hlk,rfl,rfl,HEQ,HT,HF,HLL,HSHL,HB⟩:=hrel
  have zr:w.heap.size≤wr.heap.size:=HB.out.size
  by_cases hlt:k<L.length
  ·have hp1:=HP1.out k hlt
   have hf:=HF.out
   rw[HDR.out k hlt] at hf
   obtain⟨hlit,hcase⟩:=hf
   have HQ:=hide (HLN.out k wr hlt hlit)
   have hps:PL k<PL (k+1)∧PL (k+1)≤N:=HPS.out k hlt
   have hlt2:((PL k:Nat):Int)<(N:Int):=by omega
   have hl2:(L.getD k (0,[])).2.length≤4194304:=by
    have:=HPL.out k hlt
    omega
   generalize L.getD k (0,[])=pr at *
   obtain⟨lt,cl⟩:=pr
   simp only at HQ hlit hcase hl2
   have HLIT2:=hide hlit
   rcases hcase with⟨e97,hsz2,htw,hnew,hrest⟩ | ⟨e101,hrest⟩
   ·subst e97
    have HREST:Hid (frOk (hvOf sk.2) ((ls++[cl]).map setOk) (L.drop (k+1))):=by
     show frOk _ _ _
     rw[List.map_append];exact hrest
    have HNO:Hid (∀ b∈tk2,alikeB cl b=false):=fun b hb=>alike_no HLIT.out HLL.out HLIT2.out hsz2 htw hnew (HEQ.out ▸ hb)
    have HLL2:Hid (∀ c∈ls++[cl],c.all litB=true):=fun c hc=>by
     rcases List.mem_append.1 hc with q | q
     ·exact HLL.out c q
     ·simp at q;subst q;exact HLIT2.out
    have h97:((97:UInt8).toNat:Nat)=97:=rfl
    rw[h97] at HQ
    clear hrest hnew htw hsz2 hlit HF h97
    go_wp2_with fail
    refine(unhide HQ).mono ?_
    rintro e w2 ⟨a5,c5,rfl,o5,hb5⟩
    have T5:=hide (HT.out.below hb5)
    have B5:Hid (Below w.heap.size w w2):=HB.out.trans (hb5.mono zr)
    have O5:=hide (own_low o5 zr)
    clear hb5 o5 HQ HT HB
    go_wp2_with fail
    go_loopw [17] (fun x17 wz=>∃ i:Nat,i≤tk2.length∧x17=.int .i64 i∧Hid (Tkn wz w.heap.size ath cth zs tk2)∧Hid (wz.ownsRow w.heap.size 3 1 (.slice a5 cl.length c5) cl.length (i64s cl))∧Hid (Below w.heap.size w wz)) (fun x17 _=>tk2.length - (intOf x17).toNat)
    case atStart=>exact⟨0,Nat.zero_le _,rfl,T5,O5,B5⟩
    case round =>
     clear T5 O5 B5
     obtain⟨i,hi,rfl,TZ,OZ,BZ⟩:=hrel
     by_cases hil:i<tk2.length
     ·obtain⟨gq,aq,cq,e,hcell,hown,hblk⟩:=TZ.out.at hil
      subst e
      have hmem:tk2.getD i []∈tk2:=by
       rw[List.getD_eq_getElem?_getD,List.getElem?_eq_getElem hil]
       exact List.getElem_mem hil
      have hno:=HNO.out _ hmem
      have hal:=alikeT_any a5 aq c5 cq cl (tk2.getD i []) wr (own_intsAt OZ.out) (own_intsAt hown) (by omega) (by have:=HSHL.out _ hmem;omega)
      rw[hno] at hal
      have HAL:=hide hal
      have i1':(0:Int)≤(i:Int):=by omega
      have i2':(i:Int)<(tk2.length:Int):=by omega
      generalize tk2.getD i []=ys at *
      clear hal hno hmem hown hblk
      go_wp2_with fail
      refine(unhide HAL).mono ?_
      rintro e w3 ⟨rfl,hb3⟩
      have T3:=hide (TZ.out.below hb3)
      have O3:=hide (own_below OZ.out hb3)
      have B3:Hid (Below w.heap.size w w3):=BZ.out.trans (hb3.mono BZ.out.size)
      clear hb3 HAL TZ OZ BZ hcell
      go_wp2
      go_roundw
      case rel=>exact⟨i+1,by omega,by go_num,T3,O3,B3⟩
      case measure=>simp[intOf];omega
     ·obtain rfl:i=tk2.length:=by omega
      have zz:w.heap.size≤wr.heap.size:=BZ.out.size
      have d1:Hid (tk2.length+1≤maxLen):=by show _≤_;unfold maxLen;omega
      have d2:Hid ((tk2.length+1)*24≤140737488355328):=by show _≤_;omega
      have HEQ2:Hid (tk2++[cl]=sk.2++(ls++[cl])):=by show _=_;rw[HEQ.out,List.append_assoc]
      have HSHL2:Hid (∀ c∈tk2++[cl],c.length≤4194304):=fun c hc=>by
       rcases List.mem_append.1 hc with q | q
       ·exact HSHL.out c q
       ·simp at q;subst q;exact hl2
      go_wp2_with (at_builtin;refine wpList_append_full _ rfl _ _ 22 rfl w.heap.size 23 i1 (.slice none 0 0) 24 Tryd.undLists gi gz0 gz1 gz2 rfl (.slice ath tk2.length cth) tk2.length zs rfl (TZ.out.top.alloc _) ⟨wr.heap.size,0,none⟩ 1 1 [.slice a5 cl.length c5] rfl rfl (new_cells1 wr [.slice a5 cl.length c5] 23) (by intro u hu;simp at hu;subst hu;rfl) (by decide) d1.out d2.out (by simp;omega) (wr.heap.size+1) (by simp) ?_;intro a6 c6 w6 hown6 hg6 hl6)
      have T6:=hide (TZ.out.push OZ.out hg6 hown6)
      have B6:Hid (Below w.heap.size w w6):=(BZ.out.alloc BZ.out.size _).grown hg6 (BZ.out.alloc BZ.out.size _).size (fun q hq=>(TZ.out.top.lt q hq).1)
      clear hown6 hg6 hl6
      go_wp2
      go_roundw
      case rel=>exact⟨k+1,ls++[cl],tk2++[cl],zs++[.slice a5 cl.length c5],a6,c6,by omega,by simp;omega,rfl,by rw[List.length_append];rfl,HEQ2,T6,HREST,HLL2,HSHL2,B6⟩
      case measure=>simp[intOf];omega
   ·subst e101
    have HREST:=hide hrest
    have h101:((101:UInt8).toNat:Nat)=101:=rfl
    rw[h101] at HQ
    clear hrest hlit HF h101
    go_wp2_with fail
    refine(unhide HQ).mono ?_
    rintro e w2 ⟨a5,c5,rfl,o5,hb5⟩
    have T5:=hide (HT.out.below hb5)
    have B5:Hid (Below w.heap.size w w2):=HB.out.trans (hb5.mono zr)
    clear hb5 o5 HQ HT HB
    go_wp2_with fail
    go_loopw [17] (fun x17 wz=>x17=.int .i64 0∧Hid (Tkn wz w.heap.size ath cth zs tk2)∧Hid (Below w.heap.size w wz)) (fun _ _=>0)
    case atStart=>exact⟨rfl,T5,B5⟩
    case round =>
     clear T5 B5
     obtain⟨rfl,TZ,BZ⟩:=hrel
     go_wp2
     go_roundw
     case rel=>exact⟨k+1,ls,tk2,zs,ath,cth,by omega,by omega,rfl,rfl,HEQ,TZ,HREST,HLL,HSHL,BZ⟩
     case measure=>simp[intOf];omega
  ·obtain rfl:k=L.length:=by omega
   have hpe:=HPE.out
   have hnl:¬ ((PL L.length:Nat):Int)<(N:Int):=by omega
   clear hpe
   go_wp2
   go_ret
   exact⟨rfl,HB.out⟩
end Go.Proofs.YthboeppmlhbofabDoor
