import Derived.Test.YthboeppmlhbofabDoorKad
namespace Go.Proofs.YthboeppmlhbofabDoor
open Go.RowKit Txt
set_option maxRecDepth 100000
theorem allB_take(xs:List Int)(k:Nat)(hk:k<xs.length):(xs.take (k+1)).all litB=((xs.take k).all litB && litB (xs.getD k 0)):=by
 rw[List.take_succ_eq_append_getElem hk,List.all_append,List.getD_eq_getElem?_getD,List.getElem?_eq_getElem hk]
 simp
theorem allB_at{xs:List Int}{k:Nat}(hk:k<xs.length)(h:litB (xs.getD k 0)=false):xs.all litB=false:=by
 rw[List.getD_eq_getElem?_getD,List.getElem?_eq_getElem hk] at h
 rw[List.all_eq_false]
 exact⟨_,List.getElem_mem hk,by simpa using h⟩
set_option maxHeartbeats 4000000 in
theorem bad_any(a:Option Addr)(c:Nat)(xs:List Int)(w:World)(hi:IntsAt w a xs)(hx:xs.length≤9223372036854775807) :
  Calls Tryd.prog 22 #[.slice a xs.length c] w fun e w'=>e=.returned (.bool (!xs.all litB))∧w'=w:=by
 have HI:=hide hi
 clear hi
 go_enter Tryd.func22,Tryd.ntmps22
 go_wp2
 go_loopw [3] (fun x3 wr=>∃ k:Nat,k≤xs.length∧x3=.int .i64 k∧wr=w∧Hid ((xs.take k).all litB=true)) (fun x3 _=>xs.length - (intOf x3).toNat)
 case atStart=>exact⟨0,Nat.zero_le _,rfl,rfl,rfl⟩
 case round =>
  obtain⟨k,hk,rfl,rfl,HW⟩:=hrel
  by_cases hlt:k<xs.length
  ·obtain⟨b,off,rfl,hc⟩:=HI.out.get (by omega)
   have c0:=hc k hlt
   have HT:=hide (allB_take xs k hlt)
   have HA:Hid (litB (xs.getD k 0)=false→xs.all litB=false):=fun h=>allB_at hlt h
   have i1:(0:Int)≤(k:Int):=by omega
   have i2:(k:Int)<(xs.length:Int):=by omega
   generalize xs.getD k 0=x at *
   clear hc
   have hcs:x=0∨(x≠0∧x < -10)∨(x≠0∧¬ x < -10∧x > 10)∨(x≠0∧¬ x < -10∧¬ x > 10):=by omega
   rcases hcs with rfl | ⟨h1,h2⟩ | ⟨h1,h2,h3⟩ | ⟨h1,h2,h3⟩
   ·have HE:Hid (xs.all litB=false):=HA.out (by decide)
    clear HT HA HW
    go_wp2
    go_ret
    exact⟨by rw[HE.out];rfl,rfl⟩
   ·have HE:Hid (xs.all litB=false):=HA.out (by simp only[litB,Bool.and_eq_false_iff,decide_eq_false_iff_not];exact .inl (.inr (by omega)))
    have h0:(x == 0)=false:=by simpa using h1
    clear HT HA HW
    go_wp2
    go_ret
    exact⟨by rw[HE.out];rfl,rfl⟩
   ·have HE:Hid (xs.all litB=false):=HA.out (by simp only[litB,Bool.and_eq_false_iff,decide_eq_false_iff_not];exact .inr (by omega))
    have h0:(x == 0)=false:=by simpa using h1
    clear HT HA HW
    go_wp2
    go_ret
    exact⟨by rw[HE.out];rfl,rfl⟩
   ·have HE:Hid ((xs.take (k+1)).all litB=true):=by
     show _=_
     rw[HT.out,HW.out,Bool.true_and]
     simp only[litB,Bool.and_eq_true,bne_iff_ne,decide_eq_true_eq]
     omega
    have h0:(x == 0)=false:=by simpa using h1
    clear HT HA HW
    go_wp2
    go_roundw
    case rel=>exact⟨k+1,by omega,by go_num,trivial,HE⟩
    case measure=>simp[intOf];omega
  ·obtain rfl:k=xs.length:=by omega
   rw[List.take_length] at HW
   go_wp2
   go_ret
   exact⟨by rw[HW.out];rfl,rfl⟩
set_option maxHeartbeats 8000000 in
theorem refused_any(P:Prg)(a a2:Option Addr)(c c2:Nat)(A:Nat→Option Addr)(C:Nat→Nat)(cls:List (List Int))(xs:List Int)(z:Int)(w:World)(hr:RowsAt w a A C cls)(hcl:cls.length≤9223372036854775807)(_hcb:∀ c∈cls,∀ x∈c,-9223372036854775808≤x∧x≤9223372036854775807)(hi:IntsAt w a2 xs)(hx:xs.length≤9223372036854775807)(_hxb:∀ x∈xs,-9223372036854775808≤x∧x≤9223372036854775807)(hz:-9223372036854775808≤z∧z≤9223372036854775807)(htab:Tab w)(h0:0<w.heap.size) :
  Calls Tryd.prog 6 #[.slice a cls.length c,.slice a2 xs.length c2,.int .i64 z] w fun e w'=>e=.returned (.bool true)∧Below w.heap.size w w':=by
 have HW:=hide (widely_any P a c A C cls w hr hcl)
 have T:=tkS_ok P cls
 have hl40:=tkS_len P cls
 have hln:=T.len hl40
 have HLI:Hid (∀ w',Below w.heap.size w w'→Calls Tryd.prog 11 #[] w' fun e w''=>e=.returned (.bool true)∧Below w'.heap.size w' w''):=fun w' hb=>lives_any P w' (htab.below hb h0) (Nat.lt_of_lt_of_le h0 hb.size)
 have HI:=hide hi
 have hvv:=T.v
 have HCT:Hid (∀ (w':World) (g:Nat) (F:Nat→Prop),P.At w' g (tkS P cls).1 F→Calls Tryd.prog 21 #[.pointer (some ⟨g,0,none⟩)] w' fun e w''=>e=.returned (.agg #[.int .i64 (sizeN (P.vw (tkS P cls).1).seen:Nat),.int .i64 ((P.vw (tkS P cls).1).hv.length:Nat),.int .i64 (litsN (P.vw (tkS P cls).1).hv:Nat),.int .i64 ((P.vw (tkS P cls).1).lr.length:Nat),.int .i64 (litsN (P.vw (tkS P cls).1).lr:Nat),.int .i64 ((P.vw (tkS P cls).1).log:Nat),.int .i64 ((P.vw (tkS P cls).1).unsat:Nat)])∧Below w'.heap.size w' w''):=fun w' g F h=>P.countsC h T.ok (by omega)
 have HPR:Hid (∀ (w':World) (g:Nat) (F:Nat→Prop),P.At w' g (tkS P cls).1 F→Calls Tryd.prog 14 #[.pointer (some ⟨g,0,none⟩)] w' fun e w''=>e=.returned (.string ⟨#[]⟩)∧Below w'.heap.size w' w''):=fun w' g F h=>by
  have:=P.proofC h T.ok
  rw[hvv] at this
  exact this
 have HBA:Hid (∀ w',Below w.heap.size w w'→Calls Tryd.prog 22 #[.slice a2 xs.length c2] w' fun e w''=>e=.returned (.bool (!xs.all litB))∧w''=w'):=fun w' hb=>bad_any a2 c2 xs w' (hi.below hb) hx
 have HPK:=hide (fun w=>pickG_any z 4611686018427387904 (by decide) (by decide) w hz.1 hz.2)
 have hpk:=pick_lt z 4611686018427387904 (by decide)
 have HSE:Hid (∀ (w':World) (g:Nat) (F:Nat→Prop) (b:Int),P.At w' g (tkS P cls).1 F→Below w.heap.size w w'→askedD xs b≠0→Calls Tryd.prog 13 #[.pointer (some ⟨g,0,none⟩),.slice a2 xs.length c2,.int .i64 b] w' fun e w''=>e=.returned (.tuple #[.agg #[.int .i64 0,.int .i64 0,.slice none 0 0,.slice none 0 0,.slice none 0 0],.int .i64 (askedD xs b)])∧Below w'.heap.size w' w''):=fun w' g F b h hb ha=>P.slvE a2 c2 xs b h (hi.below hb) hx ha
 have HAE:Hid (∀ (w':World) (g:Nat) (F:Nat→Prop),P.At w' g (tkS P cls).1 F→Below w.heap.size w w'→xs.all litB=false→Calls Tryd.prog 23 #[.pointer (some ⟨g,0,none⟩),.slice a2 xs.length c2] w' fun e w''=>e=.returned (.int .i64 4)∧Below w'.heap.size w' w''):=fun w' g F h hb ha=>P.addE a2 c2 xs h (hi.below hb) hx ha
 generalize sizeN (P.vw (tkS P cls).1).seen=n1 at *
 generalize (P.vw (tkS P cls).1).hv.length=n2 at *
 generalize litsN (P.vw (tkS P cls).1).hv=n3 at *
 generalize (P.vw (tkS P cls).1).lr.length=n4 at *
 generalize litsN (P.vw (tkS P cls).1).lr=n5 at *
 generalize (P.vw (tkS P cls).1).log=n6 at *
 generalize (P.vw (tkS P cls).1).unsat=n7 at *
 have e1:begL P (P.new 0 1048576 1048576) (begC cls)=tkS P cls:=rfl
 rw[e1] at HW
 generalize tkS P cls=sk at *
 generalize pickK z 4611686018427387904=pk at *
 clear hr hi htab T hln e1 hl40 hz hvv
 go_enter Tryd.func6,Tryd.ntmps6
 go_wp2_with fail
 refine(unhide HW).mono ?_
 rintro e w1 ⟨g,F,ta,tc,vs,rfl,X1,hb1⟩
 have hbA:=al_below w1 (.cells #[.pointer (some ⟨g,0,none⟩),.slice ta sk.2.length tc,.bool true] 26)
 have r2:Row (w1.alloc (.cells #[.pointer (some ⟨g,0,none⟩),.slice ta sk.2.length tc,.bool true] 26)) w1.heap.size 26 [.pointer (some ⟨g,0,none⟩),.slice ta sk.2.length tc,.bool true]:=heap_alloc_new w1 _
 have R2:=hide r2
 have X2:=hide (X1.below hbA)
 have b2:Below w.heap.size w (w1.alloc (.cells #[.pointer (some ⟨g,0,none⟩),.slice ta sk.2.length tc,.bool true] 26)):=hb1.trans (hbA.mono hb1.size)
 have B2:=hide b2
 have HL:=hide (HLI.out _ b2)
 clear hbA r2 X1 hb1 b2 HLI HW
 go_wp2_with fail
 refine(unhide HL).mono ?_
 generalize w1.alloc (.cells #[.pointer (some ⟨g,0,none⟩),.slice ta sk.2.length tc,.bool true] 26)=w2 at *
 rintro e w3 ⟨rfl,hb3⟩
 have R3:=hide (row_below R2.out hb3)
 have X3:=hide (X2.out.below hb3)
 have B3:Hid (Below w.heap.size w w3):=B2.out.trans (hb3.mono B2.out.size)
 have f2:w3.cell? ⟨w1.heap.size,2,none⟩=some (.bool true):=(R3.out.cell 2).trans rfl
 have f0:w3.cell? ⟨w1.heap.size,0,none⟩=some (.pointer (some ⟨g,0,none⟩)):=(R3.out.cell 0).trans rfl
 have HC3:=hide (HCT.out w3 g F X3.out.x)
 clear hb3 HL R2 X2 B2
 go_wp2_with fail
 refine(unhide HC3).mono ?_
 rintro e w4 ⟨rfl,hb4⟩
 have hbB:=hb4.trans ((al_below w4 (.cells #[.int .i64 (n1:Nat),.int .i64 (n2:Nat),.int .i64 (n3:Nat),.int .i64 (n4:Nat),.int .i64 (n5:Nat),.int .i64 (n6:Nat),.int .i64 (n7:Nat)] 46)).mono hb4.size)
 have R5:=hide (row_below R3.out hbB)
 have X5:=hide (X3.out.below hbB)
 have B5:Hid (Below w.heap.size w (w4.alloc (.cells #[.int .i64 (n1:Nat),.int .i64 (n2:Nat),.int .i64 (n3:Nat),.int .i64 (n4:Nat),.int .i64 (n5:Nat),.int .i64 (n6:Nat),.int .i64 (n7:Nat)] 46))):=B3.out.trans (hbB.mono B3.out.size)
 have C5:Hid (Row (w4.alloc (.cells #[.int .i64 (n1:Nat),.int .i64 (n2:Nat),.int .i64 (n3:Nat),.int .i64 (n4:Nat),.int .i64 (n5:Nat),.int .i64 (n6:Nat),.int .i64 (n7:Nat)] 46)) w4.heap.size 46 [.int .i64 (n1:Nat),.int .i64 (n2:Nat),.int .i64 (n3:Nat),.int .i64 (n4:Nat),.int .i64 (n5:Nat),.int .i64 (n6:Nat),.int .i64 (n7:Nat)]):=heap_alloc_new w4 _
 have HB5:=hide (HBA.out _ B5.out)
 clear hb4 hbB HC3 f2 f0
 go_wp2_with fail
 refine(unhide HB5).mono ?_
 generalize w4.alloc (.cells #[.int .i64 (n1:Nat),.int .i64 (n2:Nat),.int .i64 (n3:Nat),.int .i64 (n4:Nat),.int .i64 (n5:Nat),.int .i64 (n6:Nat),.int .i64 (n7:Nat)] 46)=w5 at *
 rintro e w6 ⟨rfl,hw⟩
 obtain rfl:=hw.symm
 have f0:w5.cell? ⟨w1.heap.size,0,none⟩=some (.pointer (some ⟨g,0,none⟩)):=(R5.out.cell 0).trans rfl
 have HTL:Hid (∀ (b:Int) (w':World),Below w5.heap.size w5 w'→True):=fun _ _ _=>trivial
 clear HB5 HBA HTL R3 X3 B3
 cases hall:xs.all litB with
 | true =>
  have hask:askedD xs (-1 - (pk:Int))=2∨askedD xs (-1 - (pk:Int))=6:=by
   unfold askedD
   split
   ·exact .inl rfl
   ·rw[if_neg (by rw[hall];simp),if_pos (by omega)];exact .inr rfl
  have HSS:=hide (HSE.out w5 g F (-1 - (pk:Int)) X5.out.x B5.out (by rcases hask with e | e <;> rw[e] <;> decide))
  have hwr:IntKind.i64.wrap (-1 - (pk:Int))=-1 - (pk:Int):=by rw[IntKind.wrap_i64];omega
  have RS:=R5
  have XS:=X5
  have CS:=C5
  have BS:=B5
  generalize hE:askedD xs (-1 - (pk:Int))=er at *
  have her:=hask
  clear hE hask HAE HSE
  go_wp2_with fail
  refine(unhide HPK w5).mono ?_
  rintro e w6 ⟨rfl,hw⟩
  obtain rfl:=hw.symm
  go_wp2_with fail
  refine(unhide HSS).mono ?_
  rintro e w7 ⟨rfl,hb7⟩
  have hbC:=hb7.trans ((al_below w7 (.cells #[.int .i64 0,.int .i64 0,.slice none 0 0,.slice none 0 0,.slice none 0 0] 31)).mono hb7.size)
  have R8:=hide (row_below RS.out hbC)
  have X8:=hide (XS.out.below hbC)
  have C8:=hide (row_below CS.out hbC)
  have B8:Hid (Below w.heap.size w (w7.alloc (.cells #[.int .i64 0,.int .i64 0,.slice none 0 0,.slice none 0 0,.slice none 0 0] 31))):=BS.out.trans (hbC.mono BS.out.size)
  have k0:(w7.alloc (.cells #[.int .i64 0,.int .i64 0,.slice none 0 0,.slice none 0 0,.slice none 0 0] 31)).cell? ⟨w1.heap.size,0,none⟩=some (.pointer (some ⟨g,0,none⟩)):=(R8.out.cell 0).trans rfl
  have HC8:=hide (HCT.out _ g F X8.out.x)
  clear hb7 hbC HSS RS XS CS BS
  rcases her with rfl|rfl
  all_goals
   go_wp2_with fail
   refine(unhide HC8).mono ?_
   generalize w7.alloc (.cells #[.int .i64 0,.int .i64 0,.slice none 0 0,.slice none 0 0,.slice none 0 0] 31)=w8 at *
   rintro e w9 ⟨rfl,hb9⟩
   have hbD:=hb9.trans ((al_below w9 (.cells #[.int .i64 (n1:Nat),.int .i64 (n2:Nat),.int .i64 (n3:Nat),.int .i64 (n4:Nat),.int .i64 (n5:Nat),.int .i64 (n6:Nat),.int .i64 (n7:Nat)] 46)).mono hb9.size)
   have R9:=hide (row_below R8.out hbD)
   have X9:=hide (X8.out.below hbD)
   have C9:=hide (row_below C8.out hbD)
   have D9:Hid (Row (w9.alloc (.cells #[.int .i64 (n1:Nat),.int .i64 (n2:Nat),.int .i64 (n3:Nat),.int .i64 (n4:Nat),.int .i64 (n5:Nat),.int .i64 (n6:Nat),.int .i64 (n7:Nat)] 46)) w9.heap.size 46 [.int .i64 (n1:Nat),.int .i64 (n2:Nat),.int .i64 (n3:Nat),.int .i64 (n4:Nat),.int .i64 (n5:Nat),.int .i64 (n6:Nat),.int .i64 (n7:Nat)]):=heap_alloc_new w9 _
   have B9:Hid (Below w.heap.size w (w9.alloc (.cells #[.int .i64 (n1:Nat),.int .i64 (n2:Nat),.int .i64 (n3:Nat),.int .i64 (n4:Nat),.int .i64 (n5:Nat),.int .i64 (n6:Nat),.int .i64 (n7:Nat)] 46))):=B8.out.trans (hbD.mono B8.out.size)
   have m0:(w9.alloc (.cells #[.int .i64 (n1:Nat),.int .i64 (n2:Nat),.int .i64 (n3:Nat),.int .i64 (n4:Nat),.int .i64 (n5:Nat),.int .i64 (n6:Nat),.int .i64 (n7:Nat)] 46)).cell? ⟨w1.heap.size,0,none⟩=some (.pointer (some ⟨g,0,none⟩)):=(R9.out.cell 0).trans rfl
   have HP9:=hide (HPR.out _ g F X9.out.x)
   clear hb9 hbD HC8 k0
   go_wp2_with fail
   refine(unhide HP9).mono ?_
   generalize w9.alloc (.cells #[.int .i64 (n1:Nat),.int .i64 (n2:Nat),.int .i64 (n3:Nat),.int .i64 (n4:Nat),.int .i64 (n5:Nat),.int .i64 (n6:Nat),.int .i64 (n7:Nat)] 46)=w10 at *
   rintro e w11 ⟨rfl,hb11⟩
   have C11:=row_below C9.out hb11
   have D11:=row_below D9.out hb11
   have B11:Hid (Below w.heap.size w w11):=B9.out.trans (hb11.mono B9.out.size)
   have c0:w11.cell? ⟨w4.heap.size,0,none⟩=some (.int .i64 (n1:Nat)):=(C11.cell 0).trans rfl
   have d0:w11.cell? ⟨w9.heap.size,0,none⟩=some (.int .i64 (n1:Nat)):=(D11.cell 0).trans rfl
   have c1:w11.cell? ⟨w4.heap.size,1,none⟩=some (.int .i64 (n2:Nat)):=(C11.cell 1).trans rfl
   have d1:w11.cell? ⟨w9.heap.size,1,none⟩=some (.int .i64 (n2:Nat)):=(D11.cell 1).trans rfl
   have c2:w11.cell? ⟨w4.heap.size,2,none⟩=some (.int .i64 (n3:Nat)):=(C11.cell 2).trans rfl
   have d2:w11.cell? ⟨w9.heap.size,2,none⟩=some (.int .i64 (n3:Nat)):=(D11.cell 2).trans rfl
   have c3:w11.cell? ⟨w4.heap.size,3,none⟩=some (.int .i64 (n4:Nat)):=(C11.cell 3).trans rfl
   have d3:w11.cell? ⟨w9.heap.size,3,none⟩=some (.int .i64 (n4:Nat)):=(D11.cell 3).trans rfl
   have c4:w11.cell? ⟨w4.heap.size,4,none⟩=some (.int .i64 (n5:Nat)):=(C11.cell 4).trans rfl
   have d4:w11.cell? ⟨w9.heap.size,4,none⟩=some (.int .i64 (n5:Nat)):=(D11.cell 4).trans rfl
   have c5:w11.cell? ⟨w4.heap.size,5,none⟩=some (.int .i64 (n6:Nat)):=(C11.cell 5).trans rfl
   have d5:w11.cell? ⟨w9.heap.size,5,none⟩=some (.int .i64 (n6:Nat)):=(D11.cell 5).trans rfl
   have c6:w11.cell? ⟨w4.heap.size,6,none⟩=some (.int .i64 (n7:Nat)):=(C11.cell 6).trans rfl
   have d6:w11.cell? ⟨w9.heap.size,6,none⟩=some (.int .i64 (n7:Nat)):=(D11.cell 6).trans rfl
   clear C11 D11 hb11
   go_wp2
   go_ret
   exact⟨rfl,B11.out⟩
 | false =>
  have hask:askedD xs (pk:Int)=2∨askedD xs (pk:Int)=4:=by
   unfold askedD
   split
   ·exact .inl rfl
   ·exact .inr rfl
  have HAD:=hide (HAE.out w5 g F X5.out.x B5.out hall)
  clear HAE
  go_wp2_with fail
  refine(unhide HAD).mono ?_
  rintro e w6 ⟨rfl,hb6⟩
  have RS:=hide (row_below R5.out hb6)
  have XS:=hide (X5.out.below hb6)
  have CS:=hide (row_below C5.out hb6)
  have BS:Hid (Below w.heap.size w w6):=B5.out.trans (hb6.mono B5.out.size)
  have g0:w6.cell? ⟨w1.heap.size,0,none⟩=some (.pointer (some ⟨g,0,none⟩)):=(RS.out.cell 0).trans rfl
  have HSS:=hide (HSE.out w6 g F (pk:Int) XS.out.x BS.out (by rcases hask with e | e <;> rw[e] <;> decide))
  generalize hE:askedD xs (pk:Int)=er at *
  have her:=hask
  clear hE hask HSE HAD hb6 f0
  go_wp2_with fail
  refine(unhide HPK w6).mono ?_
  rintro e w6' ⟨rfl,hw⟩
  obtain rfl:=hw.symm
  go_wp2_with fail
  refine(unhide HSS).mono ?_
  rintro e w7 ⟨rfl,hb7⟩
  have hbC:=hb7.trans ((al_below w7 (.cells #[.int .i64 0,.int .i64 0,.slice none 0 0,.slice none 0 0,.slice none 0 0] 31)).mono hb7.size)
  have R8:=hide (row_below RS.out hbC)
  have X8:=hide (XS.out.below hbC)
  have C8:=hide (row_below CS.out hbC)
  have B8:Hid (Below w.heap.size w (w7.alloc (.cells #[.int .i64 0,.int .i64 0,.slice none 0 0,.slice none 0 0,.slice none 0 0] 31))):=BS.out.trans (hbC.mono BS.out.size)
  have k0:(w7.alloc (.cells #[.int .i64 0,.int .i64 0,.slice none 0 0,.slice none 0 0,.slice none 0 0] 31)).cell? ⟨w1.heap.size,0,none⟩=some (.pointer (some ⟨g,0,none⟩)):=(R8.out.cell 0).trans rfl
  have HC8:=hide (HCT.out _ g F X8.out.x)
  clear hb7 hbC HSS RS XS CS BS
  rcases her with rfl|rfl
  all_goals
   go_wp2_with fail
   refine(unhide HC8).mono ?_
   generalize w7.alloc (.cells #[.int .i64 0,.int .i64 0,.slice none 0 0,.slice none 0 0,.slice none 0 0] 31)=w8 at *
   rintro e w9 ⟨rfl,hb9⟩
   have hbD:=hb9.trans ((al_below w9 (.cells #[.int .i64 (n1:Nat),.int .i64 (n2:Nat),.int .i64 (n3:Nat),.int .i64 (n4:Nat),.int .i64 (n5:Nat),.int .i64 (n6:Nat),.int .i64 (n7:Nat)] 46)).mono hb9.size)
   have R9:=hide (row_below R8.out hbD)
   have X9:=hide (X8.out.below hbD)
   have C9:=hide (row_below C8.out hbD)
   have D9:Hid (Row (w9.alloc (.cells #[.int .i64 (n1:Nat),.int .i64 (n2:Nat),.int .i64 (n3:Nat),.int .i64 (n4:Nat),.int .i64 (n5:Nat),.int .i64 (n6:Nat),.int .i64 (n7:Nat)] 46)) w9.heap.size 46 [.int .i64 (n1:Nat),.int .i64 (n2:Nat),.int .i64 (n3:Nat),.int .i64 (n4:Nat),.int .i64 (n5:Nat),.int .i64 (n6:Nat),.int .i64 (n7:Nat)]):=heap_alloc_new w9 _
   have B9:Hid (Below w.heap.size w (w9.alloc (.cells #[.int .i64 (n1:Nat),.int .i64 (n2:Nat),.int .i64 (n3:Nat),.int .i64 (n4:Nat),.int .i64 (n5:Nat),.int .i64 (n6:Nat),.int .i64 (n7:Nat)] 46))):=B8.out.trans (hbD.mono B8.out.size)
   have m0:(w9.alloc (.cells #[.int .i64 (n1:Nat),.int .i64 (n2:Nat),.int .i64 (n3:Nat),.int .i64 (n4:Nat),.int .i64 (n5:Nat),.int .i64 (n6:Nat),.int .i64 (n7:Nat)] 46)).cell? ⟨w1.heap.size,0,none⟩=some (.pointer (some ⟨g,0,none⟩)):=(R9.out.cell 0).trans rfl
   have HP9:=hide (HPR.out _ g F X9.out.x)
   clear hb9 hbD HC8 k0
   go_wp2_with fail
   refine(unhide HP9).mono ?_
   generalize w9.alloc (.cells #[.int .i64 (n1:Nat),.int .i64 (n2:Nat),.int .i64 (n3:Nat),.int .i64 (n4:Nat),.int .i64 (n5:Nat),.int .i64 (n6:Nat),.int .i64 (n7:Nat)] 46)=w10 at *
   rintro e w11 ⟨rfl,hb11⟩
   have C11:=row_below C9.out hb11
   have D11:=row_below D9.out hb11
   have B11:Hid (Below w.heap.size w w11):=B9.out.trans (hb11.mono B9.out.size)
   have c0:w11.cell? ⟨w4.heap.size,0,none⟩=some (.int .i64 (n1:Nat)):=(C11.cell 0).trans rfl
   have d0:w11.cell? ⟨w9.heap.size,0,none⟩=some (.int .i64 (n1:Nat)):=(D11.cell 0).trans rfl
   have c1:w11.cell? ⟨w4.heap.size,1,none⟩=some (.int .i64 (n2:Nat)):=(C11.cell 1).trans rfl
   have d1:w11.cell? ⟨w9.heap.size,1,none⟩=some (.int .i64 (n2:Nat)):=(D11.cell 1).trans rfl
   have c2:w11.cell? ⟨w4.heap.size,2,none⟩=some (.int .i64 (n3:Nat)):=(C11.cell 2).trans rfl
   have d2:w11.cell? ⟨w9.heap.size,2,none⟩=some (.int .i64 (n3:Nat)):=(D11.cell 2).trans rfl
   have c3:w11.cell? ⟨w4.heap.size,3,none⟩=some (.int .i64 (n4:Nat)):=(C11.cell 3).trans rfl
   have d3:w11.cell? ⟨w9.heap.size,3,none⟩=some (.int .i64 (n4:Nat)):=(D11.cell 3).trans rfl
   have c4:w11.cell? ⟨w4.heap.size,4,none⟩=some (.int .i64 (n5:Nat)):=(C11.cell 4).trans rfl
   have d4:w11.cell? ⟨w9.heap.size,4,none⟩=some (.int .i64 (n5:Nat)):=(D11.cell 4).trans rfl
   have c5:w11.cell? ⟨w4.heap.size,5,none⟩=some (.int .i64 (n6:Nat)):=(C11.cell 5).trans rfl
   have d5:w11.cell? ⟨w9.heap.size,5,none⟩=some (.int .i64 (n6:Nat)):=(D11.cell 5).trans rfl
   have c6:w11.cell? ⟨w4.heap.size,6,none⟩=some (.int .i64 (n7:Nat)):=(C11.cell 6).trans rfl
   have d6:w11.cell? ⟨w9.heap.size,6,none⟩=some (.int .i64 (n7:Nat)):=(D11.cell 6).trans rfl
   clear C11 D11 hb11
   go_wp2
   go_ret
   exact⟨rfl,B11.out⟩
end Go.Proofs.YthboeppmlhbofabDoor
