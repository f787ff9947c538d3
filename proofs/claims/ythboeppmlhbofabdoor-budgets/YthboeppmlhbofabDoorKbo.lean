import Derived.Test.YthboeppmlhbofabDoorKbg
namespace Go.Proofs.YthboeppmlhbofabDoor
open Go.RowKit Txt
set_option maxRecDepth 100000
def fiveB(x:Int):Bool:=decide (-5≤x) && decide (x≤5)
structure Smi(w:World)(vs:List Value)(sm:List (List Int)):Prop where
 len:vs.length=sm.length
 at':∀ r,r<sm.length→∃ a c,vs[r]?=some (.slice a (sm.getD r []).length c)∧IntsAt w a (sm.getD r [])∧(sm.getD r []).length≤9223372036854775807
 five:∀ c∈sm,c.all fiveB=true
theorem Smi.push{w:World}{vs:List Value}{sm:List (List Int)}(h:Smi w vs sm){a:Option Addr}{c:Nat}{xs:List Int}(hi:IntsAt w a xs)(hl:xs.length≤9223372036854775807)(h5:xs.all fiveB=true):Smi w (vs++[.slice a xs.length c]) (sm++[xs]):=by
 refine⟨by simp[h.len],fun r hr=>?_,fun c hc=>?_⟩
 ·simp only[List.length_append,List.length_cons,List.length_nil] at hr
  by_cases hlt:r<sm.length
  ·obtain⟨a,c,q1,q2,q3⟩:=h.at' r hlt
   have e:(sm++[xs]).getD r []=sm.getD r []:=by rw[List.getD_eq_getElem?_getD,List.getElem?_append_left hlt,List.getD_eq_getElem?_getD]
   rw[e]
   exact⟨a,c,by rw[List.getElem?_append_left (by rw[h.len];exact hlt)];exact q1,q2,q3⟩
  ·obtain rfl:r=sm.length:=by omega
   have e:(sm++[xs]).getD sm.length []=xs:=by rw[List.getD_eq_getElem?_getD,List.getElem?_append_right (Nat.le_refl _),Nat.sub_self];rfl
   rw[e]
   exact⟨a,c,by rw[List.getElem?_append_right (by rw[h.len];exact Nat.le_refl _),h.len,Nat.sub_self];rfl,hi,hl⟩
 ·rcases List.mem_append.1 hc with q | q
  ·exact h.five c q
  ·simp at q;subst q;exact h5
theorem Smi.rows{w:World}{vs:List Value}{sm:List (List Int)}(h:Smi w vs sm){w':World}{B:Nat}{a1:Option Addr}{c1:Nat}(ho:w'.ownsRow B 23 1 (.slice a1 sm.length c1) sm.length vs)(hb:Below w.heap.size w w'):∃ A C,RowsAt w' a1 A C sm:=by
 by_cases h0:sm=[]
 ·exact⟨fun _=>none,fun _=>0,.inl h0⟩
 have hp:0<sm.length:=List.length_pos_iff.2 h0
 obtain⟨g',cap,e,_,_⟩:=ho.form hp
 simp only[Value.slice.injEq] at e
 obtain⟨rfl,_,rfl⟩:=e
 refine⟨fun r=>match vs.getD r undef with | .slice a _ _=>a | _=>none,fun r=>match vs.getD r undef with | .slice _ _ c=>c | _=>0,.inr ⟨g',0,rfl,fun r hr=>?_⟩⟩
 obtain⟨a,c,h1,h2,h3⟩:=h.at' r hr
 have e1:vs.getD r undef=.slice a (sm.getD r []).length c:=by rw[List.getD_eq_getElem?_getD,h1];rfl
 simp only[e1]
 have hc:=ho.cells (g:=g') rfl r _ h1
 rw[addr0] at hc
 exact⟨hc,h2.below hb,h3⟩
theorem five_take(xs:List Int)(k:Nat)(hk:k<xs.length):(xs.take (k+1)).all fiveB=((xs.take k).all fiveB && fiveB (xs.getD k 0)):=by
 rw[List.take_succ_eq_append_getElem hk,List.all_append,List.getD_eq_getElem?_getD,List.getElem?_eq_getElem hk]
 simp
theorem tk_five{P:Prg}{sm:List (List Int)}(h:∀ c∈sm,c.all fiveB=true):∀ c∈(tkS P sm).2,∀ x∈c,-5≤x∧x≤5:=by
 intro c hc x hx
 have h1:=(begL_len P (P.new 0 1048576 1048576) (begC sm)).2 c hc
 unfold begC at h1
 obtain⟨d,hd,rfl⟩:=List.mem_map.1 h1
 have h2:=List.all_eq_true.1 (h d (List.mem_of_mem_take hd)) x (List.mem_of_mem_take hx)
 unfold fiveB at h2
 simpa using h2
set_option maxHeartbeats 8000000 in
theorem budgets_any(P:Prg)(a:Option Addr)(c:Nat)(A:Nat→Option Addr)(C:Nat→Nat)(cls:List (List Int))(z:Int)(w:World)(hr:RowsAt w a A C cls)(hcl:cls.length≤9223372036854775807)(_hcb:∀ c∈cls,∀ x∈c,-9223372036854775808≤x∧x≤9223372036854775807)(hz:-9223372036854775808≤z∧z≤9223372036854775807)(htab:Tab w)(h0:0<w.heap.size) :
  Calls Tryd.prog 7 #[.slice a cls.length c,.int .i64 z] w fun e w'=>e=.returned (.bool true)∧Below w.heap.size w w':=by
 obtain⟨i1,gi,gz0,gz1,gz2⟩:=info_parts Tryd.infoInts
 have HR:=hide hr
 have TB:=hide htab
 have HPK:=hide (fun w=>pickG_any z 3 (by decide) (by decide) w hz.1 hz.2)
 have hpk:=pick_lt z 3 (by decide)
 have HLI:Hid (∀ w',Below w.heap.size w w'→Calls Tryd.prog 11 #[] w' fun e w''=>e=.returned (.bool true)∧Below w'.heap.size w' w''):=fun w' hb=>lives_any P w' (htab.below hb h0) (Nat.lt_of_lt_of_le h0 hb.size)
 generalize pickK z 3=pk at *
 clear hr htab hz
 go_enter Tryd.func7,Tryd.ntmps7
 go_wp2
 go_loopw [5,6] (fun x5 x6 wr=>∃ (k:Nat) (sm:List (List Int)) (vs:List Value) (a1:Option Addr) (c1:Nat),k≤cls.length∧sm.length≤40∧x6=.int .i64 k∧x5=.slice a1 sm.length c1∧Hid (wr.ownsRow w.heap.size 23 1 (.slice a1 sm.length c1) sm.length vs)∧Hid (Smi w vs sm)∧Hid (Below w.heap.size w wr)) (fun _ x6 _=>cls.length - (intOf x6).toNat)
 case atStart=>exact⟨0,[],[],none,0,Nat.zero_le _,by simp,rfl,rfl,⟨by simp,.inl ⟨rfl,rfl⟩⟩,⟨rfl,fun r hr=>by simp at hr,fun c hc=>by simp at hc⟩,Below.refl _ _⟩
 case round =>
  obtain⟨k,sm,vs,a1,c1,hk,hs40,rfl,rfl,HO,HS,HB⟩:=hrel
  have hcs:(k<cls.length∧sm.length<40)∨((k<cls.length∧¬ sm.length<40)∨¬ k<cls.length):=by omega
  have hzr:w.heap.size≤wr.heap.size:=HB.out.size
  generalize wr=wq at *
  rcases hcs with⟨hlt,h40⟩ | hex
  ·obtain⟨b,off,rfl,hcw⟩:=HR.out.get (by omega)
   obtain⟨q1,q2,q3⟩:=hcw k hlt
   have QC:wq.cell? ⟨b,off+k,none⟩=some (.slice (A k) (cls.getD k []).length (C k)):=(HB.out.cell (World.block_lt_of_cell? w _ q1)).trans q1
   have Q2:=hide q2
   have Q3:=hide (q2.below HB.out)
   have i1':(0:Int)≤(k:Int):=by omega
   have i2':(k:Int)<(cls.length:Int):=by omega
   have i3':(sm.length:Int)<40:=by omega
   generalize cls.getD k []=xs at *
   generalize A k=ak at *
   clear hcw q1 q2
   go_wp2_with fail
   go_loopw [7,8] (fun x7 x8 wi=>∃ j:Nat,j≤xs.length∧x8=.int .i64 j∧x7=.bool ((xs.take j).all fiveB)∧wi=wq) (fun _ x8 _=>xs.length - (intOf x8).toNat)
   case atStart=>exact⟨0,Nat.zero_le _,rfl,rfl,rfl⟩
   case round =>
    obtain⟨j,hj,rfl,rfl,e⟩:=hrel
    subst e
    by_cases hjl:j<xs.length
    ·obtain⟨b2,off2,rfl,hc2⟩:=Q3.out.get (by omega)
     have x0:=hc2 j hjl
     have HT:=hide (five_take xs j hjl)
     have j1:(0:Int)≤(j:Int):=by omega
     have j2:(j:Int)<(xs.length:Int):=by omega
     generalize xs.getD j 0=x at *
     generalize (xs.take j).all fiveB=B at *
     clear hc2
     cases B with
     | false =>
      have HT2:Hid ((xs.take (j+1)).all fiveB=false):=HT.out
      clear HT
      go_wp2
      go_roundw
      case rel=>exact⟨j+1,by omega,by go_num,by rw[HT2.out],trivial⟩
      case measure=>simp[intOf];omega
     | true =>
      by_cases h1:x ≥ -5
      ·by_cases h2:x≤5
       ·have HT2:Hid ((xs.take (j+1)).all fiveB=true):=by
         show _=_
         rw[HT.out]
         unfold fiveB
         rw[decide_eq_true h1,decide_eq_true h2]
         rfl
        clear HT
        go_wp2
        go_roundw
        case rel=>exact⟨j+1,by omega,by go_num,by rw[HT2.out],trivial⟩
        case measure=>simp[intOf];omega
       ·have HT2:Hid ((xs.take (j+1)).all fiveB=false):=by
         show _=_
         rw[HT.out]
         unfold fiveB
         rw[decide_eq_true h1,decide_eq_false h2]
         rfl
        clear HT
        go_wp2
        go_roundw
        case rel=>exact⟨j+1,by omega,by go_num,by rw[HT2.out],trivial⟩
        case measure=>simp[intOf];omega
      ·have HT2:Hid ((xs.take (j+1)).all fiveB=false):=by
        show _=_
        rw[HT.out]
        unfold fiveB
        rw[decide_eq_false h1]
        rfl
       clear HT
       go_wp2
       go_roundw
       case rel=>exact⟨j+1,by omega,by go_num,by rw[HT2.out],trivial⟩
       case measure=>simp[intOf];omega
    ·obtain rfl:j=xs.length:=by omega
     have HAL:Hid ((xs.take xs.length).all fiveB=xs.all fiveB):=by show _=_;rw[List.take_of_length_le (Nat.le_refl _)]
     rw[HAL.out]
     cases hB:xs.all fiveB with
     | false =>
      clear hB HAL
      go_wp2
      go_roundw
      case rel=>exact⟨k+1,sm,vs,a1,c1,by omega,by omega,by go_num,rfl,HO,HS,HB⟩
      case measure=>simp[intOf];omega
     | true =>
      have d1:Hid (sm.length+1≤maxLen):=by show _≤_;unfold maxLen;omega
      have d2:Hid ((sm.length+1)*24≤140737488355328):=by show _≤_;omega
      have HB5:=hide hB
      clear hB HAL
      go_wp2_with (at_builtin;refine wpList_append_full _ rfl _ _ 22 rfl w.heap.size 23 i1 (.slice none 0 0) 24 Tryd.undLists gi gz0 gz1 gz2 rfl (.slice a1 sm.length c1) sm.length vs rfl (HO.out.alloc _) ⟨wr.heap.size,0,none⟩ 1 1 [.slice ak xs.length (C k)] rfl rfl (new_cells1 wr [.slice ak xs.length (C k)] 23) (by intro u hu;simp at hu;subst hu;rfl) (by decide) d1.out d2.out (by simp;omega) (wr.heap.size+1) (by simp) ?_;intro a4 c4 w4 hown4 hg4 hl4)
      have HO4:Hid (w4.ownsRow w.heap.size 23 1 (.slice a4 (sm++[xs]).length c4) (sm++[xs]).length (vs++[.slice ak xs.length (C k)])):=by
       show World.ownsRow _ _ _ _ _ _ _
       rw[List.length_append];exact hown4
      have HB4:Hid (Below w.heap.size w w4):=(HB.out.alloc HB.out.size _).grown hg4 (HB.out.alloc HB.out.size _).size (fun q hq=>(HO.out.lt q hq).1)
      have HS4:Hid (Smi w (vs++[.slice ak xs.length (C k)]) (sm++[xs])):=HS.out.push Q2.out q3 HB5.out
      clear hown4 hg4 hl4
      go_wp2
      go_roundw
      case rel=>exact⟨k+1,sm++[xs],vs++[.slice ak xs.length (C k)],a4,c4,by omega,by simp;omega,by go_num,by rw[List.length_append];rfl,HO4,HS4,HB4⟩
      case measure=>simp[intOf];omega
  ·obtain⟨A1,C1,hrows⟩:=HS.out.rows HO.out HB.out
   have HW1:=hide (widely_any P a1 c1 A1 C1 sm wq hrows (by omega))
   have HWD2:Hid (∀ w',Below wq.heap.size wq w'→Calls Tryd.prog 10 #[.slice a1 sm.length c1] w' (BegPost P w' (tkS P sm).1 (tkS P sm).2)):=fun w' hb=>widely_any P a1 c1 A1 C1 sm w' (rows_below hrows hb) (by omega)
   have T:=tkS_ok P sm
   have hl40:=tkS_len P sm
   have hln:=T.len hl40
   have TBG:=hide (T.bgt (tk_five HS.out.five))
   have HSY:Hid (Says (hvOf (tkS P sm).2) [] (P.ans (tkS P sm).1 [] 0)):=by
    have:=wide_says T.ok T.roomy (xs:=[]) (by decide)
    rw[T.v] at this
    exact this
   have HTO:=hide T.ok
   have HHV:Hid ((hvOf (tkS P sm).2).length≤1000):=by
    have:=hvOf_len (tkS P sm).2
    show _≤_
    omega
   have e1:begL P (P.new 0 1048576 1048576) (begC sm)=tkS P sm:=rfl
   rw[e1] at HW1
   generalize tkS P sm=sk at *
   clear hrows T e1 HO HS HR
   rcases hex with⟨hlt,h40⟩ | hlt
   all_goals
    have i9:True:=trivial
    go_wp2_with fail
    refine(unhide HW1).mono ?_
    rintro e w1 ⟨g1,F1,ta1,tc1,vs1,rfl,X1,hb1⟩
    have HW2:=hide (HWD2.out (w1.alloc (.cells #[.pointer (some ⟨g1,0,none⟩),.slice ta1 sk.2.length tc1,.bool true] 26)) (hb1.trans ((al_below w1 _).mono hb1.size)))
    have X1H:=hide X1
    have B1H:=hide hb1
    clear HW1 HWD2 X1 hb1
    go_wp2_with fail
    refine(unhide HW2).mono ?_
    rintro e w2 ⟨g2,F2,ta2,tc2,vs2,rfl,X2,hb2⟩
    obtain⟨D2,R1,R2,_⟩:=duo_start (r1:=[.pointer (some ⟨g1,0,none⟩),.slice ta1 sk.2.length tc1,.bool true]) (r2:=[.pointer (some ⟨g2,0,none⟩),.slice ta2 sk.2.length tc2,.bool true]) rfl rfl HB.out X1H.out B1H.out X2 hb2
    have HL:=hide (HLI.out _ D2.bel)
    have D2H:=hide D2
    have R1H:=hide R1
    have R2H:=hide R2
    clear HW2 X1H B1H X2 hb2 D2 R1 R2 HLI
    go_wp2_with fail
    refine(unhide HL).mono ?_
    rintro e w4 ⟨rfl,hb4⟩
    have hlt1:w1.heap.size<w4.heap.size:=Nat.lt_of_lt_of_le R1H.out.lt hb4.size
    have D4:=hide (D2H.out.below hb4)
    have R1:=hide (row_below R1H.out hb4)
    have R2:=hide (row_below R2H.out hb4)
    have f12:w4.cell? ⟨w1.heap.size,2,none⟩=some (.bool true):=(R1.out.cell 2).trans rfl
    have f22:w4.cell? ⟨w2.heap.size,2,none⟩=some (.bool true):=(R2.out.cell 2).trans rfl
    have f10:w4.cell? ⟨w1.heap.size,0,none⟩=some (.pointer (some ⟨g1,0,none⟩)):=(R1.out.cell 0).trans rfl
    have z4:w.heap.size≤w4.heap.size:=D4.out.bel.size
    have HS1:=hide (solve_nil P D4.out.x1 HTO.out hln (TB.out.below D4.out.bel h0) (by omega) (fun q=>by have:=D4.out.b1 0 q;omega))
    generalize P.ans sk.1 [] 0=x at *
    clear HL D2H R1H R2H hb4
    go_wp2_with fail
    refine(unhide HS1).mono ?_
    rintro e w5 ⟨p,rfl,hao,F5,x5,c5,n5,_⟩
    obtain⟨d5,k5⟩:=D4.out.call1 x5 c5 n5
    have r2:=row_keep R2.out (k5 _ (.inr (.inl rfl)))
    have hbA:=al_below w5 (.cells #[.int .i64 x.st,.int .i64 x.re,.slice p.a1 x.vs.length p.c1,.slice p.a2 x.co.length p.c2,.slice p.a3 x.cl.length p.c3] 31)
    have hsz:(w5.alloc (.cells #[.int .i64 x.st,.int .i64 x.re,.slice p.a1 x.vs.length p.c1,.slice p.a2 x.co.length p.c2,.slice p.a3 x.cl.length p.c3] 31)).heap.size=w5.heap.size+1:=by simp
    have D6:=hide ((d5.below hbA).more (n:=w5.heap.size) (fun q=>by have:=P.lt d5.x1 _ q;omega) (fun q=>by have:=P.lt d5.x2 _ q;omega) (by omega))
    have R6:=hide (row_below r2 hbA)
    have A6:Hid (Row (w5.alloc (.cells #[.int .i64 x.st,.int .i64 x.re,.slice p.a1 x.vs.length p.c1,.slice p.a2 x.co.length p.c2,.slice p.a3 x.cl.length p.c3] 31)) w5.heap.size 31 [.int .i64 x.st,.int .i64 x.re,.slice p.a1 x.vs.length p.c1,.slice p.a2 x.co.length p.c2,.slice p.a3 x.cl.length p.c3]):=heap_alloc_new w5 _
    clear hbA r2 hao x5 c5 n5 d5 k5 HS1 D4 R1 R2 f12 f22 f10 hsz hlt1
    go_wp2_with fail
    refine(unhide HPK _).mono ?_
    generalize w5.alloc (.cells #[.int .i64 x.st,.int .i64 x.re,.slice p.a1 x.vs.length p.c1,.slice p.a2 x.co.length p.c2,.slice p.a3 x.cl.length p.c3] 31)=w6 at *
    rintro e w6' ⟨rfl,hw⟩
    obtain rfl:=hw.symm
    clear hw HPK
    go_wp2_with fail
    generalize hT2:w2.heap.size=T2 at *
    generalize hAN:w5.heap.size=AN at *
    generalize (w1.heap.size)=T1 at *
    clear hT2 hAN
    go_loopw [15] (fun x15 wr=>∃ (n:Nat) (s2:P.S) (F7:Nat→Prop),n≤244∧x15=.int .i64 n∧Hid (Duo P w wr g1 g2 (P.slv sk.1 [] 0) s2 F5 F7 (fun b=>(b=T1∨b=T2∨TkB ta2 tc2 vs2 b)∨b=AN))∧Hid (Bgt P sk.2 n s2)∧Hid (Row wr T2 26 [.pointer (some ⟨g2,0,none⟩),.slice ta2 sk.2.length tc2,.bool true])∧Hid (Row wr AN 31 [.int .i64 x.st,.int .i64 x.re,.slice p.a1 x.vs.length p.c1,.slice p.a2 x.co.length p.c2,.slice p.a3 x.cl.length p.c3])) (fun x15 _=>244 - (intOf x15).toNat)
    case atStart=>exact⟨0,sk.1,F2,by decide,rfl,D6,TBG,R6,A6⟩
    case round =>
     clear D6 TBG R6 A6
     obtain⟨n,s2,F7,hn,rfl,DD,BG,RR,AA⟩:=hrel
     have hcap:=BG.out.cap
     have hn4:n<244:=by omega
     have g0:wr.cell? ⟨T2,0,none⟩=some (.pointer (some ⟨g2,0,none⟩)):=(RR.out.cell 0).trans rfl
     have zr:w.heap.size≤wr.heap.size:=DD.out.bel.size
     have HST:=hide (BG.out.step (b:=1+(pk:Int)) (by omega))
     have HSV:=hide (solve_none P DD.out.x2 BG.out.ok (by rw[BG.out.hv];exact HHV.out) (TB.out.below DD.out.bel h0) (by omega) (fun q=>by have:=DD.out.b2 0 q;omega) (1+(pk:Int)))
     have hpk2:IntKind.i64.wrap (1+(pk:Int))=1+(pk:Int):=by rw[IntKind.wrap_i64];omega
     generalize P.ans s2 [] (1+(pk:Int))=y at *
     generalize P.slv s2 [] (1+(pk:Int))=s3 at *
     generalize askedD [] (1+(pk:Int))=er at *
     go_wp2_with fail
     refine(unhide HSV).mono ?_
     rintro e w7 ⟨p7,rfl,hao7,F8,x7,c7,n7,_⟩
     obtain⟨d7,k7⟩:=DD.out.call2 x7 c7 n7
     have hbB:=al_below w7 (.cells #[.int .i64 y.st,.int .i64 y.re,.slice p7.a1 y.vs.length p7.c1,.slice p7.a2 y.co.length p7.c2,.slice p7.a3 y.cl.length p7.c3] 31)
     have D8:=hide (d7.below hbB)
     have R8:=hide (row_below (row_keep RR.out (k7 _ (.inl (.inr (.inl rfl))))) hbB)
     have A8:=hide (row_below (row_keep AA.out (k7 _ (.inr rfl))) hbB)
     have c8:Row (w7.alloc (.cells #[.int .i64 y.st,.int .i64 y.re,.slice p7.a1 y.vs.length p7.c1,.slice p7.a2 y.co.length p7.c2,.slice p7.a3 y.cl.length p7.c3] 31)) w7.heap.size 31 [.int .i64 y.st,.int .i64 y.re,.slice p7.a1 y.vs.length p7.c1,.slice p7.a2 y.co.length p7.c2,.slice p7.a3 y.cl.length p7.c3]:=heap_alloc_new w7 _
     have C8:=hide c8
     clear hbB c8 hao7 x7 c7 n7 d7 k7 HSV DD RR AA g0 BG
     have y0:=(C8.out.cell 0).trans (show _=some (Value.int .i64 y.st) from rfl)
     have y1:=(C8.out.cell 1).trans (show _=some (Value.int .i64 y.re) from rfl)
     have a0:=(A8.out.cell 0).trans (show _=some (Value.int .i64 x.st) from rfl)
     obtain⟨yst,yre,yvs,yco,ycl⟩:=y
     simp only at HST y0 y1 a0 D8 R8 A8 C8
     rcases HST.out with⟨e3,e1,hb⟩ | ⟨e3,hs⟩
     ·subst e3 e1
      have BG8:=hide hb
      clear hb HST
      go_wp2
      go_roundw
      case rel=>exact⟨n+1,s3,F8,by omega,by go_num,D8,BG8,R8,A8⟩
      case measure=>simp[intOf];omega
     ·have hsame:x.st=yst:=says_same rfl HSY.out hs
      have hne:(yst != 3)=true:=by rw[bne_iff_ne];exact e3
      obtain⟨xst,xre,xvs,xco,xcl⟩:=x
      simp only at hsame a0
      subst hsame
      have hself:(xst == xst)=true:=by simp
      clear HST hs e3
      go_wp2
      go_ret
      exact⟨rfl,D8.out.bel⟩
end Go.Proofs.YthboeppmlhbofabDoor
