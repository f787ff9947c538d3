import Derived.Test.YthboeppmlhbofabDoorKba
import Derived.Test.YthboeppmlhbofabDoorLad
import Derived.Test.YthboeppmlhbofabDoorKpt
namespace Go.Proofs.YthboeppmlhbofabDoor
open Go.RowKit Txt
set_option maxRecDepth 100000
theorem LgM.set{P:Prg}{w:World}{g:Nat}{tk:List (List Int)}{l:List Int}{T:Nat}{ta:Option Addr}{tc:Nat}{vs:List Value}{a4:Option Addr}{c4 b0 k:Nat}{wr:World}{s:P.S}{F:Nat→Prop}{L:List Lin}(h:LgM P w g tk l T ta tc vs a4 c4 b0 k wr s F L){ga:Nat}{zs:List Value}(hr:Row wr ga 31 zs)(hnf:¬ F ga)(hga:w.heap.size≤ga)(i:Nat)(v:Value):LgM P w g tk l T ta tc vs a4 c4 b0 k (wr.setCell ⟨ga,i,none⟩ v) s F L:=by
 refine⟨h.beg.frame fun b hd=>Below.heap_setCell wr ⟨ga,i,none⟩ v b fun e=>?_,h.log,row_other hr h.row (by decide) i v,h.nf,own_setN hr i v (by decide) h.own,h.dis,h.bel.setCell (p:=⟨ga,i,none⟩) hga v⟩
 have e':b=ga:=e
 subst e'
 rcases hd with q | q | ⟨u,hu,q⟩
 ·exact hnf q
 ·exact own_ty h.beg.top hr (by decide) q
 ·obtain⟨ys,hy⟩:=h.beg.each.mem hu
  exact own_ty hy hr (by decide) q
set_option maxHeartbeats 8000000 in
theorem logged_any(P:Prg)(a a2:Option Addr)(c c2:Nat)(A:Nat→Option Addr)(C:Nat→Nat)(cls:List (List Int))(xs:List Int)(w:World)(hr:RowsAt w a A C cls)(hcl:cls.length≤9223372036854775807)(_hcb:∀ c∈cls,∀ x∈c,-9223372036854775808≤x∧x≤9223372036854775807)(hi:IntsAt w a2 xs)(hx:xs.length≤9223372036854775807)(hxb:∀ x∈xs,-9223372036854775808≤x∧x≤9223372036854775807)(htab:Tab w)(h0:0<w.heap.size) :
  Calls Tryd.prog 3 #[.slice a cls.length c,.slice a2 xs.length c2] w fun e w'=>e=.returned (.bool true)∧Below w.heap.size w w':=by
 have HW:=hide (widely_any P a c A C cls w hr hcl)
 have T:=tkS_ok P cls
 have hl40:=tkS_len P cls
 have hln:=T.len hl40
 have TL:=hide T.log
 have HTK:=hide (tk_take (newTk P 0 1048576 1048576 (by decide)) (begC cls))
 have HLI:Hid (∀ w',Below w.heap.size w w'→Calls Tryd.prog 11 #[] w' fun e w''=>e=.returned (.bool true)∧Below w'.heap.size w' w''):=fun w' hb=>lives_any P w' (htab.below hb h0) (Nat.lt_of_lt_of_le h0 hb.size)
 have HWI:Hid (∀ w',Below w.heap.size w w'→Calls Tryd.prog 12 #[.slice a2 xs.length c2] w' fun e w''=>∃ a' c',e=.returned (.slice a' (wishL xs).length c')∧w''.ownsRow w'.heap.size 3 1 (.slice a' (wishL xs).length c') (wishL xs).length (i64s (wishL xs))∧Below w'.heap.size w' w''):=fun w' hb=>wishes_any a2 c2 xs w' (hi.below hb) hx hxb
 have hal:=wishL_asked xs
 have hwl:=wishL_len xs
 have TB:=hide htab
 have hwlit:=wishL_lits xs
 have e1:begL P (P.new 0 1048576 1048576) (begC cls)=tkS P cls:=rfl
 rw[e1] at HW HTK
 generalize tkS P cls=sk at *
 generalize wishL xs=l at *
 clear hr hi hxb htab T hln e1
 go_enter Tryd.func3,Tryd.ntmps3
 go_wp2_with fail
 refine(unhide HW).mono ?_
 rintro e w1 ⟨g,F,ta,tc,vs,rfl,X1,hb1⟩
 have X1':=X1.x
 have hbA:=al_below w1 (.cells #[.pointer (some ⟨g,0,none⟩),.slice ta sk.2.length tc,.bool true] 26)
 have r2:Row (w1.alloc (.cells #[.pointer (some ⟨g,0,none⟩),.slice ta sk.2.length tc,.bool true] 26)) w1.heap.size 26 [.pointer (some ⟨g,0,none⟩),.slice ta sk.2.length tc,.bool true]:=heap_alloc_new w1 _
 have R2:=hide r2
 have X2:=hide (X1.below hbA)
 have b2:Below w.heap.size w (w1.alloc (.cells #[.pointer (some ⟨g,0,none⟩),.slice ta sk.2.length tc,.bool true] 26)):=hb1.trans (hbA.mono hb1.size)
 have B2:=hide b2
 have HL:=hide (HLI.out _ b2)
 clear hbA r2 X1 hb1 b2 HLI HW
 go_wp2_with fail
 refine(unhide HL).mono ?_
 generalize w1.alloc (.cells #[.pointer (some ⟨g,0,none⟩),.slice ta sk.2.length tc,.bool true] 26)=w2 at *
 rintro e w3 ⟨rfl,hb3⟩
 have R3:=hide (row_below R2.out hb3)
 have X3:=hide (X2.out.below hb3)
 have B3:Hid (Below w.heap.size w w3):=B2.out.trans (hb3.mono B2.out.size)
 have f2:w3.cell? ⟨w1.heap.size,2,none⟩=some (.bool true):=(R3.out.cell 2).trans rfl
 have HW3:=hide (HWI.out _ B3.out)
 clear hb3 HL HWI R2 X2 B2
 go_wp2_with fail
 refine(unhide HW3).mono ?_
 rintro e w4 ⟨a4,c4,rfl,o4,hb4⟩
 have R4:=hide (row_below R3.out hb4)
 have X4:=hide (X3.out.below hb4)
 have hz3:w.heap.size≤w3.heap.size:=B3.out.size
 have B4:Hid (Below w.heap.size w w4):=B3.out.trans (hb4.mono hz3)
 have f0:w4.cell? ⟨w1.heap.size,0,none⟩=some (.pointer (some ⟨g,0,none⟩)):=(R4.out.cell 0).trans rfl
 have hz4:w3.heap.size≤w4.heap.size:=hb4.size
 have hwF:¬ F w1.heap.size:=fun q=>by have:=P.lt X1' _ q;omega
 have M4:Hid (LgM P w g sk.2 l w1.heap.size ta tc vs a4 c4 w3.heap.size 0 w4 sk.1 F []):=⟨X4.out,TL.out,R4.out,hwF,o4,fun q hq e=>by
  have h1:=(o4.lt q e).1
  have h2:=P.lt X3.out.x q hq
  omega,B4.out⟩
 clear hb4 o4 f2 f0 X4 R4 B4 X3 R3 B3 X1' TL hwF
 go_wp2_with fail
 go_loopw [8] (fun x8 wr=>∃ (k:Nat) (s:P.S) (F:Nat→Prop) (L:List Lin),k≤3∧x8=.int .i64 k∧Hid (LgM P w g sk.2 l w1.heap.size ta tc vs a4 c4 w3.heap.size k wr s F L)) (fun x8 _=>3 - (intOf x8).toNat)
 case atStart=>exact⟨0,sk.1,F,[],by decide,rfl,M4⟩
 case round =>
  clear M4
  obtain⟨k,s,F,L,hk,rfl,M⟩:=hrel
  have hcs:k=3∨k=1∨(k≠1∧k<3):=by omega
  have ma:=M.out.below (al_below wr (.cells #[.int .i64 0,.int .i64 0,.slice none 0 0,.slice none 0 0,.slice none 0 0] 31))
  have f0:(wr.alloc (.cells #[.int .i64 0,.int .i64 0,.slice none 0 0,.slice none 0 0,.slice none 0 0] 31)).cell? ⟨w1.heap.size,0,none⟩=some (.pointer (some ⟨g,0,none⟩)):=(ma.row.cell 0).trans rfl
  rcases hcs with rfl|rfl | ⟨h1,h3⟩
  ·clear ma f0
   go_wp2
   go_ret
   exact⟨rfl,M.out.bel⟩
  ·have HSV:=hide (log_call ma (by decide) hl40 HTK.out TB.out h0 none 0 [] (.inl ⟨rfl,rfl,rfl⟩) (by decide) rfl (by simp))
   generalize P.ans s [] 0=x at *
   generalize P.slv s [] 0=s' at *
   simp only[List.length_nil] at HSV
   clear ma
   go_wp2_with fail
   refine(unhide HSV).mono ?_
   rintro e w6 ⟨p,rfl,hao,⟨F6,L6,m6,hn6⟩,hc6,hcl,hst⟩
   have hga:w.heap.size≤wr.heap.size:=M.out.bel.size
   have hsa:(wr.alloc (.cells #[.int .i64 0,.int .i64 0,.slice none 0 0,.slice none 0 0,.slice none 0 0] 31)).heap.size=wr.heap.size+1:=by simp
   have hnF:¬ F (wr.heap.size):=fun q=>by have:=P.lt M.out.beg.x _ q;omega
   have r6:Row w6 wr.heap.size 31 [.int .i64 0,.int .i64 0,.slice none 0 0,.slice none 0 0,.slice none 0 0]:=(hc6.block _ (by omega) hnF).trans (heap_alloc_new wr _)
   have hnF6:¬ F6 wr.heap.size:=fun q=>(hn6 _ q).elim hnF fun z=>by omega
   have M8:=hide (((((m6.set r6 hnF6 hga 0 (.int .i64 x.st)).set (r6.set 0 _) hnF6 hga 1 (.int .i64 x.re)).set ((r6.set 0 _).set 1 _) hnF6 hga 2 (.slice p.a1 x.vs.length p.c1)).set (((r6.set 0 _).set 1 _).set 2 _) hnF6 hga 3 (.slice p.a2 x.co.length p.c2)).set ((((r6.set 0 _).set 1 _).set 2 _).set 3 _) hnF6 hga 4 (.slice p.a3 x.cl.length p.c3))
   have R8:Hid (Row (((((w6.setCell ⟨wr.heap.size,0,none⟩ (.int .i64 x.st)).setCell ⟨wr.heap.size,1,none⟩ (.int .i64 x.re)).setCell ⟨wr.heap.size,2,none⟩ (.slice p.a1 x.vs.length p.c1)).setCell ⟨wr.heap.size,3,none⟩ (.slice p.a2 x.co.length p.c2)).setCell ⟨wr.heap.size,4,none⟩ (.slice p.a3 x.cl.length p.c3)) wr.heap.size 31 [.int .i64 x.st,.int .i64 x.re,.slice p.a1 x.vs.length p.c1,.slice p.a2 x.co.length p.c2,.slice p.a3 x.cl.length p.c3]):=((((r6.set 0 _).set 1 _).set 2 _).set 3 _).set 4 _
   have hT:Fr (fun t=>t=31) 0 w6 (((((w6.setCell ⟨wr.heap.size,0,none⟩ (.int .i64 x.st)).setCell ⟨wr.heap.size,1,none⟩ (.int .i64 x.re)).setCell ⟨wr.heap.size,2,none⟩ (.slice p.a1 x.vs.length p.c1)).setCell ⟨wr.heap.size,3,none⟩ (.slice p.a2 x.co.length p.c2)).setCell ⟨wr.heap.size,4,none⟩ (.slice p.a3 x.cl.length p.c3)):=(((((Fr.refl (fun t=>t=31) 0 w6).set r6 rfl (Nat.zero_le _) 0 _).set (r6.set 0 _) rfl (Nat.zero_le _) 1 _).set ((r6.set 0 _).set 1 _) rfl (Nat.zero_le _) 2 _).set (((r6.set 0 _).set 1 _).set 2 _) rfl (Nat.zero_le _) 3 _).set ((((r6.set 0 _).set 1 _).set 2 _).set 3 _) rfl (Nat.zero_le _) 4 _
   have O8:=hide (hT.own hao.co (by decide))
   have y0:w6.cell? ⟨wr.heap.size,0,none⟩=some (.int .i64 0):=(r6.cell 0).trans rfl
   have y1:w6.cell? ⟨wr.heap.size,1,none⟩=some (.int .i64 0):=(r6.cell 1).trans rfl
   have y2:w6.cell? ⟨wr.heap.size,2,none⟩=some (.slice none 0 0):=(r6.cell 2).trans rfl
   have y3:w6.cell? ⟨wr.heap.size,3,none⟩=some (.slice none 0 0):=(r6.cell 3).trans rfl
   have y4:w6.cell? ⟨wr.heap.size,4,none⟩=some (.slice none 0 0):=(r6.cell 4).trans rfl
   have z0:=r6.frozen 0
   have z1:=r6.frozen 1
   have z2:=r6.frozen 2
   have z3:=r6.frozen 3
   have z4:=r6.frozen 4
   have HST:=hide hst
   clear hao m6 hn6 hc6 r6 hT hst HSV hsa hnF hnF6
   obtain⟨xst,xre,xvs,xco,xcl⟩:=x
   simp only at HST R8 M8 O8 hcl
   rcases HST.out with e | ⟨e,last,n,hchk,hcol,hlen,hone⟩
   ·subst e
    have g0:(((((w6.setCell ⟨wr.heap.size,0,none⟩ (.int .i64 1)).setCell ⟨wr.heap.size,1,none⟩ (.int .i64 xre)).setCell ⟨wr.heap.size,2,none⟩ (.slice p.a1 xvs.length p.c1)).setCell ⟨wr.heap.size,3,none⟩ (.slice p.a2 xco.length p.c2)).setCell ⟨wr.heap.size,4,none⟩ (.slice p.a3 xcl.length p.c3)).cell? ⟨wr.heap.size,0,none⟩=some (.int .i64 1):=(R8.out.cell 0).trans rfl
    clear HST
    go_wp2
    go_roundw
    case rel=>exact⟨1+1,s',F6,L6,by omega,by go_num,M8⟩
    case measure=>simp[intOf];try omega
   ·subst e
    have g0:(((((w6.setCell ⟨wr.heap.size,0,none⟩ (.int .i64 2)).setCell ⟨wr.heap.size,1,none⟩ (.int .i64 xre)).setCell ⟨wr.heap.size,2,none⟩ (.slice p.a1 xvs.length p.c1)).setCell ⟨wr.heap.size,3,none⟩ (.slice p.a2 xco.length p.c2)).setCell ⟨wr.heap.size,4,none⟩ (.slice p.a3 xcl.length p.c3)).cell? ⟨wr.heap.size,0,none⟩=some (.int .i64 2):=(R8.out.cell 0).trans rfl
    have g1:(((((w6.setCell ⟨wr.heap.size,0,none⟩ (.int .i64 2)).setCell ⟨wr.heap.size,1,none⟩ (.int .i64 xre)).setCell ⟨wr.heap.size,2,none⟩ (.slice p.a1 xvs.length p.c1)).setCell ⟨wr.heap.size,3,none⟩ (.slice p.a2 xco.length p.c2)).setCell ⟨wr.heap.size,4,none⟩ (.slice p.a3 xcl.length p.c3)).cell? ⟨w1.heap.size,0,none⟩=some (.pointer (some ⟨g,0,none⟩)):=(M8.out.row.cell 0).trans rfl
    have HPF:=hide (P.proofC M8.out.beg.x M8.out.log.ok)
    have hpfl:=(P.bd M8.out.log.ok).pfl
    have HCK:Hid (checkN sk.2 (bs (bA (P.vw s').pf))=(last,0,n)):=by show _=_;rw[bs_bA,check_same];exact hchk
    have hsz:(bA (P.vw s').pf).size≤4611686018427387904:=by rw[bA_size];omega
    generalize bA (P.vw s').pf=pfb at *
    have HONE:=hide hone
    have HLEN:=hide hlen
    have HCO:=hide hcol
    clear HST hchk hone hcol hlen
    go_wp2_with fail
    generalize (((((w6.setCell ⟨wr.heap.size,0,none⟩ (.int .i64 2)).setCell ⟨wr.heap.size,1,none⟩ (.int .i64 xre)).setCell ⟨wr.heap.size,2,none⟩ (.slice p.a1 xvs.length p.c1)).setCell ⟨wr.heap.size,3,none⟩ (.slice p.a2 xco.length p.c2)).setCell ⟨wr.heap.size,4,none⟩ (.slice p.a3 xcl.length p.c3))=w8 at *
    refine(unhide HPF).mono ?_
    rintro e w9 ⟨rfl,hb9⟩
    have M9:=hide (M8.out.below hb9)
    have R9:=hide (row_below R8.out hb9)
    have O9:=hide (own_below O8.out hb9)
    obtain⟨A9,C9,hr9⟩:=M9.out.beg.rows
    have HCT:=hide (checkT_any ta tc A9 C9 sk.2 pfb w9 hr9 (by omega) hsz)
    rw[HCK.out] at HCT
    have q1:w9.cell? ⟨w1.heap.size,1,none⟩=some (.slice ta sk.2.length tc):=(M9.out.row.cell 1).trans rfl
    clear hb9 HPF hr9 g0 g1 M8 R8 O8
    go_wp2_with fail
    refine(unhide HCT).mono ?_
    rintro e w10 ⟨hb10,a10,c10,rfl,o10⟩
    have M10:=hide (M9.out.below hb10)
    have q3:w10.cell? ⟨wr.heap.size,3,none⟩=some (.slice p.a2 xco.length p.c2):=((row_below R9.out hb10).cell 3).trans rfl
    have HMI:=hide (mirrored_any p.a2 a10 p.c2 c10 xco last w10 (own_intsAt (own_below O9.out hb10)) (own_intsAt o10) hcl HLEN.out HCO.out HONE.out)
    clear hb10 o10 HCT q1 M9 R9 O9
    go_wp2_with fail
    refine(unhide HMI).mono ?_
    rintro e w11 ⟨rfl,hb11⟩
    have M11:=hide (M10.out.below hb11)
    clear hb11 M10 q3 HMI
    go_wp2
    go_roundw
    case rel=>exact⟨1+1,s',F6,L6,by omega,by go_num,M11⟩
    case measure=>simp[intOf];try omega
  ·have HSV:=hide (log_call ma (by omega) hl40 HTK.out TB.out h0 a4 c4 l (.inr ⟨rfl,rfl,rfl⟩) hal hwlit (by omega))
   have hk1:((k:Int) == 1)=false:=by simp;omega
   have hk3:(k:Int)<3:=by omega
   generalize P.ans s l 0=x at *
   generalize P.slv s l 0=s' at *
   clear ma
   go_wp2_with fail
   refine(unhide HSV).mono ?_
   rintro e w6 ⟨p,rfl,hao,⟨F6,L6,m6,hn6⟩,hc6,hcl,hst⟩
   have hga:w.heap.size≤wr.heap.size:=M.out.bel.size
   have hsa:(wr.alloc (.cells #[.int .i64 0,.int .i64 0,.slice none 0 0,.slice none 0 0,.slice none 0 0] 31)).heap.size=wr.heap.size+1:=by simp
   have hnF:¬ F (wr.heap.size):=fun q=>by have:=P.lt M.out.beg.x _ q;omega
   have r6:Row w6 wr.heap.size 31 [.int .i64 0,.int .i64 0,.slice none 0 0,.slice none 0 0,.slice none 0 0]:=(hc6.block _ (by omega) hnF).trans (heap_alloc_new wr _)
   have hnF6:¬ F6 wr.heap.size:=fun q=>(hn6 _ q).elim hnF fun z=>by omega
   have M8:=hide (((((m6.set r6 hnF6 hga 0 (.int .i64 x.st)).set (r6.set 0 _) hnF6 hga 1 (.int .i64 x.re)).set ((r6.set 0 _).set 1 _) hnF6 hga 2 (.slice p.a1 x.vs.length p.c1)).set (((r6.set 0 _).set 1 _).set 2 _) hnF6 hga 3 (.slice p.a2 x.co.length p.c2)).set ((((r6.set 0 _).set 1 _).set 2 _).set 3 _) hnF6 hga 4 (.slice p.a3 x.cl.length p.c3))
   have R8:Hid (Row (((((w6.setCell ⟨wr.heap.size,0,none⟩ (.int .i64 x.st)).setCell ⟨wr.heap.size,1,none⟩ (.int .i64 x.re)).setCell ⟨wr.heap.size,2,none⟩ (.slice p.a1 x.vs.length p.c1)).setCell ⟨wr.heap.size,3,none⟩ (.slice p.a2 x.co.length p.c2)).setCell ⟨wr.heap.size,4,none⟩ (.slice p.a3 x.cl.length p.c3)) wr.heap.size 31 [.int .i64 x.st,.int .i64 x.re,.slice p.a1 x.vs.length p.c1,.slice p.a2 x.co.length p.c2,.slice p.a3 x.cl.length p.c3]):=((((r6.set 0 _).set 1 _).set 2 _).set 3 _).set 4 _
   have hT:Fr (fun t=>t=31) 0 w6 (((((w6.setCell ⟨wr.heap.size,0,none⟩ (.int .i64 x.st)).setCell ⟨wr.heap.size,1,none⟩ (.int .i64 x.re)).setCell ⟨wr.heap.size,2,none⟩ (.slice p.a1 x.vs.length p.c1)).setCell ⟨wr.heap.size,3,none⟩ (.slice p.a2 x.co.length p.c2)).setCell ⟨wr.heap.size,4,none⟩ (.slice p.a3 x.cl.length p.c3)):=(((((Fr.refl (fun t=>t=31) 0 w6).set r6 rfl (Nat.zero_le _) 0 _).set (r6.set 0 _) rfl (Nat.zero_le _) 1 _).set ((r6.set 0 _).set 1 _) rfl (Nat.zero_le _) 2 _).set (((r6.set 0 _).set 1 _).set 2 _) rfl (Nat.zero_le _) 3 _).set ((((r6.set 0 _).set 1 _).set 2 _).set 3 _) rfl (Nat.zero_le _) 4 _
   have O8:=hide (hT.own hao.co (by decide))
   have y0:w6.cell? ⟨wr.heap.size,0,none⟩=some (.int .i64 0):=(r6.cell 0).trans rfl
   have y1:w6.cell? ⟨wr.heap.size,1,none⟩=some (.int .i64 0):=(r6.cell 1).trans rfl
   have y2:w6.cell? ⟨wr.heap.size,2,none⟩=some (.slice none 0 0):=(r6.cell 2).trans rfl
   have y3:w6.cell? ⟨wr.heap.size,3,none⟩=some (.slice none 0 0):=(r6.cell 3).trans rfl
   have y4:w6.cell? ⟨wr.heap.size,4,none⟩=some (.slice none 0 0):=(r6.cell 4).trans rfl
   have z0:=r6.frozen 0
   have z1:=r6.frozen 1
   have z2:=r6.frozen 2
   have z3:=r6.frozen 3
   have z4:=r6.frozen 4
   have HST:=hide hst
   clear hao m6 hn6 hc6 r6 hT hst HSV hsa hnF hnF6
   obtain⟨xst,xre,xvs,xco,xcl⟩:=x
   simp only at HST R8 M8 O8 hcl
   rcases HST.out with e | ⟨e,last,n,hchk,hcol,hlen,hone⟩
   ·subst e
    have g0:(((((w6.setCell ⟨wr.heap.size,0,none⟩ (.int .i64 1)).setCell ⟨wr.heap.size,1,none⟩ (.int .i64 xre)).setCell ⟨wr.heap.size,2,none⟩ (.slice p.a1 xvs.length p.c1)).setCell ⟨wr.heap.size,3,none⟩ (.slice p.a2 xco.length p.c2)).setCell ⟨wr.heap.size,4,none⟩ (.slice p.a3 xcl.length p.c3)).cell? ⟨wr.heap.size,0,none⟩=some (.int .i64 1):=(R8.out.cell 0).trans rfl
    clear HST
    go_wp2
    go_roundw
    case rel=>exact⟨k+1,s',F6,L6,by omega,by go_num,M8⟩
    case measure=>simp[intOf];try omega
   ·subst e
    have g0:(((((w6.setCell ⟨wr.heap.size,0,none⟩ (.int .i64 2)).setCell ⟨wr.heap.size,1,none⟩ (.int .i64 xre)).setCell ⟨wr.heap.size,2,none⟩ (.slice p.a1 xvs.length p.c1)).setCell ⟨wr.heap.size,3,none⟩ (.slice p.a2 xco.length p.c2)).setCell ⟨wr.heap.size,4,none⟩ (.slice p.a3 xcl.length p.c3)).cell? ⟨wr.heap.size,0,none⟩=some (.int .i64 2):=(R8.out.cell 0).trans rfl
    have g1:(((((w6.setCell ⟨wr.heap.size,0,none⟩ (.int .i64 2)).setCell ⟨wr.heap.size,1,none⟩ (.int .i64 xre)).setCell ⟨wr.heap.size,2,none⟩ (.slice p.a1 xvs.length p.c1)).setCell ⟨wr.heap.size,3,none⟩ (.slice p.a2 xco.length p.c2)).setCell ⟨wr.heap.size,4,none⟩ (.slice p.a3 xcl.length p.c3)).cell? ⟨w1.heap.size,0,none⟩=some (.pointer (some ⟨g,0,none⟩)):=(M8.out.row.cell 0).trans rfl
    have HPF:=hide (P.proofC M8.out.beg.x M8.out.log.ok)
    have hpfl:=(P.bd M8.out.log.ok).pfl
    have HCK:Hid (checkN sk.2 (bs (bA (P.vw s').pf))=(last,0,n)):=by show _=_;rw[bs_bA,check_same];exact hchk
    have hsz:(bA (P.vw s').pf).size≤4611686018427387904:=by rw[bA_size];omega
    generalize bA (P.vw s').pf=pfb at *
    have HONE:=hide hone
    have HLEN:=hide hlen
    have HCO:=hide hcol
    clear HST hchk hone hcol hlen
    go_wp2_with fail
    generalize (((((w6.setCell ⟨wr.heap.size,0,none⟩ (.int .i64 2)).setCell ⟨wr.heap.size,1,none⟩ (.int .i64 xre)).setCell ⟨wr.heap.size,2,none⟩ (.slice p.a1 xvs.length p.c1)).setCell ⟨wr.heap.size,3,none⟩ (.slice p.a2 xco.length p.c2)).setCell ⟨wr.heap.size,4,none⟩ (.slice p.a3 xcl.length p.c3))=w8 at *
    refine(unhide HPF).mono ?_
    rintro e w9 ⟨rfl,hb9⟩
    have M9:=hide (M8.out.below hb9)
    have R9:=hide (row_below R8.out hb9)
    have O9:=hide (own_below O8.out hb9)
    obtain⟨A9,C9,hr9⟩:=M9.out.beg.rows
    have HCT:=hide (checkT_any ta tc A9 C9 sk.2 pfb w9 hr9 (by omega) hsz)
    rw[HCK.out] at HCT
    have q1:w9.cell? ⟨w1.heap.size,1,none⟩=some (.slice ta sk.2.length tc):=(M9.out.row.cell 1).trans rfl
    clear hb9 HPF hr9 g0 g1 M8 R8 O8
    go_wp2_with fail
    refine(unhide HCT).mono ?_
    rintro e w10 ⟨hb10,a10,c10,rfl,o10⟩
    have M10:=hide (M9.out.below hb10)
    have q3:w10.cell? ⟨wr.heap.size,3,none⟩=some (.slice p.a2 xco.length p.c2):=((row_below R9.out hb10).cell 3).trans rfl
    have HMI:=hide (mirrored_any p.a2 a10 p.c2 c10 xco last w10 (own_intsAt (own_below O9.out hb10)) (own_intsAt o10) hcl HLEN.out HCO.out HONE.out)
    clear hb10 o10 HCT q1 M9 R9 O9
    go_wp2_with fail
    refine(unhide HMI).mono ?_
    rintro e w11 ⟨rfl,hb11⟩
    have M11:=hide (M10.out.below hb11)
    clear hb11 M10 q3 HMI
    go_wp2
    go_roundw
    case rel=>exact⟨k+1,s',F6,L6,by omega,by go_num,M11⟩
    case measure=>simp[intOf];try omega
end Go.Proofs.YthboeppmlhbofabDoor
