import Derived.Test.YthboeppmlhbofaaDoorKaa
import Derived.Test.YthboeppmlhbofaaDoorHag
namespace Go.Proofs.YthboeppmlhbofaaDoor
open Go.RowKit Txt
set_option maxRecDepth 100000
def GK(x:Int):Int:=if AK x then x else 1+(D8 x 10:Nat)
def Ae(xs:List Int):List Int:=(xs.take 12).map GK
theorem VF(x:Int):AK (GK x)=true:=by
 unfold GK
 split
 ·assumption
 ·have:=Hm x 10 (by decide)
  simp only[AK,Bool.and_eq_true,bne_iff_ne,decide_eq_true_eq]
  omega
theorem IM(xs:List Int):(Ae xs).all AK=true:=by
 unfold Ae
 rw[List.all_eq_true]
 intro x hx
 obtain⟨y,_,rfl⟩:=List.mem_map.1 hx
 exact VF y
theorem Hr(xs:List Int):(Ae xs).length≤12:=by unfold Ae;simp;omega
theorem Dj(xs:List Int):BJ (Ae xs) 0=0:=by
 have:=Hr xs
 unfold BJ
 rw[if_neg (by omega),if_neg (by rw[IM];simp),if_neg (by omega)]
def Fh(ys:List Int)(k:Nat):List Int:=(ys.take k).map GK++ys.drop k
theorem Sv(ys:List Int)(k:Nat):(Fh ys k).length=ys.length:=by simp[Fh];omega
theorem L8(ys:List Int)(k:Nat)(hk:k<ys.length):(Fh ys k)[k]?=some (ys.getD k 0):=by
 unfold Fh
 rw[List.getElem?_append_right (by simp;omega)]
 simp only[List.length_map,List.length_take]
 rw[Nat.min_eq_left (by omega),Nat.sub_self,List.getElem?_drop,Nat.add_zero,List.getD_eq_getElem?_getD,List.getElem?_eq_getElem hk]
 rfl
theorem QI(ys:List Int)(k:Nat)(hk:k<ys.length):Fh ys (k+1)=(Fh ys k).set k (GK (ys.getD k 0)):=by
 have e:ys.drop k=ys.getD k 0 :: ys.drop (k+1):=by
  rw[List.drop_eq_getElem_cons hk,List.getD_eq_getElem?_getD,List.getElem?_eq_getElem hk];rfl
 unfold Fh
 rw[List.take_succ_eq_append_getElem hk,List.map_append,e,List.set_append_right _ _ (by simp;omega)]
 simp only[List.length_map,List.length_take,Nat.min_eq_left (Nat.le_of_lt hk),Nat.sub_self,List.set_cons_zero,List.append_assoc]
 rw[List.getD_eq_getElem?_getD,List.getElem?_eq_getElem hk]
 rfl
theorem Ut{l:List Int}{k:Nat}{x:Int}(h:l[k]?=some x):l.set k x=l:=by
 obtain⟨hl,he⟩:=List.getElem?_eq_some_iff.1 h
 rw[← he]
 exact List.set_getElem_self hl
theorem Th(xs:List Int)(k:Nat)(y:Int):AW (xs.set k y)=(AW xs).set k (.int .i64 y):=by simp[AW,List.map_set]
set_option maxHeartbeats 4000000 in
theorem IN(a:Option Addr)(c:Nat)(xs:List Int)(w:World)(hi:Ad w a xs)(hx:xs.length≤9223372036854775807)(hb:∀ x∈xs,-9223372036854775808≤x∧x≤9223372036854775807) :
  Calls Tryd.prog 12 #[.slice a xs.length c] w fun e w'=>∃ a' c',e=.returned (.slice a' (Ae xs).length c')∧w'.ownsRow w.heap.size 3 1 (.slice a' (Ae xs).length c') (Ae xs).length (AW (Ae xs))∧Below w.heap.size w w':=by
 have HF:=AA (Qb a c xs 12 w hi hx (by decide))
 have hby:∀ x∈xs.take 12,-9223372036854775808≤x∧x≤9223372036854775807:=fun x hq=>hb x (List.mem_of_mem_take hq)
 have HW:Hid (Ae xs=Fh (xs.take 12) (xs.take 12).length):=by
  show _=_
  unfold Ae Fh
  rw[List.take_of_length_le (Nat.le_refl _),List.drop_eq_nil_of_le (Nat.le_refl _),List.append_nil]
 have hl12:(xs.take 12).length≤12:=by simp;omega
 generalize xs.take 12=ys at *
 have HPK:Hid (∀ (x:Int) (w:World),-9223372036854775808≤x→x≤9223372036854775807→Calls Tryd.prog 18 #[.int .i64 x,.int .i64 10] w fun e w'=>e=.returned (.int .i64 (D8 x 10:Nat))∧w'=w):=fun x w h1 h2=>Lp x 10 (by decide) (by decide) w h1 h2
 have HBY:=AA hby
 clear hi hb hby
 go_enter Tryd.func12,Tryd.ntmps12
 go_wp2_with fail
 refine(AE HF).mono ?_
 rintro e w1 ⟨a1,c1,rfl,ho1,hb1⟩
 have O1:Hid (w1.ownsRow w.heap.size 3 1 (.slice a1 ys.length c1) ys.length (AW (Fh ys 0))):=by
  have:Fh ys 0=ys:=by simp[Fh]
  rw[this];exact ho1
 have B1:=AA hb1
 clear ho1 hb1 HF
 go_wp2_with fail
 go_loopw [4] (fun x4 wr=>∃ k:Nat,k≤ys.length∧x4=.int .i64 k∧Hid (wr.ownsRow w.heap.size 3 1 (.slice a1 ys.length c1) ys.length (AW (Fh ys k)))∧Hid (Below w.heap.size w wr)) (fun x4 _=>ys.length - (intOf x4).toNat)
 case atStart=>exact⟨0,Nat.zero_le _,rfl,O1,B1⟩
 case round =>
  clear O1 B1
  obtain⟨k,hk,rfl,O,BB⟩:=hrel
  by_cases hlt:k<ys.length
  ·obtain⟨g,cap,e,hbg,_⟩:=O.out.form (by omega)
   simp only[Value.slice.injEq] at e
   obtain⟨rfl,_,rfl⟩:=e
   have hcell:wr.cell? ⟨g,k,none⟩=some (.int .i64 (ys.getD k 0)):=by
    have h1:=L8 ys k hlt
    have:=O.out.cells (g:=g) rfl k (.int .i64 (ys.getD k 0)) (by simp only[AW,List.getElem?_map,h1,Option.map_some])
    rw[FR,Nat.zero_add] at this
    exact this
   have hfz:wr.frozen? ⟨g,k,none⟩=false:=O.out.frozenAt k
   obtain⟨y1,y2⟩:=HBY.out (ys.getD k 0) (by
    rw[List.getD_eq_getElem?_getD,List.getElem?_eq_getElem hlt]
    exact List.getElem_mem hlt)
   have HSU:=AA (QI ys k hlt)
   have HG:=AA (L8 ys k hlt)
   have HOS:Hid (∀ v,(wr.setCell ⟨g,k,none⟩ (.int .i64 v)).ownsRow w.heap.size 3 1 (.slice (some ⟨g,0,none⟩) ys.length c1) ys.length (AW ((Fh ys k).set k v))):=fun v=>by
    rw[Th]
    exact(O.out.stored k (.int .i64 v)).1
   have HBS:Hid (∀ v,Below w.heap.size w (wr.setCell ⟨g,k,none⟩ (.int .i64 v))):=fun v=>BB.out.setCell (p:=⟨g,k,none⟩) hbg _
   have i1:(0:Int)≤(k:Int):=by omega
   have i2:(k:Int)<(ys.length:Int):=by omega
   generalize ys.getD k 0=x at *
   have hcs:x < -10∨(¬ x < -10∧x > 10)∨(¬ x < -10∧¬ x > 10∧x=0)∨(¬ x < -10∧¬ x > 10∧x≠0):=by omega
   rcases hcs with h1 | ⟨h1,h2⟩ | ⟨h1,h2,rfl⟩ | ⟨h1,h2,h3⟩
   ·have ew:Hid (GK x=1+(D8 x 10:Nat)):=by show _=_;unfold GK;rw[if_neg (by simp only[AK,Bool.and_eq_true,bne_iff_ne,decide_eq_true_eq];omega)]
    have hp:=Hm x 10 (by decide)
    go_wp2_with fail
    refine(AE HPK x wr y1 y2).mono ?_
    rintro e w2 ⟨rfl,rfl⟩
    generalize D8 x 10=pk at *
    go_wp2
    go_roundw
    case rel=>exact⟨k+1,by omega,by go_num,by rw[HSU.out,ew.out];exact HOS.out _,HBS.out _⟩
    case measure=>simp[intOf];omega
   ·have ew:Hid (GK x=1+(D8 x 10:Nat)):=by show _=_;unfold GK;rw[if_neg (by simp only[AK,Bool.and_eq_true,bne_iff_ne,decide_eq_true_eq];omega)]
    have hp:=Hm x 10 (by decide)
    go_wp2_with fail
    refine(AE HPK x wr y1 y2).mono ?_
    rintro e w2 ⟨rfl,rfl⟩
    generalize D8 x 10=pk at *
    go_wp2
    go_roundw
    case rel=>exact⟨k+1,by omega,by go_num,by rw[HSU.out,ew.out];exact HOS.out _,HBS.out _⟩
    case measure=>simp[intOf];omega
   ·have ew:Hid (GK 0=1+(D8 0 10:Nat)):=by show _=_;unfold GK;rw[if_neg (by simp only[AK,Bool.and_eq_true,bne_iff_ne,decide_eq_true_eq];omega)]
    have hp:=Hm 0 10 (by decide)
    go_wp2_with fail
    refine(AE HPK 0 wr y1 y2).mono ?_
    rintro e w2 ⟨rfl,rfl⟩
    generalize D8 0 10=pk at *
    go_wp2
    go_roundw
    case rel=>exact⟨k+1,by omega,by go_num,by rw[HSU.out,ew.out];exact HOS.out _,HBS.out _⟩
    case measure=>simp[intOf];omega
   ·have ew:Hid (GK x=x):=by show _=_;unfold GK;rw[if_pos (by simp only[AK,Bool.and_eq_true,bne_iff_ne,decide_eq_true_eq];omega)]
    have HSE:=AA (Ut HG.out)
    go_wp2
    go_roundw
    case rel=>exact⟨k+1,by omega,by go_num,by rw[HSU.out,ew.out,HSE.out];exact O,BB⟩
    case measure=>simp[intOf];omega
  ·obtain rfl:k=ys.length:=by omega
   go_wp2
   go_ret
   rw[HW.out,Sv]
   exact⟨a1,c1,rfl,O.out,BB.out⟩
theorem SY{x:Nat}(h:AH x 349525):AG x≤10:=by
 have a:=(JT h 20).1
 have b:Bq 349525 20=10:=by decide
 have c:AG x=Bq x 20:=rfl
 omega
theorem Oe{seen un:Nat}(hs:AG seen≤10)(hu:un≤1000):DC 0 1048576 1048576 0 seen un=true:=by
 have key:∀ n,n≤10→n*GC n≤1000000∧(n+1)*GC n≤1000000:=by decide
 obtain⟨k1,k2⟩:=key _ hs
 have k3:(2*AG seen+1)*(un+1)≤21*1001:=Nat.mul_le_mul (by omega) (by omega)
 unfold DC
 simp only[Bool.and_eq_true,beq_self_eq_true,decide_eq_true_eq,true_and]
 omega
structure J9(v:Vw):Prop where
 r:v.r=0
 h:v.h=1048576
 l:v.l=1048576
 seen:AH v.seen 349525
 un:v.unsat≤900
theorem Mp{a b m:Nat}(h1:AH a m)(h2:AH b m):AH (a|||b) m:=AH.or h1 h2
theorem JF{P:D0}{s:P.S}(ok:P.Ok s)(hw:J9 (P.vw s)){xs:List Int}(ha:BJ xs 0=0):P.Ok (P.slv s xs 0)∧∃ ls st,IT (P.vw s) xs 0 (P.vw (P.slv s xs 0)) (P.ans s xs 0) ls st ∧
  (((P.ans s xs 0).st=1∧(P.vw (P.slv s xs 0)).unsat=(P.vw s).unsat∧∃ u,M9 (P.vw s).hv (P.vw (P.slv s xs 0)).seen (AO xs) (P.ans s xs 0) u)∨((P.ans s xs 0).st=2∧(P.vw (P.slv s xs 0)).unsat=(P.vw s).unsat+1∧Dq ls=true∧Jv (P.vw s).hv (P.ans s xs 0) xs (IE ls))):=by
 obtain⟨ok',ls,st,so⟩:=P.slvV s xs 0 ok ha
 refine⟨ok',ls,st,so,?_⟩
 rcases so.how with⟨h1,h2,h3,h4⟩ | ⟨h1,h2,h3,h4⟩ | ⟨h1,h2,h3,h4⟩
 ·exact .inl ⟨h1,h3,h4⟩
 ·exact .inr ⟨h1,h3,h2,h4⟩
 ·exfalso
  have hr:=h4.room
  have e:DC (P.vw (P.slv s xs 0)).r (P.vw (P.slv s xs 0)).h (P.vw (P.slv s xs 0)).l 0 (P.vw (P.slv s xs 0)).seen (P.vw (P.slv s xs 0)).unsat=false:=hr
  rw[so.r,so.h,so.l,so.seen,h3,hw.r,hw.h,hw.l,Oe (SY (Mp hw.seen (EF _))) (by have:=hw.un;omega)] at e
  simp at e
theorem J9.solve{P:D0}{s:P.S}(hw:J9 (P.vw s)){xs:List Int}{b:Int}{s':P.S}{x:Gg}{ls:List EY}{st:Nat}(so:IT (P.vw s) xs b (P.vw s') x ls st)(hu:(P.vw s').unsat≤900):J9 (P.vw s') :=
 ⟨so.r.trans hw.r,so.h.trans hw.h,so.l.trans hw.l,by rw[so.seen];exact Mp hw.seen (EF _),hu⟩
theorem Vp:∀ u,u<1024→EH [1,6] 0 u=true→BG 5 u 10=[1,2]:=by decide +kernel
theorem Tz:Ky [1,6] 0=true:=by decide +kernel
theorem Ty:∀ u,u<1024→EH [1,6,8] 0 u=false:=by decide +kernel
theorem RG{co:List Int}(h:Ex co []=true):co=[]:=by
 unfold Ex at h
 cases co with
 | nil=>rfl
 | cons a l=>simp[Cj] at h
def GQ(P:D0):P.S:=P.add (P.add (P.new 0 1048576 1048576) [1]) [-1,2]
def Ki(P:D0):P.S:=P.add (P.slv (GQ P) [] 0) [-2]
theorem Qi(P:D0):P.Ok (GQ P)∧P.vw (GQ P)=⟨0,1048576,1048576,[1,6],5,[],0,0,[]⟩:=by
 obtain⟨a1,a2⟩:=P.newV 0 1048576 1048576 (by decide)
 obtain⟨b1,b2⟩:=P.addV _ [1] a1
 obtain⟨c1,c2⟩:=P.addV _ [-1,2] b1
 refine⟨c1,c2.trans ?_⟩
 rw[b2,a2]
 kernel_rfl
theorem Lj(P:D0):(P.ans (GQ P) [] 0).st=1∧(P.ans (GQ P) [] 0).vs=[1,2]∧P.Ok (Ki P)∧(P.vw (Ki P)).hv=[1,6,8]∧J9 (P.vw (Ki P)):=by
 obtain⟨ok,hv⟩:=Qi P
 have hw:J9 (P.vw (GQ P)):=by
  rw[hv]
  refine⟨rfl,rfl,rfl,?_,by decide⟩
  show AH 5 349525
  have e:(5:Nat)&&&349525=5:=by decide
  intro i hi
  rw[← e,Nat.testBit_and,Bool.and_eq_true] at hi
  exact hi.2
 obtain⟨ok',ls,st,so,how⟩:=JF ok hw (xs:=[]) (by decide)
 have es:(P.vw (P.slv (GQ P) [] 0)).seen=5:=by rw[so.seen,hv];decide
 have eh:(P.vw (P.slv (GQ P) [] 0)).hv=[1,6]:=by rw[so.hv,hv]
 have e0:AO ([]:List Int)=0:=by decide
 rcases how with⟨h1,h3,u,h4⟩ | ⟨h1,h3,_,h4⟩
 ·have hw':=hw.solve so (by rw[h3,hv];decide)
  obtain⟨d1,d2⟩:=P.addV _ [-2] ok'
  have et:(An [-2] (AT [1,6])).takes?=true:=by decide
  have ev:P.vw (Ki P)={ P.vw (P.slv (GQ P) [] 0) with hv:=[1,6,8],seen:=5 }:=by
   refine d2.trans ?_
   unfold Vw.add
   rw[eh,if_pos et,es]
   have q1:Ak [-2]=8:=by decide
   have q2:5|||Ag (Ak [-2])=5:=by decide
   rw[q2,q1]
   rfl
  refine⟨h1,?_,d1,by rw[ev],?_⟩
  ·rw[h4.vs,es]
   refine Vp u h4.lt ?_
   have:=h4.al
   rw[hv,e0] at this
   exact this
  ·rw[ev]
   exact⟨hw'.r,hw'.h,hw'.l,by rw[← es];exact hw'.seen,hw'.un⟩
 ·exfalso
  have h5:=h4.no
  have h6:=RG h4.am
  rw[h6,hv,e0] at h5
  have h7:Ky [1,6] 0=false:=h5
  rw[Tz] at h7
  simp at h7
theorem PV(P:D0):(P.ans (Ki P) [] 0).st=2:=by
 obtain⟨_,_,ok,hh,hw⟩:=Lj P
 obtain⟨ok',ls,st,so,how⟩:=JF ok hw (xs:=[]) (by decide)
 have e0:AO ([]:List Int)=0:=by decide
 rcases how with⟨h1,h3,u,h4⟩ | ⟨h1,_⟩
 ·exfalso
  have:=h4.al
  rw[hh,e0,Ty u h4.lt] at this
  simp at this
 ·exact h1
theorem Cg(w:World)(o:Obj):Below w.heap.size w (w.alloc o):=(Below.refl _ _).alloc (Nat.le_refl _) o
theorem KB(P:D0){w:World}{g:Nat}{s:P.S}{F:Nat→Prop}(h:P.At w g s F)(ok:P.Ok s)(hn:(P.vw s).hv.length≤1000)(xs:List Int)(hx:xs.length≤100)(o:Obj)(ho:o=.cells (AW xs).toArray 3) :
  Calls Tryd.prog 25 #[.pointer (some ⟨g,0,none⟩),.slice (some ⟨w.heap.size,0,none⟩) xs.length xs.length] (w.alloc o) fun e w'=>e=.returned (.int .i64 (Hx (An xs (AT (P.vw s).hv))))∧∃ F',P.At w' g (P.add s xs) F'∧EX F w w'∧∀ b,F' b→F b∨w.heap.size≤b:=by
 subst ho
 have hb:=Cg w (.cells (AW xs).toArray 3)
 have hr:Ab (w.alloc (.cells (AW xs).toArray 3)) w.heap.size 3 (AW xs):=heap_alloc_new w _
 have hi:Ad (w.alloc (.cells (AW xs).toArray 3)) (some ⟨w.heap.size,0,none⟩) xs:=by
  refine .inr ⟨w.heap.size,0,rfl,fun j hj=>?_⟩
  rw[Nat.zero_add]
  refine(hr.cell j).trans ?_
  simp only[AW,List.getElem?_map,List.getElem?_eq_getElem hj,Option.map_some,List.getD_eq_getElem?_getD,Option.getD_some]
 refine(P.addC (some ⟨w.heap.size,0,none⟩) xs.length xs (P.below h hb) ok hi (fun ad e hq=>?_) (by omega) (by omega)).mono ?_
 ·simp only[Option.some.injEq] at e
  subst e
  have:=P.lt h _ hq
  simp at this
 ·rintro e w' ⟨rfl,F',x,c,n,_⟩
  exact⟨rfl,F',x,(EX.of hb).trans ⟨c.os,c.tape,c.output,c.size,c.block⟩,fun b q=>(n b q).imp id (fun z=>Nat.le_trans hb.size z)⟩
theorem Lt(P:D0){w:World}{g:Nat}{s:P.S}{F:Nat→Prop}(h:P.At w g s F)(ok:P.Ok s)(hn:(P.vw s).hv.length≤1000)(ht:FM w)(h0:0<w.heap.size)(hF:¬ F 0) :
  Calls Tryd.prog 13 #[.pointer (some ⟨g,0,none⟩),.slice none 0 0,.int .i64 0] w fun e w'=>∃ p:A3,e=.returned (.tuple #[.agg #[.int .i64 (P.ans s [] 0).st,.int .i64 (P.ans s [] 0).re,.slice p.a1 (P.ans s [] 0).vs.length p.c1,.slice p.a2 (P.ans s [] 0).co.length p.c2,.slice p.a3 (P.ans s [] 0).cl.length p.c3],.int .i64 0]) ∧
   DJ w' w.heap.size (P.ans s [] 0) p∧∃ F',P.At w' g (P.slv s [] 0) F'∧EX F w w'∧(∀ b,F' b→F b∨w.heap.size≤b)∧∀ k,p.At k→¬ F' k:=by
 refine(P.slvC none 0 [] 0 h ok ht h0 hF (.inl rfl) (fun ad e=>by simp at e) (by simp) (by omega)).mono ?_
 rintro e w' ⟨p,he,ha,_,F',x,c,n,q⟩
 have e0:BJ ([]:List Int) 0=0:=by decide
 rw[e0] at he
 exact⟨p,he,ha,F',x,c,n,q⟩
set_option maxHeartbeats 8000000 in
theorem JM(P:D0)(w:World)(htab:FM w)(h0:0<w.heap.size):Calls Tryd.prog 11 #[] w fun e w'=>e=.returned (.bool true)∧Below w.heap.size w w':=by
 have HW:Hid (∀ w,Calls Tryd.prog 22 #[] w fun e w'=>e=.returned (.agg #[.int .i64 0,.int .i64 1048576,.int .i64 1048576])∧Below w.heap.size w w'):=fun w=>Od w
 obtain⟨a1,a2⟩:=P.newV 0 1048576 1048576 (by decide)
 have HN:Hid (∀ w,Calls Tryd.prog 24 #[.agg #[.int .i64 0,.int .i64 1048576,.int .i64 1048576]] w fun e w'=>∃ g F,e=.returned (.tuple #[.pointer (some ⟨g,0,none⟩),.int .i64 0])∧P.At w' g (P.new 0 1048576 1048576) F∧(∀ b,F b→w.heap.size≤b)∧Below w.heap.size w w'):=fun w=>by
  refine(P.newC 0 1048576 1048576 w).mono ?_
  rintro e w' ⟨h1,h2⟩
  rw[if_pos (show BY 0 1048576 1048576=true by decide)] at h2
  obtain⟨g,F,q1,q2,q3⟩:=h2
  exact⟨g,F,q1,q2,q3,h1⟩
 obtain⟨b1,b2⟩:=P.addV _ [1] a1
 have l1:(P.vw (P.new 0 1048576 1048576)).hv.length≤1000:=by rw[a2];decide
 have l2:(P.vw (P.add (P.new 0 1048576 1048576) [1])).hv.length≤1000:=by rw[b2,a2];decide
 obtain⟨c1,c2⟩:=Qi P
 have l3:(P.vw (GQ P)).hv.length≤1000:=by rw[c2];decide
 obtain⟨d1,d2,d3,d4,_⟩:=Lj P
 have d5:=PV P
 have l5:(P.vw (Ki P)).hv.length≤1000:=by rw[d4];decide
 obtain⟨oks,_⟩:=P.slvV (GQ P) [] 0 c1 (by decide)
 have l4:(P.vw (P.slv (GQ P) [] 0)).hv.length≤1000:=by
  obtain⟨_,ls,st,so⟩:=P.slvV (GQ P) [] 0 c1 (by decide)
  rw[so.hv,c2];decide
 have HA1:Hid (∀ {w:World} {g:Nat} {F:Nat→Prop},P.At w g (P.new 0 1048576 1048576) F→Calls Tryd.prog 25 #[.pointer (some ⟨g,0,none⟩),.slice (some ⟨w.heap.size,0,none⟩) 1 1] (w.alloc (.cells #[.int .i64 1] 3)) fun e w'=>(∃ er:Int,e=.returned (.int .i64 er))∧∃ F',P.At w' g (P.add (P.new 0 1048576 1048576) [1]) F'∧EX F w w'∧∀ b,F' b→F b∨w.heap.size≤b):=fun h=>(KB P h a1 l1 [1] (by decide) _ rfl).mono fun e w' q=>⟨⟨_,q.1⟩,q.2⟩
 have HA2:Hid (∀ {w:World} {g:Nat} {F:Nat→Prop},P.At w g (P.add (P.new 0 1048576 1048576) [1]) F→Calls Tryd.prog 25 #[.pointer (some ⟨g,0,none⟩),.slice (some ⟨w.heap.size,0,none⟩) 2 2] (w.alloc (.cells #[.int .i64 (-1),.int .i64 2] 3)) fun e w'=>(∃ er:Int,e=.returned (.int .i64 er))∧∃ F',P.At w' g (GQ P) F'∧EX F w w'∧∀ b,F' b→F b∨w.heap.size≤b):=fun h=>(KB P h b1 l2 [-1,2] (by decide) _ rfl).mono fun e w' q=>⟨⟨_,q.1⟩,q.2⟩
 have HA3:Hid (∀ {w:World} {g:Nat} {F:Nat→Prop},P.At w g (P.slv (GQ P) [] 0) F→Calls Tryd.prog 25 #[.pointer (some ⟨g,0,none⟩),.slice (some ⟨w.heap.size,0,none⟩) 1 1] (w.alloc (.cells #[.int .i64 (-2)] 3)) fun e w'=>(∃ er:Int,e=.returned (.int .i64 er))∧∃ F',P.At w' g (Ki P) F'∧EX F w w'∧∀ b,F' b→F b∨w.heap.size≤b):=fun h=>(KB P h oks l4 [-2] (by decide) _ rfl).mono fun e w' q=>⟨⟨_,q.1⟩,q.2⟩
 have HS1:Hid (∀ {w:World} {g:Nat} {F:Nat→Prop},P.At w g (GQ P) F→FM w→0<w.heap.size→¬ F 0→_):=fun {w g F} h t z q=>Lt P h c1 l3 t z q
 have HS2:Hid (∀ {w:World} {g:Nat} {F:Nat→Prop},P.At w g (Ki P) F→FM w→0<w.heap.size→¬ F 0→_):=fun {w g F} h t z q=>Lt P h d3 l5 t z q
 generalize P.ans (GQ P) [] 0=x at *
 generalize P.ans (Ki P) [] 0=y at *
 obtain⟨xst,xre,xvs,xco,xcl⟩:=x
 obtain⟨yst,yre,yvs,yco,ycl⟩:=y
 simp only at d1 d2 d5
 subst d1 d2 d5
 generalize P.slv (GQ P) [] 0=s4 at *
 generalize P.slv (Ki P) [] 0=s6 at *
 generalize GQ P=s3 at *
 generalize Ki P=s5 at *
 generalize P.add (P.new 0 1048576 1048576) [1]=s2 at *
 generalize P.new 0 1048576 1048576=s1 at *
 have TB:=AA htab
 clear htab a1 a2 b1 b2 c1 c2 d3 d4 oks l1 l2 l3 l4 l5
 go_enter Tryd.func11,Tryd.ntmps11
 go_wp2_with fail
 refine(AE HW _).mono ?_
 rintro e w1 ⟨rfl,hb1⟩
 have B1:Hid (Below w.heap.size w (w1.alloc (.cells #[.int .i64 0,.int .i64 1048576,.int .i64 1048576] 52))):=hb1.trans ((Cg w1 _).mono hb1.size)
 clear hb1
 go_wp2_with fail
 refine(AE HN _).mono ?_
 generalize w1.alloc (.cells #[.int .i64 0,.int .i64 1048576,.int .i64 1048576] 52)=w2 at *
 rintro e w3 ⟨g,F,rfl,x3,n3,hb3⟩
 have hz2:w.heap.size≤w2.heap.size:=B1.out.size
 have B3:Hid (Below w.heap.size w w3):=B1.out.trans (hb3.mono hz2)
 have N3:Hid (∀ q,F q→w.heap.size≤q):=fun q hq=>Nat.le_trans hz2 (n3 q hq)
 have X3:=AA x3
 clear x3 n3 hb3
 go_wp2_with fail
 refine(AE HA1 X3.out).mono ?_
 rintro e w4 ⟨⟨er1,rfl⟩,F4,x4,k4,n4⟩
 have hz3:w.heap.size≤w3.heap.size:=B3.out.size
 have B4:Hid (Below w.heap.size w w4):=DB B3.out k4 hz3 N3.out
 have N4:Hid (∀ q,F4 q→w.heap.size≤q):=fun q hq=>(n4 q hq).elim (N3.out q) fun z=>by omega
 have X4:=AA x4
 clear x4 n4 k4 X3
 go_wp2_with fail
 refine(AE HA2 X4.out).mono ?_
 rintro e w5 ⟨⟨er2,rfl⟩,F5,x5,k5,n5⟩
 have hz4:w.heap.size≤w4.heap.size:=B4.out.size
 have B5:Hid (Below w.heap.size w w5):=DB B4.out k5 hz4 N4.out
 have N5:Hid (∀ q,F5 q→w.heap.size≤q):=fun q hq=>(n5 q hq).elim (N4.out q) fun z=>by omega
 have X5:=AA x5
 have hz5:w.heap.size≤w5.heap.size:=B5.out.size
 have HQ1:=AA (HS1.out X5.out (FM.below TB.out B5.out h0) (by omega) (fun q=>by have:=N5.out 0 q;omega))
 clear x5 n5 k5 X4
 go_wp2_with fail
 refine(AE HQ1).mono ?_
 rintro e w6 ⟨p,rfl,o6,F6,x6,k6,n6,q6⟩
 have B6:Hid (Below w.heap.size w w6):=DB B5.out k6 hz5 N5.out
 have N6:Hid (∀ q,F6 q→w.heap.size≤q):=fun q hq=>(n6 q hq).elim (N5.out q) fun z=>by omega
 have hz6:w.heap.size≤w6.heap.size:=B6.out.size
 obtain⟨gv,cw,ev,hgv,_⟩:=o6.vs.form (show 0<2 by decide)
 obtain⟨pa1,pa2,pa3,pc1,pc2,pc3⟩:=p
 simp only[Value.slice.injEq] at ev
 obtain⟨rfl,_,rfl⟩:=ev
 have v0:w6.cell? ⟨gv,0,none⟩=some (.int .i64 1):=o6.vs.cells (g:=gv) rfl 0 _ rfl
 have v1:w6.cell? ⟨gv,1,none⟩=some (.int .i64 2):=by
  have:=o6.vs.cells (g:=gv) rfl 1 (.int .i64 2) rfl
  rw[FR] at this
  exact this
 have hgv6:gv<w6.heap.size:=(o6.vs.lt gv rfl).2
 have hvF:¬ F6 gv:=q6 gv (.inl rfl)
 have hwF:¬ F6 w6.heap.size:=fun q=>by have:=P.lt x6 _ q;omega
 have X6:=AA x6
 have R7:Hid (Ab (w6.alloc (.cells #[.int .i64 1,.int .i64 xre,.slice (some ⟨gv,0,none⟩) 2 pc1,.slice pa2 xco.length pc2,.slice pa3 xcl.length pc3] 38)) w6.heap.size 38 [.int .i64 1,.int .i64 xre,.slice (some ⟨gv,0,none⟩) 2 pc1,.slice pa2 xco.length pc2,.slice pa3 xcl.length pc3]):=heap_alloc_new w6 _
 have B7:=AA (Cg w6 (.cells #[.int .i64 1,.int .i64 xre,.slice (some ⟨gv,0,none⟩) 2 pc1,.slice pa2 xco.length pc2,.slice pa3 xcl.length pc3] 38))
 have V7:Hid ((w6.alloc (.cells #[.int .i64 1,.int .i64 xre,.slice (some ⟨gv,0,none⟩) 2 pc1,.slice pa2 xco.length pc2,.slice pa3 xcl.length pc3] 38)).cell? ⟨gv,0,none⟩=some (.int .i64 1)∧(w6.alloc (.cells #[.int .i64 1,.int .i64 xre,.slice (some ⟨gv,0,none⟩) 2 pc1,.slice pa2 xco.length pc2,.slice pa3 xcl.length pc3] 38)).cell? ⟨gv,1,none⟩=some (.int .i64 2)):=⟨(B7.out.cell (p:=⟨gv,0,none⟩) hgv6).trans v0,(B7.out.cell (p:=⟨gv,1,none⟩) hgv6).trans v1⟩
 have HA3':=AA (HA3.out (P.below X6.out B7.out))
 have hs7:(w6.alloc (.cells #[.int .i64 1,.int .i64 xre,.slice (some ⟨gv,0,none⟩) 2 pc1,.slice pa2 xco.length pc2,.slice pa3 xcl.length pc3] 38)).heap.size=w6.heap.size+1:=by simp
 rw[hs7] at HA3'
 have HS7:=AA hs7
 clear hs7
 clear x6 k6 n6 q6 o6 v0 v1 X5 HQ1 HA3
 go_wp2_with fail
 refine(AE HA3').mono ?_
 generalize w6.alloc (.cells #[.int .i64 1,.int .i64 xre,.slice (some ⟨gv,0,none⟩) 2 pc1,.slice pa2 xco.length pc2,.slice pa3 xcl.length pc3] 38)=w7 at *
 rintro e w8 ⟨⟨er3,rfl⟩,F8,x8,k8,n8⟩
 have hz7:w6.heap.size<w7.heap.size:=R7.out.lt
 have R8:Hid (Ab w8 w6.heap.size 38 [.int .i64 1,.int .i64 xre,.slice (some ⟨gv,0,none⟩) 2 pc1,.slice pa2 xco.length pc2,.slice pa3 xcl.length pc3]):=(k8.block _ hz7 hwF).trans R7.out
 have V8:Hid (w8.cell? ⟨gv,0,none⟩=some (.int .i64 1)∧w8.cell? ⟨gv,1,none⟩=some (.int .i64 2)):=⟨(World.cell?_of_block (k8.block gv (by omega) hvF)).trans V7.out.1,(World.cell?_of_block (k8.block gv (by omega) hvF)).trans V7.out.2⟩
 have B7':Hid (Below w.heap.size w w7):=B6.out.trans (B7.out.mono hz6)
 have B8:Hid (Below w.heap.size w w8):=DB B7'.out k8 (by omega) N6.out
 have N8:Hid (∀ q,F8 q→w.heap.size≤q):=fun q hq=>(n8 q hq).elim (N6.out q) fun z=>by omega
 have hz8:w7.heap.size≤w8.heap.size:=k8.size
 have hvF8:¬ F8 gv:=fun q=>(n8 _ q).elim hvF fun z=>by omega
 have hwF8:¬ F8 w6.heap.size:=fun q=>(n8 _ q).elim hwF fun z=>by omega
 have X8:=AA x8
 have HQ2:=AA (HS2.out X8.out (FM.below TB.out B8.out h0) (by omega) (fun q=>by have:=N8.out 0 q;omega))
 clear x8 k8 n8 HA3' X6 R7 V7 B7
 go_wp2_with fail
 refine(AE HQ2).mono ?_
 rintro e w9 ⟨p,rfl,o9,F9,x9,k9,n9,q9⟩
 have R9:Ab w9 w6.heap.size 38 [.int .i64 1,.int .i64 xre,.slice (some ⟨gv,0,none⟩) 2 pc1,.slice pa2 xco.length pc2,.slice pa3 xcl.length pc3]:=(k9.block _ (by omega) hwF8).trans R8.out
 have V9:w9.cell? ⟨gv,0,none⟩=some (.int .i64 1)∧w9.cell? ⟨gv,1,none⟩=some (.int .i64 2):=⟨(World.cell?_of_block (k9.block gv (by omega) hvF8)).trans V8.out.1,(World.cell?_of_block (k9.block gv (by omega) hvF8)).trans V8.out.2⟩
 have B9:Hid (Below w.heap.size w w9):=DB B8.out k9 (by omega) N8.out
 have hz9:w8.heap.size≤w9.heap.size:=k9.size
 have c0:∀ o,(w9.alloc o).cell? ⟨w6.heap.size,0,none⟩=some (.int .i64 1):=fun o=>((Cg w9 o).cell (p:=⟨w6.heap.size,0,none⟩) (by show w6.heap.size<w9.heap.size;omega)).trans ((R9.cell 0).trans rfl)
 have c2:∀ o,(w9.alloc o).cell? ⟨w6.heap.size,2,none⟩=some (.slice (some ⟨gv,0,none⟩) 2 pc1):=fun o=>((Cg w9 o).cell (p:=⟨w6.heap.size,2,none⟩) (by show w6.heap.size<w9.heap.size;omega)).trans ((R9.cell 2).trans rfl)
 have e0:∀ o,(w9.alloc o).cell? ⟨gv,0,none⟩=some (.int .i64 1):=fun o=>((Cg w9 o).cell (p:=⟨gv,0,none⟩) (by show gv<w9.heap.size;omega)).trans V9.1
 have e1:∀ o,(w9.alloc o).cell? ⟨gv,1,none⟩=some (.int .i64 2):=fun o=>((Cg w9 o).cell (p:=⟨gv,1,none⟩) (by show gv<w9.heap.size;omega)).trans V9.2
 clear R9 V9 x9 k9 n9 q9 o9 HQ2 X8 R8 V8
 go_wp2
 go_ret
 exact⟨rfl,B9.out.alloc B9.out.size _⟩
theorem Pf(cs:List Nat):AH (OU cs) 349525:=by
 have key:∀ (cs:List Nat) (a:Nat),AH a 349525→AH (cs.foldl (fun a c=>a|||Ag c) a) 349525:=by
  intro cs
  induction cs with
  | nil=>intro a h;exact h
  | cons c cs ih=>intro a h;exact ih _ (Mp h (EF c))
 exact key cs 0 fun i q=>by rw[Nat.zero_testBit] at q;simp at q
theorem IU.roomy{P:D0}{s:P.S}{tk:List (List Int)}(t:IU P 0 1048576 1048576 s tk):J9 (P.vw s):=by
 rw[t.v]
 exact⟨rfl,rfl,rfl,Pf _,Nat.zero_le _⟩
def Ee(P:D0)(cls:List (List Int)):P.S × List (List Int):=Fk P (P.new 0 1048576 1048576) (Hu cls)
theorem Pw(P:D0)(cls:List (List Int)):IU P 0 1048576 1048576 (Ee P cls).1 (Ee P cls).2:=QT (Wt P 0 1048576 1048576 (by decide)) _
theorem Mr(P:D0)(cls:List (List Int)):(Ee P cls).2.length≤40:=by
 have:=(NJ P (P.new 0 1048576 1048576) (Hu cls)).1
 have e:(Hu cls).length≤40:=by simp[Hu];omega
 exact Nat.le_trans this e
theorem IU.len{P:D0}{r h l:Int}{s:P.S}{tk:List (List Int)}(t:IU P r h l s tk)(hl:tk.length≤40):(P.vw s).hv.length≤1000:=by
 rw[t.v]
 show(Gr tk).length≤1000
 have:=Na tk
 omega
theorem JU(P:D0){w:World}{g:Nat}{s:P.S}{F:Nat→Prop}(h:P.At w g s F)(ok:P.Ok s)(hn:(P.vw s).hv.length≤1000)(ht:FM w)(h0:0<w.heap.size)(hF:¬ F 0){b0:Nat}{a:Option Addr}{c:Nat}{xs:List Int}(ho:w.ownsRow b0 3 1 (.slice a xs.length c) xs.length (AW xs))(hd:∀ q,F q→(Value.slice a xs.length c).ownBlock≠some q)(hx:xs.length≤1000)(b:Int) :
  Calls Tryd.prog 13 #[.pointer (some ⟨g,0,none⟩),.slice a xs.length c,.int .i64 b] w fun e w'=>∃ p:A3,e=.returned (.tuple #[.agg #[.int .i64 (P.ans s xs b).st,.int .i64 (P.ans s xs b).re,.slice p.a1 (P.ans s xs b).vs.length p.c1,.slice p.a2 (P.ans s xs b).co.length p.c2,.slice p.a3 (P.ans s xs b).cl.length p.c3],.int .i64 (BJ xs b)]) ∧
   DJ w' w.heap.size (P.ans s xs b) p∧∃ F',P.At w' g (P.slv s xs b) F'∧EX F w w'∧(∀ q,F' q→F q∨w.heap.size≤q)∧∀ k,p.At k→¬ F' k:=by
 refine(P.slvC a c xs b h ok ht h0 hF (By ho) (fun ad e=>?_) (by omega) (by omega)).mono ?_
 ·subst e
  exact⟨fun q=>hd _ q rfl,(ho.lt ad.block rfl).2⟩
 ·rintro e w' ⟨p,he,ha,_,F',x,c,n,q⟩
  exact⟨p,he,ha,F',x,c,n,q⟩
set_option maxHeartbeats 8000000 in
theorem MG(P:D0)(a a2:Option Addr)(c c2:Nat)(A:Nat→Option Addr)(C:Nat→Nat)(cls:List (List Int))(xs:List Int)(w:World)(hr:Br w a A C cls)(hcl:cls.length≤9223372036854775807)(_hcb:∀ c∈cls,∀ x∈c,-9223372036854775808≤x∧x≤9223372036854775807)(hi:Ad w a2 xs)(hx:xs.length≤9223372036854775807)(hxb:∀ x∈xs,-9223372036854775808≤x∧x≤9223372036854775807)(htab:FM w)(h0:0<w.heap.size) :
  Calls Tryd.prog 6 #[.slice a cls.length c,.slice a2 xs.length c2] w fun e w'=>e=.returned (.bool true)∧Below w.heap.size w w':=by
 have HW:=AA (IL P a c A C cls w hr hcl)
 have T:=Pw P cls
 have hl40:=Mr P cls
 have hln:=T.len hl40
 obtain⟨ok',ls,st,so,how⟩:=JF T.ok T.roomy (Dj xs)
 have HST:Hid ((P.ans (Ee P cls).1 (Ae xs) 0).st=1∨(P.ans (Ee P cls).1 (Ae xs) 0).st=2):=how.imp (fun q=>q.1) fun q=>q.1
 have HLI:Hid (∀ w',Below w.heap.size w w'→Calls Tryd.prog 11 #[] w' fun e w''=>e=.returned (.bool true)∧Below w'.heap.size w' w''):=fun w' hb=>JM P w' (htab.below hb h0) (Nat.lt_of_lt_of_le h0 hb.size)
 have HWI:Hid (∀ w',Below w.heap.size w w'→Calls Tryd.prog 12 #[.slice a2 xs.length c2] w' fun e w''=>∃ a' c',e=.returned (.slice a' (Ae xs).length c')∧w''.ownsRow w'.heap.size 3 1 (.slice a' (Ae xs).length c') (Ae xs).length (AW (Ae xs))∧Below w'.heap.size w' w''):=fun w' hb=>IN a2 c2 xs w' (hi.below hb) hx hxb
 have hal:=Dj xs
 have hwl:=Hr xs
 have TB:=AA htab
 have TO:=AA T.ok
 have HSO:Hid (∀ (w:World) (g:Nat) (F:Nat→Prop),P.At w g (Ee P cls).1 F→FM w→0<w.heap.size→¬ F 0→∀ (b0:Nat) (a:Option Addr) (c:Nat),w.ownsRow b0 3 1 (.slice a (Ae xs).length c) (Ae xs).length (AW (Ae xs))→(∀ q,F q→(Value.slice a (Ae xs).length c).ownBlock≠some q)→Calls Tryd.prog 13 #[.pointer (some ⟨g,0,none⟩),.slice a (Ae xs).length c,.int .i64 0] w fun e w'=>∃ p:A3,e=.returned (.tuple #[.agg #[.int .i64 (P.ans (Ee P cls).1 (Ae xs) 0).st,.int .i64 (P.ans (Ee P cls).1 (Ae xs) 0).re,.slice p.a1 (P.ans (Ee P cls).1 (Ae xs) 0).vs.length p.c1,.slice p.a2 (P.ans (Ee P cls).1 (Ae xs) 0).co.length p.c2,.slice p.a3 (P.ans (Ee P cls).1 (Ae xs) 0).cl.length p.c3],.int .i64 0])∧EX F w w'):=fun w g F h1 h2 h3 h4 b0 a c h5 h6=>by
  have:=JU P h1 TO.out hln h2 h3 h4 h5 h6 (by omega) 0
  rw[hal] at this
  refine this.mono ?_
  rintro e w' ⟨p,he,_,_,_,hc,_⟩
  exact⟨p,he,hc⟩
 have e1:Fk P (P.new 0 1048576 1048576) (Hu cls)=Ee P cls:=rfl
 rw[e1] at HW
 generalize P.ans (Ee P cls).1 (Ae xs) 0=x at *
 generalize Ee P cls=sk at *
 generalize Ae xs=l at *
 clear hr hi hxb htab T hln ok' so how hal e1 hl40
 go_enter Tryd.func6,Tryd.ntmps6
 go_wp2_with fail
 refine(AE HW).mono ?_
 rintro e w1 ⟨g,F,ta,tc,vs,rfl,X1,hb1⟩
 have hbA:=Cg w1 (.cells #[.pointer (some ⟨g,0,none⟩),.slice ta sk.2.length tc,.bool true] 33)
 have r2:Ab (w1.alloc (.cells #[.pointer (some ⟨g,0,none⟩),.slice ta sk.2.length tc,.bool true] 33)) w1.heap.size 33 [.pointer (some ⟨g,0,none⟩),.slice ta sk.2.length tc,.bool true]:=heap_alloc_new w1 _
 have R2:=AA r2
 have X2:=AA (X1.below hbA)
 have b2:Below w.heap.size w (w1.alloc (.cells #[.pointer (some ⟨g,0,none⟩),.slice ta sk.2.length tc,.bool true] 33)):=hb1.trans (hbA.mono hb1.size)
 have B2:=AA b2
 have HL:=AA (HLI.out _ b2)
 clear hbA r2 X1 hb1 b2 HLI HW
 go_wp2_with fail
 refine(AE HL).mono ?_
 generalize w1.alloc (.cells #[.pointer (some ⟨g,0,none⟩),.slice ta sk.2.length tc,.bool true] 33)=w2 at *
 rintro e w3 ⟨rfl,hb3⟩
 have R3:=AA (AB R2.out hb3)
 have X3:=AA (X2.out.below hb3)
 have B3:Hid (Below w.heap.size w w3):=B2.out.trans (hb3.mono B2.out.size)
 have f2:w3.cell? ⟨w1.heap.size,2,none⟩=some (.bool true):=(R3.out.cell 2).trans rfl
 have HW3:=AA (HWI.out _ B3.out)
 clear hb3 HL HWI R2 X2 B2
 go_wp2_with fail
 refine(AE HW3).mono ?_
 rintro e w4 ⟨a4,c4,rfl,o4,hb4⟩
 have R4:=AA (AB R3.out hb4)
 have X4:=AA (X3.out.below hb4)
 have hz3:w.heap.size≤w3.heap.size:=B3.out.size
 have B4:Hid (Below w.heap.size w w4):=B3.out.trans (hb4.mono hz3)
 have f0:w4.cell? ⟨w1.heap.size,0,none⟩=some (.pointer (some ⟨g,0,none⟩)):=(R4.out.cell 0).trans rfl
 have hz4:w3.heap.size≤w4.heap.size:=hb4.size
 have HS:=AA (HSO.out w4 g F X4.out.x (FM.below TB.out B4.out h0) (by omega) (fun q=>by have:=X4.out.fb 0 q;omega) _ a4 c4 o4 (fun q hq e=>by
  have h1:=(o4.lt q e).1
  have h2:=P.lt X3.out.x q hq
  omega))
 clear hb4 o4 HSO f2
 go_wp2_with fail
 refine(AE HS).mono ?_
 rintro e w5 ⟨p,rfl,hc5⟩
 have B5:Hid (Below w.heap.size w w5):=DB B4.out hc5 (by omega) X4.out.fb
 have g0:∀ o1 o2 o3 o4:Value,(w5.alloc (.cells #[.int .i64 x.st,o1,o2,o3,o4] 38)).cell? ⟨w5.heap.size,0,none⟩=some (.int .i64 x.st):=fun o1 o2 o3 o4=>by
  have r:Ab (w5.alloc (.cells #[.int .i64 x.st,o1,o2,o3,o4] 38)) w5.heap.size 38 [.int .i64 x.st,o1,o2,o3,o4]:=heap_alloc_new w5 _
  exact(r.cell 0).trans rfl
 obtain⟨xst,xre,xvs,xco,xcl⟩:=x
 simp only at HST g0
 rcases HST.out with e | e
 all_goals
  subst e
  clear hc5 HS HST
  go_wp2
  go_ret
  exact⟨rfl,B5.out.alloc B5.out.size _⟩
end Go.Proofs.YthboeppmlhbofaaDoor
