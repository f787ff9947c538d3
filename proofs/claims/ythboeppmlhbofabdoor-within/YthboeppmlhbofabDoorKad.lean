import Derived.Test.YthboeppmlhbofabDoorKaa
import Derived.Test.YthboeppmlhbofabDoorHag
namespace Go.Proofs.YthboeppmlhbofabDoor
open Go.RowKit Txt
set_option maxRecDepth 100000
def wishK(x:Int):Int:=if litB x then x else 1+(pickK x 10:Nat)
def wishL(xs:List Int):List Int:=(xs.take 12).map wishK
theorem wish_lit(x:Int):litB (wishK x)=true:=by
 unfold wishK
 split
 ·assumption
 ·have:=pick_lt x 10 (by decide)
  simp only[litB,Bool.and_eq_true,bne_iff_ne,decide_eq_true_eq]
  omega
theorem wishL_lits(xs:List Int):(wishL xs).all litB=true:=by
 unfold wishL
 rw[List.all_eq_true]
 intro x hx
 obtain⟨y,_,rfl⟩:=List.mem_map.1 hx
 exact wish_lit y
theorem wishL_len(xs:List Int):(wishL xs).length≤12:=by unfold wishL;simp;omega
theorem wishL_asked(xs:List Int):askedD (wishL xs) 0=0:=by
 have:=wishL_len xs
 unfold askedD
 rw[if_neg (by omega),if_neg (by rw[wishL_lits];simp),if_neg (by omega)]
def wishP(ys:List Int)(k:Nat):List Int:=(ys.take k).map wishK++ys.drop k
theorem wishP_len(ys:List Int)(k:Nat):(wishP ys k).length=ys.length:=by simp[wishP];omega
theorem wishP_get(ys:List Int)(k:Nat)(hk:k<ys.length):(wishP ys k)[k]?=some (ys.getD k 0):=by
 unfold wishP
 rw[List.getElem?_append_right (by simp;omega)]
 simp only[List.length_map,List.length_take]
 rw[Nat.min_eq_left (by omega),Nat.sub_self,List.getElem?_drop,Nat.add_zero,List.getD_eq_getElem?_getD,List.getElem?_eq_getElem hk]
 rfl
theorem wishP_succ(ys:List Int)(k:Nat)(hk:k<ys.length):wishP ys (k+1)=(wishP ys k).set k (wishK (ys.getD k 0)):=by
 have e:ys.drop k=ys.getD k 0 :: ys.drop (k+1):=by
  rw[List.drop_eq_getElem_cons hk,List.getD_eq_getElem?_getD,List.getElem?_eq_getElem hk];rfl
 unfold wishP
 rw[List.take_succ_eq_append_getElem hk,List.map_append,e,List.set_append_right _ _ (by simp;omega)]
 simp only[List.length_map,List.length_take,Nat.min_eq_left (Nat.le_of_lt hk),Nat.sub_self,List.set_cons_zero,List.append_assoc]
 rw[List.getD_eq_getElem?_getD,List.getElem?_eq_getElem hk]
 rfl
theorem set_same{l:List Int}{k:Nat}{x:Int}(h:l[k]?=some x):l.set k x=l:=by
 obtain⟨hl,he⟩:=List.getElem?_eq_some_iff.1 h
 rw[← he]
 exact List.set_getElem_self hl
theorem i64s_set(xs:List Int)(k:Nat)(y:Int):i64s (xs.set k y)=(i64s xs).set k (.int .i64 y):=by simp[i64s,List.map_set]
set_option maxHeartbeats 4000000 in
theorem wishes_any(a:Option Addr)(c:Nat)(xs:List Int)(w:World)(hi:IntsAt w a xs)(hx:xs.length≤9223372036854775807)(hb:∀ x∈xs,-9223372036854775808≤x∧x≤9223372036854775807) :
  Calls Tryd.prog 12 #[.slice a xs.length c] w fun e w'=>∃ a' c',e=.returned (.slice a' (wishL xs).length c')∧w'.ownsRow w.heap.size 3 1 (.slice a' (wishL xs).length c') (wishL xs).length (i64s (wishL xs))∧Below w.heap.size w w':=by
 have HF:=hide (few_any a c xs 12 w hi hx (by decide))
 have hby:∀ x∈xs.take 12,-9223372036854775808≤x∧x≤9223372036854775807:=fun x hq=>hb x (List.mem_of_mem_take hq)
 have HW:Hid (wishL xs=wishP (xs.take 12) (xs.take 12).length):=by
  show _=_
  unfold wishL wishP
  rw[List.take_of_length_le (Nat.le_refl _),List.drop_eq_nil_of_le (Nat.le_refl _),List.append_nil]
 have hl12:(xs.take 12).length≤12:=by simp;omega
 generalize xs.take 12=ys at *
 have HPK:Hid (∀ (x:Int) (w:World),-9223372036854775808≤x→x≤9223372036854775807→Calls Tryd.prog 19 #[.int .i64 x,.int .i64 10] w fun e w'=>e=.returned (.int .i64 (pickK x 10:Nat))∧w'=w):=fun x w h1 h2=>pickG_any x 10 (by decide) (by decide) w h1 h2
 have HBY:=hide hby
 clear hi hb hby
 go_enter Tryd.func12,Tryd.ntmps12
 go_wp2_with fail
 refine(unhide HF).mono ?_
 rintro e w1 ⟨a1,c1,rfl,ho1,hb1⟩
 have O1:Hid (w1.ownsRow w.heap.size 3 1 (.slice a1 ys.length c1) ys.length (i64s (wishP ys 0))):=by
  have:wishP ys 0=ys:=by simp[wishP]
  rw[this];exact ho1
 have B1:=hide hb1
 clear ho1 hb1 HF
 go_wp2_with fail
 go_loopw [4] (fun x4 wr=>∃ k:Nat,k≤ys.length∧x4=.int .i64 k∧Hid (wr.ownsRow w.heap.size 3 1 (.slice a1 ys.length c1) ys.length (i64s (wishP ys k)))∧Hid (Below w.heap.size w wr)) (fun x4 _=>ys.length - (intOf x4).toNat)
 case atStart=>exact⟨0,Nat.zero_le _,rfl,O1,B1⟩
 case round =>
  clear O1 B1
  obtain⟨k,hk,rfl,O,BB⟩:=hrel
  by_cases hlt:k<ys.length
  ·obtain⟨g,cap,e,hbg,_⟩:=O.out.form (by omega)
   simp only[Value.slice.injEq] at e
   obtain⟨rfl,_,rfl⟩:=e
   have hcell:wr.cell? ⟨g,k,none⟩=some (.int .i64 (ys.getD k 0)):=by
    have h1:=wishP_get ys k hlt
    have:=O.out.cells (g:=g) rfl k (.int .i64 (ys.getD k 0)) (by simp only[i64s,List.getElem?_map,h1,Option.map_some])
    rw[addr0,Nat.zero_add] at this
    exact this
   have hfz:wr.frozen? ⟨g,k,none⟩=false:=O.out.frozenAt k
   obtain⟨y1,y2⟩:=HBY.out (ys.getD k 0) (by
    rw[List.getD_eq_getElem?_getD,List.getElem?_eq_getElem hlt]
    exact List.getElem_mem hlt)
   have HSU:=hide (wishP_succ ys k hlt)
   have HG:=hide (wishP_get ys k hlt)
   have HOS:Hid (∀ v,(wr.setCell ⟨g,k,none⟩ (.int .i64 v)).ownsRow w.heap.size 3 1 (.slice (some ⟨g,0,none⟩) ys.length c1) ys.length (i64s ((wishP ys k).set k v))):=fun v=>by
    rw[i64s_set]
    exact(O.out.stored k (.int .i64 v)).1
   have HBS:Hid (∀ v,Below w.heap.size w (wr.setCell ⟨g,k,none⟩ (.int .i64 v))):=fun v=>BB.out.setCell (p:=⟨g,k,none⟩) hbg _
   have i1:(0:Int)≤(k:Int):=by omega
   have i2:(k:Int)<(ys.length:Int):=by omega
   generalize ys.getD k 0=x at *
   have hcs:x < -10∨(¬ x < -10∧x > 10)∨(¬ x < -10∧¬ x > 10∧x=0)∨(¬ x < -10∧¬ x > 10∧x≠0):=by omega
   rcases hcs with h1 | ⟨h1,h2⟩ | ⟨h1,h2,rfl⟩ | ⟨h1,h2,h3⟩
   ·have ew:Hid (wishK x=1+(pickK x 10:Nat)):=by show _=_;unfold wishK;rw[if_neg (by simp only[litB,Bool.and_eq_true,bne_iff_ne,decide_eq_true_eq];omega)]
    have hp:=pick_lt x 10 (by decide)
    go_wp2_with fail
    refine(unhide HPK x wr y1 y2).mono ?_
    rintro e w2 ⟨rfl,rfl⟩
    generalize pickK x 10=pk at *
    go_wp2
    go_roundw
    case rel=>exact⟨k+1,by omega,by go_num,by rw[HSU.out,ew.out];exact HOS.out _,HBS.out _⟩
    case measure=>simp[intOf];omega
   ·have ew:Hid (wishK x=1+(pickK x 10:Nat)):=by show _=_;unfold wishK;rw[if_neg (by simp only[litB,Bool.and_eq_true,bne_iff_ne,decide_eq_true_eq];omega)]
    have hp:=pick_lt x 10 (by decide)
    go_wp2_with fail
    refine(unhide HPK x wr y1 y2).mono ?_
    rintro e w2 ⟨rfl,rfl⟩
    generalize pickK x 10=pk at *
    go_wp2
    go_roundw
    case rel=>exact⟨k+1,by omega,by go_num,by rw[HSU.out,ew.out];exact HOS.out _,HBS.out _⟩
    case measure=>simp[intOf];omega
   ·have ew:Hid (wishK 0=1+(pickK 0 10:Nat)):=by show _=_;unfold wishK;rw[if_neg (by simp only[litB,Bool.and_eq_true,bne_iff_ne,decide_eq_true_eq];omega)]
    have hp:=pick_lt 0 10 (by decide)
    go_wp2_with fail
    refine(unhide HPK 0 wr y1 y2).mono ?_
    rintro e w2 ⟨rfl,rfl⟩
    generalize pickK 0 10=pk at *
    go_wp2
    go_roundw
    case rel=>exact⟨k+1,by omega,by go_num,by rw[HSU.out,ew.out];exact HOS.out _,HBS.out _⟩
    case measure=>simp[intOf];omega
   ·have ew:Hid (wishK x=x):=by show _=_;unfold wishK;rw[if_pos (by simp only[litB,Bool.and_eq_true,bne_iff_ne,decide_eq_true_eq];omega)]
    have HSE:=hide (set_same HG.out)
    go_wp2
    go_roundw
    case rel=>exact⟨k+1,by omega,by go_num,by rw[HSU.out,ew.out,HSE.out];exact O,BB⟩
    case measure=>simp[intOf];omega
  ·obtain rfl:k=ys.length:=by omega
   go_wp2
   go_ret
   rw[HW.out,wishP_len]
   exact⟨a1,c1,rfl,O.out,BB.out⟩
theorem size_vars{x:Nat}(h:SubN x 349525):sizeN x≤10:=by
 have a:=(size_mono h 20).1
 have b:sizeTo 349525 20=10:=by decide
 have c:sizeN x=sizeTo x 20:=rfl
 omega
theorem wide_enough{seen un:Nat}(hs:sizeN seen≤10)(hu:un≤1000):enoughD 0 1048576 1048576 0 seen un=true:=by
 have key:∀ n,n≤10→n*pow3 n≤1000000∧(n+1)*pow3 n≤1000000:=by decide
 obtain⟨k1,k2⟩:=key _ hs
 have k3:(2*sizeN seen+1)*(un+1)≤21*1001:=Nat.mul_le_mul (by omega) (by omega)
 unfold enoughD
 simp only[Bool.and_eq_true,beq_self_eq_true,decide_eq_true_eq,true_and]
 omega
structure Roomy(v:Vw):Prop where
 r:v.r=0
 h:v.h=1048576
 l:v.l=1048576
 seen:SubN v.seen 349525
 un:v.unsat≤900
theorem sub_or{a b m:Nat}(h1:SubN a m)(h2:SubN b m):SubN (a|||b) m:=SubN.or h1 h2
theorem wide_ok{P:Prg}{s:P.S}(ok:P.Ok s)(hw:Roomy (P.vw s)){xs:List Int}(ha:askedD xs 0=0):P.Ok (P.slv s xs 0)∧∃ ls st,SolveOk (P.vw s) xs 0 (P.vw (P.slv s xs 0)) (P.ans s xs 0) ls st ∧
  (((P.ans s xs 0).st=1∧(P.vw (P.slv s xs 0)).unsat=(P.vw s).unsat∧∃ u,SatOk (P.vw s).hv (P.vw (P.slv s xs 0)).seen (setOk xs) (P.ans s xs 0) u)∨((P.ans s xs 0).st=2∧(P.vw (P.slv s xs 0)).unsat=(P.vw s).unsat+1∧closedOf ls=true∧UnsatOk (P.vw s).hv (P.ans s xs 0) xs (lastOf ls))):=by
 obtain⟨ok',ls,st,so⟩:=P.slvV s xs 0 ok ha
 refine⟨ok',ls,st,so,?_⟩
 rcases so.how with⟨h1,h2,h3,h4⟩ | ⟨h1,h2,h3,h4⟩ | ⟨h1,h2,h3,h4⟩
 ·exact .inl ⟨h1,h3,h4⟩
 ·exact .inr ⟨h1,h3,h2,h4⟩
 ·exfalso
  have hr:=h4.room
  have e:enoughD (P.vw (P.slv s xs 0)).r (P.vw (P.slv s xs 0)).h (P.vw (P.slv s xs 0)).l 0 (P.vw (P.slv s xs 0)).seen (P.vw (P.slv s xs 0)).unsat=false:=hr
  rw[so.r,so.h,so.l,so.seen,h3,hw.r,hw.h,hw.l,wide_enough (size_vars (sub_or hw.seen (vars_mask _))) (by have:=hw.un;omega)] at e
  simp at e
theorem Roomy.solve{P:Prg}{s:P.S}(hw:Roomy (P.vw s)){xs:List Int}{b:Int}{s':P.S}{x:Ans}{ls:List Lin}{st:Nat}(so:SolveOk (P.vw s) xs b (P.vw s') x ls st)(hu:(P.vw s').unsat≤900):Roomy (P.vw s') :=
 ⟨so.r.trans hw.r,so.h.trans hw.h,so.l.trans hw.l,by rw[so.seen];exact sub_or hw.seen (vars_mask _),hu⟩
theorem liv_sat:∀ u,u<1024→allowsD [1,6] 0 u=true→valsTo 5 u 10=[1,2]:=by decide +kernel
theorem liv_some:someD [1,6] 0=true:=by decide +kernel
theorem liv_none:∀ u,u<1024→allowsD [1,6,8] 0 u=false:=by decide +kernel
theorem among_nil{co:List Int}(h:amongD co []=true):co=[]:=by
 unfold amongD at h
 cases co with
 | nil=>rfl
 | cons a l=>simp[amongTo] at h
def livS(P:Prg):P.S:=P.add (P.add (P.new 0 1048576 1048576) [1]) [-1,2]
def livT(P:Prg):P.S:=P.add (P.slv (livS P) [] 0) [-2]
theorem livS_ok(P:Prg):P.Ok (livS P)∧P.vw (livS P)=⟨0,1048576,1048576,[1,6],5,[],0,0,[]⟩:=by
 obtain⟨a1,a2⟩:=P.newV 0 1048576 1048576 (by decide)
 obtain⟨b1,b2⟩:=P.addV _ [1] a1
 obtain⟨c1,c2⟩:=P.addV _ [-1,2] b1
 refine⟨c1,c2.trans ?_⟩
 rw[b2,a2]
 kernel_rfl
theorem liv_first(P:Prg):(P.ans (livS P) [] 0).st=1∧(P.ans (livS P) [] 0).vs=[1,2]∧P.Ok (livT P)∧(P.vw (livT P)).hv=[1,6,8]∧Roomy (P.vw (livT P)):=by
 obtain⟨ok,hv⟩:=livS_ok P
 have hw:Roomy (P.vw (livS P)):=by
  rw[hv]
  refine⟨rfl,rfl,rfl,?_,by decide⟩
  show SubN 5 349525
  have e:(5:Nat)&&&349525=5:=by decide
  intro i hi
  rw[← e,Nat.testBit_and,Bool.and_eq_true] at hi
  exact hi.2
 obtain⟨ok',ls,st,so,how⟩:=wide_ok ok hw (xs:=[]) (by decide)
 have es:(P.vw (P.slv (livS P) [] 0)).seen=5:=by rw[so.seen,hv];decide
 have eh:(P.vw (P.slv (livS P) [] 0)).hv=[1,6]:=by rw[so.hv,hv]
 have e0:setOk ([]:List Int)=0:=by decide
 rcases how with⟨h1,h3,u,h4⟩ | ⟨h1,h3,_,h4⟩
 ·have hw':=hw.solve so (by rw[h3,hv];decide)
  obtain⟨d1,d2⟩:=P.addV _ [-2] ok'
  have et:(takenK [-2] (litsN [1,6])).takes?=true:=by decide
  have ev:P.vw (livT P)={ P.vw (P.slv (livS P) [] 0) with hv:=[1,6,8],seen:=5 }:=by
   refine d2.trans ?_
   unfold Vw.add
   rw[eh,if_pos et,es]
   have q1:setN [-2]=8:=by decide
   have q2:5|||varsN (setN [-2])=5:=by decide
   rw[q2,q1]
   rfl
  refine⟨h1,?_,d1,by rw[ev],?_⟩
  ·rw[h4.vs,es]
   refine liv_sat u h4.lt ?_
   have:=h4.al
   rw[hv,e0] at this
   exact this
  ·rw[ev]
   exact⟨hw'.r,hw'.h,hw'.l,by rw[← es];exact hw'.seen,hw'.un⟩
 ·exfalso
  have h5:=h4.no
  have h6:=among_nil h4.am
  rw[h6,hv,e0] at h5
  have h7:someD [1,6] 0=false:=h5
  rw[liv_some] at h7
  simp at h7
theorem liv_second(P:Prg):(P.ans (livT P) [] 0).st=2:=by
 obtain⟨_,_,ok,hh,hw⟩:=liv_first P
 obtain⟨ok',ls,st,so,how⟩:=wide_ok ok hw (xs:=[]) (by decide)
 have e0:setOk ([]:List Int)=0:=by decide
 rcases how with⟨h1,h3,u,h4⟩ | ⟨h1,_⟩
 ·exfalso
  have:=h4.al
  rw[hh,e0,liv_none u h4.lt] at this
  simp at this
 ·exact h1
theorem al_below(w:World)(o:Obj):Below w.heap.size w (w.alloc o):=(Below.refl _ _).alloc (Nat.le_refl _) o
theorem add_made(P:Prg){w:World}{g:Nat}{s:P.S}{F:Nat→Prop}(h:P.At w g s F)(ok:P.Ok s)(hn:(P.vw s).hv.length≤1000)(xs:List Int)(hx:xs.length≤100)(o:Obj)(ho:o=.cells (i64s xs).toArray 3) :
  Calls Tryd.prog 23 #[.pointer (some ⟨g,0,none⟩),.slice (some ⟨w.heap.size,0,none⟩) xs.length xs.length] (w.alloc o) fun e w'=>e=.returned (.int .i64 (errOf (takenK xs (litsN (P.vw s).hv))))∧∃ F',P.At w' g (P.add s xs) F'∧Chn F w w'∧∀ b,F' b→F b∨w.heap.size≤b:=by
 subst ho
 have hb:=al_below w (.cells (i64s xs).toArray 3)
 have hr:Row (w.alloc (.cells (i64s xs).toArray 3)) w.heap.size 3 (i64s xs):=heap_alloc_new w _
 have hi:IntsAt (w.alloc (.cells (i64s xs).toArray 3)) (some ⟨w.heap.size,0,none⟩) xs:=by
  refine .inr ⟨w.heap.size,0,rfl,fun j hj=>?_⟩
  rw[Nat.zero_add]
  refine(hr.cell j).trans ?_
  simp only[i64s,List.getElem?_map,List.getElem?_eq_getElem hj,Option.map_some,List.getD_eq_getElem?_getD,Option.getD_some]
 refine(P.addC (some ⟨w.heap.size,0,none⟩) xs.length xs (P.below h hb) ok hi (fun ad e hq=>?_) (by omega) (by omega)).mono ?_
 ·simp only[Option.some.injEq] at e
  subst e
  have:=P.lt h _ hq
  simp at this
 ·rintro e w' ⟨rfl,F',x,c,n,_⟩
  exact⟨rfl,F',x,(Chn.of hb).trans ⟨c.os,c.tape,c.output,c.size,c.block⟩,fun b q=>(n b q).imp id (fun z=>Nat.le_trans hb.size z)⟩
theorem solve_nil(P:Prg){w:World}{g:Nat}{s:P.S}{F:Nat→Prop}(h:P.At w g s F)(ok:P.Ok s)(hn:(P.vw s).hv.length≤1000)(ht:Tab w)(h0:0<w.heap.size)(hF:¬ F 0) :
  Calls Tryd.prog 13 #[.pointer (some ⟨g,0,none⟩),.slice none 0 0,.int .i64 0] w fun e w'=>∃ p:A3,e=.returned (.tuple #[.agg #[.int .i64 (P.ans s [] 0).st,.int .i64 (P.ans s [] 0).re,.slice p.a1 (P.ans s [] 0).vs.length p.c1,.slice p.a2 (P.ans s [] 0).co.length p.c2,.slice p.a3 (P.ans s [] 0).cl.length p.c3],.int .i64 0]) ∧
   AnsOwn w' w.heap.size (P.ans s [] 0) p∧∃ F',P.At w' g (P.slv s [] 0) F'∧Chn F w w'∧(∀ b,F' b→F b∨w.heap.size≤b)∧∀ k,p.At k→¬ F' k:=by
 refine(P.slvC none 0 [] 0 h ok ht h0 hF (.inl rfl) (fun ad e=>by simp at e) (by simp) (by omega)).mono ?_
 rintro e w' ⟨p,he,ha,_,F',x,c,n,q⟩
 have e0:askedD ([]:List Int) 0=0:=by decide
 rw[e0] at he
 exact⟨p,he,ha,F',x,c,n,q⟩
set_option maxHeartbeats 8000000 in
theorem lives_any(P:Prg)(w:World)(htab:Tab w)(h0:0<w.heap.size):Calls Tryd.prog 11 #[] w fun e w'=>e=.returned (.bool true)∧Below w.heap.size w w':=by
 have HW:Hid (∀ w,Calls Tryd.prog 27 #[] w fun e w'=>e=.returned (.agg #[.int .i64 0,.int .i64 1048576,.int .i64 1048576])∧Below w.heap.size w w'):=fun w=>wide_any w
 obtain⟨a1,a2⟩:=P.newV 0 1048576 1048576 (by decide)
 have HN:Hid (∀ w,Calls Tryd.prog 28 #[.agg #[.int .i64 0,.int .i64 1048576,.int .i64 1048576]] w fun e w'=>∃ g F,e=.returned (.tuple #[.pointer (some ⟨g,0,none⟩),.int .i64 0])∧P.At w' g (P.new 0 1048576 1048576) F∧(∀ b,F b→w.heap.size≤b)∧Below w.heap.size w w'):=fun w=>by
  refine(P.newC 0 1048576 1048576 w).mono ?_
  rintro e w' ⟨h1,h2⟩
  rw[if_pos (show settingsB 0 1048576 1048576=true by decide)] at h2
  obtain⟨g,F,q1,q2,q3⟩:=h2
  exact⟨g,F,q1,q2,q3,h1⟩
 obtain⟨b1,b2⟩:=P.addV _ [1] a1
 have l1:(P.vw (P.new 0 1048576 1048576)).hv.length≤1000:=by rw[a2];decide
 have l2:(P.vw (P.add (P.new 0 1048576 1048576) [1])).hv.length≤1000:=by rw[b2,a2];decide
 obtain⟨c1,c2⟩:=livS_ok P
 have l3:(P.vw (livS P)).hv.length≤1000:=by rw[c2];decide
 obtain⟨d1,d2,d3,d4,_⟩:=liv_first P
 have d5:=liv_second P
 have l5:(P.vw (livT P)).hv.length≤1000:=by rw[d4];decide
 obtain⟨oks,_⟩:=P.slvV (livS P) [] 0 c1 (by decide)
 have l4:(P.vw (P.slv (livS P) [] 0)).hv.length≤1000:=by
  obtain⟨_,ls,st,so⟩:=P.slvV (livS P) [] 0 c1 (by decide)
  rw[so.hv,c2];decide
 have HA1:Hid (∀ {w:World} {g:Nat} {F:Nat→Prop},P.At w g (P.new 0 1048576 1048576) F→Calls Tryd.prog 23 #[.pointer (some ⟨g,0,none⟩),.slice (some ⟨w.heap.size,0,none⟩) 1 1] (w.alloc (.cells #[.int .i64 1] 3)) fun e w'=>(∃ er:Int,e=.returned (.int .i64 er))∧∃ F',P.At w' g (P.add (P.new 0 1048576 1048576) [1]) F'∧Chn F w w'∧∀ b,F' b→F b∨w.heap.size≤b):=fun h=>(add_made P h a1 l1 [1] (by decide) _ rfl).mono fun e w' q=>⟨⟨_,q.1⟩,q.2⟩
 have HA2:Hid (∀ {w:World} {g:Nat} {F:Nat→Prop},P.At w g (P.add (P.new 0 1048576 1048576) [1]) F→Calls Tryd.prog 23 #[.pointer (some ⟨g,0,none⟩),.slice (some ⟨w.heap.size,0,none⟩) 2 2] (w.alloc (.cells #[.int .i64 (-1),.int .i64 2] 3)) fun e w'=>(∃ er:Int,e=.returned (.int .i64 er))∧∃ F',P.At w' g (livS P) F'∧Chn F w w'∧∀ b,F' b→F b∨w.heap.size≤b):=fun h=>(add_made P h b1 l2 [-1,2] (by decide) _ rfl).mono fun e w' q=>⟨⟨_,q.1⟩,q.2⟩
 have HA3:Hid (∀ {w:World} {g:Nat} {F:Nat→Prop},P.At w g (P.slv (livS P) [] 0) F→Calls Tryd.prog 23 #[.pointer (some ⟨g,0,none⟩),.slice (some ⟨w.heap.size,0,none⟩) 1 1] (w.alloc (.cells #[.int .i64 (-2)] 3)) fun e w'=>(∃ er:Int,e=.returned (.int .i64 er))∧∃ F',P.At w' g (livT P) F'∧Chn F w w'∧∀ b,F' b→F b∨w.heap.size≤b):=fun h=>(add_made P h oks l4 [-2] (by decide) _ rfl).mono fun e w' q=>⟨⟨_,q.1⟩,q.2⟩
 have HS1:Hid (∀ {w:World} {g:Nat} {F:Nat→Prop},P.At w g (livS P) F→Tab w→0<w.heap.size→¬ F 0→_):=fun {w g F} h t z q=>solve_nil P h c1 l3 t z q
 have HS2:Hid (∀ {w:World} {g:Nat} {F:Nat→Prop},P.At w g (livT P) F→Tab w→0<w.heap.size→¬ F 0→_):=fun {w g F} h t z q=>solve_nil P h d3 l5 t z q
 generalize P.ans (livS P) [] 0=x at *
 generalize P.ans (livT P) [] 0=y at *
 obtain⟨xst,xre,xvs,xco,xcl⟩:=x
 obtain⟨yst,yre,yvs,yco,ycl⟩:=y
 simp only at d1 d2 d5
 subst d1 d2 d5
 generalize P.slv (livS P) [] 0=s4 at *
 generalize P.slv (livT P) [] 0=s6 at *
 generalize livS P=s3 at *
 generalize livT P=s5 at *
 generalize P.add (P.new 0 1048576 1048576) [1]=s2 at *
 generalize P.new 0 1048576 1048576=s1 at *
 have TB:=hide htab
 clear htab a1 a2 b1 b2 c1 c2 d3 d4 oks l1 l2 l3 l4 l5
 go_enter Tryd.func11,Tryd.ntmps11
 go_wp2_with fail
 refine(unhide HW _).mono ?_
 rintro e w1 ⟨rfl,hb1⟩
 have B1:Hid (Below w.heap.size w (w1.alloc (.cells #[.int .i64 0,.int .i64 1048576,.int .i64 1048576] 54))):=hb1.trans ((al_below w1 _).mono hb1.size)
 clear hb1
 go_wp2_with fail
 refine(unhide HN _).mono ?_
 generalize w1.alloc (.cells #[.int .i64 0,.int .i64 1048576,.int .i64 1048576] 54)=w2 at *
 rintro e w3 ⟨g,F,rfl,x3,n3,hb3⟩
 have hz2:w.heap.size≤w2.heap.size:=B1.out.size
 have B3:Hid (Below w.heap.size w w3):=B1.out.trans (hb3.mono hz2)
 have N3:Hid (∀ q,F q→w.heap.size≤q):=fun q hq=>Nat.le_trans hz2 (n3 q hq)
 have X3:=hide x3
 clear x3 n3 hb3
 go_wp2_with fail
 refine(unhide HA1 X3.out).mono ?_
 rintro e w4 ⟨⟨er1,rfl⟩,F4,x4,k4,n4⟩
 have hz3:w.heap.size≤w3.heap.size:=B3.out.size
 have B4:Hid (Below w.heap.size w w4):=chn_below B3.out k4 hz3 N3.out
 have N4:Hid (∀ q,F4 q→w.heap.size≤q):=fun q hq=>(n4 q hq).elim (N3.out q) fun z=>by omega
 have X4:=hide x4
 clear x4 n4 k4 X3
 go_wp2_with fail
 refine(unhide HA2 X4.out).mono ?_
 rintro e w5 ⟨⟨er2,rfl⟩,F5,x5,k5,n5⟩
 have hz4:w.heap.size≤w4.heap.size:=B4.out.size
 have B5:Hid (Below w.heap.size w w5):=chn_below B4.out k5 hz4 N4.out
 have N5:Hid (∀ q,F5 q→w.heap.size≤q):=fun q hq=>(n5 q hq).elim (N4.out q) fun z=>by omega
 have X5:=hide x5
 have hz5:w.heap.size≤w5.heap.size:=B5.out.size
 have HQ1:=hide (HS1.out X5.out (Tab.below TB.out B5.out h0) (by omega) (fun q=>by have:=N5.out 0 q;omega))
 clear x5 n5 k5 X4
 go_wp2_with fail
 refine(unhide HQ1).mono ?_
 rintro e w6 ⟨p,rfl,o6,F6,x6,k6,n6,q6⟩
 have B6:Hid (Below w.heap.size w w6):=chn_below B5.out k6 hz5 N5.out
 have N6:Hid (∀ q,F6 q→w.heap.size≤q):=fun q hq=>(n6 q hq).elim (N5.out q) fun z=>by omega
 have hz6:w.heap.size≤w6.heap.size:=B6.out.size
 obtain⟨gv,cw,ev,hgv,_⟩:=o6.vs.form (show 0<2 by decide)
 obtain⟨pa1,pa2,pa3,pc1,pc2,pc3⟩:=p
 simp only[Value.slice.injEq] at ev
 obtain⟨rfl,_,rfl⟩:=ev
 have v0:w6.cell? ⟨gv,0,none⟩=some (.int .i64 1):=o6.vs.cells (g:=gv) rfl 0 _ rfl
 have v1:w6.cell? ⟨gv,1,none⟩=some (.int .i64 2):=by
  have:=o6.vs.cells (g:=gv) rfl 1 (.int .i64 2) rfl
  rw[addr0] at this
  exact this
 have hgv6:gv<w6.heap.size:=(o6.vs.lt gv rfl).2
 have hvF:¬ F6 gv:=q6 gv (.inl rfl)
 have hwF:¬ F6 w6.heap.size:=fun q=>by have:=P.lt x6 _ q;omega
 have X6:=hide x6
 have R7:Hid (Row (w6.alloc (.cells #[.int .i64 1,.int .i64 xre,.slice (some ⟨gv,0,none⟩) 2 pc1,.slice pa2 xco.length pc2,.slice pa3 xcl.length pc3] 31)) w6.heap.size 31 [.int .i64 1,.int .i64 xre,.slice (some ⟨gv,0,none⟩) 2 pc1,.slice pa2 xco.length pc2,.slice pa3 xcl.length pc3]):=heap_alloc_new w6 _
 have B7:=hide (al_below w6 (.cells #[.int .i64 1,.int .i64 xre,.slice (some ⟨gv,0,none⟩) 2 pc1,.slice pa2 xco.length pc2,.slice pa3 xcl.length pc3] 31))
 have V7:Hid ((w6.alloc (.cells #[.int .i64 1,.int .i64 xre,.slice (some ⟨gv,0,none⟩) 2 pc1,.slice pa2 xco.length pc2,.slice pa3 xcl.length pc3] 31)).cell? ⟨gv,0,none⟩=some (.int .i64 1)∧(w6.alloc (.cells #[.int .i64 1,.int .i64 xre,.slice (some ⟨gv,0,none⟩) 2 pc1,.slice pa2 xco.length pc2,.slice pa3 xcl.length pc3] 31)).cell? ⟨gv,1,none⟩=some (.int .i64 2)):=⟨(B7.out.cell (p:=⟨gv,0,none⟩) hgv6).trans v0,(B7.out.cell (p:=⟨gv,1,none⟩) hgv6).trans v1⟩
 have HA3':=hide (HA3.out (P.below X6.out B7.out))
 have hs7:(w6.alloc (.cells #[.int .i64 1,.int .i64 xre,.slice (some ⟨gv,0,none⟩) 2 pc1,.slice pa2 xco.length pc2,.slice pa3 xcl.length pc3] 31)).heap.size=w6.heap.size+1:=by simp
 rw[hs7] at HA3'
 have HS7:=hide hs7
 clear hs7
 clear x6 k6 n6 q6 o6 v0 v1 X5 HQ1 HA3
 go_wp2_with fail
 refine(unhide HA3').mono ?_
 generalize w6.alloc (.cells #[.int .i64 1,.int .i64 xre,.slice (some ⟨gv,0,none⟩) 2 pc1,.slice pa2 xco.length pc2,.slice pa3 xcl.length pc3] 31)=w7 at *
 rintro e w8 ⟨⟨er3,rfl⟩,F8,x8,k8,n8⟩
 have hz7:w6.heap.size<w7.heap.size:=R7.out.lt
 have R8:Hid (Row w8 w6.heap.size 31 [.int .i64 1,.int .i64 xre,.slice (some ⟨gv,0,none⟩) 2 pc1,.slice pa2 xco.length pc2,.slice pa3 xcl.length pc3]):=(k8.block _ hz7 hwF).trans R7.out
 have V8:Hid (w8.cell? ⟨gv,0,none⟩=some (.int .i64 1)∧w8.cell? ⟨gv,1,none⟩=some (.int .i64 2)):=⟨(World.cell?_of_block (k8.block gv (by omega) hvF)).trans V7.out.1,(World.cell?_of_block (k8.block gv (by omega) hvF)).trans V7.out.2⟩
 have B7':Hid (Below w.heap.size w w7):=B6.out.trans (B7.out.mono hz6)
 have B8:Hid (Below w.heap.size w w8):=chn_below B7'.out k8 (by omega) N6.out
 have N8:Hid (∀ q,F8 q→w.heap.size≤q):=fun q hq=>(n8 q hq).elim (N6.out q) fun z=>by omega
 have hz8:w7.heap.size≤w8.heap.size:=k8.size
 have hvF8:¬ F8 gv:=fun q=>(n8 _ q).elim hvF fun z=>by omega
 have hwF8:¬ F8 w6.heap.size:=fun q=>(n8 _ q).elim hwF fun z=>by omega
 have X8:=hide x8
 have HQ2:=hide (HS2.out X8.out (Tab.below TB.out B8.out h0) (by omega) (fun q=>by have:=N8.out 0 q;omega))
 clear x8 k8 n8 HA3' X6 R7 V7 B7
 go_wp2_with fail
 refine(unhide HQ2).mono ?_
 rintro e w9 ⟨p,rfl,o9,F9,x9,k9,n9,q9⟩
 have R9:Row w9 w6.heap.size 31 [.int .i64 1,.int .i64 xre,.slice (some ⟨gv,0,none⟩) 2 pc1,.slice pa2 xco.length pc2,.slice pa3 xcl.length pc3]:=(k9.block _ (by omega) hwF8).trans R8.out
 have V9:w9.cell? ⟨gv,0,none⟩=some (.int .i64 1)∧w9.cell? ⟨gv,1,none⟩=some (.int .i64 2):=⟨(World.cell?_of_block (k9.block gv (by omega) hvF8)).trans V8.out.1,(World.cell?_of_block (k9.block gv (by omega) hvF8)).trans V8.out.2⟩
 have B9:Hid (Below w.heap.size w w9):=chn_below B8.out k9 (by omega) N8.out
 have hz9:w8.heap.size≤w9.heap.size:=k9.size
 have c0:∀ o,(w9.alloc o).cell? ⟨w6.heap.size,0,none⟩=some (.int .i64 1):=fun o=>((al_below w9 o).cell (p:=⟨w6.heap.size,0,none⟩) (by show w6.heap.size<w9.heap.size;omega)).trans ((R9.cell 0).trans rfl)
 have c2:∀ o,(w9.alloc o).cell? ⟨w6.heap.size,2,none⟩=some (.slice (some ⟨gv,0,none⟩) 2 pc1):=fun o=>((al_below w9 o).cell (p:=⟨w6.heap.size,2,none⟩) (by show w6.heap.size<w9.heap.size;omega)).trans ((R9.cell 2).trans rfl)
 have e0:∀ o,(w9.alloc o).cell? ⟨gv,0,none⟩=some (.int .i64 1):=fun o=>((al_below w9 o).cell (p:=⟨gv,0,none⟩) (by show gv<w9.heap.size;omega)).trans V9.1
 have e1:∀ o,(w9.alloc o).cell? ⟨gv,1,none⟩=some (.int .i64 2):=fun o=>((al_below w9 o).cell (p:=⟨gv,1,none⟩) (by show gv<w9.heap.size;omega)).trans V9.2
 clear R9 V9 x9 k9 n9 q9 o9 HQ2 X8 R8 V8
 go_wp2
 go_ret
 exact⟨rfl,B9.out.alloc B9.out.size _⟩
theorem seenN_mask(cs:List Nat):SubN (seenN cs) 349525:=by
 have key:∀ (cs:List Nat) (a:Nat),SubN a 349525→SubN (cs.foldl (fun a c=>a|||varsN c) a) 349525:=by
  intro cs
  induction cs with
  | nil=>intro a h;exact h
  | cons c cs ih=>intro a h;exact ih _ (sub_or h (vars_mask c))
 exact key cs 0 fun i q=>by rw[Nat.zero_testBit] at q;simp at q
theorem TkOk.roomy{P:Prg}{s:P.S}{tk:List (List Int)}(t:TkOk P 0 1048576 1048576 s tk):Roomy (P.vw s):=by
 rw[t.v]
 exact⟨rfl,rfl,rfl,seenN_mask _,Nat.zero_le _⟩
def tkS(P:Prg)(cls:List (List Int)):P.S × List (List Int):=begL P (P.new 0 1048576 1048576) (begC cls)
theorem tkS_ok(P:Prg)(cls:List (List Int)):TkOk P 0 1048576 1048576 (tkS P cls).1 (tkS P cls).2:=begL_ok (newTk P 0 1048576 1048576 (by decide)) _
theorem tkS_len(P:Prg)(cls:List (List Int)):(tkS P cls).2.length≤40:=by
 have:=(begL_len P (P.new 0 1048576 1048576) (begC cls)).1
 have e:(begC cls).length≤40:=by simp[begC];omega
 exact Nat.le_trans this e
theorem TkOk.len{P:Prg}{r h l:Int}{s:P.S}{tk:List (List Int)}(t:TkOk P r h l s tk)(hl:tk.length≤40):(P.vw s).hv.length≤1000:=by
 rw[t.v]
 show(hvOf tk).length≤1000
 have:=hvOf_len tk
 omega
theorem solve_own(P:Prg){w:World}{g:Nat}{s:P.S}{F:Nat→Prop}(h:P.At w g s F)(ok:P.Ok s)(hn:(P.vw s).hv.length≤1000)(ht:Tab w)(h0:0<w.heap.size)(hF:¬ F 0){b0:Nat}{a:Option Addr}{c:Nat}{xs:List Int}(ho:w.ownsRow b0 3 1 (.slice a xs.length c) xs.length (i64s xs))(hd:∀ q,F q→(Value.slice a xs.length c).ownBlock≠some q)(hx:xs.length≤1000)(b:Int) :
  Calls Tryd.prog 13 #[.pointer (some ⟨g,0,none⟩),.slice a xs.length c,.int .i64 b] w fun e w'=>∃ p:A3,e=.returned (.tuple #[.agg #[.int .i64 (P.ans s xs b).st,.int .i64 (P.ans s xs b).re,.slice p.a1 (P.ans s xs b).vs.length p.c1,.slice p.a2 (P.ans s xs b).co.length p.c2,.slice p.a3 (P.ans s xs b).cl.length p.c3],.int .i64 (askedD xs b)]) ∧
   AnsOwn w' w.heap.size (P.ans s xs b) p∧∃ F',P.At w' g (P.slv s xs b) F'∧Chn F w w'∧(∀ q,F' q→F q∨w.heap.size≤q)∧∀ k,p.At k→¬ F' k:=by
 refine(P.slvC a c xs b h ok ht h0 hF (own_intsAt ho) (fun ad e=>?_) (by omega) (by omega)).mono ?_
 ·subst e
  exact⟨fun q=>hd _ q rfl,(ho.lt ad.block rfl).2⟩
 ·rintro e w' ⟨p,he,ha,_,F',x,c,n,q⟩
  exact⟨p,he,ha,F',x,c,n,q⟩
end Go.Proofs.YthboeppmlhbofabDoor
