import Derived.Test.YthboeppmlhbofaaDoorOpp
import Derived.Test.YthboeppmlhbofaaDoorSps
import Derived.Laws.Rows
import Derived.Deep.AppendLies
namespace Go.Proofs.YthboeppmlhbofaaDoor
open Go.RowKit Txt
set_option maxRecDepth 100000
abbrev Pr:=Nat × Nat
def Cr(w:World)(a:Option Addr)(ss:List Pr):Prop :=
 ss=[]∨∃ b off,a=some ⟨b,off,none⟩∧∀ j,j<ss.length→w.cell? ⟨b,off+j*2,none⟩=some (.int .i64 ((ss.getD j (0,0)).1:Nat))∧w.cell? ⟨b,off+j*2+1,none⟩=some (.int .i64 ((ss.getD j (0,0)).2:Nat))
theorem Cr.get{w:World}{a:Option Addr}{ss:List Pr}(h:Cr w a ss)(hp:0<ss.length) :
  ∃ b off,a=some ⟨b,off,none⟩∧∀ j,j<ss.length→w.cell? ⟨b,off+j*2,none⟩=some (.int .i64 ((ss.getD j (0,0)).1:Nat))∧w.cell? ⟨b,off+j*2+1,none⟩=some (.int .i64 ((ss.getD j (0,0)).2:Nat)):=by
 rcases h with rfl | h
 ·simp at hp
 ·exact h
theorem Cr.below{w w':World}{a:Option Addr}{ss:List Pr}(h:Cr w a ss)(hb:Below w.heap.size w w'):Cr w' a ss:=by
 rcases h with rfl | ⟨b,off,rfl,h⟩
 ·exact .inl rfl
 ·refine .inr ⟨b,off,rfl,fun j hj=>?_⟩
  obtain⟨h1,h2⟩:=h j hj
  exact⟨(hb.cell (p:=⟨b,off+j*2,none⟩) (World.block_lt_of_cell? w _ h1)).trans h1,(hb.cell (p:=⟨b,off+j*2+1,none⟩) (World.block_lt_of_cell? w _ h2)).trans h2⟩
def Am(p:Pr):Nat:=CU p.1+CU p.2
def Af(ss:List Pr):Nat:=(ss.map Am).sum
theorem Oc(ss:List Pr)(k:Nat)(h:k<ss.length):Af (ss.take (k+1))=Af (ss.take k)+Am (ss.getD k (0,0)):=by
 rw[List.take_succ_eq_append_getElem h,List.getD_eq_getElem?_getD,List.getElem?_eq_getElem h]
 simp only[Af,List.map_append,List.sum_append,List.map_cons,List.map_nil,List.sum_cons,List.sum_nil,Nat.add_zero,Option.getD_some]
theorem Dh(p:Pr):Am p≤20:=by
 have h1:=Fl p.1
 have h2:=Fl p.2
 unfold Am
 omega
theorem Eu(ss:List Pr):Af ss≤20*ss.length:=by
 induction ss with
 | nil=>exact Nat.le_refl _
 | cons p ss ih =>
  have:=Dh p
  simp only[Af,List.map_cons,List.sum_cons,List.length_cons] at *
  omega
set_option maxHeartbeats 2000000 in
theorem EE(a:Option Addr)(c:Nat)(ss:List Pr)(w:World)(h:Cr w a ss)(hl:ss.length≤1000000)(hs:Hid (∀ p∈ss,p.1<2^11∧p.2<2^11)) :
  Calls Tryd.prog 37 #[.slice a ss.length c] w fun e w'=>e=.returned (.int .i64 (Af ss:Nat))∧Below w.heap.size w w':=by
 have H:=AA h
 clear h
 go_enter Tryd.func37,Tryd.ntmps37
 go_wp2
 go_loopw [3,8] (fun n i wr=>∃ k:Nat,k≤ss.length∧i=.int .i64 k∧n=.int .i64 (Af (ss.take k):Nat)∧Hid (Below w.heap.size w wr)) (fun _ i _=>ss.length - (intOf i).toNat)
 case atStart=>exact⟨0,Nat.zero_le _,rfl,by simp[Af],Below.refl _ _⟩
 case round =>
  obtain⟨k,hk,rfl,rfl,HB⟩:=hrel
  have ht:=Eu (ss.take k)
  rw[List.length_take] at ht
  by_cases hlt:k<ss.length
  ·obtain⟨b,off,rfl,hc⟩:=(H.out.below HB.out).get (by omega)
   obtain⟨c0,c1⟩:=hc k hlt
   have HT:Hid (Af (ss.take (k+1))=Af (ss.take k)+Am (ss.getD k (0,0))):=Oc ss k hlt
   obtain⟨l1,l2⟩:=hs.out (ss.getD k (0,0)) (by rw[List.getD_eq_getElem?_getD,List.getElem?_eq_getElem hlt];exact List.getElem_mem hlt)
   have hps:=Dh (ss.getD k (0,0))
   have hsz:w.heap.size≤wr.heap.size:=HB.out.size
   generalize ss.getD k (0,0)=p at *
   obtain⟨t,f⟩:=p
   have HZ:Hid (∀ w,Calls Tryd.prog 47 #[.agg #[.int .i64 t,.int .i64 f]] w fun e w'=>e=.returned (.int .i64 (Am (t,f):Nat))∧Below w.heap.size w w'):=fun w=>Df t f l1 l2 w
   generalize Am (t,f)=z at *
   generalize hm:Af (ss.take k)=m at *
   clear hc l1 l2
   go_wp2_with fail
   refine(AE HZ _).mono ?_
   rintro e w2 ⟨rfl,hb2⟩
   have HB2:Hid (Below w.heap.size w w2):=(HB.out.alloc hsz _).trans (hb2.mono (by simp;omega))
   clear hb2 c0 c1 hm
   go_wp2
   go_roundw
   case rel=>exact⟨k+1,by omega,by go_num,by rw[HT.out];go_num,HB2⟩
   case measure=>simp[intOf];omega
  ·obtain rfl:k=ss.length:=by omega
   go_wp2
   go_ret
   exact⟨by rw[List.take_length];rfl,HB.out⟩
def CO(xs:List Int):Nat:=if xs.all AK then Aa xs else 0
def CN(xs:List Int):Nat:=if xs.all AK then AZ xs else 0
theorem U1(xs:List Int)(k:Nat)(h:(xs.take k).all AK=true)(hx:k<xs.length)(hl:AK (xs.getD k 0)=true):(xs.take (k+1)).all AK=true:=by
 rw[List.take_succ_eq_append_getElem hx,List.all_append,h]
 rw[List.getD_eq_getElem?_getD,List.getElem?_eq_getElem hx] at hl
 simpa using hl
theorem Vx(xs:List Int)(k:Nat)(hx:k<xs.length)(hl:AK (xs.getD k 0)=false):xs.all AK=false:=by
 rw[List.getD_eq_getElem?_getD,List.getElem?_eq_getElem hx] at hl
 rw[List.all_eq_false]
 exact⟨xs[k],List.getElem_mem hx,by simpa using hl⟩
theorem Sb(xs:List Int)(k:Nat)(hx:k<xs.length):xs.take (k+1)=xs.take k++[xs.getD k 0]:=by
 rw[List.take_succ_eq_append_getElem hx,List.getD_eq_getElem?_getD,List.getElem?_eq_getElem hx]
 rfl
def CL(d:TypeDesc):Bool:=match d with | .struct _=>true | _=>false
theorem Ek:∃ fs,Tryd.prog.underlying 86=some (.struct fs):=by
 have h:(Tryd.prog.underlying 86).map CL=some true:=by kernel_rfl
 cases hu:Tryd.prog.underlying 86 with
 | none=>rw[hu] at h;simp at h
 | some d =>
  rw[hu] at h
  cases d with
  | struct fs=>exact⟨fs,rfl⟩
  | _=>simp[CL] at h
theorem Ej:(Tryd.prog.info? 86).map (·.size)=some 2:=by kernel_rfl
theorem UT{w':World}{tmps:Array Value}{g:Nat}{p q:Value}{b:Bool}(hr:Ab w' g 86 [p,q])(h2:tmps.getD 2 undef=.pointer (some ⟨g,0,none⟩))(h3:tmps.getD 3 undef=.bool b) :
  (results Tryd.f45 tmps).run Tryd.prog w'=.ok (.tuple #[.agg #[p,q],.bool b]) w':=by
 obtain⟨fs,hu⟩:=Ek
 rw[results_cell_tmp rfl,h2,h3]
 simp[asAddr,Result.andThen,run_loadVar_row (P:=Tryd.prog) w' g 86 86 #[p,q] (0,0) (.struct fs) hr hu rfl Ej]
def ER(v:Int):Nat:=if 1≤v∧v≤10 then 2^v.toNat else 0
set_option maxHeartbeats 1000000 in
theorem Fu(v:Int)(w:World):Calls Tryd.prog 58 #[.int .i64 v] w fun e w'=>e=.returned (.int .i64 (ER v:Nat))∧w'=w:=by
 by_cases h:1≤v∧v≤10
 ·obtain⟨n,rfl⟩:∃ n:Nat,v=n:=⟨v.toNat,by omega⟩
  rw[ER,if_pos h,Int.toNat_natCast]
  exact Kb n (by omega) (by omega) w
 ·rw[ER,if_neg h]
  by_cases h1:v<1
  ·clear h
   go_enter Tryd.func58,Tryd.ntmps58
   go_wp2
   go_ret
   exact⟨rfl,rfl⟩
  ·have h2:v > 10:=by omega
   clear h
   go_enter Tryd.func58,Tryd.ntmps58
   go_wp2
   go_ret
   exact⟨rfl,rfl⟩
theorem HY(v:Int):ER v<2^11:=by
 unfold ER
 split
 ·exact Nat.pow_lt_pow_right (by decide) (by omega)
 ·decide
theorem Ib{x:Int}(h:AK x=true):ER x=Cq x:=by
 simp only[AK,Bool.and_eq_true,bne_iff_ne,decide_eq_true_eq] at h
 unfold ER Cq
 by_cases hp:0<x
 ·rw[if_pos hp,if_pos (by omega)]
 ·rw[if_neg hp,if_neg (by omega)]
theorem Ia{x:Int}(h:AK x=true):ER (-x)=Cp x:=by
 simp only[AK,Bool.and_eq_true,bne_iff_ne,decide_eq_true_eq] at h
 unfold ER Cp
 by_cases hp:0<x
 ·rw[if_pos hp,if_neg (by omega)]
 ·rw[if_neg hp,if_pos (by omega)]
theorem VG{w':World}{tmps:Array Value}{g:Nat}{p q:Value}(hr:Ab w' g 86 [p,q])(h2:tmps.getD 4 undef=.pointer (some ⟨g,0,none⟩)) :
  (results Tryd.f67 tmps).run Tryd.prog w'=.ok (.agg #[p,q]) w':=by
 obtain⟨fs,hu⟩:=Ek
 exact results_cell_row rfl tmps w' g 86 #[p,q] (0,0) (.struct fs) h2 hr hu rfl Ej
set_option maxHeartbeats 4000000 in
theorem LF(t f:Nat)(x:Int)(ht:t<2^11)(hf:f<2^11)(hx:AK x=true)(w:World) :
  Calls Tryd.prog 67 #[.agg #[.int .i64 t,.int .i64 f],.int .i64 x] w fun e w'=>e=.returned (.agg #[.int .i64 (t|||Cq x:Nat),.int .i64 (f|||Cp x:Nat)])∧Below w.heap.size w w':=by
 have A1:Hid (∀ w,Calls Tryd.prog 58 #[.int .i64 x] w fun e w'=>e=.returned (.int .i64 (Cq x:Nat))∧w'=w):=fun w=>by
  have:=Fu x w
  rwa [Ib hx] at this
 have A2:Hid (∀ w,Calls Tryd.prog 58 #[.int .i64 (-x)] w fun e w'=>e=.returned (.int .i64 (Cp x:Nat))∧w'=w):=fun w=>by
  have:=Fu (-x) w
  rwa [Ia hx] at this
 have l1:Cq x<2^11:=(Ib hx) ▸ HY x
 have l2:Cp x<2^11:=(Ia hx) ▸ HY (-x)
 have o1:=Kn t (Cq x) (by omega) (by omega)
 have o2:=Kn f (Cp x) (by omega) (by omega)
 have hwn:IntKind.i64.wrap (-x)=-x:=by
  simp only[AK,Bool.and_eq_true,bne_iff_ne,decide_eq_true_eq] at hx
  rw[IntKind.wrap_i64];omega
 have r0:Ab ((w.alloc (.cells #[.int .i64 t,.int .i64 f] 86)).alloc (.cells #[.int .i64 0,.int .i64 0] 86)) w.heap.size 86 [.int .i64 t,.int .i64 f]:=(heap_alloc_old (w.alloc _) _ (by simp)).trans (heap_alloc_new w _)
 have r1:Ab ((w.alloc (.cells #[.int .i64 t,.int .i64 f] 86)).alloc (.cells #[.int .i64 0,.int .i64 0] 86)) (w.heap.size+1) 86 [.int .i64 0,.int .i64 0]:=heap_alloc2_new w _ _
 have hb0:Below w.heap.size w ((w.alloc (.cells #[.int .i64 t,.int .i64 f] 86)).alloc (.cells #[.int .i64 0,.int .i64 0] 86)):=((Below.refl _ _).alloc (Nat.le_refl _) _).alloc (by simp) _
 have HP:=AA (And.intro rfl rfl:Cq x=Cq x∧Cp x=Cp x)
 generalize hpb:Cq x=pb at *
 generalize hnb:Cp x=nb at *
 clear hpb hnb HP hx
 go_enter Tryd.func67,Tryd.ntmps67
 go_wp2_with fail
 generalize (w.alloc (.cells #[.int .i64 t,.int .i64 f] 86)).alloc (.cells #[.int .i64 0,.int .i64 0] 86)=w1 at *
 have y0:=r0.cell 0
 have y1:=r0.cell 1
 have g0:=r0.frozen 0
 have g1:=r0.frozen 1
 simp only[List.getElem?_cons_zero,List.getElem?_cons_succ] at y0 y1
 have R0:=AA r0
 have R1:=AA r1
 have HB:=AA hb0
 clear r0 r1 hb0
 go_region_with (go_at_call 58;refine(AE A1 _).mono ?_;rintro e w' ⟨rfl,rfl⟩)
 all_goals
  have HB2:Hid (Below w.heap.size w (w1.setCell ⟨w.heap.size,0,none⟩ (.int .i64 (t|||pb:Nat))).drew):=below_drewN (HB.out.setCell (p:=⟨w.heap.size,0,none⟩) (Nat.le_refl _) _) 1
  have Q0:Hid (Ab (w1.setCell ⟨w.heap.size,0,none⟩ (.int .i64 (t|||pb:Nat))).drew w.heap.size 86 [.int .i64 (t|||pb:Nat),.int .i64 f]):=R0.out.set 0 _
  have Q1:Hid (Ab (w1.setCell ⟨w.heap.size,0,none⟩ (.int .i64 (t|||pb:Nat))).drew (w.heap.size+1) 86 [.int .i64 0,.int .i64 0]):=(Below.heap_setCell w1 ⟨w.heap.size,0,none⟩ (.int .i64 (t|||pb:Nat)) (w.heap.size+1) (Nat.ne_of_gt (Nat.lt_succ_self _))).trans R1.out
  generalize (w1.setCell ⟨w.heap.size,0,none⟩ (.int .i64 (t|||pb:Nat))).drew=w2 at *
  clear HB R0 R1 y0 y1 g0 g1
  have y1:=Q0.out.cell 1
  have g1:=Q0.out.frozen 1
  simp only[List.getElem?_cons_zero,List.getElem?_cons_succ] at y1
  go_wp2_with fail
  go_region_with (go_at_call 58;refine(AE A2 _).mono ?_;rintro e w' ⟨rfl,rfl⟩)
  all_goals
   have HB3:Hid (Below w.heap.size w (w2.setCell ⟨w.heap.size,1,none⟩ (.int .i64 (f|||nb:Nat))).drew):=below_drewN (HB2.out.setCell (p:=⟨w.heap.size,1,none⟩) (Nat.le_refl _) _) 1
   have P0:Hid (Ab (w2.setCell ⟨w.heap.size,1,none⟩ (.int .i64 (f|||nb:Nat))).drew w.heap.size 86 [.int .i64 (t|||pb:Nat),.int .i64 (f|||nb:Nat)]):=Q0.out.set 1 _
   have P1:Hid (Ab (w2.setCell ⟨w.heap.size,1,none⟩ (.int .i64 (f|||nb:Nat))).drew (w.heap.size+1) 86 [.int .i64 0,.int .i64 0]):=(Below.heap_setCell w2 ⟨w.heap.size,1,none⟩ (.int .i64 (f|||nb:Nat)) (w.heap.size+1) (Nat.ne_of_gt (Nat.lt_succ_self _))).trans Q1.out
   generalize (w2.setCell ⟨w.heap.size,1,none⟩ (.int .i64 (f|||nb:Nat))).drew=w3 at *
   clear HB2 Q0 Q1 y1 g1
   have y0:=P0.out.cell 0
   have y1:=P0.out.cell 1
   have z0:=P1.out.cell 0
   have z1:=P1.out.cell 1
   have g0:=P1.out.frozen 0
   have g1:=P1.out.frozen 1
   simp only[List.getElem?_cons_zero,List.getElem?_cons_succ] at y0 y1 z0 z1
   go_wp2
   have R9:Hid (Ab ((w3.setCell ⟨w.heap.size+1,0,none⟩ (.int .i64 (t|||pb:Nat))).setCell ⟨w.heap.size+1,1,none⟩ (.int .i64 (f|||nb:Nat))) (w.heap.size+1) 86 [.int .i64 (t|||pb:Nat),.int .i64 (f|||nb:Nat)]):=(P1.out.set 0 _).set 1 _
   refine bodyPost_ret (v:=.agg #[.int .i64 (t|||pb:Nat),.int .i64 (f|||nb:Nat)]) (VG R9.out rfl) rfl ⟨rfl,?_⟩
   exact(HB3.out.setCell (p:=⟨w.heap.size+1,0,none⟩) (Nat.le_succ _) _).setCell (p:=⟨w.heap.size+1,1,none⟩) (Nat.le_succ _) _
set_option maxHeartbeats 4000000 in
theorem Ea(a:Option Addr)(c:Nat)(xs:List Int)(w:World)(hx:xs.length≤9223372036854775807)(hr:Ad w a xs) :
  Calls Tryd.prog 45 #[.slice a xs.length c] w fun e w'=>e=.returned (.tuple #[.agg #[.int .i64 (CO xs:Nat),.int .i64 (CN xs:Nat)],.bool (xs.all AK)])∧Below w.heap.size w w':=by
 have HR:=AA hr
 have hb0:Below w.heap.size w ((w.alloc (.cells #[.int .i64 0,.int .i64 0] 86)).alloc (.cells #[.int .i64 0,.int .i64 0] 86)):=((Below.refl _ _).alloc (Nat.le_refl _) _).alloc (by simp) _
 have r0:Ab ((w.alloc (.cells #[.int .i64 0,.int .i64 0] 86)).alloc (.cells #[.int .i64 0,.int .i64 0] 86)) w.heap.size 86 [.int .i64 0,.int .i64 0]:=(heap_alloc_old (w.alloc _) _ (by simp)).trans (heap_alloc_new w _)
 have r1:Ab ((w.alloc (.cells #[.int .i64 0,.int .i64 0] 86)).alloc (.cells #[.int .i64 0,.int .i64 0] 86)) (w.heap.size+1) 86 [.int .i64 0,.int .i64 0]:=heap_alloc2_new w _ _
 have HB0:=AA hb0
 have R0:=AA r0
 have R1:=AA r1
 clear hr hb0 r0 r1
 go_enter Tryd.func45,Tryd.ntmps45
 go_wp2
 go_loopw [9] (fun i wr=>∃ k:Nat,k≤xs.length∧i=.int .i64 k∧Hid (Below w.heap.size w wr)∧Hid (Ab wr w.heap.size 86 [.int .i64 0,.int .i64 0])∧Hid (Ab wr (w.heap.size+1) 86 [.int .i64 (Aa (xs.take k):Nat),.int .i64 (AZ (xs.take k):Nat)])∧Hid ((xs.take k).all AK=true)) (fun i _=>xs.length - (intOf i).toNat)
 case atStart=>exact⟨0,Nat.zero_le _,rfl,HB0,R0,R1,rfl⟩
 case round =>
  clear HB0 R0 R1
  obtain⟨k,hk,rfl,HB,R0,R1,HA⟩:=hrel
  have z0:=R0.out.cell 0
  have z1:=R0.out.cell 1
  have f0:=R0.out.frozen 0
  have f1:=R0.out.frozen 1
  have y0:=R1.out.cell 0
  have y1:=R1.out.cell 1
  have g0:=R1.out.frozen 0
  have g1:=R1.out.frozen 1
  simp only[List.getElem?_cons_zero,List.getElem?_cons_succ] at z0 z1 y0 y1
  have hT:=Bf.set _ HA.out
  have ht1:=hT.lt
  have ht2:=hT.lf
  by_cases hlt:k<xs.length
  ·obtain⟨b,off,rfl,hc⟩:=(HR.out.below HB.out).get (by omega)
   have c0:=hc k hlt
   clear hc
   have HL:=AA (U1 xs k HA.out hlt)
   have HN:=AA (Vx xs k hlt)
   have HS:=AA (Sb xs k hlt)
   have hi1:(0:Int)≤(k:Int):=by omega
   have hi2:(k:Int)<(xs.length:Int):=by omega
   generalize xs.getD k 0=x at *
   have HI:Hid (∀ w,Calls Tryd.prog 59 #[.int .i64 x] w fun e w'=>e=.returned (.bool (AK x))∧w'=w):=fun w=>PL x w
   cases hx':AK x with
   | false =>
    have hn:Hid (xs.all AK=false):=HN.out hx'
    rw[hx'] at HI
    go_wp2_with (go_at_call 59;refine(AE HI _).mono ?_;rintro e w' ⟨rfl,hw⟩;obtain rfl:=hw.symm)
    have R9:Hid (Ab ((wr.setCell ⟨w.heap.size,0,none⟩ (.int .i64 0)).setCell ⟨w.heap.size,1,none⟩ (.int .i64 0)) w.heap.size 86 [.int .i64 0,.int .i64 0]):=(R0.out.set 0 _).set 1 _
    refine bodyPost_ret (v:=.tuple #[.agg #[.int .i64 0,.int .i64 0],.bool false]) (UT R9.out rfl rfl) rfl ⟨?_,?_⟩
    ·rw[CO,CN,hn.out];rfl
    ·exact(HB.out.setCell (p:=⟨w.heap.size,0,none⟩) (Nat.le_refl _) _).setCell (p:=⟨w.heap.size,1,none⟩) (Nat.le_refl _) _
   | true =>
    have hla:=HL.out hx'
    have HLA:=AA hla
    clear hla
    rw[hx'] at HI
    have hpb:Hid (Aa (xs.take (k+1))=Aa (xs.take k)|||Cq x):=by show _=_;rw[HS.out,SL]
    have hnb:Hid (AZ (xs.take (k+1))=AZ (xs.take k)|||Cp x):=by show _=_;rw[HS.out,Rz]
    have HW:Hid (∀ w,Calls Tryd.prog 67 #[.agg #[.int .i64 (Aa (xs.take k):Nat),.int .i64 (AZ (xs.take k):Nat)],.int .i64 x] w fun e w'=>e=.returned (.agg #[.int .i64 (Aa (xs.take k)|||Cq x:Nat),.int .i64 (AZ (xs.take k)|||Cp x:Nat)])∧Below w.heap.size w w'):=fun w=>LF _ _ x ht1 ht2 hx' w
    rw[← hpb.out,← hnb.out] at HW
    clear hx' HN HL hpb hnb
    go_wp2_with (go_at_call 59;refine(AE HI _).mono ?_;rintro e w' ⟨rfl,hw⟩;obtain rfl:=hw.symm)
    refine(AE HW _).mono ?_
    rintro e w9 ⟨rfl,hb9⟩
    have HB9:Hid (Below w.heap.size w w9):=HB.out.trans (hb9.mono HB.out.size)
    have Q0:=AA (AB R0.out hb9)
    have Q1:=AA (AB R1.out hb9)
    clear HB R0 R1 hb9 z0 z1 f0 f1 y0 y1 g0 g1 HW
    have y0:=Q1.out.cell 0
    have y1:=Q1.out.cell 1
    have g0:=Q1.out.frozen 0
    have g1:=Q1.out.frozen 1
    simp only[List.getElem?_cons_zero,List.getElem?_cons_succ] at y0 y1
    go_wp2
    go_roundw
    case rel =>
     refine⟨k+1,by omega,by go_num,(HB9.out.setCell (p:=⟨w.heap.size+1,0,none⟩) (Nat.le_succ _) _).setCell (p:=⟨w.heap.size+1,1,none⟩) (Nat.le_succ _) _,?_,(Q1.out.set 0 _).set 1 _,HLA⟩
     exact(Below.heap_setCell _ ⟨w.heap.size+1,1,none⟩ _ w.heap.size (Nat.ne_of_lt (Nat.lt_succ_self _))).trans ((Below.heap_setCell _ ⟨w.heap.size+1,0,none⟩ _ w.heap.size (Nat.ne_of_lt (Nat.lt_succ_self _))).trans Q0.out)
    case measure=>simp[intOf];omega
  ·obtain rfl:k=xs.length:=by omega
   rw[List.take_length] at *
   have hn:Hid (xs.all AK=true):=HA
   go_wp2
   have R9:Hid (Ab ((wr.setCell ⟨w.heap.size,0,none⟩ (.int .i64 (Aa xs:Nat))).setCell ⟨w.heap.size,1,none⟩ (.int .i64 (AZ xs:Nat))) w.heap.size 86 [.int .i64 (Aa xs:Nat),.int .i64 (AZ xs:Nat)]):=(R0.out.set 0 _).set 1 _
   refine bodyPost_ret (v:=.tuple #[.agg #[.int .i64 (Aa xs:Nat),.int .i64 (AZ xs:Nat)],.bool true]) (UT R9.out rfl rfl) rfl ⟨?_,?_⟩
   ·rw[CO,CN,hn.out];rfl
   ·exact(HB.out.setCell (p:=⟨w.heap.size,0,none⟩) (Nat.le_refl _) _).setCell (p:=⟨w.heap.size,1,none⟩) (Nat.le_refl _) _
def DQ(r h l:Int)(ta:Option Addr)(n tc:Nat)(empty seen:Nat):List Value :=
 [.int .i64 r,.int .i64 h,.int .i64 l,.slice ta n tc,.int .i64 empty,.int .i64 seen,.slice none 0 0,.slice none 0 0,.int .i64 0,.int .i64 0]
def Fc(r:Int):Bool:=r == 0 || decide (12≤r) && decide (r≤64)
def Jo(h:Int):Bool:=decide (0≤h) && decide (h≤1048576)
theorem Kw(r h l:Int):BY r h l=(Fc r && Jo h && Jo l):=by
 unfold BY Fc Jo
 simp only[Bool.and_assoc]
set_option maxHeartbeats 1000000 in
theorem MX(r:Int)(w:World):Calls Tryd.prog 43 #[.int .i64 r] w fun e w'=>e=.returned (.bool (Fc r))∧w'=w:=by
 go_enter Tryd.func43,Tryd.ntmps43
 go_wp2
 all_goals
  go_ret
  refine⟨?_,rfl⟩
  show Ending.returned (Value.bool _)=Ending.returned (Value.bool _)
  congr 2
  first
   | rfl
   | (rw[Bool.eq_iff_iff];simp[Fc];omega)
   | (rw[Bool.eq_iff_iff];simp[Fc] <;> omega)
   | (simp_all[Fc])
set_option maxHeartbeats 1000000 in
theorem PK(h:Int)(w:World):Calls Tryd.prog 44 #[.int .i64 h] w fun e w'=>e=.returned (.bool (Jo h))∧w'=w:=by
 go_enter Tryd.func44,Tryd.ntmps44
 go_wp2
 all_goals
  go_ret
  refine⟨?_,rfl⟩
  show Ending.returned (Value.bool _)=Ending.returned (Value.bool _)
  congr 2
  rw[Bool.eq_iff_iff]
  simp only[Jo,Bool.and_eq_true,decide_eq_true_eq,Bool.false_eq_true,false_iff]
  omega
def VS(r h l:Int)(w:World)(e:Ending)(w':World):Prop :=
 Below w.heap.size w w'∧if BY r h l then ∃ g,w.heap.size≤g∧e=.returned (.tuple #[.pointer (some ⟨g,0,none⟩),.int .i64 0])∧Ab w' g 67 (DQ r h l none 0 0 0 0) else e=.returned (.tuple #[.pointer none,.int .i64 1])
set_option maxHeartbeats 2000000 in
theorem Vv(r h l:Int)(w:World):Calls Tryd.prog 24 #[.agg #[.int .i64 r,.int .i64 h,.int .i64 l]] w fun e w'=>VS r h l w e w':=by
 have A1:Hid (∀ w,Calls Tryd.prog 43 #[.int .i64 r] w fun e w'=>e=.returned (.bool (Fc r))∧w'=w):=fun w=>MX r w
 have A2:Hid (∀ n w,Calls Tryd.prog 44 #[.int .i64 n] w fun e w'=>e=.returned (.bool (Jo n))∧w'=w):=fun n w=>PK n w
 have HS:=AA (Kw r h l)
 have HB:Hid (∀ x,Below w.heap.size w (w.alloc x)):=fun x=>(Below.refl _ _).alloc (Nat.le_refl _) x
 have HB2:Hid (∀ x y,Below w.heap.size w ((w.alloc x).alloc y)):=fun x y=>((Below.refl _ _).alloc (Nat.le_refl _) x).alloc (by simp) y
 cases h1:Fc r with
 | false =>
  have hz:Hid (BY r h l=false):=by show _=_;rw[HS.out,h1];rfl
  rw[h1] at A1
  go_enter Tryd.func24,Tryd.ntmps24
  go_wp2_with (go_at_call 43;refine(AE A1 _).mono ?_;rintro e w' ⟨rfl,hw⟩;obtain rfl:=hw.symm)
  go_ret2
  exact⟨HB.out _,by rw[hz.out];rfl⟩
 | true =>
  rw[h1] at A1
  cases h2:Jo h with
  | false =>
   have hz:Hid (BY r h l=false):=by show _=_;rw[HS.out,h1,h2];rfl
   go_enter Tryd.func24,Tryd.ntmps24
   go_wp2_with (first
    | (go_at_call 43;refine(AE A1 _).mono ?_;rintro e w' ⟨rfl,hw⟩;obtain rfl:=hw.symm)
    | (go_at_call 44;refine(AE A2 _ _).mono ?_;rintro e w' ⟨rfl,hw⟩;obtain rfl:=hw.symm))
   go_ret2
   exact⟨HB.out _,by rw[hz.out];rfl⟩
  | true =>
   cases h3:Jo l with
   | false =>
    have hz:Hid (BY r h l=false):=by show _=_;rw[HS.out,h1,h2,h3];rfl
    go_enter Tryd.func24,Tryd.ntmps24
    go_wp2_with (first
     | (go_at_call 43;refine(AE A1 _).mono ?_;rintro e w' ⟨rfl,hw⟩;obtain rfl:=hw.symm)
     | (go_at_call 44;refine(AE A2 _ _).mono ?_;rintro e w' ⟨rfl,hw⟩;obtain rfl:=hw.symm))
    go_ret2
    exact⟨HB.out _,by rw[hz.out];rfl⟩
   | true =>
    have hz:Hid (BY r h l=true):=by show _=_;rw[HS.out,h1,h2,h3];rfl
    go_enter Tryd.func24,Tryd.ntmps24
    go_wp2_with (first
     | (go_at_call 43;refine(AE A1 _).mono ?_;rintro e w' ⟨rfl,hw⟩;obtain rfl:=hw.symm)
     | (go_at_call 44;refine(AE A2 _ _).mono ?_;rintro e w' ⟨rfl,hw⟩;obtain rfl:=hw.symm))
    go_ret2
    refine⟨HB2.out _ _,?_⟩
    rw[hz.out]
    exact⟨w.heap.size+1,Nat.le_succ _,rfl,heap_alloc2_new w _ _⟩
theorem GN(w:World)(g:Option Nat):w.grownBy w g:=⟨rfl,rfl,rfl,Nat.le_refl _,fun _ _ _=>rfl⟩
theorem He{w w':World}{g i:Nat}{v:Value}(h:w.grownBy w' (some g)):w.grownBy (w'.setCell ⟨g,i,none⟩ v) (some g) :=
 ⟨h.os,h.tape,h.output,by simpa [World.setCell] using h.size,fun k hk hn=>(Below.heap_setCell w' ⟨g,i,none⟩ v k (fun e=>hn (by rw[e]))).trans (h.block k hk hn)⟩
structure St where
 list:List Int
 clauses:List (List Int)
 texts:List ByteArray
 outs:List (List Int)
 want:List (List Int)
 mark:Int
structure WV where
 al:Option Addr
 ac:Option Addr
 at_:Option Addr
 ax:Option Addr
 ao:Option Addr
 aw:Option Addr
 cl:Nat
 cc:Nat
 ct:Nat
 cx:Nat
 co:Nat
 cw:Nat
 nx:Nat
 vcs:List Value
 vos:List Value
 vws:List Value
 vxs:List Value
def WV.vl(V:WV)(s:St):Value:=.slice V.al s.list.length V.cl
def WV.vc(V:WV)(s:St):Value:=.slice V.ac s.clauses.length V.cc
def WV.vt(V:WV)(s:St):Value:=.slice V.at_ s.texts.length V.ct
def WV.vx(V:WV):Value:=.slice V.ax V.nx V.cx
def WV.vo(V:WV)(s:St):Value:=.slice V.ao s.outs.length V.co
def WV.vw(V:WV)(s:St):Value:=.slice V.aw s.want.length V.cw
def WV.cells(V:WV)(s:St):List Value:=[V.vl s,V.vc s,V.vt s,V.vx,V.vo s,V.vw s,.int .i64 s.mark]
def Zg(ts:List ByteArray):List Value:=ts.map Value.string
theorem Ze:(3:Nat)≠9:=by decide
theorem ZK:(3:Nat)≠26:=by decide
theorem Zf:(26:Nat)≠9:=by decide
theorem Vb{w:World}{b e s:Nat}{u v v':Value}{n:Nat}{xs:List Value}(h:w.ownsRow b e s u n xs)(ha:Bp v u){k:Nat}(hk:w.heap.size≤k)(hv:v'.ownBlock=v.ownBlock∨v'.ownBlock=some k):Bp v' u:=(Ja h ha.symm hk hv).symm
end Go.Proofs.YthboeppmlhbofaaDoor
