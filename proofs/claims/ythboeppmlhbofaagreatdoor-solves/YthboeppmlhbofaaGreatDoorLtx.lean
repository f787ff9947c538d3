import Derived.Test.YthboeppmlhbofaaGreatDoorOpp
import Derived.Test.YthboeppmlhbofaaGreatDoorSps
import Derived.Laws.Rows
import Derived.Deep.AppendLies
namespace Go.Proofs.YthboeppmlhbofaaGreatDoor
open Go.RowKit Txt
set_option maxRecDepth 100000
abbrev Pr:=Nat × Nat
def Dy(w:World)(a:Option Addr)(ss:List Pr):Prop :=
 ss=[]∨∃ b off,a=some ⟨b,off,none⟩∧∀ j,j<ss.length→w.cell? ⟨b,off+j*2,none⟩=some (.int .i64 ((ss.getD j (0,0)).1:Nat))∧w.cell? ⟨b,off+j*2+1,none⟩=some (.int .i64 ((ss.getD j (0,0)).2:Nat))
theorem Dy.get{w:World}{a:Option Addr}{ss:List Pr}(h:Dy w a ss)(hp:0<ss.length) :
  ∃ b off,a=some ⟨b,off,none⟩∧∀ j,j<ss.length→w.cell? ⟨b,off+j*2,none⟩=some (.int .i64 ((ss.getD j (0,0)).1:Nat))∧w.cell? ⟨b,off+j*2+1,none⟩=some (.int .i64 ((ss.getD j (0,0)).2:Nat)):=by
 rcases h with rfl | h
 ·simp at hp
 ·exact h
theorem Dy.below{w w':World}{a:Option Addr}{ss:List Pr}(h:Dy w a ss)(hb:Below w.heap.size w w'):Dy w' a ss:=by
 rcases h with rfl | ⟨b,off,rfl,h⟩
 ·exact .inl rfl
 ·refine .inr ⟨b,off,rfl,fun j hj=>?_⟩
  obtain⟨h1,h2⟩:=h j hj
  exact⟨(hb.cell (p:=⟨b,off+j*2,none⟩) (World.block_lt_of_cell? w _ h1)).trans h1,(hb.cell (p:=⟨b,off+j*2+1,none⟩) (World.block_lt_of_cell? w _ h2)).trans h2⟩
def A7(p:Pr):Nat:=Da p.1+Da p.2
def As(ss:List Pr):Nat:=(ss.map A7).sum
theorem SY(ss:List Pr)(k:Nat)(h:k<ss.length):As (ss.take (k+1))=As (ss.take k)+A7 (ss.getD k (0,0)):=by
 rw[List.take_succ_eq_append_getElem h,List.getD_eq_getElem?_getD,List.getElem?_eq_getElem h]
 simp only[As,List.map_append,List.sum_append,List.map_cons,List.map_nil,List.sum_cons,List.sum_nil,Nat.add_zero,Option.getD_some]
theorem Es(p:Pr):A7 p≤20:=by
 have h1:=Hj p.1
 have h2:=Hj p.2
 unfold A7
 omega
theorem GY(ss:List Pr):As ss≤20*ss.length:=by
 induction ss with
 | nil=>exact Nat.le_refl _
 | cons p ss ih =>
  have:=Es p
  simp only[As,List.map_cons,List.sum_cons,List.length_cons] at *
  omega
set_option maxHeartbeats 2000000 in
theorem Fc(a:Option Addr)(c:Nat)(ss:List Pr)(w:World)(h:Dy w a ss)(hl:ss.length≤1000000)(hs:Hid (∀ p∈ss,p.1<2^11∧p.2<2^11)) :
  Calls Tryz.prog 62 #[.slice a ss.length c] w fun e w'=>e=.returned (.int .i64 (As ss:Nat))∧Below w.heap.size w w':=by
 have H:=AB h
 clear h
 go_enter Tryz.func62,Tryz.ntmps62
 go_wp2
 go_loopw [3,8] (fun n i wr=>∃ k:Nat,k≤ss.length∧i=.int .i64 k∧n=.int .i64 (As (ss.take k):Nat)∧Hid (Below w.heap.size w wr)) (fun _ i _=>ss.length - (intOf i).toNat)
 case atStart=>exact⟨0,Nat.zero_le _,rfl,by simp[As],Below.refl _ _⟩
 case round =>
  obtain⟨k,hk,rfl,rfl,HB⟩:=hrel
  have ht:=GY (ss.take k)
  rw[List.length_take] at ht
  by_cases hlt:k<ss.length
  ·obtain⟨b,off,rfl,hc⟩:=(H.out.below HB.out).get (by omega)
   obtain⟨c0,c1⟩:=hc k hlt
   have HT:Hid (As (ss.take (k+1))=As (ss.take k)+A7 (ss.getD k (0,0))):=SY ss k hlt
   obtain⟨l1,l2⟩:=hs.out (ss.getD k (0,0)) (by rw[List.getD_eq_getElem?_getD,List.getElem?_eq_getElem hlt];exact List.getElem_mem hlt)
   have hps:=Es (ss.getD k (0,0))
   have hsz:w.heap.size≤wr.heap.size:=HB.out.size
   generalize ss.getD k (0,0)=p at *
   obtain⟨t,f⟩:=p
   have HZ:Hid (∀ w,Calls Tryz.prog 61 #[.agg #[.int .i64 t,.int .i64 f]] w fun e w'=>e=.returned (.int .i64 (A7 (t,f):Nat))∧Below w.heap.size w w'):=fun w=>Eo t f l1 l2 w
   generalize A7 (t,f)=z at *
   generalize hm:As (ss.take k)=m at *
   clear hc l1 l2
   go_wp2_with fail
   refine(AE HZ _).mono ?_
   rintro e w2 ⟨rfl,hb2⟩
   have HB2:Hid (Below w.heap.size w w2):=(HB.out.alloc hsz _).trans (hb2.mono (by simp;omega))
   clear hb2 c0 c1 hm
   go_wp2
   go_roundw
   case rel=>exact⟨k+1,by omega,by go_num,by rw[HT.out];go_num,HB2⟩
   case measure=>simp[intOf];omega
  ·obtain rfl:k=ss.length:=by omega
   go_wp2
   go_ret
   exact⟨by rw[List.take_length];rfl,HB.out⟩
def Cm(xs:List Int):Nat:=if xs.all AT then Al xs else 0
def Ck(xs:List Int):Nat:=if xs.all AT then Ak xs else 0
theorem Zq(xs:List Int)(k:Nat)(h:(xs.take k).all AT=true)(hx:k<xs.length)(hl:AT (xs.getD k 0)=true):(xs.take (k+1)).all AT=true:=by
 rw[List.take_succ_eq_append_getElem hx,List.all_append,h]
 rw[List.getD_eq_getElem?_getD,List.getElem?_eq_getElem hx] at hl
 simpa using hl
theorem a8(xs:List Int)(k:Nat)(hx:k<xs.length)(hl:AT (xs.getD k 0)=false):xs.all AT=false:=by
 rw[List.getD_eq_getElem?_getD,List.getElem?_eq_getElem hx] at hl
 rw[List.all_eq_false]
 exact⟨xs[k],List.getElem_mem hx,by simpa using hl⟩
theorem W9(xs:List Int)(k:Nat)(hx:k<xs.length):xs.take (k+1)=xs.take k++[xs.getD k 0]:=by
 rw[List.take_succ_eq_append_getElem hx,List.getD_eq_getElem?_getD,List.getElem?_eq_getElem hx]
 rfl
def EY(d:TypeDesc):Bool:=match d with | .struct _=>true | _=>false
theorem GK:∃ fs,Tryz.prog.underlying 101=some (.struct fs):=by
 have h:(Tryz.prog.underlying 101).map EY=some true:=by kernel_rfl
 cases hu:Tryz.prog.underlying 101 with
 | none=>rw[hu] at h;simp at h
 | some d =>
  rw[hu] at h
  cases d with
  | struct fs=>exact⟨fs,rfl⟩
  | _=>simp[EY] at h
theorem GJ:(Tryz.prog.info? 101).map (·.size)=some 2:=by kernel_rfl
theorem Y0{w':World}{tmps:Array Value}{g:Nat}{p q:Value}{b:Bool}(hr:AY w' g 101 [p,q])(h2:tmps.getD 2 undef=.pointer (some ⟨g,0,none⟩))(h3:tmps.getD 3 undef=.bool b) :
  (results Tryz.f59 tmps).run Tryz.prog w'=.ok (.tuple #[.agg #[p,q],.bool b]) w':=by
 obtain⟨fs,hu⟩:=GK
 rw[results_cell_tmp rfl,h2,h3]
 simp[asAddr,Result.andThen,run_loadVar_row (P:=Tryz.prog) w' g 101 101 #[p,q] (0,0) (.struct fs) hr hu rfl GJ]
def Fo(v:Int):Nat:=if 1≤v∧v≤10 then 2^v.toNat else 0
set_option maxHeartbeats 1000000 in
theorem Hs(v:Int)(w:World):Calls Tryz.prog 95 #[.int .i64 v] w fun e w'=>e=.returned (.int .i64 (Fo v:Nat))∧w'=w:=by
 by_cases h:1≤v∧v≤10
 ·obtain⟨n,rfl⟩:∃ n:Nat,v=n:=⟨v.toNat,by omega⟩
  rw[Fo,if_pos h,Int.toNat_natCast]
  exact Mt n (by omega) (by omega) w
 ·rw[Fo,if_neg h]
  by_cases h1:v<1
  ·clear h
   go_enter Tryz.func95,Tryz.ntmps95
   go_wp2
   go_ret
   exact⟨rfl,rfl⟩
  ·have h2:v > 10:=by omega
   clear h
   go_enter Tryz.func95,Tryz.ntmps95
   go_wp2
   go_ret
   exact⟨rfl,rfl⟩
theorem JY(v:Int):Fo v<2^11:=by
 unfold Fo
 split
 ·exact Nat.pow_lt_pow_right (by decide) (by omega)
 ·decide
theorem Kb{x:Int}(h:AT x=true):Fo x=Dx x:=by
 simp only[AT,Bool.and_eq_true,bne_iff_ne,decide_eq_true_eq] at h
 unfold Fo Dx
 by_cases hp:0<x
 ·rw[if_pos hp,if_pos (by omega)]
 ·rw[if_neg hp,if_neg (by omega)]
theorem Ka{x:Int}(h:AT x=true):Fo (-x)=Dw x:=by
 simp only[AT,Bool.and_eq_true,bne_iff_ne,decide_eq_true_eq] at h
 unfold Fo Dw
 by_cases hp:0<x
 ·rw[if_pos hp,if_neg (by omega)]
 ·rw[if_neg hp,if_pos (by omega)]
theorem Z0{w':World}{tmps:Array Value}{g:Nat}{p q:Value}(hr:AY w' g 101 [p,q])(h2:tmps.getD 4 undef=.pointer (some ⟨g,0,none⟩)) :
  (results Tryz.f94 tmps).run Tryz.prog w'=.ok (.agg #[p,q]) w':=by
 obtain⟨fs,hu⟩:=GK
 exact results_cell_row rfl tmps w' g 101 #[p,q] (0,0) (.struct fs) h2 hr hu rfl GJ
set_option maxHeartbeats 4000000 in
theorem Nn(t f:Nat)(x:Int)(ht:t<2^11)(hf:f<2^11)(hx:AT x=true)(w:World) :
  Calls Tryz.prog 94 #[.agg #[.int .i64 t,.int .i64 f],.int .i64 x] w fun e w'=>e=.returned (.agg #[.int .i64 (t|||Dx x:Nat),.int .i64 (f|||Dw x:Nat)])∧Below w.heap.size w w':=by
 have A1:Hid (∀ w,Calls Tryz.prog 95 #[.int .i64 x] w fun e w'=>e=.returned (.int .i64 (Dx x:Nat))∧w'=w):=fun w=>by
  have:=Hs x w
  rwa [Kb hx] at this
 have A2:Hid (∀ w,Calls Tryz.prog 95 #[.int .i64 (-x)] w fun e w'=>e=.returned (.int .i64 (Dw x:Nat))∧w'=w):=fun w=>by
  have:=Hs (-x) w
  rwa [Ka hx] at this
 have l1:Dx x<2^11:=(Kb hx) ▸ JY x
 have l2:Dw x<2^11:=(Ka hx) ▸ JY (-x)
 have o1:=IU t (Dx x) (by omega) (by omega)
 have o2:=IU f (Dw x) (by omega) (by omega)
 have hwn:IntKind.i64.wrap (-x)=-x:=by
  simp only[AT,Bool.and_eq_true,bne_iff_ne,decide_eq_true_eq] at hx
  rw[IntKind.wrap_i64];omega
 have r0:AY ((w.alloc (.cells #[.int .i64 t,.int .i64 f] 101)).alloc (.cells #[.int .i64 0,.int .i64 0] 101)) w.heap.size 101 [.int .i64 t,.int .i64 f]:=(heap_alloc_old (w.alloc _) _ (by simp)).trans (heap_alloc_new w _)
 have r1:AY ((w.alloc (.cells #[.int .i64 t,.int .i64 f] 101)).alloc (.cells #[.int .i64 0,.int .i64 0] 101)) (w.heap.size+1) 101 [.int .i64 0,.int .i64 0]:=heap_alloc2_new w _ _
 have hb0:Below w.heap.size w ((w.alloc (.cells #[.int .i64 t,.int .i64 f] 101)).alloc (.cells #[.int .i64 0,.int .i64 0] 101)):=((Below.refl _ _).alloc (Nat.le_refl _) _).alloc (by simp) _
 have HP:=AB (And.intro rfl rfl:Dx x=Dx x∧Dw x=Dw x)
 generalize hpb:Dx x=pb at *
 generalize hnb:Dw x=nb at *
 clear hpb hnb HP hx
 go_enter Tryz.func94,Tryz.ntmps94
 go_wp2_with fail
 generalize (w.alloc (.cells #[.int .i64 t,.int .i64 f] 101)).alloc (.cells #[.int .i64 0,.int .i64 0] 101)=w1 at *
 have y0:=r0.cell 0
 have y1:=r0.cell 1
 have g0:=r0.frozen 0
 have g1:=r0.frozen 1
 simp only[List.getElem?_cons_zero,List.getElem?_cons_succ] at y0 y1
 have R0:=AB r0
 have R1:=AB r1
 have HB:=AB hb0
 clear r0 r1 hb0
 go_region_with (go_at_call 95;refine(AE A1 _).mono ?_;rintro e w' ⟨rfl,rfl⟩)
 all_goals
  have HB2:Hid (Below w.heap.size w (w1.setCell ⟨w.heap.size,0,none⟩ (.int .i64 (t|||pb:Nat))).drew):=below_drewN (HB.out.setCell (p:=⟨w.heap.size,0,none⟩) (Nat.le_refl _) _) 1
  have Q0:Hid (AY (w1.setCell ⟨w.heap.size,0,none⟩ (.int .i64 (t|||pb:Nat))).drew w.heap.size 101 [.int .i64 (t|||pb:Nat),.int .i64 f]):=R0.out.set 0 _
  have Q1:Hid (AY (w1.setCell ⟨w.heap.size,0,none⟩ (.int .i64 (t|||pb:Nat))).drew (w.heap.size+1) 101 [.int .i64 0,.int .i64 0]):=(Below.heap_setCell w1 ⟨w.heap.size,0,none⟩ (.int .i64 (t|||pb:Nat)) (w.heap.size+1) (Nat.ne_of_gt (Nat.lt_succ_self _))).trans R1.out
  generalize (w1.setCell ⟨w.heap.size,0,none⟩ (.int .i64 (t|||pb:Nat))).drew=w2 at *
  clear HB R0 R1 y0 y1 g0 g1
  have y1:=Q0.out.cell 1
  have g1:=Q0.out.frozen 1
  simp only[List.getElem?_cons_zero,List.getElem?_cons_succ] at y1
  go_wp2_with fail
  go_region_with (go_at_call 95;refine(AE A2 _).mono ?_;rintro e w' ⟨rfl,rfl⟩)
  all_goals
   have HB3:Hid (Below w.heap.size w (w2.setCell ⟨w.heap.size,1,none⟩ (.int .i64 (f|||nb:Nat))).drew):=below_drewN (HB2.out.setCell (p:=⟨w.heap.size,1,none⟩) (Nat.le_refl _) _) 1
   have P0:Hid (AY (w2.setCell ⟨w.heap.size,1,none⟩ (.int .i64 (f|||nb:Nat))).drew w.heap.size 101 [.int .i64 (t|||pb:Nat),.int .i64 (f|||nb:Nat)]):=Q0.out.set 1 _
   have P1:Hid (AY (w2.setCell ⟨w.heap.size,1,none⟩ (.int .i64 (f|||nb:Nat))).drew (w.heap.size+1) 101 [.int .i64 0,.int .i64 0]):=(Below.heap_setCell w2 ⟨w.heap.size,1,none⟩ (.int .i64 (f|||nb:Nat)) (w.heap.size+1) (Nat.ne_of_gt (Nat.lt_succ_self _))).trans Q1.out
   generalize (w2.setCell ⟨w.heap.size,1,none⟩ (.int .i64 (f|||nb:Nat))).drew=w3 at *
   clear HB2 Q0 Q1 y1 g1
   have y0:=P0.out.cell 0
   have y1:=P0.out.cell 1
   have z0:=P1.out.cell 0
   have z1:=P1.out.cell 1
   have g0:=P1.out.frozen 0
   have g1:=P1.out.frozen 1
   simp only[List.getElem?_cons_zero,List.getElem?_cons_succ] at y0 y1 z0 z1
   go_wp2
   have R9:Hid (AY ((w3.setCell ⟨w.heap.size+1,0,none⟩ (.int .i64 (t|||pb:Nat))).setCell ⟨w.heap.size+1,1,none⟩ (.int .i64 (f|||nb:Nat))) (w.heap.size+1) 101 [.int .i64 (t|||pb:Nat),.int .i64 (f|||nb:Nat)]):=(P1.out.set 0 _).set 1 _
   refine bodyPost_ret (v:=.agg #[.int .i64 (t|||pb:Nat),.int .i64 (f|||nb:Nat)]) (Z0 R9.out rfl) rfl ⟨rfl,?_⟩
   exact(HB3.out.setCell (p:=⟨w.heap.size+1,0,none⟩) (Nat.le_succ _) _).setCell (p:=⟨w.heap.size+1,1,none⟩) (Nat.le_succ _) _
set_option maxHeartbeats 4000000 in
theorem Fa(a:Option Addr)(c:Nat)(xs:List Int)(w:World)(hx:xs.length≤9223372036854775807)(hr:AS w a xs) :
  Calls Tryz.prog 59 #[.slice a xs.length c] w fun e w'=>e=.returned (.tuple #[.agg #[.int .i64 (Cm xs:Nat),.int .i64 (Ck xs:Nat)],.bool (xs.all AT)])∧Below w.heap.size w w':=by
 have HR:=AB hr
 have hb0:Below w.heap.size w ((w.alloc (.cells #[.int .i64 0,.int .i64 0] 101)).alloc (.cells #[.int .i64 0,.int .i64 0] 101)):=((Below.refl _ _).alloc (Nat.le_refl _) _).alloc (by simp) _
 have r0:AY ((w.alloc (.cells #[.int .i64 0,.int .i64 0] 101)).alloc (.cells #[.int .i64 0,.int .i64 0] 101)) w.heap.size 101 [.int .i64 0,.int .i64 0]:=(heap_alloc_old (w.alloc _) _ (by simp)).trans (heap_alloc_new w _)
 have r1:AY ((w.alloc (.cells #[.int .i64 0,.int .i64 0] 101)).alloc (.cells #[.int .i64 0,.int .i64 0] 101)) (w.heap.size+1) 101 [.int .i64 0,.int .i64 0]:=heap_alloc2_new w _ _
 have HB0:=AB hb0
 have R0:=AB r0
 have R1:=AB r1
 clear hr hb0 r0 r1
 go_enter Tryz.func59,Tryz.ntmps59
 go_wp2
 go_loopw [9] (fun i wr=>∃ k:Nat,k≤xs.length∧i=.int .i64 k∧Hid (Below w.heap.size w wr)∧Hid (AY wr w.heap.size 101 [.int .i64 0,.int .i64 0])∧Hid (AY wr (w.heap.size+1) 101 [.int .i64 (Al (xs.take k):Nat),.int .i64 (Ak (xs.take k):Nat)])∧Hid ((xs.take k).all AT=true)) (fun i _=>xs.length - (intOf i).toNat)
 case atStart=>exact⟨0,Nat.zero_le _,rfl,HB0,R0,R1,rfl⟩
 case round =>
  clear HB0 R0 R1
  obtain⟨k,hk,rfl,HB,R0,R1,HA⟩:=hrel
  have z0:=R0.out.cell 0
  have z1:=R0.out.cell 1
  have f0:=R0.out.frozen 0
  have f1:=R0.out.frozen 1
  have y0:=R1.out.cell 0
  have y1:=R1.out.cell 1
  have g0:=R1.out.frozen 0
  have g1:=R1.out.frozen 1
  simp only[List.getElem?_cons_zero,List.getElem?_cons_succ] at z0 z1 y0 y1
  have hT:=CT.set _ HA.out
  have ht1:=hT.lt
  have ht2:=hT.lf
  by_cases hlt:k<xs.length
  ·obtain⟨b,off,rfl,hc⟩:=(HR.out.below HB.out).get (by omega)
   have c0:=hc k hlt
   clear hc
   have HL:=AB (Zq xs k HA.out hlt)
   have HN:=AB (a8 xs k hlt)
   have HS:=AB (W9 xs k hlt)
   have hi1:(0:Int)≤(k:Int):=by omega
   have hi2:(k:Int)<(xs.length:Int):=by omega
   generalize xs.getD k 0=x at *
   have HI:Hid (∀ w,Calls Tryz.prog 93 #[.int .i64 x] w fun e w'=>e=.returned (.bool (AT x))∧w'=w):=fun w=>Td x w
   cases hx':AT x with
   | false =>
    have hn:Hid (xs.all AT=false):=HN.out hx'
    rw[hx'] at HI
    go_wp2_with (go_at_call 93;refine(AE HI _).mono ?_;rintro e w' ⟨rfl,hw⟩;obtain rfl:=hw.symm)
    have R9:Hid (AY ((wr.setCell ⟨w.heap.size,0,none⟩ (.int .i64 0)).setCell ⟨w.heap.size,1,none⟩ (.int .i64 0)) w.heap.size 101 [.int .i64 0,.int .i64 0]):=(R0.out.set 0 _).set 1 _
    refine bodyPost_ret (v:=.tuple #[.agg #[.int .i64 0,.int .i64 0],.bool false]) (Y0 R9.out rfl rfl) rfl ⟨?_,?_⟩
    ·rw[Cm,Ck,hn.out];rfl
    ·exact(HB.out.setCell (p:=⟨w.heap.size,0,none⟩) (Nat.le_refl _) _).setCell (p:=⟨w.heap.size,1,none⟩) (Nat.le_refl _) _
   | true =>
    have hla:=HL.out hx'
    have HLA:=AB hla
    clear hla
    rw[hx'] at HI
    have hpb:Hid (Al (xs.take (k+1))=Al (xs.take k)|||Dx x):=by show _=_;rw[HS.out,Wr]
    have hnb:Hid (Ak (xs.take (k+1))=Ak (xs.take k)|||Dw x):=by show _=_;rw[HS.out,Wg]
    have HW:Hid (∀ w,Calls Tryz.prog 94 #[.agg #[.int .i64 (Al (xs.take k):Nat),.int .i64 (Ak (xs.take k):Nat)],.int .i64 x] w fun e w'=>e=.returned (.agg #[.int .i64 (Al (xs.take k)|||Dx x:Nat),.int .i64 (Ak (xs.take k)|||Dw x:Nat)])∧Below w.heap.size w w'):=fun w=>Nn _ _ x ht1 ht2 hx' w
    rw[← hpb.out,← hnb.out] at HW
    clear hx' HN HL hpb hnb
    go_wp2_with (go_at_call 93;refine(AE HI _).mono ?_;rintro e w' ⟨rfl,hw⟩;obtain rfl:=hw.symm)
    refine(AE HW _).mono ?_
    rintro e w9 ⟨rfl,hb9⟩
    have HB9:Hid (Below w.heap.size w w9):=HB.out.trans (hb9.mono HB.out.size)
    have Q0:=AB (AF R0.out hb9)
    have Q1:=AB (AF R1.out hb9)
    clear HB R0 R1 hb9 z0 z1 f0 f1 y0 y1 g0 g1 HW
    have y0:=Q1.out.cell 0
    have y1:=Q1.out.cell 1
    have g0:=Q1.out.frozen 0
    have g1:=Q1.out.frozen 1
    simp only[List.getElem?_cons_zero,List.getElem?_cons_succ] at y0 y1
    go_wp2
    go_roundw
    case rel =>
     refine⟨k+1,by omega,by go_num,(HB9.out.setCell (p:=⟨w.heap.size+1,0,none⟩) (Nat.le_succ _) _).setCell (p:=⟨w.heap.size+1,1,none⟩) (Nat.le_succ _) _,?_,(Q1.out.set 0 _).set 1 _,HLA⟩
     exact(Below.heap_setCell _ ⟨w.heap.size+1,1,none⟩ _ w.heap.size (Nat.ne_of_lt (Nat.lt_succ_self _))).trans ((Below.heap_setCell _ ⟨w.heap.size+1,0,none⟩ _ w.heap.size (Nat.ne_of_lt (Nat.lt_succ_self _))).trans Q0.out)
    case measure=>simp[intOf];omega
  ·obtain rfl:k=xs.length:=by omega
   rw[List.take_length] at *
   have hn:Hid (xs.all AT=true):=HA
   go_wp2
   have R9:Hid (AY ((wr.setCell ⟨w.heap.size,0,none⟩ (.int .i64 (Al xs:Nat))).setCell ⟨w.heap.size,1,none⟩ (.int .i64 (Ak xs:Nat))) w.heap.size 101 [.int .i64 (Al xs:Nat),.int .i64 (Ak xs:Nat)]):=(R0.out.set 0 _).set 1 _
   refine bodyPost_ret (v:=.tuple #[.agg #[.int .i64 (Al xs:Nat),.int .i64 (Ak xs:Nat)],.bool true]) (Y0 R9.out rfl rfl) rfl ⟨?_,?_⟩
   ·rw[Cm,Ck,hn.out];rfl
   ·exact(HB.out.setCell (p:=⟨w.heap.size,0,none⟩) (Nat.le_refl _) _).setCell (p:=⟨w.heap.size,1,none⟩) (Nat.le_refl _) _
def DY(r h l:Int)(ta:Option Addr)(n tc:Nat)(empty seen:Nat):List Value :=
 [.int .i64 r,.int .i64 h,.int .i64 l,.slice ta n tc,.int .i64 empty,.int .i64 seen,.slice none 0 0,.slice none 0 0,.int .i64 0,.int .i64 0]
def Ha(r:Int):Bool:=r == 0 || decide (12≤r) && decide (r≤64)
def L0(h:Int):Bool:=decide (0≤h) && decide (h≤1048576)
theorem NW(r h l:Int):BT r h l=(Ha r && L0 h && L0 l):=by
 unfold BT Ha L0
 simp only[Bool.and_assoc]
set_option maxHeartbeats 1000000 in
theorem PU(r:Int)(w:World):Calls Tryz.prog 83 #[.int .i64 r] w fun e w'=>e=.returned (.bool (Ha r))∧w'=w:=by
 go_enter Tryz.func83,Tryz.ntmps83
 go_wp2
 all_goals
  go_ret
  refine⟨?_,rfl⟩
  show Ending.returned (Value.bool _)=Ending.returned (Value.bool _)
  congr 2
  first
   | rfl
   | (rw[Bool.eq_iff_iff];simp[Ha];omega)
   | (rw[Bool.eq_iff_iff];simp[Ha] <;> omega)
   | (simp_all[Ha])
set_option maxHeartbeats 1000000 in
theorem Tc(h:Int)(w:World):Calls Tryz.prog 84 #[.int .i64 h] w fun e w'=>e=.returned (.bool (L0 h))∧w'=w:=by
 go_enter Tryz.func84,Tryz.ntmps84
 go_wp2
 all_goals
  go_ret
  refine⟨?_,rfl⟩
  show Ending.returned (Value.bool _)=Ending.returned (Value.bool _)
  congr 2
  rw[Bool.eq_iff_iff]
  simp only[L0,Bool.and_eq_true,decide_eq_true_eq,Bool.false_eq_true,false_iff]
  omega
def aG(r h l:Int)(w:World)(e:Ending)(w':World):Prop :=
 Below w.heap.size w w'∧if BT r h l then ∃ g,w.heap.size≤g∧e=.returned (.tuple #[.pointer (some ⟨g,0,none⟩),.int .i64 0])∧AY w' g 107 (DY r h l none 0 0 0 0) else e=.returned (.tuple #[.pointer none,.int .i64 1])
set_option maxHeartbeats 2000000 in
theorem az(r h l:Int)(w:World):Calls Tryz.prog 49 #[.agg #[.int .i64 r,.int .i64 h,.int .i64 l]] w fun e w'=>aG r h l w e w':=by
 have A1:Hid (∀ w,Calls Tryz.prog 83 #[.int .i64 r] w fun e w'=>e=.returned (.bool (Ha r))∧w'=w):=fun w=>PU r w
 have A2:Hid (∀ n w,Calls Tryz.prog 84 #[.int .i64 n] w fun e w'=>e=.returned (.bool (L0 n))∧w'=w):=fun n w=>Tc n w
 have HS:=AB (NW r h l)
 have HB:Hid (∀ x,Below w.heap.size w (w.alloc x)):=fun x=>(Below.refl _ _).alloc (Nat.le_refl _) x
 have HB2:Hid (∀ x y,Below w.heap.size w ((w.alloc x).alloc y)):=fun x y=>((Below.refl _ _).alloc (Nat.le_refl _) x).alloc (by simp) y
 cases h1:Ha r with
 | false =>
  have hz:Hid (BT r h l=false):=by show _=_;rw[HS.out,h1];rfl
  rw[h1] at A1
  go_enter Tryz.func49,Tryz.ntmps49
  go_wp2_with (go_at_call 83;refine(AE A1 _).mono ?_;rintro e w' ⟨rfl,hw⟩;obtain rfl:=hw.symm)
  go_ret2
  exact⟨HB.out _,by rw[hz.out];rfl⟩
 | true =>
  rw[h1] at A1
  cases h2:L0 h with
  | false =>
   have hz:Hid (BT r h l=false):=by show _=_;rw[HS.out,h1,h2];rfl
   go_enter Tryz.func49,Tryz.ntmps49
   go_wp2_with (first
    | (go_at_call 83;refine(AE A1 _).mono ?_;rintro e w' ⟨rfl,hw⟩;obtain rfl:=hw.symm)
    | (go_at_call 84;refine(AE A2 _ _).mono ?_;rintro e w' ⟨rfl,hw⟩;obtain rfl:=hw.symm))
   go_ret2
   exact⟨HB.out _,by rw[hz.out];rfl⟩
  | true =>
   cases h3:L0 l with
   | false =>
    have hz:Hid (BT r h l=false):=by show _=_;rw[HS.out,h1,h2,h3];rfl
    go_enter Tryz.func49,Tryz.ntmps49
    go_wp2_with (first
     | (go_at_call 83;refine(AE A1 _).mono ?_;rintro e w' ⟨rfl,hw⟩;obtain rfl:=hw.symm)
     | (go_at_call 84;refine(AE A2 _ _).mono ?_;rintro e w' ⟨rfl,hw⟩;obtain rfl:=hw.symm))
    go_ret2
    exact⟨HB.out _,by rw[hz.out];rfl⟩
   | true =>
    have hz:Hid (BT r h l=true):=by show _=_;rw[HS.out,h1,h2,h3];rfl
    go_enter Tryz.func49,Tryz.ntmps49
    go_wp2_with (first
     | (go_at_call 83;refine(AE A1 _).mono ?_;rintro e w' ⟨rfl,hw⟩;obtain rfl:=hw.symm)
     | (go_at_call 84;refine(AE A2 _ _).mono ?_;rintro e w' ⟨rfl,hw⟩;obtain rfl:=hw.symm))
    go_ret2
    refine⟨HB2.out _ _,?_⟩
    rw[hz.out]
    exact⟨w.heap.size+1,Nat.le_succ _,rfl,heap_alloc2_new w _ _⟩
theorem Gj(w:World)(g:Option Nat):w.grownBy w g:=⟨rfl,rfl,rfl,Nat.le_refl _,fun _ _ _=>rfl⟩
theorem Ci{w w':World}{g i:Nat}{v:Value}(h:w.grownBy w' (some g)):w.grownBy (w'.setCell ⟨g,i,none⟩ v) (some g) :=
 ⟨h.os,h.tape,h.output,by simpa [World.setCell] using h.size,fun k hk hn=>(Below.heap_setCell w' ⟨g,i,none⟩ v k (fun e=>hn (by rw[e]))).trans (h.block k hk hn)⟩
structure St where
 list:List Int
 clauses:List (List Int)
 texts:List ByteArray
 outs:List (List Int)
 want:List (List Int)
 mark:Int
structure WV where
 al:Option Addr
 ac:Option Addr
 at_:Option Addr
 ax:Option Addr
 ao:Option Addr
 aw:Option Addr
 cl:Nat
 cc:Nat
 ct:Nat
 cx:Nat
 co:Nat
 cw:Nat
 nx:Nat
 vcs:List Value
 vos:List Value
 vws:List Value
 vxs:List Value
def WV.vl(V:WV)(s:St):Value:=.slice V.al s.list.length V.cl
def WV.vc(V:WV)(s:St):Value:=.slice V.ac s.clauses.length V.cc
def WV.vt(V:WV)(s:St):Value:=.slice V.at_ s.texts.length V.ct
def WV.vx(V:WV):Value:=.slice V.ax V.nx V.cx
def WV.vo(V:WV)(s:St):Value:=.slice V.ao s.outs.length V.co
def WV.vw(V:WV)(s:St):Value:=.slice V.aw s.want.length V.cw
def WV.cells(V:WV)(s:St):List Value:=[V.vl s,V.vc s,V.vt s,V.vx,V.vo s,V.vw s,.int .i64 s.mark]
def Ia(ts:List ByteArray):List Value:=ts.map Value.string
structure WI(w:World)(Wb B:Nat)(V:WV)(s:St):Prop where
 blk:AY w Wb 34 (V.cells s)
 base:B≤Wb
 list:w.ownsRow B 3 1 (V.vl s) s.list.length (AO s.list)
 clt:w.ownsRow B 24 1 (V.vc s) s.clauses.length V.vcs
 cle:Aq w B 3 V.vcs s.clauses
 tx:w.ownsRow B 9 1 (V.vt s) s.texts.length (Ia s.texts)
 xs:w.ownsRow B 37 1 V.vx V.nx V.vxs
 ot:w.ownsRow B 24 1 (V.vo s) s.outs.length V.vos
 oe:Aq w B 3 V.vos s.outs
 wt:w.ownsRow B 24 1 (V.vw s) s.want.length V.vws
 we:Aq w B 3 V.vws s.want
 a1:Af (V.vc s) (V.vo s)
 a2:Af (V.vc s) (V.vw s)
 a3:Af (V.vo s) (V.vw s)
 b1:∀ u∈V.vcs,Af u (V.vl s)
 b2:∀ u∈V.vos,Af u (V.vl s)
 b3:∀ u∈V.vws,Af u (V.vl s)
def Sk(w w':World)(B:Nat)(v:Value):Prop:=∀ e u n xs,e≠34→w.ownsRow B e 1 u n xs→Af u v→w'.ownsRow B e 1 u n xs
theorem GS{w w':World}{B:Nat}{v:Value}(o:Obj)(h:Sk (w.alloc o) w' B v):Sk w w' B v:=fun e u n xs he hu ha=>h e u n xs he (hu.alloc o) ha
theorem GU{w w':World}{B:Nat}{v:Value}(h:w.grownBy w' v.ownBlock):Sk w w' B v:=fun _ _ _ _ _ hu ha=>Aj hu h ha
theorem GW{w w1 w2:World}{B:Nat}{v:Value}(h:Sk w w1 B v)(h':Sk w1 w2 B v):Sk w w2 B v:=fun e u n xs he hu ha=>h' e u n xs he (h e u n xs he hu ha) ha
theorem Cl{w:World}{B Wb:Nat}{zs:List Value}(hr:AY w Wb 34 zs)(i:Nat)(x:Value){e:Nat}{u:Value}{n:Nat}{xs:List Value}(he:e≠34)(hu:w.ownsRow B e 1 u n xs):(w.setCell ⟨Wb,i,none⟩ x).ownsRow B e 1 u n xs:=by
 refine⟨hu.1,?_⟩
 rcases hu.2 with hn | ⟨g,cap,cur,hv,h1,hg,r⟩
 ·exact .inl hn
 ·refine .inr ⟨g,cap,cur,hv,h1,?_,r⟩
  have hne:g≠Wb:=by
   intro eq
   subst eq
   have hr':w.heap[g]?=some (.cells zs.toArray 34 (0,0)):=hr
   rw[hr'] at hg
   simp only[Option.some.injEq,Obj.cells.injEq] at hg
   exact he hg.2.1.symm
  rw[Below.heap_setCell _ _ _ _ hne]
  exact hg
theorem Eb{w:World}{B Wb:Nat}{zs:List Value}{v:Value}(hr:AY w Wb 34 zs)(i:Nat)(x:Value):Sk w (w.setCell ⟨Wb,i,none⟩ x) B v:=fun _ _ _ _ he hu _=>Cl hr i x he hu
theorem B8{w w':World}{Wb:Nat}{zs:List Value}{v:Value}{B e n:Nat}{xs:List Value}(hr:AY w Wb 34 zs)(hv:w.ownsRow B e 1 v n xs)(he:e≠34)(h:w.grownBy w' v.ownBlock):AY w' Wb 34 zs:=by
 refine(h.block Wb hr.lt ?_).trans hr
 intro eq
 rcases hv.2 with⟨rfl,_⟩ | ⟨g,cap,cur,rfl,_,hg,_⟩
 ·simp[Value.ownBlock] at eq
 ·simp only[Value.ownBlock,Option.some.injEq] at eq
  subst eq
  have hr':w.heap[Wb]?=some (.cells zs.toArray 34 (0,0)):=hr
  rw[hr'] at hg
  simp only[Option.some.injEq,Obj.cells.injEq] at hg
  exact he hg.2.1.symm
theorem WI.below{w w':World}{Wb B:Nat}{V:WV}{s:St}(h:WI w Wb B V s)(hb:Below w.heap.size w w'):WI w' Wb B V s :=
 ⟨AF h.blk hb,h.base,AK h.list hb,AK h.clt hb,h.cle.map (fun _ _ _ _ hh=>AK hh hb),AK h.tx hb,AK h.xs hb,AK h.ot hb,h.oe.map (fun _ _ _ _ hh=>AK hh hb),
  AK h.wt hb,h.we.map (fun _ _ _ _ hh=>AK hh hb),h.a1,h.a2,h.a3,h.b1,h.b2,h.b3⟩
theorem Bm:(3:Nat)≠34:=by decide
theorem By:(24:Nat)≠34:=by decide
theorem Hc:(9:Nat)≠34:=by decide
theorem LM:(37:Nat)≠34:=by decide
theorem WZ:(3:Nat)≠9:=by decide
theorem Fq:(3:Nat)≠24:=by decide
theorem Wa:(3:Nat)≠37:=by decide
theorem Wc:(24:Nat)≠9:=by decide
theorem Wd:(24:Nat)≠37:=by decide
theorem dW:(9:Nat)≠37:=by decide
theorem WI.setList{w w':World}{Wb B:Nat}{V:WV}{s:St}(h:WI w Wb B V s)(ho:Sk w w' B (V.vl s))(a:Option Addr)(c:Nat)(l:List Int)(hblk:AY w' Wb 34 ((V.cells s).set 0 (.slice a l.length c)))
  (hown:w'.ownsRow B 3 1 (.slice a l.length c) l.length (AO l)) (hap:∀ u,(∃ n xs,w.ownsRow B 3 1 u n xs)→Af u (V.vl s)→Af u (.slice a l.length c)) :
  WI w' Wb B { V with al:=a,cl:=c } { s with list:=l }:=by
 have al1:=fun (u:Value) (hu:u∈V.vcs)=>hap u (let ⟨xs,hx⟩:=h.cle.mem hu;⟨_,_,hx⟩) (h.b1 u hu)
 have al2:=fun (u:Value) (hu:u∈V.vos)=>hap u (let ⟨xs,hx⟩:=h.oe.mem hu;⟨_,_,hx⟩) (h.b2 u hu)
 have al3:=fun (u:Value) (hu:u∈V.vws)=>hap u (let ⟨xs,hx⟩:=h.we.mem hu;⟨_,_,hx⟩) (h.b3 u hu)
 exact⟨hblk,h.base,hown,ho _ _ _ _ By h.clt (AL Fq.symm h.clt h.list),h.cle.map (fun u hu _ _ hh=>ho _ _ _ _ Bm hh (h.b1 u hu)),ho _ _ _ _ Hc h.tx (AL WZ.symm h.tx h.list),
  ho _ _ _ _ LM h.xs (AL Wa.symm h.xs h.list),ho _ _ _ _ By h.ot (AL Fq.symm h.ot h.list),h.oe.map (fun u hu _ _ hh=>ho _ _ _ _ Bm hh (h.b2 u hu)),
  ho _ _ _ _ By h.wt (AL Fq.symm h.wt h.list),h.we.map (fun u hu _ _ hh=>ho _ _ _ _ Bm hh (h.b3 u hu)),h.a1,h.a2,h.a3,al1,al2,al3⟩
theorem WI.setClauses{w w':World}{Wb B:Nat}{V:WV}{s:St}(h:WI w Wb B V s)(ho:Sk w w' B (V.vc s))(a:Option Addr)(c:Nat)(cs:List (List Int))(vs:List Value)(hblk:AY w' Wb 34 ((V.cells s).set 1 (.slice a cs.length c)))
  (hown:w'.ownsRow B 24 1 (.slice a cs.length c) cs.length vs) (heach:Aq w' B 3 vs cs) (hap:∀ u∈vs,Af u (V.vl s)) (h1:Af (.slice a cs.length c) (V.vo s)) (h2:Af (.slice a cs.length c) (V.vw s)) :
  WI w' Wb B { V with ac:=a,cc:=c,vcs:=vs } { s with clauses:=cs } :=
 ⟨hblk,h.base,ho _ _ _ _ Bm h.list (AL Fq h.list h.clt),hown,heach,ho _ _ _ _ Hc h.tx (AL Wc.symm h.tx h.clt),ho _ _ _ _ LM h.xs (AL Wd.symm h.xs h.clt),
  ho _ _ _ _ By h.ot h.a1.symm,h.oe.map (fun _ _ _ _ hh=>ho _ _ _ _ Bm hh (AL Fq hh h.clt)),ho _ _ _ _ By h.wt h.a2.symm,h.we.map (fun _ _ _ _ hh=>ho _ _ _ _ Bm hh (AL Fq hh h.clt)),h1,h2,h.a3,hap,h.b2,h.b3⟩
theorem WI.setTexts{w w':World}{Wb B:Nat}{V:WV}{s:St}(h:WI w Wb B V s)(ho:Sk w w' B (V.vt s))(a:Option Addr)(c:Nat)(ts:List ByteArray)(hblk:AY w' Wb 34 ((V.cells s).set 2 (.slice a ts.length c)))
  (hown:w'.ownsRow B 9 1 (.slice a ts.length c) ts.length (Ia ts)) :
  WI w' Wb B { V with at_:=a,ct:=c } { s with texts:=ts } :=
 ⟨hblk,h.base,ho _ _ _ _ Bm h.list (AL WZ h.list h.tx),ho _ _ _ _ By h.clt (AL Wc h.clt h.tx),h.cle.map (fun _ _ _ _ hh=>ho _ _ _ _ Bm hh (AL WZ hh h.tx)),hown,ho _ _ _ _ LM h.xs (AL dW.symm h.xs h.tx),
  ho _ _ _ _ By h.ot (AL Wc h.ot h.tx),h.oe.map (fun _ _ _ _ hh=>ho _ _ _ _ Bm hh (AL WZ hh h.tx)),ho _ _ _ _ By h.wt (AL Wc h.wt h.tx),h.we.map (fun _ _ _ _ hh=>ho _ _ _ _ Bm hh (AL WZ hh h.tx)),h.a1,h.a2,h.a3,h.b1,h.b2,h.b3⟩
theorem WI.setOuts{w w':World}{Wb B:Nat}{V:WV}{s:St}(h:WI w Wb B V s)(ho:Sk w w' B (V.vo s))(a:Option Addr)(c:Nat)(cs:List (List Int))(vs:List Value)(hblk:AY w' Wb 34 ((V.cells s).set 4 (.slice a cs.length c)))
  (hown:w'.ownsRow B 24 1 (.slice a cs.length c) cs.length vs) (heach:Aq w' B 3 vs cs) (hap:∀ u∈vs,Af u (V.vl s)) (h1:Af (V.vc s) (.slice a cs.length c)) (h3:Af (.slice a cs.length c) (V.vw s)) :
  WI w' Wb B { V with ao:=a,co:=c,vos:=vs } { s with outs:=cs } :=
 ⟨hblk,h.base,ho _ _ _ _ Bm h.list (AL Fq h.list h.ot),ho _ _ _ _ By h.clt h.a1,h.cle.map (fun _ _ _ _ hh=>ho _ _ _ _ Bm hh (AL Fq hh h.ot)),ho _ _ _ _ Hc h.tx (AL Wc.symm h.tx h.ot),ho _ _ _ _ LM h.xs (AL Wd.symm h.xs h.ot),
  hown,heach,ho _ _ _ _ By h.wt h.a3.symm,h.we.map (fun _ _ _ _ hh=>ho _ _ _ _ Bm hh (AL Fq hh h.ot)),h1,h.a2,h3,h.b1,hap,h.b3⟩
theorem WI.setWant{w w':World}{Wb B:Nat}{V:WV}{s:St}(h:WI w Wb B V s)(ho:Sk w w' B (V.vw s))(a:Option Addr)(c:Nat)(cs:List (List Int))(vs:List Value)(hblk:AY w' Wb 34 ((V.cells s).set 5 (.slice a cs.length c)))
  (hown:w'.ownsRow B 24 1 (.slice a cs.length c) cs.length vs) (heach:Aq w' B 3 vs cs) (hap:∀ u∈vs,Af u (V.vl s)) (h2:Af (V.vc s) (.slice a cs.length c)) (h3:Af (V.vo s) (.slice a cs.length c)) :
  WI w' Wb B { V with aw:=a,cw:=c,vws:=vs } { s with want:=cs } :=
 ⟨hblk,h.base,ho _ _ _ _ Bm h.list (AL Fq h.list h.wt),ho _ _ _ _ By h.clt h.a2,h.cle.map (fun _ _ _ _ hh=>ho _ _ _ _ Bm hh (AL Fq hh h.wt)),ho _ _ _ _ Hc h.tx (AL Wc.symm h.tx h.wt),ho _ _ _ _ LM h.xs (AL Wd.symm h.xs h.wt),
  ho _ _ _ _ By h.ot h.a3,h.oe.map (fun _ _ _ _ hh=>ho _ _ _ _ Bm hh (AL Fq hh h.wt)),hown,heach,h.a1,h2,h3,h.b1,h.b2,hap⟩
theorem WI.setMark{w:World}{Wb B:Nat}{V:WV}{s:St}(h:WI w Wb B V s)(m:Int):WI (w.setCell ⟨Wb,6,none⟩ (.int .i64 m)) Wb B V { s with mark:=m }:=by
 have o:=fun {e u n xs} (he:e≠34) (hu:w.ownsRow B e 1 u n xs)=>Cl h.blk 6 (.int .i64 m) he hu
 exact⟨h.blk.set 6 _,h.base,o Bm h.list,o By h.clt,h.cle.map (fun _ _ _ _ hh=>o Bm hh),o Hc h.tx,o LM h.xs,o By h.ot,h.oe.map (fun _ _ _ _ hh=>o Bm hh),o By h.wt,h.we.map (fun _ _ _ _ hh=>o Bm hh),h.a1,h.a2,h.a3,h.b1,h.b2,h.b3⟩
theorem KY{w:World}{b e s:Nat}{u v v':Value}{n:Nat}{xs:List Value}(h:w.ownsRow b e s u n xs)(ha:Af v u){k:Nat}(hk:w.heap.size≤k)(hv:v'.ownBlock=v.ownBlock∨v'.ownBlock=some k):Af v' u:=(Ca h ha.symm hk hv).symm
end Go.Proofs.YthboeppmlhbofaaGreatDoor
