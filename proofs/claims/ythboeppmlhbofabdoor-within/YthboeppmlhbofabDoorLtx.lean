import Derived.Test.YthboeppmlhbofabDoorOpp
import Derived.Test.YthboeppmlhbofabDoorSps
import Derived.Laws.Rows
import Derived.Deep.AppendLies
namespace Go.Proofs.YthboeppmlhbofabDoor
open Go.RowKit Txt
set_option maxRecDepth 100000
abbrev Pr:=Nat × Nat
def SetsAt(w:World)(a:Option Addr)(ss:List Pr):Prop :=
 ss=[]∨∃ b off,a=some ⟨b,off,none⟩∧∀ j,j<ss.length→w.cell? ⟨b,off+j*2,none⟩=some (.int .i64 ((ss.getD j (0,0)).1:Nat))∧w.cell? ⟨b,off+j*2+1,none⟩=some (.int .i64 ((ss.getD j (0,0)).2:Nat))
theorem SetsAt.get{w:World}{a:Option Addr}{ss:List Pr}(h:SetsAt w a ss)(hp:0<ss.length) :
  ∃ b off,a=some ⟨b,off,none⟩∧∀ j,j<ss.length→w.cell? ⟨b,off+j*2,none⟩=some (.int .i64 ((ss.getD j (0,0)).1:Nat))∧w.cell? ⟨b,off+j*2+1,none⟩=some (.int .i64 ((ss.getD j (0,0)).2:Nat)):=by
 rcases h with rfl | h
 ·simp at hp
 ·exact h
theorem SetsAt.below{w w':World}{a:Option Addr}{ss:List Pr}(h:SetsAt w a ss)(hb:Below w.heap.size w w'):SetsAt w' a ss:=by
 rcases h with rfl | ⟨b,off,rfl,h⟩
 ·exact .inl rfl
 ·refine .inr ⟨b,off,rfl,fun j hj=>?_⟩
  obtain⟨h1,h2⟩:=h j hj
  exact⟨(hb.cell (p:=⟨b,off+j*2,none⟩) (World.block_lt_of_cell? w _ h1)).trans h1,(hb.cell (p:=⟨b,off+j*2+1,none⟩) (World.block_lt_of_cell? w _ h2)).trans h2⟩
def prSize(p:Pr):Nat:=cvN p.1+cvN p.2
def totalN(ss:List Pr):Nat:=(ss.map prSize).sum
theorem totalN_take(ss:List Pr)(k:Nat)(h:k<ss.length):totalN (ss.take (k+1))=totalN (ss.take k)+prSize (ss.getD k (0,0)):=by
 rw[List.take_succ_eq_append_getElem h,List.getD_eq_getElem?_getD,List.getElem?_eq_getElem h]
 simp only[totalN,List.map_append,List.sum_append,List.map_cons,List.map_nil,List.sum_cons,List.sum_nil,Nat.add_zero,Option.getD_some]
theorem prSize_le(p:Pr):prSize p≤20:=by
 have h1:=cvN_le p.1
 have h2:=cvN_le p.2
 unfold prSize
 omega
theorem totalN_le(ss:List Pr):totalN ss≤20*ss.length:=by
 induction ss with
 | nil=>exact Nat.le_refl _
 | cons p ss ih =>
  have:=prSize_le p
  simp only[totalN,List.map_cons,List.sum_cons,List.length_cons] at *
  omega
set_option maxHeartbeats 2000000 in
theorem total_any(a:Option Addr)(c:Nat)(ss:List Pr)(w:World)(h:SetsAt w a ss)(hl:ss.length≤1000000)(hs:Hid (∀ p∈ss,p.1<2^11∧p.2<2^11)) :
  Calls Tryd.prog 42 #[.slice a ss.length c] w fun e w'=>e=.returned (.int .i64 (totalN ss:Nat))∧Below w.heap.size w w':=by
 have H:=hide h
 clear h
 go_enter Tryd.func42,Tryd.ntmps42
 go_wp2
 go_loopw [3,8] (fun n i wr=>∃ k:Nat,k≤ss.length∧i=.int .i64 k∧n=.int .i64 (totalN (ss.take k):Nat)∧Hid (Below w.heap.size w wr)) (fun _ i _=>ss.length - (intOf i).toNat)
 case atStart=>exact⟨0,Nat.zero_le _,rfl,by simp[totalN],Below.refl _ _⟩
 case round =>
  obtain⟨k,hk,rfl,rfl,HB⟩:=hrel
  have ht:=totalN_le (ss.take k)
  rw[List.length_take] at ht
  by_cases hlt:k<ss.length
  ·obtain⟨b,off,rfl,hc⟩:=(H.out.below HB.out).get (by omega)
   obtain⟨c0,c1⟩:=hc k hlt
   have HT:Hid (totalN (ss.take (k+1))=totalN (ss.take k)+prSize (ss.getD k (0,0))):=totalN_take ss k hlt
   obtain⟨l1,l2⟩:=hs.out (ss.getD k (0,0)) (by rw[List.getD_eq_getElem?_getD,List.getElem?_eq_getElem hlt];exact List.getElem_mem hlt)
   have hps:=prSize_le (ss.getD k (0,0))
   have hsz:w.heap.size≤wr.heap.size:=HB.out.size
   generalize ss.getD k (0,0)=p at *
   obtain⟨t,f⟩:=p
   have HZ:Hid (∀ w,Calls Tryd.prog 45 #[.agg #[.int .i64 t,.int .i64 f]] w fun e w'=>e=.returned (.int .i64 (prSize (t,f):Nat))∧Below w.heap.size w w'):=fun w=>lsize_any t f l1 l2 w
   generalize prSize (t,f)=z at *
   generalize hm:totalN (ss.take k)=m at *
   clear hc l1 l2
   go_wp2_with fail
   refine(unhide HZ _).mono ?_
   rintro e w2 ⟨rfl,hb2⟩
   have HB2:Hid (Below w.heap.size w w2):=(HB.out.alloc hsz _).trans (hb2.mono (by simp;omega))
   clear hb2 c0 c1 hm
   go_wp2
   go_roundw
   case rel=>exact⟨k+1,by omega,by go_num,by rw[HT.out];go_num,HB2⟩
   case measure=>simp[intOf];omega
  ·obtain rfl:k=ss.length:=by omega
   go_wp2
   go_ret
   exact⟨by rw[List.take_length];rfl,HB.out⟩
def posOk(xs:List Int):Nat:=if xs.all litB then posN xs else 0
def negOk(xs:List Int):Nat:=if xs.all litB then negN xs else 0
theorem take_all(xs:List Int)(k:Nat)(h:(xs.take k).all litB=true)(hx:k<xs.length)(hl:litB (xs.getD k 0)=true):(xs.take (k+1)).all litB=true:=by
 rw[List.take_succ_eq_append_getElem hx,List.all_append,h]
 rw[List.getD_eq_getElem?_getD,List.getElem?_eq_getElem hx] at hl
 simpa using hl
theorem not_all(xs:List Int)(k:Nat)(hx:k<xs.length)(hl:litB (xs.getD k 0)=false):xs.all litB=false:=by
 rw[List.getD_eq_getElem?_getD,List.getElem?_eq_getElem hx] at hl
 rw[List.all_eq_false]
 exact⟨xs[k],List.getElem_mem hx,by simpa using hl⟩
theorem snoc_take(xs:List Int)(k:Nat)(hx:k<xs.length):xs.take (k+1)=xs.take k++[xs.getD k 0]:=by
 rw[List.take_succ_eq_append_getElem hx,List.getD_eq_getElem?_getD,List.getElem?_eq_getElem hx]
 rfl
def isStruct(d:TypeDesc):Bool:=match d with | .struct _=>true | _=>false
theorem setType:∃ fs,Tryd.prog.underlying 84=some (.struct fs):=by
 have h:(Tryd.prog.underlying 84).map isStruct=some true:=by kernel_rfl
 cases hu:Tryd.prog.underlying 84 with
 | none=>rw[hu] at h;simp at h
 | some d =>
  rw[hu] at h
  cases d with
  | struct fs=>exact⟨fs,rfl⟩
  | _=>simp[isStruct] at h
theorem setSize:(Tryd.prog.info? 84).map (·.size)=some 2:=by kernel_rfl
theorem of_ret{w':World}{tmps:Array Value}{g:Nat}{p q:Value}{b:Bool}(hr:Row w' g 84 [p,q])(h2:tmps.getD 2 undef=.pointer (some ⟨g,0,none⟩))(h3:tmps.getD 3 undef=.bool b) :
  (results Tryd.f43 tmps).run Tryd.prog w'=.ok (.tuple #[.agg #[p,q],.bool b]) w':=by
 obtain⟨fs,hu⟩:=setType
 rw[results_cell_tmp rfl,h2,h3]
 simp[asAddr,Result.andThen,run_loadVar_row (P:=Tryd.prog) w' g 84 84 #[p,q] (0,0) (.struct fs) hr hu rfl setSize]
def bitP(v:Int):Nat:=if 1≤v∧v≤10 then 2^v.toNat else 0
set_option maxHeartbeats 1000000 in
theorem lbitP_any(v:Int)(w:World):Calls Tryd.prog 60 #[.int .i64 v] w fun e w'=>e=.returned (.int .i64 (bitP v:Nat))∧w'=w:=by
 by_cases h:1≤v∧v≤10
 ·obtain⟨n,rfl⟩:∃ n:Nat,v=n:=⟨v.toNat,by omega⟩
  rw[bitP,if_pos h,Int.toNat_natCast]
  exact lbit_any n (by omega) (by omega) w
 ·rw[bitP,if_neg h]
  by_cases h1:v<1
  ·clear h
   go_enter Tryd.func60,Tryd.ntmps60
   go_wp2
   go_ret
   exact⟨rfl,rfl⟩
  ·have h2:v > 10:=by omega
   clear h
   go_enter Tryd.func60,Tryd.ntmps60
   go_wp2
   go_ret
   exact⟨rfl,rfl⟩
theorem bitP_lt(v:Int):bitP v<2^11:=by
 unfold bitP
 split
 ·exact Nat.pow_lt_pow_right (by decide) (by omega)
 ·decide
theorem bitP_pos{x:Int}(h:litB x=true):bitP x=posB x:=by
 simp only[litB,Bool.and_eq_true,bne_iff_ne,decide_eq_true_eq] at h
 unfold bitP posB
 by_cases hp:0<x
 ·rw[if_pos hp,if_pos (by omega)]
 ·rw[if_neg hp,if_neg (by omega)]
theorem bitP_neg{x:Int}(h:litB x=true):bitP (-x)=negB x:=by
 simp only[litB,Bool.and_eq_true,bne_iff_ne,decide_eq_true_eq] at h
 unfold bitP negB
 by_cases hp:0<x
 ·rw[if_pos hp,if_neg (by omega)]
 ·rw[if_neg hp,if_pos (by omega)]
theorem with_ret{w':World}{tmps:Array Value}{g:Nat}{p q:Value}(hr:Row w' g 84 [p,q])(h2:tmps.getD 4 undef=.pointer (some ⟨g,0,none⟩)) :
  (results Tryd.f62 tmps).run Tryd.prog w'=.ok (.agg #[p,q]) w':=by
 obtain⟨fs,hu⟩:=setType
 exact results_cell_row rfl tmps w' g 84 #[p,q] (0,0) (.struct fs) h2 hr hu rfl setSize
set_option maxHeartbeats 4000000 in
theorem with_any(t f:Nat)(x:Int)(ht:t<2^11)(hf:f<2^11)(hx:litB x=true)(w:World) :
  Calls Tryd.prog 62 #[.agg #[.int .i64 t,.int .i64 f],.int .i64 x] w fun e w'=>e=.returned (.agg #[.int .i64 (t|||posB x:Nat),.int .i64 (f|||negB x:Nat)])∧Below w.heap.size w w':=by
 have A1:Hid (∀ w,Calls Tryd.prog 60 #[.int .i64 x] w fun e w'=>e=.returned (.int .i64 (posB x:Nat))∧w'=w):=fun w=>by
  have:=lbitP_any x w
  rwa [bitP_pos hx] at this
 have A2:Hid (∀ w,Calls Tryd.prog 60 #[.int .i64 (-x)] w fun e w'=>e=.returned (.int .i64 (negB x:Nat))∧w'=w):=fun w=>by
  have:=lbitP_any (-x) w
  rwa [bitP_neg hx] at this
 have l1:posB x<2^11:=(bitP_pos hx) ▸ bitP_lt x
 have l2:negB x<2^11:=(bitP_neg hx) ▸ bitP_lt (-x)
 have o1:=or64 t (posB x) (by omega) (by omega)
 have o2:=or64 f (negB x) (by omega) (by omega)
 have hwn:IntKind.i64.wrap (-x)=-x:=by
  simp only[litB,Bool.and_eq_true,bne_iff_ne,decide_eq_true_eq] at hx
  rw[IntKind.wrap_i64];omega
 have r0:Row ((w.alloc (.cells #[.int .i64 t,.int .i64 f] 84)).alloc (.cells #[.int .i64 0,.int .i64 0] 84)) w.heap.size 84 [.int .i64 t,.int .i64 f]:=(heap_alloc_old (w.alloc _) _ (by simp)).trans (heap_alloc_new w _)
 have r1:Row ((w.alloc (.cells #[.int .i64 t,.int .i64 f] 84)).alloc (.cells #[.int .i64 0,.int .i64 0] 84)) (w.heap.size+1) 84 [.int .i64 0,.int .i64 0]:=heap_alloc2_new w _ _
 have hb0:Below w.heap.size w ((w.alloc (.cells #[.int .i64 t,.int .i64 f] 84)).alloc (.cells #[.int .i64 0,.int .i64 0] 84)):=((Below.refl _ _).alloc (Nat.le_refl _) _).alloc (by simp) _
 have HP:=hide (And.intro rfl rfl:posB x=posB x∧negB x=negB x)
 generalize hpb:posB x=pb at *
 generalize hnb:negB x=nb at *
 clear hpb hnb HP hx
 go_enter Tryd.func62,Tryd.ntmps62
 go_wp2_with fail
 generalize (w.alloc (.cells #[.int .i64 t,.int .i64 f] 84)).alloc (.cells #[.int .i64 0,.int .i64 0] 84)=w1 at *
 have y0:=r0.cell 0
 have y1:=r0.cell 1
 have g0:=r0.frozen 0
 have g1:=r0.frozen 1
 simp only[List.getElem?_cons_zero,List.getElem?_cons_succ] at y0 y1
 have R0:=hide r0
 have R1:=hide r1
 have HB:=hide hb0
 clear r0 r1 hb0
 go_region_with (go_at_call 60;refine(unhide A1 _).mono ?_;rintro e w' ⟨rfl,rfl⟩)
 all_goals
  have HB2:Hid (Below w.heap.size w (w1.setCell ⟨w.heap.size,0,none⟩ (.int .i64 (t|||pb:Nat))).drew):=below_drewN (HB.out.setCell (p:=⟨w.heap.size,0,none⟩) (Nat.le_refl _) _) 1
  have Q0:Hid (Row (w1.setCell ⟨w.heap.size,0,none⟩ (.int .i64 (t|||pb:Nat))).drew w.heap.size 84 [.int .i64 (t|||pb:Nat),.int .i64 f]):=R0.out.set 0 _
  have Q1:Hid (Row (w1.setCell ⟨w.heap.size,0,none⟩ (.int .i64 (t|||pb:Nat))).drew (w.heap.size+1) 84 [.int .i64 0,.int .i64 0]):=(Below.heap_setCell w1 ⟨w.heap.size,0,none⟩ (.int .i64 (t|||pb:Nat)) (w.heap.size+1) (Nat.ne_of_gt (Nat.lt_succ_self _))).trans R1.out
  generalize (w1.setCell ⟨w.heap.size,0,none⟩ (.int .i64 (t|||pb:Nat))).drew=w2 at *
  clear HB R0 R1 y0 y1 g0 g1
  have y1:=Q0.out.cell 1
  have g1:=Q0.out.frozen 1
  simp only[List.getElem?_cons_zero,List.getElem?_cons_succ] at y1
  go_wp2_with fail
  go_region_with (go_at_call 60;refine(unhide A2 _).mono ?_;rintro e w' ⟨rfl,rfl⟩)
  all_goals
   have HB3:Hid (Below w.heap.size w (w2.setCell ⟨w.heap.size,1,none⟩ (.int .i64 (f|||nb:Nat))).drew):=below_drewN (HB2.out.setCell (p:=⟨w.heap.size,1,none⟩) (Nat.le_refl _) _) 1
   have P0:Hid (Row (w2.setCell ⟨w.heap.size,1,none⟩ (.int .i64 (f|||nb:Nat))).drew w.heap.size 84 [.int .i64 (t|||pb:Nat),.int .i64 (f|||nb:Nat)]):=Q0.out.set 1 _
   have P1:Hid (Row (w2.setCell ⟨w.heap.size,1,none⟩ (.int .i64 (f|||nb:Nat))).drew (w.heap.size+1) 84 [.int .i64 0,.int .i64 0]):=(Below.heap_setCell w2 ⟨w.heap.size,1,none⟩ (.int .i64 (f|||nb:Nat)) (w.heap.size+1) (Nat.ne_of_gt (Nat.lt_succ_self _))).trans Q1.out
   generalize (w2.setCell ⟨w.heap.size,1,none⟩ (.int .i64 (f|||nb:Nat))).drew=w3 at *
   clear HB2 Q0 Q1 y1 g1
   have y0:=P0.out.cell 0
   have y1:=P0.out.cell 1
   have z0:=P1.out.cell 0
   have z1:=P1.out.cell 1
   have g0:=P1.out.frozen 0
   have g1:=P1.out.frozen 1
   simp only[List.getElem?_cons_zero,List.getElem?_cons_succ] at y0 y1 z0 z1
   go_wp2
   have R9:Hid (Row ((w3.setCell ⟨w.heap.size+1,0,none⟩ (.int .i64 (t|||pb:Nat))).setCell ⟨w.heap.size+1,1,none⟩ (.int .i64 (f|||nb:Nat))) (w.heap.size+1) 84 [.int .i64 (t|||pb:Nat),.int .i64 (f|||nb:Nat)]):=(P1.out.set 0 _).set 1 _
   refine bodyPost_ret (v:=.agg #[.int .i64 (t|||pb:Nat),.int .i64 (f|||nb:Nat)]) (with_ret R9.out rfl) rfl ⟨rfl,?_⟩
   exact(HB3.out.setCell (p:=⟨w.heap.size+1,0,none⟩) (Nat.le_succ _) _).setCell (p:=⟨w.heap.size+1,1,none⟩) (Nat.le_succ _) _
set_option maxHeartbeats 4000000 in
theorem of_any(a:Option Addr)(c:Nat)(xs:List Int)(w:World)(hx:xs.length≤9223372036854775807)(hr:IntsAt w a xs) :
  Calls Tryd.prog 43 #[.slice a xs.length c] w fun e w'=>e=.returned (.tuple #[.agg #[.int .i64 (posOk xs:Nat),.int .i64 (negOk xs:Nat)],.bool (xs.all litB)])∧Below w.heap.size w w':=by
 have HR:=hide hr
 have hb0:Below w.heap.size w ((w.alloc (.cells #[.int .i64 0,.int .i64 0] 84)).alloc (.cells #[.int .i64 0,.int .i64 0] 84)):=((Below.refl _ _).alloc (Nat.le_refl _) _).alloc (by simp) _
 have r0:Row ((w.alloc (.cells #[.int .i64 0,.int .i64 0] 84)).alloc (.cells #[.int .i64 0,.int .i64 0] 84)) w.heap.size 84 [.int .i64 0,.int .i64 0]:=(heap_alloc_old (w.alloc _) _ (by simp)).trans (heap_alloc_new w _)
 have r1:Row ((w.alloc (.cells #[.int .i64 0,.int .i64 0] 84)).alloc (.cells #[.int .i64 0,.int .i64 0] 84)) (w.heap.size+1) 84 [.int .i64 0,.int .i64 0]:=heap_alloc2_new w _ _
 have HB0:=hide hb0
 have R0:=hide r0
 have R1:=hide r1
 clear hr hb0 r0 r1
 go_enter Tryd.func43,Tryd.ntmps43
 go_wp2
 go_loopw [9] (fun i wr=>∃ k:Nat,k≤xs.length∧i=.int .i64 k∧Hid (Below w.heap.size w wr)∧Hid (Row wr w.heap.size 84 [.int .i64 0,.int .i64 0])∧Hid (Row wr (w.heap.size+1) 84 [.int .i64 (posN (xs.take k):Nat),.int .i64 (negN (xs.take k):Nat)])∧Hid ((xs.take k).all litB=true)) (fun i _=>xs.length - (intOf i).toNat)
 case atStart=>exact⟨0,Nat.zero_le _,rfl,HB0,R0,R1,rfl⟩
 case round =>
  clear HB0 R0 R1
  obtain⟨k,hk,rfl,HB,R0,R1,HA⟩:=hrel
  have z0:=R0.out.cell 0
  have z1:=R0.out.cell 1
  have f0:=R0.out.frozen 0
  have f1:=R0.out.frozen 1
  have y0:=R1.out.cell 0
  have y1:=R1.out.cell 1
  have g0:=R1.out.frozen 0
  have g1:=R1.out.frozen 1
  simp only[List.getElem?_cons_zero,List.getElem?_cons_succ] at z0 z1 y0 y1
  have hT:=Two.set _ HA.out
  have ht1:=hT.lt
  have ht2:=hT.lf
  by_cases hlt:k<xs.length
  ·obtain⟨b,off,rfl,hc⟩:=(HR.out.below HB.out).get (by omega)
   have c0:=hc k hlt
   clear hc
   have HL:=hide (take_all xs k HA.out hlt)
   have HN:=hide (not_all xs k hlt)
   have HS:=hide (snoc_take xs k hlt)
   have hi1:(0:Int)≤(k:Int):=by omega
   have hi2:(k:Int)<(xs.length:Int):=by omega
   generalize xs.getD k 0=x at *
   have HI:Hid (∀ w,Calls Tryd.prog 61 #[.int .i64 x] w fun e w'=>e=.returned (.bool (litB x))∧w'=w):=fun w=>is_any x w
   cases hx':litB x with
   | false =>
    have hn:Hid (xs.all litB=false):=HN.out hx'
    rw[hx'] at HI
    go_wp2_with (go_at_call 61;refine(unhide HI _).mono ?_;rintro e w' ⟨rfl,hw⟩;obtain rfl:=hw.symm)
    have R9:Hid (Row ((wr.setCell ⟨w.heap.size,0,none⟩ (.int .i64 0)).setCell ⟨w.heap.size,1,none⟩ (.int .i64 0)) w.heap.size 84 [.int .i64 0,.int .i64 0]):=(R0.out.set 0 _).set 1 _
    refine bodyPost_ret (v:=.tuple #[.agg #[.int .i64 0,.int .i64 0],.bool false]) (of_ret R9.out rfl rfl) rfl ⟨?_,?_⟩
    ·rw[posOk,negOk,hn.out];rfl
    ·exact(HB.out.setCell (p:=⟨w.heap.size,0,none⟩) (Nat.le_refl _) _).setCell (p:=⟨w.heap.size,1,none⟩) (Nat.le_refl _) _
   | true =>
    have hla:=HL.out hx'
    have HLA:=hide hla
    clear hla
    rw[hx'] at HI
    have hpb:Hid (posN (xs.take (k+1))=posN (xs.take k)|||posB x):=by show _=_;rw[HS.out,posN_snoc]
    have hnb:Hid (negN (xs.take (k+1))=negN (xs.take k)|||negB x):=by show _=_;rw[HS.out,negN_snoc]
    have HW:Hid (∀ w,Calls Tryd.prog 62 #[.agg #[.int .i64 (posN (xs.take k):Nat),.int .i64 (negN (xs.take k):Nat)],.int .i64 x] w fun e w'=>e=.returned (.agg #[.int .i64 (posN (xs.take k)|||posB x:Nat),.int .i64 (negN (xs.take k)|||negB x:Nat)])∧Below w.heap.size w w'):=fun w=>with_any _ _ x ht1 ht2 hx' w
    rw[← hpb.out,← hnb.out] at HW
    clear hx' HN HL hpb hnb
    go_wp2_with (go_at_call 61;refine(unhide HI _).mono ?_;rintro e w' ⟨rfl,hw⟩;obtain rfl:=hw.symm)
    refine(unhide HW _).mono ?_
    rintro e w9 ⟨rfl,hb9⟩
    have HB9:Hid (Below w.heap.size w w9):=HB.out.trans (hb9.mono HB.out.size)
    have Q0:=hide (row_below R0.out hb9)
    have Q1:=hide (row_below R1.out hb9)
    clear HB R0 R1 hb9 z0 z1 f0 f1 y0 y1 g0 g1 HW
    have y0:=Q1.out.cell 0
    have y1:=Q1.out.cell 1
    have g0:=Q1.out.frozen 0
    have g1:=Q1.out.frozen 1
    simp only[List.getElem?_cons_zero,List.getElem?_cons_succ] at y0 y1
    go_wp2
    go_roundw
    case rel =>
     refine⟨k+1,by omega,by go_num,(HB9.out.setCell (p:=⟨w.heap.size+1,0,none⟩) (Nat.le_succ _) _).setCell (p:=⟨w.heap.size+1,1,none⟩) (Nat.le_succ _) _,?_,(Q1.out.set 0 _).set 1 _,HLA⟩
     exact(Below.heap_setCell _ ⟨w.heap.size+1,1,none⟩ _ w.heap.size (Nat.ne_of_lt (Nat.lt_succ_self _))).trans ((Below.heap_setCell _ ⟨w.heap.size+1,0,none⟩ _ w.heap.size (Nat.ne_of_lt (Nat.lt_succ_self _))).trans Q0.out)
    case measure=>simp[intOf];omega
  ·obtain rfl:k=xs.length:=by omega
   rw[List.take_length] at *
   have hn:Hid (xs.all litB=true):=HA
   go_wp2
   have R9:Hid (Row ((wr.setCell ⟨w.heap.size,0,none⟩ (.int .i64 (posN xs:Nat))).setCell ⟨w.heap.size,1,none⟩ (.int .i64 (negN xs:Nat))) w.heap.size 84 [.int .i64 (posN xs:Nat),.int .i64 (negN xs:Nat)]):=(R0.out.set 0 _).set 1 _
   refine bodyPost_ret (v:=.tuple #[.agg #[.int .i64 (posN xs:Nat),.int .i64 (negN xs:Nat)],.bool true]) (of_ret R9.out rfl rfl) rfl ⟨?_,?_⟩
   ·rw[posOk,negOk,hn.out];rfl
   ·exact(HB.out.setCell (p:=⟨w.heap.size,0,none⟩) (Nat.le_refl _) _).setCell (p:=⟨w.heap.size,1,none⟩) (Nat.le_refl _) _
def solCells(r h l:Int)(ta:Option Addr)(n tc:Nat)(empty seen:Nat):List Value :=
 [.int .i64 r,.int .i64 h,.int .i64 l,.slice ta n tc,.int .i64 empty,.int .i64 seen,.slice none 0 0,.slice none 0 0,.int .i64 0,.int .i64 0]
def reduceB(r:Int):Bool:=r == 0 || decide (12≤r) && decide (r≤64)
def roomB(h:Int):Bool:=decide (0≤h) && decide (h≤1048576)
theorem settings_parts(r h l:Int):settingsB r h l=(reduceB r && roomB h && roomB l):=by
 unfold settingsB reduceB roomB
 simp only[Bool.and_assoc]
set_option maxHeartbeats 1000000 in
theorem isReduce_any(r:Int)(w:World):Calls Tryd.prog 47 #[.int .i64 r] w fun e w'=>e=.returned (.bool (reduceB r))∧w'=w:=by
 go_enter Tryd.func47,Tryd.ntmps47
 go_wp2
 all_goals
  go_ret
  refine⟨?_,rfl⟩
  show Ending.returned (Value.bool _)=Ending.returned (Value.bool _)
  congr 2
  first
   | rfl
   | (rw[Bool.eq_iff_iff];simp[reduceB];omega)
   | (rw[Bool.eq_iff_iff];simp[reduceB] <;> omega)
   | (simp_all[reduceB])
set_option maxHeartbeats 1000000 in
theorem isRoom_any(h:Int)(w:World):Calls Tryd.prog 48 #[.int .i64 h] w fun e w'=>e=.returned (.bool (roomB h))∧w'=w:=by
 go_enter Tryd.func48,Tryd.ntmps48
 go_wp2
 all_goals
  go_ret
  refine⟨?_,rfl⟩
  show Ending.returned (Value.bool _)=Ending.returned (Value.bool _)
  congr 2
  rw[Bool.eq_iff_iff]
  simp only[roomB,Bool.and_eq_true,decide_eq_true_eq,Bool.false_eq_true,false_iff]
  omega
def NewPost(r h l:Int)(w:World)(e:Ending)(w':World):Prop :=
 Below w.heap.size w w'∧if settingsB r h l then ∃ g,w.heap.size≤g∧e=.returned (.tuple #[.pointer (some ⟨g,0,none⟩),.int .i64 0])∧Row w' g 68 (solCells r h l none 0 0 0 0) else e=.returned (.tuple #[.pointer none,.int .i64 1])
set_option maxHeartbeats 2000000 in
theorem new_any(r h l:Int)(w:World):Calls Tryd.prog 28 #[.agg #[.int .i64 r,.int .i64 h,.int .i64 l]] w fun e w'=>NewPost r h l w e w':=by
 have A1:Hid (∀ w,Calls Tryd.prog 47 #[.int .i64 r] w fun e w'=>e=.returned (.bool (reduceB r))∧w'=w):=fun w=>isReduce_any r w
 have A2:Hid (∀ n w,Calls Tryd.prog 48 #[.int .i64 n] w fun e w'=>e=.returned (.bool (roomB n))∧w'=w):=fun n w=>isRoom_any n w
 have HS:=hide (settings_parts r h l)
 have HB:Hid (∀ x,Below w.heap.size w (w.alloc x)):=fun x=>(Below.refl _ _).alloc (Nat.le_refl _) x
 have HB2:Hid (∀ x y,Below w.heap.size w ((w.alloc x).alloc y)):=fun x y=>((Below.refl _ _).alloc (Nat.le_refl _) x).alloc (by simp) y
 cases h1:reduceB r with
 | false =>
  have hz:Hid (settingsB r h l=false):=by show _=_;rw[HS.out,h1];rfl
  rw[h1] at A1
  go_enter Tryd.func28,Tryd.ntmps28
  go_wp2_with (go_at_call 47;refine(unhide A1 _).mono ?_;rintro e w' ⟨rfl,hw⟩;obtain rfl:=hw.symm)
  go_ret2
  exact⟨HB.out _,by rw[hz.out];rfl⟩
 | true =>
  rw[h1] at A1
  cases h2:roomB h with
  | false =>
   have hz:Hid (settingsB r h l=false):=by show _=_;rw[HS.out,h1,h2];rfl
   go_enter Tryd.func28,Tryd.ntmps28
   go_wp2_with (first
    | (go_at_call 47;refine(unhide A1 _).mono ?_;rintro e w' ⟨rfl,hw⟩;obtain rfl:=hw.symm)
    | (go_at_call 48;refine(unhide A2 _ _).mono ?_;rintro e w' ⟨rfl,hw⟩;obtain rfl:=hw.symm))
   go_ret2
   exact⟨HB.out _,by rw[hz.out];rfl⟩
  | true =>
   cases h3:roomB l with
   | false =>
    have hz:Hid (settingsB r h l=false):=by show _=_;rw[HS.out,h1,h2,h3];rfl
    go_enter Tryd.func28,Tryd.ntmps28
    go_wp2_with (first
     | (go_at_call 47;refine(unhide A1 _).mono ?_;rintro e w' ⟨rfl,hw⟩;obtain rfl:=hw.symm)
     | (go_at_call 48;refine(unhide A2 _ _).mono ?_;rintro e w' ⟨rfl,hw⟩;obtain rfl:=hw.symm))
    go_ret2
    exact⟨HB.out _,by rw[hz.out];rfl⟩
   | true =>
    have hz:Hid (settingsB r h l=true):=by show _=_;rw[HS.out,h1,h2,h3];rfl
    go_enter Tryd.func28,Tryd.ntmps28
    go_wp2_with (first
     | (go_at_call 47;refine(unhide A1 _).mono ?_;rintro e w' ⟨rfl,hw⟩;obtain rfl:=hw.symm)
     | (go_at_call 48;refine(unhide A2 _ _).mono ?_;rintro e w' ⟨rfl,hw⟩;obtain rfl:=hw.symm))
    go_ret2
    refine⟨HB2.out _ _,?_⟩
    rw[hz.out]
    exact⟨w.heap.size+1,Nat.le_succ _,rfl,heap_alloc2_new w _ _⟩
set_option maxHeartbeats 1000000 in
theorem proof_any(g:Nat)(r h l:Int)(ta:Option Addr)(n tc em se:Nat)(w:World)(hr:Row w g 68 (solCells r h l ta n tc em se)) :
  Calls Tryd.prog 14 #[.pointer (some ⟨g,0,none⟩)] w fun e w'=>e=.returned (.string ⟨#[]⟩)∧w'=w:=by
 have hcv:(convert 66 9 (.slice none 0 0)).run Tryd.prog w=.ok (.string ⟨#[]⟩) w:=conv_own (t:=[]) (base:=0) ⟨rfl,.inl ⟨rfl,rfl⟩⟩
 have c7:w.cell? ⟨g,7,none⟩=some (.slice none 0 0):=(hr.cell 7).trans rfl
 clear hr
 go_enter Tryd.func14,Tryd.ntmps14
 go_wp2
 go_ret
 exact⟨rfl,rfl⟩
theorem grown_self(w:World)(g:Option Nat):w.grownBy w g:=⟨rfl,rfl,rfl,Nat.le_refl _,fun _ _ _=>rfl⟩
theorem grown_set{w w':World}{g i:Nat}{v:Value}(h:w.grownBy w' (some g)):w.grownBy (w'.setCell ⟨g,i,none⟩ v) (some g) :=
 ⟨h.os,h.tape,h.output,by simpa [World.setCell] using h.size,fun k hk hn=>(Below.heap_setCell w' ⟨g,i,none⟩ v k (fun e=>hn (by rw[e]))).trans (h.block k hk hn)⟩
set_option maxHeartbeats 2000000 in
theorem resetS_any(g:Nat)(r h l:Int)(ta:Option Addr)(n tc em se:Nat)(w:World)(hr:Row w g 68 (solCells r h l ta n tc em se)) :
  Calls Tryd.prog 24 #[.pointer (some ⟨g,0,none⟩)] w fun e w'=>e=.returned (.tuple #[])∧Row w' g 68 (solCells r h l none 0 0 0 0)∧w.grownBy w' (some g):=by
 have c0:w.cell? ⟨g,0,none⟩=some (.int .i64 r):=(hr.cell 0).trans rfl
 have c1:w.cell? ⟨g,1,none⟩=some (.int .i64 h):=(hr.cell 1).trans rfl
 have c2:w.cell? ⟨g,2,none⟩=some (.int .i64 l):=(hr.cell 2).trans rfl
 have c3:w.cell? ⟨g,3,none⟩=some (.slice ta n tc):=(hr.cell 3).trans rfl
 have c4:w.cell? ⟨g,4,none⟩=some (.int .i64 em):=(hr.cell 4).trans rfl
 have c5:w.cell? ⟨g,5,none⟩=some (.int .i64 se):=(hr.cell 5).trans rfl
 have c6:w.cell? ⟨g,6,none⟩=some (.slice none 0 0):=(hr.cell 6).trans rfl
 have c7:w.cell? ⟨g,7,none⟩=some (.slice none 0 0):=(hr.cell 7).trans rfl
 have c8:w.cell? ⟨g,8,none⟩=some (.int .i64 0):=(hr.cell 8).trans rfl
 have c9:w.cell? ⟨g,9,none⟩=some (.int .i64 0):=(hr.cell 9).trans rfl
 have z0:=hr.frozen 0
 have z1:=hr.frozen 1
 have z2:=hr.frozen 2
 have z3:=hr.frozen 3
 have z4:=hr.frozen 4
 have z5:=hr.frozen 5
 have z6:=hr.frozen 6
 have z7:=hr.frozen 7
 have z8:=hr.frozen 8
 have z9:=hr.frozen 9
 have HR:=hide hr
 clear hr
 go_enter Tryd.func24,Tryd.ntmps24
 go_wp2
 go_end0
 refine⟨rfl,?_,?_⟩
 ·exact(((((((((HR.out.set 0 _).set 1 _).set 2 _).set 3 _).set 4 _).set 5 _).set 6 _).set 7 _).set 8 _).set 9 _
 ·exact grown_set (grown_set (grown_set (grown_set (grown_set (grown_set (grown_set (grown_set (grown_set (grown_set (grown_self w _))))))))))
structure St where
 list:List Int
 clauses:List (List Int)
 texts:List ByteArray
 outs:List (List Int)
 want:List (List Int)
 mark:Int
structure WV where
 al:Option Addr
 ac:Option Addr
 at_:Option Addr
 ax:Option Addr
 ao:Option Addr
 aw:Option Addr
 cl:Nat
 cc:Nat
 ct:Nat
 cx:Nat
 co:Nat
 cw:Nat
 nx:Nat
 vcs:List Value
 vos:List Value
 vws:List Value
 vxs:List Value
def WV.vl(V:WV)(s:St):Value:=.slice V.al s.list.length V.cl
def WV.vc(V:WV)(s:St):Value:=.slice V.ac s.clauses.length V.cc
def WV.vt(V:WV)(s:St):Value:=.slice V.at_ s.texts.length V.ct
def WV.vx(V:WV):Value:=.slice V.ax V.nx V.cx
def WV.vo(V:WV)(s:St):Value:=.slice V.ao s.outs.length V.co
def WV.vw(V:WV)(s:St):Value:=.slice V.aw s.want.length V.cw
def WV.cells(V:WV)(s:St):List Value:=[V.vl s,V.vc s,V.vt s,V.vx,V.vo s,V.vw s,.int .i64 s.mark]
def strs(ts:List ByteArray):List Value:=ts.map Value.string
theorem n_is:(3:Nat)≠9:=by decide
theorem n_il:(3:Nat)≠23:=by decide
theorem n_ls:(23:Nat)≠9:=by decide
theorem apart_moved2{w:World}{b e s:Nat}{u v v':Value}{n:Nat}{xs:List Value}(h:w.ownsRow b e s u n xs)(ha:Apart v u){k:Nat}(hk:w.heap.size≤k)(hv:v'.ownBlock=v.ownBlock∨v'.ownBlock=some k):Apart v' u:=(apart_moved h ha.symm hk hv).symm
end Go.Proofs.YthboeppmlhbofabDoor
